/- tenonref14.Turned: the graph whose edges go the other way. -/
import Derived.Test.YtilhheianbbbjaaK27
import Derived.Test.YtilhheianbbbjaaK17
namespace Go.Proofs.Ytilhheianbbbjaa
open Go.RowKit Go.ChangeMaps

def Sp.bkn (nx : Nat → List Nat) (L j : Nat) : List Nat := (List.range L).filter fun i => decide (j ∈ nx i)
theorem bkn_mem {nx : Nat → List Nat} {L j x : Nat} : x ∈ Sp.bkn nx L j ↔ x < L ∧ j ∈ nx x := by simp [Sp.bkn]
theorem bkn_lt (nx : Nat → List Nat) (L j : Nat) : (Sp.bkn nx L j).Pairwise (· < ·) := List.Pairwise.filter _ List.pairwise_lt_range
theorem bkn_len (nx : Nat → List Nat) (L j : Nat) : (Sp.bkn nx L j).length ≤ L := by
  have := List.length_filter_le (fun i => decide (j ∈ nx i)) (List.range L); simpa [Sp.bkn] using this
def Sp.bks (nx : Nat → List Nat) (i k j : Nat) : List Nat := Sp.bkn nx i j ++ if j ∈ (nx i).take k then [i] else []
theorem bks_0 (nx : Nat → List Nat) (i j : Nat) : Sp.bks nx i 0 j = Sp.bkn nx i j := by simp [Sp.bks]
theorem bks_end (nx : Nat → List Nat) (i j : Nat) : Sp.bks nx i (nx i).length j = Sp.bkn nx (i + 1) j := by
  unfold Sp.bks Sp.bkn
  rw [List.take_of_length_le (Nat.le_refl _), List.range_succ, List.filter_append]
  by_cases h : j ∈ nx i <;> simp [h]
theorem bks_step {nx : Nat → List Nat} {i k j : Nat} (hlt : (nx i).Pairwise (· < ·)) (hj : (nx i)[k]? = some j) (t : Nat) : Sp.bks nx i (k + 1) t = if t = j then Sp.bks nx i k j ++ [i] else Sp.bks nx i k t := by
  have hk := (List.getElem?_eq_some_iff.1 hj).1
  have hnd : (nx i).Nodup := hlt.imp (by intro a b h; omega)
  have hno : j ∉ (nx i).take k := fun h => by
    obtain ⟨q, hq, e⟩ := List.mem_iff_getElem.1 h
    rw [List.length_take] at hq
    rw [List.getElem_take] at e
    have := nd_inj hnd (by omega) hk (e.trans (List.getElem?_eq_some_iff.1 hj).2.symm)
    omega
  unfold Sp.bks
  rw [List.take_add_one, hj]
  by_cases e : t = j
  · subst e; rw [if_pos rfl, if_neg hno, if_pos (by simp)]; simp
  · rw [if_neg e]
    congr 1
    have : (t ∈ (nx i).take k ++ (some j).toList) ↔ t ∈ (nx i).take k := by simp [e]
    simp only [this]
theorem mk_rowsT (n : Nat) (hn : n ≤ 4096) : ∃ M : Array Value, M.size = n ∧ (∀ t, t < n → M[t]? = some (.slice none 0 0)) ∧ ∀ W : World, (Instr.makeSlice 64 (.int .i64 (n : Int)) (.int .i64 (n : Int))).run Try.prog W = .ok (.slice (some ⟨W.heap.size, 0, none⟩) n n) (W.alloc (.cells M 46)) := by
  obtain ⟨i0, hi, hz0, hz1, hz2⟩ := info_parts Try.infoSl
  refine ⟨madeCells (Value.slice none 0 0).cells (((n : Nat) : Int).toNat * i0.size), by rw [size_madeCells, hz1]; simp, fun t ht => by simp [madeCells, hz1, ht, Value.cells, Nat.mod_one], fun W => ?_⟩
  have h := run_make (P := Try.prog) W 64 46 i0 (.slice none 0 0) Try.undSS hi hz0 .i64 .i64 (n : Int) (n : Int) (by omega) (by omega) (by rw [hz2]; omega) (by omega)
  simpa using h
structure TuI (w : World) (N : List Int) (gn : Option Nat) (cn : Nat) (R : Nat → List Nat) (bt : Nat → Option Nat) (ct : Nat → Nat) (wr : World) : Prop where
  cells : wr.heap[w.heap.size + 1]? = some (.cells #[.slice (adr gn) N.length cn, .slice none 0 0, .slice (some ⟨w.heap.size, 0, none⟩) N.length N.length] 70 (0, 0))
  nxt : NxR wr (w.heap.size + 2) w.heap.size N.length bt ct (fun t => (R t).map (fun j : Nat => (j : Int)))
  bel : Below w.heap.size w wr
  sz : w.heap.size + 2 ≤ wr.heap.size

set_option maxRecDepth 100000 in
set_option maxHeartbeats 8000000 in
theorem Turned_any (gb : Nat) (N : List Int) (nx : Nat → List Nat) (gn : Option Nat) (cn lo xb : Nat) (bl : Nat → Option Nat) (cp : Nat → Nat) (w : World) (h : GR w gb N nx gn cn lo xb bl cp) (hb : ∀ i, ∀ x ∈ nx i, x < N.length) (hn : N.length ≤ 4096) (hnl : ∀ p, (nx p).length ≤ 4096) (hlt : ∀ i, (nx i).Pairwise (· < ·)) :
    Calls Try.prog 29 #[.pointer (some ⟨gb, 0, none⟩)] w fun e w' => ∃ tb, e = .returned (.pointer (some ⟨tb, 0, none⟩)) ∧ GRE w' tb N (Sp.bkn nx N.length) ∧ Below w.heap.size w w' := by
  obtain ⟨M, hMs, hMt, hmake⟩ := mk_rowsT N.length hn
  have HG : Hid (GR w gb N nx gn cn lo xb bl cp) := h
  have HB : Hid ((∀ i, ∀ x ∈ nx i, x < N.length) ∧ (∀ p, (nx p).length ≤ 4096) ∧ ∀ i, (nx i).Pairwise (· < ·)) := ⟨hb, hnl, hlt⟩
  have hc0 := h.c0
  have hgl := h.lt
  have hca : ∀ o, (w.alloc o).cell? ⟨gb, 0, none⟩ = some (.slice (adr gn) N.length cn) := fun o => by rw [World.cell?_of_block (w := w) (Below.heap_alloc w o gb hgl)]; exact hc0
  have H0 : Hid (∀ W : World, W = (w.alloc (.cells M 46)).alloc (.cells #[.slice (adr gn) N.length cn, .slice none 0 0, .slice (some ⟨w.heap.size, 0, none⟩) N.length N.length] 70) → TuI w N gn cn (Sp.bks nx 0 0) (fun _ => none) (fun _ => 0) W.drew ∧ TuI w N gn cn (Sp.bks nx 0 0) (fun _ => none) (fun _ => 0) W) := fun W hW => by
    have h1 := heap_alloc_new (w.alloc (.cells M 46)) (.cells #[.slice (adr gn) N.length cn, .slice none 0 0, .slice (some ⟨w.heap.size, 0, none⟩) N.length N.length] 70 (0, 0))
    rw [al_size] at h1
    have h2 : W.heap[w.heap.size]? = some (.cells M 46 (0, 0)) := by rw [hW, Below.heap_alloc _ _ _ (by rw [al_size]; omega)]; exact heap_alloc_new w _
    have hz : W.heap.size = w.heap.size + 2 := by rw [hW, al_size, al_size]
    have hbl : Below w.heap.size w W := by rw [hW]; exact ((Below.refl _ _).alloc (Nat.le_refl _) _).alloc (by rw [al_size]; omega) _
    have hN : NxR W (w.heap.size + 2) w.heap.size N.length (fun _ => none) (fun _ => 0) (fun t => (Sp.bks nx 0 0 t).map (fun j : Nat => (j : Int))) := by
      have hnn : ∀ t, Sp.bks nx 0 0 t = [] := fun t => by simp [Sp.bks, Sp.bkn]
      refine ⟨⟨M, h2, hMs, fun t ht => ?_⟩, fun t ht => ⟨fun _ => ⟨?_, rfl⟩, fun g hg => ?_⟩, fun t g ht hg => ?_, fun t t' g _ _ hg _ => ?_⟩
      · rw [hMt t ht, hnn t]; rfl
      · rw [hnn t]; rfl
      · cases hg
      · cases hg
      · cases hg
    have hT : TuI w N gn cn (Sp.bks nx 0 0) (fun _ => none) (fun _ => 0) W := ⟨by rw [hW]; exact h1, hN, hbl, by omega⟩
    exact ⟨⟨hT.cells, hT.nxt.keep rfl (fun _ _ _ _ => rfl), hT.bel.drew, hT.sz⟩, hT⟩
  clear h hb hnl hlt hMs hMt
  go_enter Try.func29, Try.ntmps29
  go_wp2_with fail
  go_region
  go_wp2_with fail
  clear hmake hca
  go_loopw [4] (fun v4 wr => ∃ (i : Nat) (bt : Nat → Option Nat) (ct : Nat → Nat), v4 = .int .i64 i ∧ i ≤ N.length ∧ Hid (TuI w N gn cn (Sp.bks nx i 0) bt ct wr)) (fun v4 _ => N.length - (intOf v4).toNat)
  case atStart => first | exact ⟨0, _, _, rfl, Nat.zero_le _, (H0.out _ rfl).1⟩ | exact ⟨0, _, _, rfl, Nat.zero_le _, (H0.out _ rfl).2⟩
  case round =>
    obtain ⟨i, bt, ct, rfl, hi, HR⟩ := hrel
    have k2 : wr.cell? ⟨gb, 2, none⟩ = some (.slice (some ⟨xb, 0, none⟩) N.length N.length) := (HG.out.keep HR.out.bel).c2
    by_cases hlt : i < N.length
    · have hltz : (i : Int) < (N.length : Int) := by omega
      have hnl1 := HB.out.2.1 i
      go_wp2_with fail
      clear k2
      go_loopw [5] (fun v5 wr2 => ∃ (k : Nat) (bt : Nat → Option Nat) (ct : Nat → Nat), v5 = .int .i64 k ∧ k ≤ (nx i).length ∧ Hid (TuI w N gn cn (Sp.bks nx i k) bt ct wr2)) (fun v5 _ => (nx i).length - (intOf v5).toNat)
      case atStart => exact ⟨0, bt, ct, rfl, Nat.zero_le _, HR.out⟩
      case round =>
        clear HR
        obtain ⟨k, bt, ct, rfl, hk, HS⟩ := hrel
        have HGk : Hid (GR wr gb N nx gn cn lo xb bl cp) := HG.out.keep HS.out.bel
        have k2 : wr.cell? ⟨gb, 2, none⟩ = some (.slice (some ⟨xb, 0, none⟩) N.length N.length) := HGk.out.c2
        have kx : wr.cell? ⟨xb, i, none⟩ = some (.slice (adr (bl i)) (nx i).length (cp i)) := (HGk.out.row hlt).1
        by_cases hkl : k < (nx i).length
        · have hkz : (k : Int) < ((nx i).length : Int) := by omega
          obtain ⟨j, hj⟩ : ∃ j, (nx i)[k]? = some j := ⟨_, List.getElem?_eq_getElem hkl⟩
          have hjn : j < N.length := HB.out.1 i j (List.mem_of_getElem? hj)
          have hjz : (j : Int) < (N.length : Int) := by omega
          obtain ⟨g, hg, kr⟩ := (HGk.out.row hlt).2 k j hj
          have ea : adr (bl i) = some ⟨g, 0, none⟩ := by rw [hg]; rfl
          rw [ea] at kx
          have HST : Hid (∀ t, Sp.bks nx i (k + 1) t = if t = j then Sp.bks nx i k j ++ [i] else Sp.bks nx i k t) := bks_step (HB.out.2.2 i) hj
          have hbl : (Sp.bks nx i k j).length ≤ 4097 := by
            have h1 := bkn_len nx i j
            unfold Sp.bks
            rw [List.length_append]
            have : (if j ∈ (nx i).take k then [i] else []).length ≤ 1 := by split <;> simp
            omega
          obtain ⟨Rj, hRj⟩ : ∃ r, Sp.bks nx i k j = r := ⟨_, rfl⟩
          have ht2 : wr.cell? ⟨w.heap.size + 1, 2, none⟩ = some (.slice (some ⟨w.heap.size, 0, none⟩) N.length N.length) := by simp [World.cell?, HS.out.cells]
          obtain ⟨htj, hfj⟩ := HS.out.nxt.cell hjn
          rw [List.length_map, hRj] at htj
          have hndj := HS.out.nxt.row j hjn
          rw [hRj] at hndj hbl
          obtain ⟨g', c', w4, hap, ho4, hgr4, hor4⟩ := appI (bt j) (ct j) (Rj.map fun j : Nat => (j : Int)) wr.drew (hndj.keep (fun _ _ => rfl)) (i : Int) (by rw [List.length_map]; omega) 46
          rw [List.length_map] at hap ho4
          have hsz := HS.out.sz
          have hgw := HGk.out.lt
          have hxw := HGk.out.nxt.lt
          have hal : ∀ b, b < wr.heap.size → bt j ≠ some b → w4.heap[b]? = wr.heap[b]? := fun b hb hne => (hgr4.block b (by rw [al_size]; exact Nat.lt_succ_of_lt hb) (fun e => hne e.symm)).trans (Below.heap_alloc wr.drew _ b hb)
          have hbn : ∀ b, bt j = some b → w.heap.size + 2 ≤ b := fun b e => HS.out.nxt.lo j b hjn e
          have h5 : ∀ b, b < w.heap.size + 2 → w4.heap[b]? = wr.heap[b]? := fun b hb => hal b (by omega) (fun e => by have := hbn b e; omega)
          have hgo := HG.out.lt
          have hxo := HG.out.nxt.lt
          have HSW : Hid (wr.drew.cell? ⟨w.heap.size + 1, 2, none⟩ = some (.slice (some ⟨w.heap.size, 0, none⟩) N.length N.length) ∧ wr.drew.cell? ⟨gb, 2, none⟩ = some (.slice (some ⟨xb, 0, none⟩) N.length N.length) ∧ wr.drew.cell? ⟨xb, i, none⟩ = some (.slice (some ⟨g, 0, none⟩) (nx i).length (cp i)) ∧ wr.drew.cell? ⟨g, k, none⟩ = some (.int .i64 (j : Nat)) ∧ wr.drew.cell? ⟨w.heap.size, j, none⟩ = some (.slice (adr (bt j)) Rj.length (ct j))) := ⟨ht2, k2, kx, kr, htj⟩
          have HSA : Hid ((wr.drew.alloc (.cells #[.int .i64 (i : Nat)] 3)).cell? ⟨w.heap.size + 1, 2, none⟩ = some (.slice (some ⟨w.heap.size, 0, none⟩) N.length N.length) ∧ (wr.drew.alloc (.cells #[.int .i64 (i : Nat)] 3)).cell? ⟨gb, 2, none⟩ = some (.slice (some ⟨xb, 0, none⟩) N.length N.length) ∧ (wr.drew.alloc (.cells #[.int .i64 (i : Nat)] 3)).cell? ⟨xb, i, none⟩ = some (.slice (some ⟨g, 0, none⟩) (nx i).length (cp i)) ∧ (wr.drew.alloc (.cells #[.int .i64 (i : Nat)] 3)).cell? ⟨g, k, none⟩ = some (.int .i64 (j : Nat)) ∧ (wr.drew.alloc (.cells #[.int .i64 (i : Nat)] 3)).cell? ⟨w.heap.size, j, none⟩ = some (.slice (adr (bt j)) Rj.length (ct j))) := by
            obtain ⟨s0, s1, s2, s3, s4⟩ := HSW.out
            refine ⟨?_, ?_, ?_, ?_, ?_⟩ <;> rw [World.cell?_alloc_some _ _ _ (by simp only [s0, s1, s2, s3, s4]; rfl)] <;> assumption
          have HS4 : Hid (w4.cell? ⟨w.heap.size + 1, 2, none⟩ = some (.slice (some ⟨w.heap.size, 0, none⟩) N.length N.length) ∧ w4.cell? ⟨gb, 2, none⟩ = some (.slice (some ⟨xb, 0, none⟩) N.length N.length) ∧ w4.cell? ⟨xb, i, none⟩ = some (.slice (some ⟨g, 0, none⟩) (nx i).length (cp i)) ∧ w4.cell? ⟨g, k, none⟩ = some (.int .i64 (j : Nat)) ∧ w4.cell? ⟨w.heap.size, j, none⟩ = some (.slice (adr (bt j)) Rj.length (ct j))) := by
            have hgl2 := hxo.2 i g hlt hg
            refine ⟨?_, ?_, ?_, ?_, ?_⟩
            · rw [World.cell?_of_block (w := wr) (h5 (w.heap.size + 1) (by omega))]; exact ht2
            · rw [World.cell?_of_block (w := wr) (h5 gb (by omega))]; exact k2
            · rw [World.cell?_of_block (w := wr) (h5 xb (by omega))]; exact kx
            · rw [World.cell?_of_block (w := wr) (h5 g (by omega))]; exact kr
            · rw [World.cell?_of_block (w := wr) (h5 w.heap.size (by omega))]; exact htj
          have nf : w4.frozen? ⟨w.heap.size, j, none⟩ = false := by rw [World.frozen?_of_block (w := wr) (h5 w.heap.size (by omega))]; exact hfj
          have n5 : w4.cell? ⟨w.heap.size, j, none⟩ = some (.slice (adr (bt j)) Rj.length (ct j)) := HS4.out.2.2.2.2
          have HF : Hid (∃ bt' ct', TuI w N gn cn (Sp.bks nx i (k + 1)) bt' ct' (w4.setCell ⟨w.heap.size, j, none⟩ (.slice (some ⟨g', 0, none⟩) (Rj.length + 1) c'))) := by
            have hn := HS.out.nxt.put (l' := (Rj ++ [i]).map fun j : Nat => (j : Int)) (g' := g') (c' := c') (w1 := w4) hjn (by omega) (h5 w.heap.size (by omega)) hal (by simpa using ho4) (by rcases hor4 with h | h; exact .inl h; exact .inr (Nat.le_of_lt h)) hsz
            rw [List.length_map, List.length_append, List.length_singleton] at hn
            refine ⟨fun t => if t = j then some g' else bt t, fun t => if t = j then c' else ct t, ?_, ?_, ?_, ?_⟩
            · rw [Below.heap_setCell w4 _ _ (w.heap.size + 1) (show w.heap.size + 1 ≠ w.heap.size by omega)]
              rw [hal _ (by omega) (fun e => by have := hbn _ e; omega)]
              exact HS.out.cells
            · have e : (fun t => (Sp.bks nx i (k + 1) t).map (fun j : Nat => (j : Int))) = fun t => if t = j then (Rj ++ [i]).map (fun j : Nat => (j : Int)) else (Sp.bks nx i k t).map (fun j : Nat => (j : Int)) := by
                funext t
                rw [HST.out t, hRj]
                split <;> rfl
              rw [e]; exact hn
            · refine ((HS.out.bel.drew.alloc (by have : wr.drew.heap.size = wr.heap.size := rfl; omega) _).grown hgr4 (by rw [al_size]; have : wr.drew.heap.size = wr.heap.size := rfl; omega) (fun b e => ?_)).setCell (Nat.le_refl _) _
              have := hbn b e; omega
            · have h1 := hgr4.size
              rw [al_size] at h1
              have h2 : wr.drew.heap.size = wr.heap.size := rfl
              have h3 : (w4.setCell ⟨w.heap.size, j, none⟩ (.slice (some ⟨g', 0, none⟩) (Rj.length + 1) c')).heap.size = w4.heap.size := by simp [World.setCell]
              omega
          clear hj hg ea HST hndj hbl hRj ho4 hgr4 hor4 hal h5 hbn hgo hxo hgw hxw hsz
          go_wp2_with fail
          refine wp_region_mark (fun X => X.cell? ⟨w.heap.size + 1, 2, none⟩ = some (.slice (some ⟨w.heap.size, 0, none⟩) N.length N.length) ∧ X.cell? ⟨gb, 2, none⟩ = some (.slice (some ⟨xb, 0, none⟩) N.length N.length) ∧ X.cell? ⟨xb, i, none⟩ = some (.slice (some ⟨g, 0, none⟩) (nx i).length (cp i)) ∧ X.cell? ⟨g, k, none⟩ = some (.int .i64 (j : Nat)) ∧ X.cell? ⟨w.heap.size, j, none⟩ = some (.slice (adr (bt j)) Rj.length (ct j))) 34 (by kernel_rfl) ?_
          have hHeld := HSW.out
          refine tkF (i := 0) (v := ?_) rfl (by kernel_rfl) (by rfl) ?_ (.inr (by assumption)) ?_
          rotate_left
          · intro W hSw; go_simp; try (with_reducible rfl)
          simp only [Act.put, lsA, lsB, lsC]
          refine tkF (i := 1) (v := ?_) rfl (by kernel_rfl) (by rfl) ?_ (.inr (by assumption)) ?_
          rotate_left
          · intro W hSw; go_simp; try (with_reducible rfl)
          simp only [Act.put, lsA, lsB, lsC]
          refine tkF (i := 2) (v := ?_) rfl (by kernel_rfl) (by rfl) ?_ (.inr (by assumption)) ?_
          rotate_left
          · intro W hSw; go_simp; try (with_reducible rfl)
          simp only [Act.put, lsA, lsB, lsC]
          refine tkM (i := 3) (v := ?_) [] rfl (by kernel_rfl) (by rfl) ?_ (by assumption) ?_
          rotate_left
          · intro W hSw; (try dsimp only at hSw); go_simp; try (with_reducible rfl)
          simp only [Act.put, lsA, lsB, lsC]
          refine tkF (i := 4) (v := ?_) rfl (by kernel_rfl) (by rfl) ?_ (.inr (by assumption)) ?_
          rotate_left
          · intro W hSw; go_simp; try (with_reducible rfl)
          simp only [Act.put, lsA, lsB, lsC]
          refine tkF (i := 5) (v := ?_) rfl (by kernel_rfl) (by rfl) ?_ (.inr (by assumption)) ?_
          rotate_left
          · intro W hSw; go_simp; try (with_reducible rfl)
          simp only [Act.put, lsA, lsB, lsC]
          refine tkF (i := 6) (v := ?_) rfl (by kernel_rfl) (by rfl) ?_ (.inr (by assumption)) ?_
          rotate_left
          · intro W hSw; go_simp; try (with_reducible rfl)
          simp only [Act.put, lsA, lsB, lsC]
          refine tkM (i := 7) (v := ?_) [] rfl (by kernel_rfl) (by rfl) ?_ (by assumption) ?_
          rotate_left
          · intro W hSw; (try dsimp only at hSw); go_simp; try (with_reducible rfl)
          simp only [Act.put, lsA, lsB, lsC]
          refine tkF (i := 8) (v := ?_) rfl (by kernel_rfl) (by rfl) ?_ (.inr (by assumption)) ?_
          rotate_left
          · intro W hSw; go_simp; try (with_reducible rfl)
          simp only [Act.put, lsA, lsB, lsC]
          refine tkF (i := 9) (v := ?_) rfl (by kernel_rfl) (by rfl) ?_ (.inr (by assumption)) ?_
          rotate_left
          · intro W hSw; go_simp; try (with_reducible rfl)
          simp only [Act.put, lsA, lsB, lsC]
          refine tkM (i := 10) (v := ?_) [] rfl (by kernel_rfl) (by rfl) ?_ (by assumption) ?_
          rotate_left
          · intro W hSw; (try dsimp only at hSw); go_simp; try (with_reducible rfl)
          simp only [Act.put, lsA, lsB, lsC]
          refine tkF (i := 11) (v := ?_) rfl (by kernel_rfl) (by rfl) ?_ (.inr (by assumption)) ?_
          rotate_left
          · intro W hSw; go_simp; try (with_reducible rfl)
          simp only [Act.put, lsA, lsB, lsC]
          refine tkF (i := 12) (v := ?_) rfl (by kernel_rfl) (by rfl) ?_ (.inr (by assumption)) ?_
          rotate_left
          · intro W hSw; go_simp; try (with_reducible rfl)
          simp only [Act.put, lsA, lsB, lsC]
          refine tkM (i := 13) (v := ?_) [] rfl (by kernel_rfl) (by rfl) ?_ (by assumption) ?_
          rotate_left
          · intro W hSw; (try dsimp only at hSw); go_simp; try (with_reducible rfl)
          simp only [Act.put, lsA, lsB, lsC]
          refine tkF (i := 14) (v := ?_) rfl (by kernel_rfl) (by rfl) ?_ (.inr (by assumption)) ?_
          rotate_left
          · intro W hSw; go_simp; try (with_reducible rfl)
          simp only [Act.put, lsA, lsB, lsC]
          refine tkF (i := 15) (v := ?_) rfl (by kernel_rfl) (by rfl) ?_ (.inr (by assumption)) ?_
          rotate_left
          · intro W hSw; go_simp; try (with_reducible rfl)
          simp only [Act.put, lsA, lsB, lsC]
          refine tkF (i := 16) (v := ?_) rfl (by kernel_rfl) (by rfl) ?_ (.inr (by assumption)) ?_
          rotate_left
          · intro W hSw; go_simp; try (with_reducible rfl)
          simp only [Act.put, lsA, lsB, lsC]
          refine tkM (i := 17) (v := ?_) [] rfl (by kernel_rfl) (by rfl) ?_ (by assumption) ?_
          rotate_left
          · intro W hSw; (try dsimp only at hSw); go_simp; try (with_reducible rfl)
          simp only [Act.put, lsA, lsB, lsC]
          refine tkF (i := 18) (v := ?_) rfl (by kernel_rfl) (by rfl) ?_ (.inr (by assumption)) ?_
          rotate_left
          · intro W hSw; go_simp; try (with_reducible rfl)
          simp only [Act.put, lsA, lsB, lsC]
          refine tkF (i := 19) (v := ?_) rfl (by kernel_rfl) (by rfl) ?_ (.inr (by assumption)) ?_
          rotate_left
          · intro W hSw; go_simp; try (with_reducible rfl)
          simp only [Act.put, lsA, lsB, lsC]
          refine tkF (i := 20) (v := ?_) rfl (by kernel_rfl) (by rfl) ?_ (.inr (by assumption)) ?_
          rotate_left
          · intro W hSw; go_simp; try (with_reducible rfl)
          simp only [Act.put, lsA, lsB, lsC]
          refine tkM (i := 21) (v := ?_) [] rfl (by kernel_rfl) (by rfl) ?_ (by assumption) ?_
          rotate_left
          · intro W hSw; (try dsimp only at hSw); go_simp; try (with_reducible rfl)
          simp only [Act.put, lsA, lsB, lsC]
          refine tkF (i := 22) (v := ?_) rfl (by kernel_rfl) (by rfl) ?_ (.inr (by assumption)) ?_
          rotate_left
          · intro W hSw; go_simp; try (with_reducible rfl)
          simp only [Act.put, lsA, lsB, lsC]
          refine tkF (i := 23) (v := ?_) rfl (by kernel_rfl) (by rfl) ?_ (.inr (by assumption)) ?_
          rotate_left
          · intro W hSw; go_simp; try (with_reducible rfl)
          simp only [Act.put, lsA, lsB, lsC]
          refine tkM (i := 24) (v := ?_) [] rfl (by kernel_rfl) (by rfl) ?_ (by assumption) ?_
          rotate_left
          · intro W hSw; (try dsimp only at hSw); go_simp; try (with_reducible rfl)
          simp only [Act.put, lsA, lsB, lsC]
          refine tkF (i := 25) (v := ?_) rfl (by kernel_rfl) (by rfl) ?_ (.inr (by assumption)) ?_
          rotate_left
          · intro W hSw; go_simp; try (with_reducible rfl)
          simp only [Act.put, lsA, lsB, lsC]
          refine tkF (i := 26) (v := ?_) rfl (by kernel_rfl) (by rfl) ?_ (.inr (by assumption)) ?_
          rotate_left
          · intro W hSw; go_simp; try (with_reducible rfl)
          simp only [Act.put, lsA, lsB, lsC]
          refine tkM (i := 27) (v := ?_) [] rfl (by kernel_rfl) (by rfl) ?_ (by assumption) ?_
          rotate_left
          · intro W hSw; (try dsimp only at hSw); go_simp; try (with_reducible rfl)
          simp only [Act.put, lsA, lsB, lsC]
          refine tkF (i := 28) (v := ?_) rfl (by kernel_rfl) (by rfl) ?_ (.inr (by assumption)) ?_
          rotate_left
          · intro W hSw; go_simp; try (with_reducible rfl)
          simp only [Act.put, lsA, lsB, lsC]
          refine tkM (i := 29) (v := ?_) [] rfl (by kernel_rfl) (by rfl) ?_ (by assumption) ?_
          rotate_left
          · intro W hSw; (try dsimp only at hSw); go_simp; try (with_reducible rfl)
          simp only [Act.put, lsA, lsB, lsC]
          refine tkF (i := 30) (v := ?_) rfl (by kernel_rfl) (by rfl) ?_ (.inr (by assumption)) ?_
          rotate_left
          · intro W hSw; go_simp; try (with_reducible rfl)
          simp only [Act.put, lsA, lsB, lsC]
          refine tkO (i := 31) (by kernel_rfl) rfl (fun K hK => ?_)
          go_simp
          clear hHeld
          have hHeld := HSA.out
          refine hK.out _ _ (.inr hHeld) ?_
          clear hK K
          refine tkO (i := 32) (by kernel_rfl) rfl (fun K hK => ?_)
          refine step_ran (by rfl) _ _ 46 46 (by rfl) _ _ _ (by rfl) (by rfl) hap ?_
          clear hHeld
          have hHeld := HS4.out
          refine hK.out _ _ (.inr hHeld) ?_
          clear hK K
          try simp only [Act.put, lsA, lsB, lsC]
          refine tkF (i := 33) (v := ?_) rfl (by kernel_rfl) (by rfl) ?_ (.inr (by assumption)) ?_
          rotate_left
          · intro W hSw; go_simp; try (with_reducible rfl)
          simp only [Act.put, lsA, lsB, lsC]
          refine tkO (i := 34) (by kernel_rfl) rfl (fun K hK => ?_)
          go_simp
          refine hK.out _ _ (.inl (by kernel_rfl)) ?_
          clear hK K
          refine wpAnyM_done (by kernel_rfl) ?_ _
          go_wp2_with fail
          go_roundw
          case rel =>
            obtain ⟨bt', ct', h⟩ := HF.out
            exact ⟨k + 1, bt', ct', by go_num, by omega, h⟩
          case measure => simp [intOf]; omega
        · obtain rfl : k = (nx i).length := by omega
          have HE : Hid (TuI w N gn cn (Sp.bks nx (i + 1) 0) bt ct wr) := by
            have := HS.out
            have e : Sp.bks nx i (nx i).length = Sp.bks nx (i + 1) 0 := by funext t; rw [bks_end, bks_0]
            rw [e] at this
            exact this
          have hkz : ¬ (((nx i).length : Int) < ((nx i).length : Int)) := by omega
          clear HS
          go_wp2_with fail
          go_roundw
          case rel => exact ⟨i + 1, bt, ct, by go_num, by omega, HE.out⟩
          case measure => simp [intOf]; omega
    · obtain rfl : i = N.length := by omega
      have e0 : Sp.bks nx N.length 0 = Sp.bkn nx N.length := by funext t; rw [bks_0]
      have hGk := HG.out.keep HR.out.bel
      have hT := HR.out
      rw [e0] at hT
      have hgnl : ∀ g, gn = some g → g < w.heap.size := fun g hg => (HG.out.nds.2 g hg).lt
      have hc := edges_any (w.heap.size + 1) N (Sp.bkn nx N.length) gn cn (w.heap.size + 2) w.heap.size bt ct wr hT.cells hGk.nds hT.nxt ⟨fun g hg => by have := hgnl g hg; omega, by omega, fun t g ht hg => by have := hT.nxt.lo t g ht hg; omega⟩ hn (fun t _ => Nat.le_trans (bkn_len nx N.length t) hn) (fun t _ j hj => (bkn_mem.1 hj).1)
      have HFIN : Hid (∀ w', EdI wr (w.heap.size + 1) N (Sp.bkn nx N.length) gn cn w.heap.size N.length 0 w' → GRE w' (w.heap.size + 1) N (Sp.bkn nx N.length) ∧ Below w.heap.size w w') := fun w' ⟨ge, ce, h1, h2, h3, h4⟩ => by
        have hx := hT.nxt.lt
        have hsz := hT.sz
        refine ⟨⟨gn, cn, w.heap.size + 2, w.heap.size, bt, ct, by simp [World.cell?, h1], by simp [World.cell?, h1], hGk.nds.keep (fun g hg => h4.block g (by have := hgnl g hg; omega) (by have := hgnl g hg; omega)), hT.nxt.keep (h4.block _ (by omega) (by omega)) (fun t g ht hg => h4.block g (hx.2 t g ht hg) (by have := hT.nxt.lo t g ht hg; omega)), (Array.getElem?_eq_some_iff.1 h1).1⟩, ?_⟩
        refine hT.bel.trans ⟨h4.os, h4.tape, h4.output, ?_, ?_⟩
        · have := h4.size; have := hT.sz; omega
        · exact fun b hb => h4.block b (by have := hT.sz; omega) (by omega)
      clear hT hgnl hGk e0 HR HB
      go_wp2_with fail
      refine hc.mono ?_
      rintro e w4 ⟨rfl, h4⟩
      have H4 := HFIN.out w4 h4
      clear h4 hc HFIN
      go_wp2_with fail
      go_ret
      exact ⟨_, rfl, H4.1, H4.2⟩
end Go.Proofs.Ytilhheianbbbjaa


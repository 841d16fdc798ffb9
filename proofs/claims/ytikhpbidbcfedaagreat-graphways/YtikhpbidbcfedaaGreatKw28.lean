/- graph.Turned: the graph whose edges go the other way. -/
import Derived.Test.YtikhpbidbcfedaaGreatKw21
import Derived.Test.YtikhpbidbcfedaaGreatKw27
import Derived.Test.YtikhpbidbcfedaaGreatKw15
namespace Go.Proofs.YtikhpbidbcfedaaGreat
open Go.RowKit Go.ChangeMaps

def GRP (w : World) (gb : Nat) (N : List Int) (nx : Nat → List Nat) : Prop := GRE w gb N nx ∧ ∃ mb, w.cell? ⟨gb, 1, none⟩ = some (.map (some mb))
theorem GRP.keep {w w' : World} {gb : Nat} {N : List Int} {nx : Nat → List Nat} (h : GRP w gb N nx) (hb : Below w.heap.size w w') : GRP w' gb N nx := by
  obtain ⟨h1, mb, h2⟩ := h
  exact ⟨h1.keep hb, mb, by rw [World.cell?_of_block (w := w) (hb.block gb (World.block_lt_of_cell? _ _ h2))]; exact h2⟩
theorem GrE.grp {w : World} {D : Nat → Prop} {gb : Nat} {N : List Int} {nx : Nat → List Nat} (h : GrE w D gb N nx) : GRP w gb N nx := by
  refine ⟨h.gr, ?_⟩
  obtain ⟨gs, c, mb, xb, G, es, ck, bl, cp, lo, h⟩ := h
  exact ⟨mb, h.cn.cell.1⟩
structure TpI (w : World) (L : Nat) (R : Nat → List Nat) (bt : Nat → Option Nat) (ct : Nat → Nat) (wr : World) : Prop where
  nxt : NxR wr (w.heap.size + 1) w.heap.size L bt ct (fun t => (R t).map (fun j : Nat => (j : Int)))
  bel : Below w.heap.size w wr
  sz : w.heap.size + 1 ≤ wr.heap.size

def GRN (w : World) (tb : Nat) (N : List Int) (nx : Nat → List Nat) (w' : World) : Prop := ∃ gn cn lo xb bl cp, GR w' tb N nx gn cn lo xb bl cp ∧ (∃ mb, w'.cell? ⟨tb, 1, none⟩ = some (.map (some mb))) ∧ w.heap.size ≤ tb ∧ w.heap.size ≤ xb ∧ ∀ t g, t < N.length → bl t = some g → w.heap.size ≤ g
theorem GRN.grp {w w' : World} {tb : Nat} {N : List Int} {nx : Nat → List Nat} (h : GRN w tb N nx w') : GRP w' tb N nx := by
  obtain ⟨gn, cn, lo, xb, bl, cp, h, hm, _⟩ := h
  exact ⟨⟨gn, cn, lo, xb, bl, cp, h⟩, hm⟩
theorem GRN.drew {w w' : World} {tb : Nat} {N : List Int} {nx : Nat → List Nat} (h : GRN w tb N nx w') : GRN w tb N nx w'.drew := by
  obtain ⟨gn, cn, lo, xb, bl, cp, h, hm, q⟩ := h
  exact ⟨gn, cn, lo, xb, bl, cp, h.keep (Below.refl _ _).drew, hm, q⟩
def TuE (w : World) (N : List Int) (nx : Nat → List Nat) (e : Ending) (w' : World) : Prop := ∃ tb, e = .returned (.pointer (some ⟨tb, 0, none⟩)) ∧ GRN w tb N nx w' ∧ Below w.heap.size w w'
set_option maxRecDepth 100000 in
set_option maxHeartbeats 8000000 in
theorem pTurned_any (gb : Nat) (N : List Int) (nx : Nat → List Nat) (w : World) (hg : GRP w gb N nx) (hb : ∀ i, ∀ x ∈ nx i, x < N.length) (hn : N.length ≤ 4096) (hnl : ∀ p, (nx p).length ≤ 4096) (hlt : ∀ i, (nx i).Pairwise (· < ·)) :
    Calls Tryz.prog 16 #[.pointer (some ⟨gb, 0, none⟩)] w (TuE w N (Sp.bkn nx N.length)) := by
  obtain ⟨⟨gn, cn, lo, xb, bl, cp, h⟩, mb, hc1⟩ := hg
  obtain ⟨M, hMs, hMt, hmake⟩ := mk_rowsT N.length hn
  have HG : Hid (GR w gb N nx gn cn lo xb bl cp) := h
  have HB : Hid ((∀ i, ∀ x ∈ nx i, x < N.length) ∧ (∀ p, (nx p).length ≤ 4096) ∧ ∀ i, (nx i).Pairwise (· < ·)) := ⟨hb, hnl, hlt⟩
  have hc0 := h.c0
  have hgl := h.lt
  have hb1 : Below w.heap.size w (w.alloc (.cells M 60)) := (Below.refl _ _).alloc (Nat.le_refl _) _
  have hc2 := (h.keep hb1).c2
  have HC1 : Hid (w.cell? ⟨gb, 1, none⟩ = some (.map (some mb))) := hc1
  have H0 : Hid (TpI w N.length (Sp.bks nx 0 0) (fun _ => none) (fun _ => 0) (w.alloc (.cells M 60))) := by
    have hnn : ∀ t, Sp.bks nx 0 0 t = [] := fun t => by simp [Sp.bks, Sp.bkn]
    refine ⟨⟨⟨M, heap_alloc_new w _, hMs, fun t ht => ?_⟩, fun t ht => ⟨fun _ => ⟨?_, rfl⟩, fun g hg => ?_⟩, fun t g ht hg => ?_, fun t t' g _ _ hg _ => ?_⟩, hb1, by rw [al_size]; omega⟩
    · rw [hMt t ht, hnn t]; rfl
    · rw [hnn t]; rfl
    · cases hg
    · cases hg
    · cases hg
  clear h hb hnl hlt hMs hMt hb1 hc1
  go_enter Tryz.func16, Tryz.ntmps16
  go_wp2_with fail
  clear hmake hc0 hc2
  go_loopw [19] (fun v19 wr => ∃ (i : Nat) (bt : Nat → Option Nat) (ct : Nat → Nat), v19 = .int .i64 i ∧ i ≤ N.length ∧ Hid (TpI w N.length (Sp.bks nx i 0) bt ct wr)) (fun v19 _ => N.length - (intOf v19).toNat)
  case atStart => exact ⟨0, _, _, rfl, Nat.zero_le _, H0.out⟩
  case round =>
    as_aux_lemma =>
    clear H0
    obtain ⟨i, bt, ct, rfl, hi, HR⟩ := hrel
    by_cases hlt : i < N.length
    · have hltz : (i : Int) < (N.length : Int) := by omega
      have hnl1 := HB.out.2.1 i
      have kx : wr.cell? ⟨xb, i, none⟩ = some (.slice (adr (bl i)) (nx i).length (cp i)) := ((HG.out.keep HR.out.bel).row hlt).1
      go_wp2_with fail
      clear kx
      as_aux_lemma =>
      go_loopw [26] (fun v26 wr2 => ∃ (k : Nat) (bt : Nat → Option Nat) (ct : Nat → Nat), v26 = .int .i64 k ∧ k ≤ (nx i).length ∧ Hid (TpI w N.length (Sp.bks nx i k) bt ct wr2)) (fun v26 _ => (nx i).length - (intOf v26).toNat)
      case atStart => exact ⟨0, bt, ct, rfl, Nat.zero_le _, HR.out⟩
      case round =>
        as_aux_lemma =>
        clear HR
        obtain ⟨k, bt, ct, rfl, hk, HS⟩ := hrel
        by_cases hkl : k < (nx i).length
        · have hkz : (k : Int) < ((nx i).length : Int) := by omega
          obtain ⟨j, hj⟩ : ∃ j, (nx i)[k]? = some j := ⟨_, List.getElem?_eq_getElem hkl⟩
          have hjn : j < N.length := HB.out.1 i j (List.mem_of_getElem? hj)
          have hjz : (j : Int) < (N.length : Int) := by omega
          obtain ⟨g, hg, kr⟩ := ((HG.out.keep HS.out.bel).row hlt).2 k j hj
          have ea : adr (bl i) = some ⟨g, 0, none⟩ := by rw [hg]; rfl
          have HST : Hid (∀ t, Sp.bks nx i (k + 1) t = if t = j then Sp.bks nx i k j ++ [i] else Sp.bks nx i k t) := bks_step (HB.out.2.2 i) hj
          have hbl : (Sp.bks nx i k j).length ≤ 4097 := by
            have h1 := bkn_len nx i j
            unfold Sp.bks
            rw [List.length_append]
            have : (if j ∈ (nx i).take k then [i] else []).length ≤ 1 := by split <;> simp
            omega
          obtain ⟨Rj, hRj⟩ : ∃ r, Sp.bks nx i k j = r := ⟨_, rfl⟩
          obtain ⟨htj, hfj⟩ := HS.out.nxt.cell hjn
          rw [List.length_map, hRj] at htj
          have hndj := HS.out.nxt.row j hjn
          rw [hRj] at hndj hbl
          obtain ⟨g', c', w4, hap, ho4, hgr4, hor4⟩ := appI (bt j) (ct j) (Rj.map fun j : Nat => (j : Int)) wr hndj (i : Int) (by rw [List.length_map]; omega) 60
          rw [List.length_map] at hap ho4
          have hsz := HS.out.sz
          have hal : ∀ b, b < wr.heap.size → bt j ≠ some b → w4.heap[b]? = wr.heap[b]? := fun b hb hne => (hgr4.block b (by rw [al_size]; exact Nat.lt_succ_of_lt hb) (fun e => hne e.symm)).trans (Below.heap_alloc wr _ b hb)
          have hbn : ∀ b, bt j = some b → w.heap.size + 1 ≤ b := fun b e => HS.out.nxt.lo j b hjn e
          have h5 : w4.heap[w.heap.size]? = wr.heap[w.heap.size]? := hal _ (by omega) (fun e => by have := hbn _ e; omega)
          have nf : w4.frozen? ⟨w.heap.size, j, none⟩ = false := by rw [World.frozen?_of_block (w := wr) h5]; exact hfj
          have n5 : w4.cell? ⟨w.heap.size, j, none⟩ = some (.slice (adr (bt j)) Rj.length (ct j)) := by rw [World.cell?_of_block (w := wr) h5]; exact htj
          have HF : Hid (∃ bt' ct', TpI w N.length (Sp.bks nx i (k + 1)) bt' ct' (w4.setCell ⟨w.heap.size, j, none⟩ (.slice (some ⟨g', 0, none⟩) (Rj.length + 1) c'))) := by
            have hn := HS.out.nxt.put (l' := (Rj ++ [i]).map fun j : Nat => (j : Int)) (g' := g') (c' := c') (w1 := w4) hjn (by omega) h5 hal (by simpa using ho4) (by rcases hor4 with h | h; exact .inl h; exact .inr (Nat.le_of_lt h)) hsz
            rw [List.length_map, List.length_append, List.length_singleton] at hn
            refine ⟨fun t => if t = j then some g' else bt t, fun t => if t = j then c' else ct t, ?_, ?_, ?_⟩
            · have e : (fun t => (Sp.bks nx i (k + 1) t).map (fun j : Nat => (j : Int))) = fun t => if t = j then (Rj ++ [i]).map (fun j : Nat => (j : Int)) else (Sp.bks nx i k t).map (fun j : Nat => (j : Int)) := by
                funext t
                rw [HST.out t, hRj]
                split <;> rfl
              rw [e]; exact hn
            · refine ((HS.out.bel.alloc (by omega) _).grown hgr4 (by rw [al_size]; omega) (fun b e => ?_)).setCell (Nat.le_refl _) _
              have := hbn b e; omega
            · have h1 := hgr4.size
              rw [al_size] at h1
              have h3 : (w4.setCell ⟨w.heap.size, j, none⟩ (.slice (some ⟨g', 0, none⟩) (Rj.length + 1) c')).heap.size = w4.heap.size := by simp [World.setCell]
              omega
          clear hj hg HST hndj hbl hRj ho4 hgr4 hor4 hal h5 hbn hsz
          go_wp2_with (at_builtin; refine wpList_ranS _ rfl _ _ 60 60 rfl _ _ _ _ rfl rfl hap ?_)
          rw [← ea]
          go_roundw
          case rel => obtain ⟨bt', ct', hF⟩ := HF.out; exact ⟨k + 1, bt', ct', by go_num, by omega, hF⟩
          case measure => simp [intOf]; omega
        · obtain rfl : k = (nx i).length := by omega
          have HE : Hid (TpI w N.length (Sp.bks nx (i + 1) 0) bt ct wr) := by
            have e : Sp.bks nx i (nx i).length = Sp.bks nx (i + 1) 0 := by funext t; rw [bks_end, bks_0]
            show TpI _ _ _ _ _ _
            rw [← e]; exact HS.out
          clear HS
          go_wp2_with fail
          go_roundw
          case rel => exact ⟨i + 1, bt, ct, by go_num, by omega, HE.out⟩
          case measure => simp [intOf]; omega
    · obtain rfl : N.length = i := by omega
      have HGk : Hid (GR wr gb N nx gn cn lo xb bl cp) := HG.out.keep HR.out.bel
      have hc0 := HGk.out.c0
      have hc1 : wr.cell? ⟨gb, 1, none⟩ = some (.map (some mb)) := by rw [World.cell?_of_block (w := w) (HR.out.bel.block gb hgl)]; exact HC1.out
      have HF : Hid (∀ W : World, W = wr.alloc (.cells #[.slice (adr gn) N.length cn, .map (some mb), .slice (some ⟨w.heap.size, 0, none⟩) N.length N.length] 72) → GRN w wr.heap.size N (Sp.bkn nx N.length) W ∧ Below w.heap.size w W) := fun W hW => by
        subst hW
        have hbl : Below wr.heap.size wr (wr.alloc (.cells #[.slice (adr gn) N.length cn, .map (some mb), .slice (some ⟨w.heap.size, 0, none⟩) N.length N.length] 72)) := (Below.refl _ _).alloc (Nat.le_refl _) _
        have hnw := heap_alloc_new wr (.cells #[.slice (adr gn) N.length cn, .map (some mb), .slice (some ⟨w.heap.size, 0, none⟩) N.length N.length] 72 (0, 0))
        have hx := HR.out.nxt
        have e : Sp.bks nx N.length 0 = Sp.bkn nx N.length := by funext t; exact bks_0 nx _ t
        rw [e] at hx
        have hbb : Below w.heap.size w (wr.alloc (.cells #[.slice (adr gn) N.length cn, .map (some mb), .slice (some ⟨w.heap.size, 0, none⟩) N.length N.length] 72)) := belT HR.out.bel hbl
        refine ⟨⟨gn, cn, w.heap.size + 1, w.heap.size, bt, ct, ?_, ⟨mb, by simp only [World.cell?, hnw]; rfl⟩, HR.out.bel.size, Nat.le_refl _, fun t g ht hg => Nat.le_of_lt (hx.lo t g ht hg)⟩, hbb⟩
        refine ⟨by simp only [World.cell?, hnw]; rfl, by simp only [World.cell?, hnw]; rfl, (HG.out.keep hbb).nds, ?_, by rw [al_size]; omega⟩
        exact hx.keep (hbl.block _ hx.lt.1) (fun t g ht hg => hbl.block g (hx.lt.2 t g ht hg))
      clear HR HGk hgl
      go_wp2_with fail
      go_region
      all_goals
        go_wp2_with fail
        go_ret
        first
          | exact ⟨_, rfl, HF.out _ rfl⟩
          | exact ⟨_, rfl, (HF.out _ rfl).1.drew, (HF.out _ rfl).2.drew⟩
end Go.Proofs.YtikhpbidbcfedaaGreat

/- graph.Edges: all edges, rising. -/
namespace Go.Proofs.YtikhpbidbcfedaaGreat
open Go.RowKit Go.ChangeMaps

def EgE (w : World) (N : List Int) (nx : Nat → List Nat) (e : Ending) (w' : World) : Prop := ∃ ge ce, e = .returned (.slice (adr ge) (Sp.eds N nx N.length 0).length ce) ∧ NdE w' ge ce (Sp.eds N nx N.length 0) ∧ (∀ g, ge = some g → w.heap.size ≤ g) ∧ Below w.heap.size w w'
structure EgI (w : World) (l : List (Int × Int)) (ge : Option Nat) (ce : Nat) (wr : World) : Prop where
  nd : NdE wr ge ce l
  nw : ∀ g, ge = some g → w.heap.size ≤ g
  bel : Below w.heap.size w wr
set_option maxRecDepth 100000 in
set_option maxHeartbeats 8000000 in
theorem pEdges_any (gb : Nat) (N : List Int) (nx : Nat → List Nat) (w : World) (hg : GRE w gb N nx) (hb : ∀ i, ∀ x ∈ nx i, x < N.length) (hn : N.length ≤ 4096) (hnl : ∀ p, (nx p).length ≤ 4096) :
    Calls Tryz.prog 14 #[.pointer (some ⟨gb, 0, none⟩)] w (EgE w N nx) := by
  obtain ⟨gn, cn, lo, xb, bl, cp, h⟩ := hg
  have HG : Hid (GR w gb N nx gn cn lo xb bl cp) := h
  have HB : Hid ((∀ i, ∀ x ∈ nx i, x < N.length) ∧ ∀ p, (nx p).length ≤ 4096) := ⟨hb, hnl⟩
  have H0 : Hid (EgI w (Sp.eds N nx 0 0) none 0 w) := ⟨⟨fun _ => ⟨by simp [Sp.eds], rfl⟩, fun g hg => by cases hg⟩, (fun g hg => by cases hg), Below.refl _ _⟩
  have hc2 := h.c2
  clear h hb hnl
  go_enter Tryz.func14, Tryz.ntmps14
  go_wp2_with fail
  clear hc2
  go_loopw [3, 13] (fun v3 v13 wr => ∃ (i m : Nat) (ge : Option Nat) (ce : Nat), v13 = .int .i64 i ∧ v3 = .slice (adr ge) m ce ∧ i ≤ N.length ∧ Hid (m = (Sp.eds N nx i 0).length) ∧ Hid (EgI w (Sp.eds N nx i 0) ge ce wr)) (fun _ v13 _ => N.length - (intOf v13).toNat)
  case atStart => exact ⟨0, 0, none, 0, rfl, rfl, Nat.zero_le _, by simp [Hid, Sp.eds], H0.out⟩
  case round =>
    as_aux_lemma =>
    clear H0
    obtain ⟨i, m, ge, ce, rfl, rfl, hi, HM, HR⟩ := hrel
    by_cases hlt : i < N.length
    · have hltz : (i : Int) < (N.length : Int) := by omega
      have hnl1 := HB.out.2 i
      have kx : wr.cell? ⟨xb, i, none⟩ = some (.slice (adr (bl i)) (nx i).length (cp i)) := ((HG.out.keep HR.out.bel).row hlt).1
      go_wp2_with fail
      clear kx
      as_aux_lemma =>
      go_loopw [3, 20] (fun v3 v20 wr2 => ∃ (k m : Nat) (ge : Option Nat) (ce : Nat), v20 = .int .i64 k ∧ v3 = .slice (adr ge) m ce ∧ k ≤ (nx i).length ∧ Hid (m = (Sp.eds N nx i k).length) ∧ Hid (EgI w (Sp.eds N nx i k) ge ce wr2)) (fun _ v20 _ => (nx i).length - (intOf v20).toNat)
      case atStart => exact ⟨0, m, ge, ce, rfl, rfl, Nat.zero_le _, HM.out, HR.out⟩
      case round =>
        as_aux_lemma =>
        clear HR HM
        obtain ⟨k, m, ge, ce, rfl, rfl, hk, HM, HS⟩ := hrel
        by_cases hkl : k < (nx i).length
        · have hkz : (k : Int) < ((nx i).length : Int) := by omega
          obtain ⟨j, hj⟩ : ∃ j, (nx i)[k]? = some j := ⟨_, List.getElem?_eq_getElem hkl⟩
          have hjn : j < N.length := HB.out.1 i j (List.mem_of_getElem? hj)
          have hjz : (j : Int) < (N.length : Int) := by omega
          obtain ⟨g, hg, kr⟩ := ((HG.out.keep HS.out.bel).row hlt).2 k j hj
          have ea : adr (bl i) = some ⟨g, 0, none⟩ := by rw [hg]; rfl
          have k0 := (HG.out.keep HS.out.bel).c0
          obtain ⟨gN, rfl⟩ : ∃ g, gn = some g := by
            cases gn with
            | some g => exact ⟨g, rfl⟩
            | none => have := HG.out.nds.1 rfl; subst this; simp at hlt
          obtain ⟨x, hx⟩ : ∃ x, N[i]? = some x := ⟨_, List.getElem?_eq_getElem hlt⟩
          obtain ⟨y, hy⟩ : ∃ y, N[j]? = some y := ⟨_, List.getElem?_eq_getElem hjn⟩
          have hgN := (HG.out.keep HS.out.bel).nds.2 gN rfl
          have kn1 : wr.cell? ⟨gN, i, none⟩ = some (.int .u64 x) := hgN.cell (by simp [rv, hx])
          have kn2 : wr.cell? ⟨gN, j, none⟩ = some (.int .u64 y) := hgN.cell (by simp [rv, hy])
          have hsn : Sp.eds N nx i (k + 1) = Sp.eds N nx i k ++ [(x, y)] := by
            rw [eds_snoc hj]; simp [List.getD_eq_getElem?_getD, hx, hy]
          have hel := eds_len N nx (fun t _ => HB.out.2 t) i k hi (by have := HB.out.2 i; omega)
          have hl8 : (Sp.eds N nx i k).length * 8 ≤ 140737488355328 / 4 := by
            have : i * 4096 ≤ 4096 * 4096 := Nat.mul_le_mul_right _ (by omega)
            have := HB.out.2 i
            omega
          have hmL := HM.out
          rw [← hmL] at hel
          obtain ⟨g', c', w4, hap, ho4, hgr4, hor4⟩ := appE ge ce (Sp.eds N nx i k) wr.drew (HS.out.nd.keep (fun _ _ => rfl)) x y hl8 23
          rw [← hmL] at hap ho4
          have hap' : (Builtin.append_ #[23, 23] 23 #[.slice (adr ge) m ce, .slice (some ⟨wr.heap.size, 0, none⟩) 1 1]).run Tryz.prog (wr.alloc (.cells #[.int .u64 x, .int .u64 y] 38)).drew = .ok (.slice (some ⟨g', 0, none⟩) (m + 1) c') w4 := hap
          have HF : Hid (EgI w (Sp.eds N nx i (k + 1)) (some g') c' w4) := by
            have hbw := HS.out.bel
            have hr : wr.drew.heap.size = wr.heap.size := rfl
            refine ⟨⟨(fun h => by cases h), fun g2 hg2 => ?_⟩, fun g2 hg2 => ?_, ?_⟩
            · injection hg2 with hg2; subst hg2
              rw [hsn, List.length_append, ← hmL]
              exact ho4
            · injection hg2 with hg2; subst hg2
              rcases hor4 with h | h
              · exact HS.out.nw g' h
              · have := hbw.size; omega
            · refine (hbw.drew.alloc (by have := hbw.size; omega) _).grown hgr4 (by rw [al_size]; have := hbw.size; omega) (fun b e => HS.out.nw b e)
          have HM' : Hid (m + 1 = (Sp.eds N nx i (k + 1)).length) := by
            show _ = _
            rw [hsn, List.length_append, ← hmL]; rfl
          have c2 := (HG.out.keep HS.out.bel).c2
          have hgl : gb < wr.heap.size := (HG.out.keep HS.out.bel).lt
          have HSW : Hid (wr.drew.cell? ⟨gb, 0, none⟩ = some (.slice (adr (some gN)) N.length cn) ∧ wr.drew.cell? ⟨gN, i, none⟩ = some (.int .u64 x) ∧ wr.drew.cell? ⟨gN, j, none⟩ = some (.int .u64 y)) := ⟨k0, kn1, kn2⟩
          have HSA : Hid ((wr.drew.alloc (.cells #[.int .u64 x, .int .u64 y] 38)).cell? ⟨gb, 0, none⟩ = some (.slice (adr (some gN)) N.length cn) ∧ (wr.drew.alloc (.cells #[.int .u64 x, .int .u64 y] 38)).cell? ⟨gN, i, none⟩ = some (.int .u64 x) ∧ (wr.drew.alloc (.cells #[.int .u64 x, .int .u64 y] 38)).cell? ⟨gN, j, none⟩ = some (.int .u64 y)) := by
            obtain ⟨s0, s1, s2⟩ := HSW.out
            refine ⟨?_, ?_, ?_⟩ <;> rw [World.cell?_alloc_some _ _ _ (by simp only [s0, s1, s2]; rfl)] <;> assumption
          have ea2 : adr (some gN) = some ⟨gN, 0, none⟩ := rfl
          clear hap ho4 hgr4 hor4 hj hx hy hg hgN hel hl8 hsn HS c2 hgl hmL
          go_wp2_with fail
          refine wp_region_mark (fun X => X.cell? ⟨gb, 0, none⟩ = some (.slice (adr (some gN)) N.length cn) ∧ X.cell? ⟨gN, i, none⟩ = some (.int .u64 x) ∧ X.cell? ⟨gN, j, none⟩ = some (.int .u64 y)) 17 (by kernel_rfl) ?_
          have hHeld := HSW.out
          refine tkF (i := 0) (v := ?_) rfl (by kernel_rfl) (by rfl) ?_ (.inr (by assumption)) ?_
          rotate_left
          · intro W hSw; go_simp; try (with_reducible rfl)
          simp only [Act.put, lsA, lsB, lsC]
          refine tkF (i := 1) (v := ?_) rfl (by kernel_rfl) (by rfl) ?_ (.inr (by assumption)) ?_
          rotate_left
          · intro W hSw; go_simp; try (with_reducible rfl)
          simp only [Act.put, lsA, lsB, lsC]
          refine tkF (i := 2) (v := ?_) rfl (by kernel_rfl) (by rfl) ?_ (.inr (by assumption)) ?_
          rotate_left
          · intro W hSw; go_simp; try (with_reducible rfl)
          simp only [Act.put, lsA, lsB, lsC]
          refine tkF (i := 3) (v := ?_) rfl (by kernel_rfl) (by rfl) ?_ (.inr (by assumption)) ?_
          rotate_left
          · intro W hSw; go_simp; try (with_reducible rfl)
          simp only [Act.put, lsA, lsB, lsC]
          refine tkM (i := 4) (v := ?_) [16, 15, 7, 6] rfl (by kernel_rfl) (by rfl) ?_ (by assumption) ?_
          rotate_left
          · intro W hSw; (try dsimp only at hSw); go_simp; try (with_reducible rfl)
          simp only [Act.put, lsA, lsB, lsC]
          refine tkF (i := 5) (v := ?_) rfl (by kernel_rfl) (by rfl) ?_ (.inr (by assumption)) ?_
          rotate_left
          · intro W hSw; go_simp; try (with_reducible rfl)
          simp only [Act.put, lsA, lsB, lsC]
          refine tkF (i := 6) (v := ?_) rfl (by kernel_rfl) (by rfl) ?_ (.inr (by assumption)) ?_
          rotate_left
          · intro W hSw; go_simp; try (with_reducible rfl)
          simp only [Act.put, lsA, lsB, lsC]
          refine tkM (i := 7) (v := ?_) [16, 15] rfl (by kernel_rfl) (by rfl) ?_ (by assumption) ?_
          rotate_left
          · intro W hSw; (try dsimp only at hSw); go_simp; try (with_reducible rfl)
          simp only [Act.put, lsA, lsB, lsC]
          refine tkF (i := 8) (v := ?_) rfl (by kernel_rfl) (by rfl) ?_ (.inr (by assumption)) ?_
          rotate_left
          · intro W hSw; go_simp; try (with_reducible rfl)
          simp only [Act.put, lsA, lsB, lsC]
          refine tkF (i := 9) (v := ?_) rfl (by kernel_rfl) (by rfl) ?_ (.inr (by assumption)) ?_
          rotate_left
          · intro W hSw; go_simp; try (with_reducible rfl)
          simp only [Act.put, lsA, lsB, lsC]
          refine tkF (i := 10) (v := ?_) rfl (by kernel_rfl) (by rfl) ?_ (.inr (by assumption)) ?_
          rotate_left
          · intro W hSw; go_simp; try (with_reducible rfl)
          simp only [Act.put, lsA, lsB, lsC]
          refine tkM (i := 11) (v := ?_) [16, 15, 14, 13] rfl (by kernel_rfl) (by rfl) ?_ (by assumption) ?_
          rotate_left
          · intro W hSw; (try dsimp only at hSw); go_simp; try (with_reducible rfl)
          simp only [Act.put, lsA, lsB, lsC]
          refine tkF (i := 12) (v := ?_) rfl (by kernel_rfl) (by rfl) ?_ (.inr (by assumption)) ?_
          rotate_left
          · intro W hSw; go_simp; try (with_reducible rfl)
          simp only [Act.put, lsA, lsB, lsC]
          refine tkF (i := 13) (v := ?_) rfl (by kernel_rfl) (by rfl) ?_ (.inr (by assumption)) ?_
          rotate_left
          · intro W hSw; go_simp; try (with_reducible rfl)
          simp only [Act.put, lsA, lsB, lsC]
          refine tkM (i := 14) (v := ?_) [16, 15] rfl (by kernel_rfl) (by rfl) ?_ (by assumption) ?_
          rotate_left
          · intro W hSw; (try dsimp only at hSw); go_simp; try (with_reducible rfl)
          simp only [Act.put, lsA, lsB, lsC]
          refine tkF (i := 15) (v := ?_) rfl (by kernel_rfl) (by rfl) ?_ (.inr (by assumption)) ?_
          rotate_left
          · intro W hSw; go_simp; try (with_reducible rfl)
          simp only [Act.put, lsA, lsB, lsC]
          refine tkO (i := 16) (by kernel_rfl) rfl (fun K hK => ?_)
          go_simp
          clear hHeld
          have hHeld := HSA.out
          refine hK.out _ _ (.inr hHeld) ?_
          clear hK K
          refine tkO (i := 17) (by kernel_rfl) rfl (fun K hK => ?_)
          refine step_ran (by rfl) _ _ 23 23 (by rfl) _ _ _ (by rfl) (by rfl) hap' ?_
          refine hK.out _ _ (.inl (by kernel_rfl)) ?_
          clear hK K
          try simp only [Act.put, lsA, lsB, lsC]
          refine tkF (i := 18) (v := ?_) rfl (by kernel_rfl) (by rfl) ?_ (.inl (by kernel_rfl)) ?_
          rotate_left
          · intro W hSw; go_simp; try (with_reducible rfl)
          simp only [Act.put, lsA, lsB, lsC]
          refine wpAnyM_done (by kernel_rfl) ?_ _
          go_wp2_with fail
          rw [← ea]
          go_roundw
          case rel => exact ⟨k + 1, m + 1, some g', c', by go_num, rfl, by omega, HM'.out, HF.out⟩
          case measure => simp [intOf]; omega
        · obtain rfl : k = (nx i).length := by omega
          have HE : Hid (EgI w (Sp.eds N nx (i + 1) 0) ge ce wr) := by
            show EgI _ _ _ _ _
            rw [← eds_next]; exact HS.out
          have HM' : Hid (m = (Sp.eds N nx (i + 1) 0).length) := by
            show m = _
            rw [← eds_next]; exact HM.out
          clear HS HM
          go_wp2_with fail
          go_roundw
          case rel => exact ⟨i + 1, m, ge, ce, by go_num, rfl, by omega, HM'.out, HE.out⟩
          case measure => simp [intOf]; omega
    · obtain rfl : N.length = i := by omega
      have HM2 := HM.out
      subst HM2
      have HE : Hid (EgI w (Sp.eds N nx N.length 0) ge ce wr) := HR.out
      clear HR HM
      go_wp2_with fail
      go_ret
      exact ⟨ge, ce, rfl, HE.out.nd, HE.out.nw, HE.out.bel⟩
end Go.Proofs.YtikhpbidbcfedaaGreat


/- graph.Turned: the graph whose edges go the other way. -/
import Derived.Test.YtikhpbidbcfedaaGreatKp16
import Derived.Test.YtikhpbidbcfedaaGreatKp22
import Derived.Test.YtikhpbidbcfedaaGreatKp12
import Derived.Test.YtikhpbidbcfedaaGreatKp14
import Derived.Test.YtikhpbidbcfedaaGreatKp17
import Derived.Test.YtikhpbidbcfedaaGreatKp15
import Derived.Test.YtikhpbidbcfedaaGreatKp13
namespace Go.Proofs.YtikhpbidbcfedaaGreat
open Go.RowKit Go.ChangeMaps

def GRP (w : World) (gb : Nat) (N : List Int) (nx : Nat → List Nat) : Prop := GRE w gb N nx ∧ ∃ mb, w.cell? ⟨gb, 1, none⟩ = some (.map (some mb))
theorem GRP.keep {w w' : World} {gb : Nat} {N : List Int} {nx : Nat → List Nat} (h : GRP w gb N nx) (hb : Below w.heap.size w w') : GRP w' gb N nx := by
  obtain ⟨h1, mb, h2⟩ := h
  exact ⟨h1.keep hb, mb, by rw [World.cell?_of_block (w := w) (hb.block gb (World.block_lt_of_cell? _ _ h2))]; exact h2⟩
theorem GrE.grp {w : World} {D : Nat → Prop} {gb : Nat} {N : List Int} {nx : Nat → List Nat} (h : GrE w D gb N nx) : GRP w gb N nx := by
  refine ⟨h.gr, ?_⟩
  obtain ⟨gs, c, mb, xb, G, es, ck, bl, cp, lo, h⟩ := h
  exact ⟨mb, h.cn.cell.1⟩
structure TpI (w : World) (L : Nat) (R : Nat → List Nat) (bt : Nat → Option Nat) (ct : Nat → Nat) (wr : World) : Prop where
  nxt : NxR wr (w.heap.size + 1) w.heap.size L bt ct (fun t => (R t).map (fun j : Nat => (j : Int)))
  bel : Below w.heap.size w wr
  sz : w.heap.size + 1 ≤ wr.heap.size

def GRN (w : World) (tb : Nat) (N : List Int) (nx : Nat → List Nat) (w' : World) : Prop := ∃ gn cn lo xb bl cp, GR w' tb N nx gn cn lo xb bl cp ∧ (∃ mb, w'.cell? ⟨tb, 1, none⟩ = some (.map (some mb))) ∧ w.heap.size ≤ tb ∧ w.heap.size ≤ xb ∧ ∀ t g, t < N.length → bl t = some g → w.heap.size ≤ g
theorem GRN.grp {w w' : World} {tb : Nat} {N : List Int} {nx : Nat → List Nat} (h : GRN w tb N nx w') : GRP w' tb N nx := by
  obtain ⟨gn, cn, lo, xb, bl, cp, h, hm, _⟩ := h
  exact ⟨⟨gn, cn, lo, xb, bl, cp, h⟩, hm⟩
theorem GRN.drew {w w' : World} {tb : Nat} {N : List Int} {nx : Nat → List Nat} (h : GRN w tb N nx w') : GRN w tb N nx w'.drew := by
  obtain ⟨gn, cn, lo, xb, bl, cp, h, hm, q⟩ := h
  exact ⟨gn, cn, lo, xb, bl, cp, h.keep (Below.refl _ _).drew, hm, q⟩
def TuE (w : World) (N : List Int) (nx : Nat → List Nat) (e : Ending) (w' : World) : Prop := ∃ tb, e = .returned (.pointer (some ⟨tb, 0, none⟩)) ∧ GRN w tb N nx w' ∧ Below w.heap.size w w'
set_option maxRecDepth 100000 in
set_option maxHeartbeats 8000000 in
theorem pTurned_any (gb : Nat) (N : List Int) (nx : Nat → List Nat) (w : World) (hg : GRP w gb N nx) (hb : ∀ i, ∀ x ∈ nx i, x < N.length) (hn : N.length ≤ 4096) (hnl : ∀ p, (nx p).length ≤ 4096) (hlt : ∀ i, (nx i).Pairwise (· < ·)) :
    Calls Tryz.prog 16 #[.pointer (some ⟨gb, 0, none⟩)] w (TuE w N (Sp.bkn nx N.length)) := by
  obtain ⟨⟨gn, cn, lo, xb, bl, cp, h⟩, mb, hc1⟩ := hg
  obtain ⟨M, hMs, hMt, hmake⟩ := mk_rowsT N.length hn
  have HG : Hid (GR w gb N nx gn cn lo xb bl cp) := h
  have HB : Hid ((∀ i, ∀ x ∈ nx i, x < N.length) ∧ (∀ p, (nx p).length ≤ 4096) ∧ ∀ i, (nx i).Pairwise (· < ·)) := ⟨hb, hnl, hlt⟩
  have hc0 := h.c0
  have hgl := h.lt
  have hb1 : Below w.heap.size w (w.alloc (.cells M 60)) := (Below.refl _ _).alloc (Nat.le_refl _) _
  have hc2 := (h.keep hb1).c2
  have HC1 : Hid (w.cell? ⟨gb, 1, none⟩ = some (.map (some mb))) := hc1
  have H0 : Hid (TpI w N.length (Sp.bks nx 0 0) (fun _ => none) (fun _ => 0) (w.alloc (.cells M 60))) := by
    have hnn : ∀ t, Sp.bks nx 0 0 t = [] := fun t => by simp [Sp.bks, Sp.bkn]
    refine ⟨⟨⟨M, heap_alloc_new w _, hMs, fun t ht => ?_⟩, fun t ht => ⟨fun _ => ⟨?_, rfl⟩, fun g hg => ?_⟩, fun t g ht hg => ?_, fun t t' g _ _ hg _ => ?_⟩, hb1, by rw [al_size]; omega⟩
    · rw [hMt t ht, hnn t]; rfl
    · rw [hnn t]; rfl
    · cases hg
    · cases hg
    · cases hg
  clear h hb hnl hlt hMs hMt hb1 hc1
  go_enter Tryz.func16, Tryz.ntmps16
  go_wp2_with fail
  clear hmake hc0 hc2
  go_loopw [19] (fun v19 wr => ∃ (i : Nat) (bt : Nat → Option Nat) (ct : Nat → Nat), v19 = .int .i64 i ∧ i ≤ N.length ∧ Hid (TpI w N.length (Sp.bks nx i 0) bt ct wr)) (fun v19 _ => N.length - (intOf v19).toNat)
  case atStart => exact ⟨0, _, _, rfl, Nat.zero_le _, H0.out⟩
  case round =>
    as_aux_lemma =>
    clear H0
    obtain ⟨i, bt, ct, rfl, hi, HR⟩ := hrel
    by_cases hlt : i < N.length
    · have hltz : (i : Int) < (N.length : Int) := by omega
      have hnl1 := HB.out.2.1 i
      have kx : wr.cell? ⟨xb, i, none⟩ = some (.slice (adr (bl i)) (nx i).length (cp i)) := ((HG.out.keep HR.out.bel).row hlt).1
      go_wp2_with fail
      clear kx
      as_aux_lemma =>
      go_loopw [26] (fun v26 wr2 => ∃ (k : Nat) (bt : Nat → Option Nat) (ct : Nat → Nat), v26 = .int .i64 k ∧ k ≤ (nx i).length ∧ Hid (TpI w N.length (Sp.bks nx i k) bt ct wr2)) (fun v26 _ => (nx i).length - (intOf v26).toNat)
      case atStart => exact ⟨0, bt, ct, rfl, Nat.zero_le _, HR.out⟩
      case round =>
        as_aux_lemma =>
        clear HR
        obtain ⟨k, bt, ct, rfl, hk, HS⟩ := hrel
        by_cases hkl : k < (nx i).length
        · have hkz : (k : Int) < ((nx i).length : Int) := by omega
          obtain ⟨j, hj⟩ : ∃ j, (nx i)[k]? = some j := ⟨_, List.getElem?_eq_getElem hkl⟩
          have hjn : j < N.length := HB.out.1 i j (List.mem_of_getElem? hj)
          have hjz : (j : Int) < (N.length : Int) := by omega
          obtain ⟨g, hg, kr⟩ := ((HG.out.keep HS.out.bel).row hlt).2 k j hj
          have ea : adr (bl i) = some ⟨g, 0, none⟩ := by rw [hg]; rfl
          have HST : Hid (∀ t, Sp.bks nx i (k + 1) t = if t = j then Sp.bks nx i k j ++ [i] else Sp.bks nx i k t) := bks_step (HB.out.2.2 i) hj
          have hbl : (Sp.bks nx i k j).length ≤ 4097 := by
            have h1 := bkn_len nx i j
            unfold Sp.bks
            rw [List.length_append]
            have : (if j ∈ (nx i).take k then [i] else []).length ≤ 1 := by split <;> simp
            omega
          obtain ⟨Rj, hRj⟩ : ∃ r, Sp.bks nx i k j = r := ⟨_, rfl⟩
          obtain ⟨htj, hfj⟩ := HS.out.nxt.cell hjn
          rw [List.length_map, hRj] at htj
          have hndj := HS.out.nxt.row j hjn
          rw [hRj] at hndj hbl
          obtain ⟨g', c', w4, hap, ho4, hgr4, hor4⟩ := appI (bt j) (ct j) (Rj.map fun j : Nat => (j : Int)) wr hndj (i : Int) (by rw [List.length_map]; omega) 60
          rw [List.length_map] at hap ho4
          have hsz := HS.out.sz
          have hal : ∀ b, b < wr.heap.size → bt j ≠ some b → w4.heap[b]? = wr.heap[b]? := fun b hb hne => (hgr4.block b (by rw [al_size]; exact Nat.lt_succ_of_lt hb) (fun e => hne e.symm)).trans (Below.heap_alloc wr _ b hb)
          have hbn : ∀ b, bt j = some b → w.heap.size + 1 ≤ b := fun b e => HS.out.nxt.lo j b hjn e
          have h5 : w4.heap[w.heap.size]? = wr.heap[w.heap.size]? := hal _ (by omega) (fun e => by have := hbn _ e; omega)
          have nf : w4.frozen? ⟨w.heap.size, j, none⟩ = false := by rw [World.frozen?_of_block (w := wr) h5]; exact hfj
          have n5 : w4.cell? ⟨w.heap.size, j, none⟩ = some (.slice (adr (bt j)) Rj.length (ct j)) := by rw [World.cell?_of_block (w := wr) h5]; exact htj
          have HF : Hid (∃ bt' ct', TpI w N.length (Sp.bks nx i (k + 1)) bt' ct' (w4.setCell ⟨w.heap.size, j, none⟩ (.slice (some ⟨g', 0, none⟩) (Rj.length + 1) c'))) := by
            have hn := HS.out.nxt.put (l' := (Rj ++ [i]).map fun j : Nat => (j : Int)) (g' := g') (c' := c') (w1 := w4) hjn (by omega) h5 hal (by simpa using ho4) (by rcases hor4 with h | h; exact .inl h; exact .inr (Nat.le_of_lt h)) hsz
            rw [List.length_map, List.length_append, List.length_singleton] at hn
            refine ⟨fun t => if t = j then some g' else bt t, fun t => if t = j then c' else ct t, ?_, ?_, ?_⟩
            · have e : (fun t => (Sp.bks nx i (k + 1) t).map (fun j : Nat => (j : Int))) = fun t => if t = j then (Rj ++ [i]).map (fun j : Nat => (j : Int)) else (Sp.bks nx i k t).map (fun j : Nat => (j : Int)) := by
                funext t
                rw [HST.out t, hRj]
                split <;> rfl
              rw [e]; exact hn
            · refine ((HS.out.bel.alloc (by omega) _).grown hgr4 (by rw [al_size]; omega) (fun b e => ?_)).setCell (Nat.le_refl _) _
              have := hbn b e; omega
            · have h1 := hgr4.size
              rw [al_size] at h1
              have h3 : (w4.setCell ⟨w.heap.size, j, none⟩ (.slice (some ⟨g', 0, none⟩) (Rj.length + 1) c')).heap.size = w4.heap.size := by simp [World.setCell]
              omega
          clear hj hg HST hndj hbl hRj ho4 hgr4 hor4 hal h5 hbn hsz
          go_wp2_with (at_builtin; refine wpList_ranS _ rfl _ _ 60 60 rfl _ _ _ _ rfl rfl hap ?_)
          rw [← ea]
          go_roundw
          case rel => obtain ⟨bt', ct', hF⟩ := HF.out; exact ⟨k + 1, bt', ct', by go_num, by omega, hF⟩
          case measure => simp [intOf]; omega
        · obtain rfl : k = (nx i).length := by omega
          have HE : Hid (TpI w N.length (Sp.bks nx (i + 1) 0) bt ct wr) := by
            have e : Sp.bks nx i (nx i).length = Sp.bks nx (i + 1) 0 := by funext t; rw [bks_end, bks_0]
            show TpI _ _ _ _ _ _
            rw [← e]; exact HS.out
          clear HS
          go_wp2_with fail
          go_roundw
          case rel => exact ⟨i + 1, bt, ct, by go_num, by omega, HE.out⟩
          case measure => simp [intOf]; omega
    · obtain rfl : N.length = i := by omega
      have HGk : Hid (GR wr gb N nx gn cn lo xb bl cp) := HG.out.keep HR.out.bel
      have hc0 := HGk.out.c0
      have hc1 : wr.cell? ⟨gb, 1, none⟩ = some (.map (some mb)) := by rw [World.cell?_of_block (w := w) (HR.out.bel.block gb hgl)]; exact HC1.out
      have HF : Hid (∀ W : World, W = wr.alloc (.cells #[.slice (adr gn) N.length cn, .map (some mb), .slice (some ⟨w.heap.size, 0, none⟩) N.length N.length] 72) → GRN w wr.heap.size N (Sp.bkn nx N.length) W ∧ Below w.heap.size w W) := fun W hW => by
        subst hW
        have hbl : Below wr.heap.size wr (wr.alloc (.cells #[.slice (adr gn) N.length cn, .map (some mb), .slice (some ⟨w.heap.size, 0, none⟩) N.length N.length] 72)) := (Below.refl _ _).alloc (Nat.le_refl _) _
        have hnw := heap_alloc_new wr (.cells #[.slice (adr gn) N.length cn, .map (some mb), .slice (some ⟨w.heap.size, 0, none⟩) N.length N.length] 72 (0, 0))
        have hx := HR.out.nxt
        have e : Sp.bks nx N.length 0 = Sp.bkn nx N.length := by funext t; exact bks_0 nx _ t
        rw [e] at hx
        have hbb : Below w.heap.size w (wr.alloc (.cells #[.slice (adr gn) N.length cn, .map (some mb), .slice (some ⟨w.heap.size, 0, none⟩) N.length N.length] 72)) := belT HR.out.bel hbl
        refine ⟨⟨gn, cn, w.heap.size + 1, w.heap.size, bt, ct, ?_, ⟨mb, by simp only [World.cell?, hnw]; rfl⟩, HR.out.bel.size, Nat.le_refl _, fun t g ht hg => Nat.le_of_lt (hx.lo t g ht hg)⟩, hbb⟩
        refine ⟨by simp only [World.cell?, hnw]; rfl, by simp only [World.cell?, hnw]; rfl, (HG.out.keep hbb).nds, ?_, by rw [al_size]; omega⟩
        exact hx.keep (hbl.block _ hx.lt.1) (fun t g ht hg => hbl.block g (hx.lt.2 t g ht hg))
      clear HR HGk hgl
      go_wp2_with fail
      go_region
      all_goals
        go_wp2_with fail
        go_ret
        first
          | exact ⟨_, rfl, HF.out _ rfl⟩
          | exact ⟨_, rfl, (HF.out _ rfl).1.drew, (HF.out _ rfl).2.drew⟩
end Go.Proofs.YtikhpbidbcfedaaGreat

/- graph.Edges: all edges, rising. -/
namespace Go.Proofs.YtikhpbidbcfedaaGreat
open Go.RowKit Go.ChangeMaps

def EgE (w : World) (N : List Int) (nx : Nat → List Nat) (e : Ending) (w' : World) : Prop := ∃ ge ce, e = .returned (.slice (adr ge) (Sp.eds N nx N.length 0).length ce) ∧ NdE w' ge ce (Sp.eds N nx N.length 0) ∧ (∀ g, ge = some g → w.heap.size ≤ g) ∧ Below w.heap.size w w'
structure EgI (w : World) (l : List (Int × Int)) (ge : Option Nat) (ce : Nat) (wr : World) : Prop where
  nd : NdE wr ge ce l
  nw : ∀ g, ge = some g → w.heap.size ≤ g
  bel : Below w.heap.size w wr
end Go.Proofs.YtikhpbidbcfedaaGreat

/- tenonref14.far: how far each place is. -/
namespace Go.Proofs.YtikhpbidbcfedaaGreat
open Go.RowKit Go.ChangeMaps

def Sp.dsl (L : Nat) (s : Bf) : List Int := (List.range L).map s.dst
theorem dsl_len (L : Nat) (s : Bf) : (Sp.dsl L s).length = L := by simp [Sp.dsl]
theorem dsl_at {L i : Nat} (s : Bf) (h : i < L) : (Sp.dsl L s)[i]? = some (s.dst i) := by simp [Sp.dsl, h]
theorem dsl_put {L n p k : Nat} {s : Bf} : Sp.dsl L (s.put n p k) = (Sp.dsl L s).set n (k : Int) := by
  apply List.ext_getElem?
  intro t
  rw [List.getElem?_set, dsl_len]
  by_cases ht : t < L
  · rw [dsl_at _ ht, dsl_at _ ht]
    by_cases e : n = t
    · subst e; simp [Bf.dst, Bf.put, ht]
    · rw [if_neg e]; simp [Bf.dst, Bf.put, Ne.symm e]
  · rw [List.getElem?_eq_none (by rw [dsl_len]; omega), List.getElem?_eq_none (by rw [dsl_len]; omega)]
    by_cases e : n = t
    · subst e; simp [ht]
    · simp [e]
structure FrI (w : World) (L gi : Nat) (s : Bf) (gs : Option Nat) (c : Nat) (wr : World) : Prop where
  bel : Below w.heap.size w wr
  out : OwnR wr 3 gi L L (iv (Sp.dsl L s))
  ord : NdI wr gs c (s.ord.map fun j : Nat => (j : Int))
  lo : w.heap.size ≤ gi ∧ ∀ g, gs = some g → w.heap.size ≤ g ∧ g ≠ gi
  ok : Bok L s
  lvb : ∀ x ∈ s.ord, s.lv x < s.ord.length
theorem FrI.at_ {w wr : World} {L gi : Nat} {s : Bf} {gs : Option Nat} {c : Nat} (h : FrI w L gi s gs c wr) {i : Nat} (hi : i < L) : wr.cell? ⟨gi, i, none⟩ = some (.int .i64 (s.dst i)) ∧ wr.frozen? ⟨gi, i, none⟩ = false :=
  ⟨h.out.cell (by simp [iv, dsl_at s hi]), h.out.free _⟩
theorem FrI.put {w wr w4 : World} {L gi : Nat} {s : Bf} {gs : Option Nat} {c g' c' n p k : Nat} (h : FrI w L gi s gs c wr) (hn : n < L) (hno : n ∉ s.ord) (hk : k ≤ s.ord.length)
    (ho : OwnR w4 3 g' (s.ord.length + 1) c' (iv (s.ord.map (fun j : Nat => (j : Int)) ++ [(n : Int)]))) (hg : ((wr.setCell ⟨gi, n, none⟩ (.int .i64 (k : Int))).alloc (.cells #[.int .i64 (n : Int)] 3)).grownBy w4 gs) (hor : gs = some g' ∨ (wr.setCell ⟨gi, n, none⟩ (.int .i64 (k : Int))).heap.size < g') :
    FrI w L gi (s.put n p k) (some g') c' w4 := by
  have hgl := h.out.lt
  have hs : (wr.setCell ⟨gi, n, none⟩ (.int .i64 (k : Int))).heap.size = wr.heap.size := by simp [World.setCell]
  rw [hs] at hor
  have hg' : w.heap.size ≤ g' ∧ g' ≠ gi := by
    rcases hor with h1 | h1
    · exact h.lo.2 g' h1
    · have := h.bel.size; exact ⟨by omega, by omega⟩
  have hgi : w4.heap[gi]? = (wr.setCell ⟨gi, n, none⟩ (.int .i64 (k : Int))).heap[gi]? := (hg.block gi (by rw [al_size, hs]; omega) (fun e => by have := (h.lo.2 gi e.symm).2; exact this rfl)).trans (Below.heap_alloc _ _ gi (by rw [hs]; exact hgl))
  have hb1 : Below w.heap.size w (wr.setCell ⟨gi, n, none⟩ (.int .i64 (k : Int))) := ⟨h.bel.os, h.bel.tape, h.bel.output, by rw [hs]; exact h.bel.size, fun k hk => (Below.heap_setCell wr _ _ k (show k ≠ gi by have := h.lo.1; omega)).trans (h.bel.block k hk)⟩
  have hb2 := hb1.alloc hb1.size (.cells #[.int .i64 (n : Int)] 3)
  refine ⟨hb2.grown hg hb2.size (fun k hk => (h.lo.2 k hk).1), ?_, ⟨(fun e => by cases e), fun g hgg => ?_⟩, ⟨h.lo.1, fun g hgg => ?_⟩, ?_, ?_⟩
  · have h1 := (h.out.set n (.int .i64 (k : Int))).keep hgi
    rw [dsl_put]
    rw [show iv ((Sp.dsl L s).set n (k : Int)) = (iv (Sp.dsl L s)).set n (.int .i64 (k : Int)) from List.map_set]
    exact h1
  · injection hgg with hgg; subst hgg
    have : (s.put n p k).ord = s.ord ++ [n] := rfl
    rw [this, List.map_append]
    simpa using ho
  · injection hgg with hgg; subst hgg; exact hg'
  · refine ⟨?_, fun x hx => ?_⟩
    · simp only [Bf.put, List.nodup_append]; exact ⟨h.ok.nd, by simp, fun x hx y hy => by simp at hy; subst hy; exact fun e => hno (e ▸ hx)⟩
    · simp [Bf.put] at hx; rcases hx with hx | rfl
      · exact h.ok.bd x hx
      · exact hn
  · intro x hx
    simp only [Bf.put, List.mem_append, List.mem_singleton] at hx
    simp only [Bf.put, List.length_append, List.length_singleton]
    by_cases e : x = n
    · rw [if_pos e]; omega
    · rw [if_neg e]; have := h.lvb x (hx.resolve_right e); omega
def FarE (w : World) (L : Nat) (s : Bf) (e : Ending) (w' : World) : Prop := ∃ gi, e = .returned (.slice (some ⟨gi, 0, none⟩) L L) ∧ OwnR w' 3 gi L L (iv (Sp.dsl L s)) ∧ w.heap.size ≤ gi ∧ Below w.heap.size w w'

end Go.Proofs.YtikhpbidbcfedaaGreat

/- tenonref14.least: the least of the shortest ways. -/
namespace Go.Proofs.YtikhpbidbcfedaaGreat
open Go.RowKit Go.ChangeMaps

structure DsK (nx : Nat → List Nat) (L b : Nat) (d : Nat → Int) : Prop where
  bd : ∀ x, -1 ≤ d x ∧ d x ≤ 4096
  stp : ∀ n, n < L → 0 ≤ d n → n ≠ b → ∃ v ∈ nx n, d v = d n - 1 ∧ 0 ≤ d v
  b0 : d b = 0
  lt : ∀ i, ∀ x ∈ nx i, x < L
theorem DsK.fnd {nx : Nat → List Nat} {L b : Nat} {d : Nat → Int} (H : DsK nx L b d) {n : Nat} (hn : n < L) (h0 : 0 ≤ d n) (hb : n ≠ b) : ∃ k v : Nat, (nx n)[k]? = some v ∧ d v = d n - 1 ∧ (∀ j u : Nat, j < k → (nx n)[j]? = some u → d u ≠ d n - 1) ∧ Sp.stp nx d n = v ∧ 0 ≤ d v := by
  obtain ⟨v0, h1, h2, h3⟩ := H.stp n hn h0 hb
  cases hf : (nx n).find? fun v => d v == d n - 1 with
  | none => have := List.find?_eq_none.1 hf v0 h1; simp [h2] at this
  | some v =>
    obtain ⟨hp, pre, bs, hl, hno⟩ := List.find?_eq_some_iff_append.1 hf
    have hd : d v = d n - 1 := by simpa using hp
    refine ⟨pre.length, v, by rw [hl]; simp, hd, fun j u hj hu => ?_, by unfold Sp.stp; rw [hf]; rfl, by omega⟩
    rw [hl, List.getElem?_append_left hj] at hu
    have := hno u (List.mem_of_getElem? hu)
    simpa using this
theorem lst_ne {nx : Nat → List Nat} {d : Nat → Int} {b : Nat} : ∀ f n, ∃ r, Sp.lst nx d b f n = n :: r
  | 0, n => ⟨[], rfl⟩
  | f + 1, n => by
    by_cases h : n = b
    · exact ⟨[], by rw [Sp.lst, if_pos h]⟩
    · exact ⟨_, by rw [Sp.lst, if_neg h]⟩
def LsI (nx : Nat → List Nat) (d : Nat → Int) (b a : Nat) (l : List Nat) (n f : Nat) : Prop := l ++ (Sp.lst nx d b f n).drop 1 = Sp.lst nx d b (d a).toNat a ∧ l.length + f = (d a).toNat + 1
theorem LsI.ini {nx : Nat → List Nat} {d : Nat → Int} {b a : Nat} : LsI nx d b a [a] a (d a).toNat := by
  obtain ⟨r, hr⟩ := lst_ne (nx := nx) (d := d) (b := b) (d a).toNat a
  exact ⟨by rw [hr]; rfl, by simp; omega⟩
theorem LsI.step {nx : Nat → List Nat} {d : Nat → Int} {b a n f v : Nat} {l : List Nat} (h : LsI nx d b a l n (f + 1)) (hb : n ≠ b) (hv : Sp.stp nx d n = v) : LsI nx d b a (l ++ [v]) v f := by
  obtain ⟨r, hr⟩ := lst_ne (nx := nx) (d := d) (b := b) f v
  obtain ⟨h1, h2⟩ := h
  refine ⟨?_, by rw [List.length_append, List.length_singleton]; omega⟩
  rw [Sp.lst, if_neg hb, hv] at h1
  rw [← h1, hr]; simp
theorem LsI.fin {nx : Nat → List Nat} {d : Nat → Int} {b a f : Nat} {l : List Nat} (h : LsI nx d b a l b f) (h0 : f = 0) : l = Sp.lst nx d b (d a).toNat a := by
  have := h.1; rw [h0] at this; simpa [Sp.lst] using this

end Go.Proofs.YtikhpbidbcfedaaGreat

/- tenonref14.Path: the least of the shortest ways between two nodes. -/
namespace Go.Proofs.YtikhpbidbcfedaaGreat
open Go.RowKit Go.ChangeMaps

def Sp.path (N : List Int) (nx : Nat → List Nat) (x y : Int) : Option (List Int) :=
  if x ∈ N ∧ y ∈ N then
    let t := Bf.all (Sp.bkn nx N.length) (-1) N.length [N.idxOf y]
    if N.idxOf x ∈ t.ord then some (Sp.rfs N (Sp.lst nx t.dst (N.idxOf y) (t.lv (N.idxOf x)) (N.idxOf x))) else none
  else none
def Sp.pathE (N : List Int) (x y : Int) : Int := if x ∈ N ∧ y ∈ N then 142 else 140
theorem twoW (nx : Nat → List Nat) (L a b : Nat) (hb : ∀ i, ∀ x ∈ nx i, x < L) (hlt : ∀ i, (nx i).Pairwise (· < ·)) (ha : a < L) (hbL : b < L) : TwoW nx (Sp.bkn nx L) L a b (Bf.all nx (-1) L [a]) (Bf.all (Sp.bkn nx L) (-1) L [b]) :=
  ⟨all_BI hlt hb (by simpa using ha), all_BI (fun i => bkn_lt nx L i) (fun i x hx => (bkn_mem.1 hx).1) (by simpa using hbL), fun x y hx _ => by rw [bkn_mem]; exact ⟨fun h => ⟨hx, h⟩, fun h => h.2⟩, hb, fun i x hx => (bkn_mem.1 hx).1, hlt⟩
theorem BI.lvps {nx : Nat → List Nat} {L : Nat} {wo : Int} {src : List Nat} {s : Bf} (H : BI nx wo L src s s.ord.length []) : ∀ n, ∀ x ∈ s.ord, s.ps x ≤ n → s.lv x ≤ s.ps x := by
  intro n
  induction n with
  | zero =>
    intro x hx hn
    rcases H.st x hx with ⟨_, _, h⟩ | ⟨_, h2, _⟩ <;> omega
  | succ n ih =>
    intro x hx hn
    rcases H.st x hx with ⟨_, _, h⟩ | ⟨h1, h2, _, h4, _⟩
    · omega
    · have := ih _ h1 (by omega); omega
theorem TwoW.ds {nx bk : Nat → List Nat} {L a b : Nat} {s t : Bf} (H : TwoW nx bk L a b s t) (hL : L ≤ 4096) : DsK nx L b t.dst where
  bd x := by
    unfold Bf.dst
    split
    · rename_i h
      have h1 := nd_len H.ht.nd H.ht.bd
      have h2 := H.ht.lvps _ x h (Nat.le_refl _)
      have h3 := H.ht.pslt h
      omega
    · omega
  stp n hn h0 hb := by
    have hno : n ∈ t.ord := Classical.byContradiction fun h => by simp [Bf.dst, h] at h0
    obtain ⟨y, h1, h2, h3⟩ := H.d3 hno hb
    exact ⟨y, h1, by simp [Bf.dst, hno, h2, h3], by simp [Bf.dst, h2]⟩
  b0 := by simp [Bf.dst, H.bin, H.lb]
  lt := H.nb

end Go.Proofs.YtikhpbidbcfedaaGreat


/- graph.way: the way back from a node to where the search began, turned about. -/
import Derived.Test.YtikhpbidbcfedaaGreatKk21
import Derived.Test.YtikhpbidbcfedaaGreatKk20
namespace Go.Proofs.YtikhpbidbcfedaaGreat
open Go.RowKit Go.ChangeMaps

structure RwI (w : World) (l : List Int) (g c : Nat) (wr : World) : Prop where
  row : OwnR wr 3 g l.length c (iv l)
  lo : w.heap.size ≤ g
  bel : Below w.heap.size w wr
theorem RwI.nd {w wr : World} {l : List Int} {g c : Nat} (h : RwI w l g c wr) : NdI wr (some g) c l := ⟨(fun e => by cases e), fun g' hg => by injection hg with hg; subst hg; exact h.row⟩
theorem RwI.put {w wr w4 : World} {l : List Int} {g c g' c' : Nat} {x : Int} (h : RwI w l g c wr) (ho : OwnR w4 3 g' (l.length + 1) c' (iv (l ++ [x]))) (hg : (wr.alloc (.cells #[.int .i64 x] 3)).grownBy w4 (some g)) (hor : some g = some g' ∨ wr.heap.size < g') : RwI w (l ++ [x]) g' c' w4 := by
  have hb := h.bel.alloc h.bel.size (.cells #[.int .i64 x] 3)
  refine ⟨by simpa using ho, ?_, hb.grown hg hb.size (fun k hk => by injection hk with hk; subst hk; exact h.lo)⟩
  rcases hor with h1 | h1
  · injection h1 with h1; subst h1; exact h.lo
  · have := h.bel.size; omega
def WayE (w : World) (l : List Nat) (e : Ending) (w' : World) : Prop := ∃ g c, e = .returned (.slice (some ⟨g, 0, none⟩) l.length c) ∧ OwnR w' 3 g l.length c (iv (l.map fun j : Nat => (j : Int))) ∧ w.heap.size ≤ g ∧ Below w.heap.size w w'
theorem chn_len {nx : Nat → List Nat} {wo : Int} {L : Nat} {src : List Nat} {s : Bf} (H : BI nx wo L src s s.ord.length []) {x : Nat} (hx : x ∈ s.ord) : (s.chn (s.ps x) x).length ≤ L := by
  have h := (chn_way H (s.ps x) x hx (Nat.le_refl _)).1
  have := nd_len h.nd h.bd
  simpa using this

set_option maxRecDepth 100000 in
set_option maxHeartbeats 8000000 in
theorem way_gen (L : Nat) (s : Bf) (hbd : ∀ x ∈ s.ord, x < L) (hup : ∀ x ∈ s.ord, s.bq x ≠ x → s.bq x ∈ s.ord ∧ s.ps (s.bq x) < s.ps x) (gi : Nat) (o : Value) (x0 : Nat) (w : World) (hx : x0 ∈ s.ord) (hln : (s.chn (s.ps x0) x0).length ≤ L) (ho : OwnR w 3 gi L L (iv (Sp.byl L s))) (hL : L ≤ 4096) :
    Calls Tryz.prog 33 #[.agg #[.slice (some ⟨gi, 0, none⟩) L L, o], .int .i64 (x0 : Int)] w (WayE w (s.chn (s.ps x0) x0).reverse) := by
  have HLN : Hid ((s.chn (s.ps x0) x0).length ≤ L) := hln
  have HB : Hid ((∀ x ∈ s.ord, x < L) ∧ ∀ x ∈ s.ord, s.bq x ≠ x → s.bq x ∈ s.ord ∧ s.ps (s.bq x) < s.ps x) := ⟨hbd, hup⟩
  have HO : Hid (OwnR w 3 gi L L (iv (Sp.byl L s))) := ho
  have hgi := ho.lt
  obtain ⟨T, hT⟩ : ∃ T, s.chn (s.ps x0) x0 = T := ⟨_, rfl⟩
  have HT : Hid (s.chn (s.ps x0) x0 = T) := hT
  rw [hT] at HLN ⊢
  obtain ⟨W1, hW1⟩ : ∃ W1, w.alloc (.cells #[.slice (some ⟨gi, 0, none⟩) L L, o] 65) = W1 := ⟨_, rfl⟩
  have HW1 : Hid (W1.heap[w.heap.size]? = some (.cells #[.slice (some ⟨gi, 0, none⟩) L L, o] 65 (0, 0)) ∧ W1.heap.size = w.heap.size + 1 ∧ Below w.heap.size w W1) := by
    show _ ∧ _ ∧ _
    rw [← hW1]; exact ⟨heap_alloc_new w _, al_size _ _, (Below.refl _ _).alloc (Nat.le_refl _) _⟩
  have H1 : Hid (RwI W1 [(x0 : Int)] W1.heap.size 1 (W1.alloc (.cells #[.int .i64 (x0 : Int)] 3))) := by
    refine ⟨⟨rfl, _, heap_alloc_new _ _, Nat.le_refl _, by simp [maxLen], rfl, rfl⟩, Nat.le_refl _, (Below.refl _ _).alloc (Nat.le_refl _) _⟩
  have hz : W1.heap.size = w.heap.size + 1 := HW1.out.2.1
  clear hT hbd hup hln ho
  go_enter Tryz.func33, Tryz.ntmps33
  clear hz
  go_upto_region 1 with fail
  clear hW1
  go_wp2_with fail
  go_loopw [1, 5] (fun v1 v5 wr => ∃ (x f : Nat) (pre : List Nat) (g c m : Nat), v1 = .int .i64 (x : Int) ∧ v5 = .slice (some ⟨g, 0, none⟩) m c ∧ x < L ∧ Hid (x ∈ s.ord ∧ s.ps x ≤ f ∧ pre ++ s.chn f x = T) ∧ Hid (m = pre.length + 1) ∧ Hid (RwI W1 ((pre ++ [x]).map fun j : Nat => (j : Int)) g c wr)) (fun v1 _ _ => s.ps (intOf v1).toNat)
  case atStart => exact ⟨x0, s.ps x0, [], _, _, 1, rfl, rfl, HB.out.1 x0 hx, ⟨hx, Nat.le_refl _, HT.out⟩, rfl, H1.out⟩
  case round =>
    clear H1
    obtain ⟨x, f, pre, g, c, m, rfl, rfl, hxL, HX, HM, HR⟩ := hrel
    have hxz : (x : Int) < (L : Int) := by omega
    have hbox : wr.heap[w.heap.size]? = some (.cells #[.slice (some ⟨gi, 0, none⟩) L L, o] 65 (0, 0)) := (HR.out.bel.block w.heap.size (by have := HW1.out.2.1; omega)).trans HW1.out.1
    have hc0 : wr.cell? ⟨w.heap.size, 0, none⟩ = some (.slice (some ⟨gi, 0, none⟩) L L) := by simp [World.cell?, hbox]
    have hgb : wr.heap[gi]? = w.heap[gi]? := (HR.out.bel.block gi (by have := HW1.out.2.1; omega)).trans (HW1.out.2.2.block gi hgi)
    have hcx : wr.cell? ⟨gi, x, none⟩ = some (.int .i64 (s.bq x : Int)) := by
      have := (HO.out.keep hgb).cell (t := x) (x := .int .i64 (s.bq x : Int)) (by
        simp only [iv, List.getElem?_map, byl_at s hxL, if_pos HX.out.1, Option.map_some])
      exact this
    clear hbox hgb
    by_cases hb : s.bq x = x
    · have hbz : (((s.bq x : Nat) : Int) != (x : Int)) = false := by simp [hb]
      have HTT : Hid (T = pre ++ [x]) := by
        show _ = _
        rw [← HX.out.2.2]
        cases f with
        | zero => rfl
        | succ f => rw [Bf.chn, if_pos hb]
      have hml : (T.map fun j : Nat => (j : Int)).length = m := by rw [HTT.out, HM.out]; simp
      have HV : Hid (Calls Tryz.prog 54 #[.slice (some ⟨g, 0, none⟩) m c] wr fun e w' => e = .returned (.tuple #[]) ∧ OwnR w' 3 g m c (iv (T.reverse.map fun j : Nat => (j : Int))) ∧ Below W1.heap.size W1 w') := by
        have hro : OwnR wr 3 g m c (iv (T.map fun j : Nat => (j : Int))) := by
          have := HR.out.row
          rw [← HTT.out, hml] at this; exact this
        have h1 := Tryz.slices_Reverse_int g 0 c (T.map fun j : Nat => (j : Int)) wr hro.holdsI (by have := HLN.out; simp; omega)
        rw [hml] at h1
        refine h1.mono ?_
        rintro e w' ⟨rfl, q, rfl⟩
        have hp := put_own hro (T.map fun j : Nat => (j : Int)).reverse (by rw [List.length_reverse, hml]) q #[]
        rw [Sort.grow_empty] at hp
        refine ⟨rfl, by simpa using hp.1, ?_⟩
        have hbl := HR.out.bel
        exact ⟨hp.2.1.trans hbl.os, hp.2.2.1.trans hbl.tape, hp.2.2.2.1.trans hbl.output, Nat.le_trans hbl.size hp.2.2.2.2.1, fun k hk => (hp.2.2.2.2.2 k (Nat.lt_of_lt_of_le hk hbl.size) (fun e => by injection e with e; have := HR.out.lo; omega)).trans (hbl.block k hk)⟩
      have hmT : T.length = m := by simpa using hml
      clear hml
      go_wp2_with fail
      refine HV.out.mono ?_
      rintro e w' ⟨rfl, h1, h2⟩
      have HF : Hid (OwnR w' 3 g m c (iv (T.reverse.map fun j : Nat => (j : Int))) ∧ Below w.heap.size w w') := ⟨h1, HW1.out.2.2.trans (h2.mono (by have := HW1.out.2.1; omega))⟩
      clear h1 h2
      go_wp2_with fail
      go_ret
      exact ⟨g, c, by rw [List.length_reverse, hmT]; rfl, by rw [List.length_reverse, hmT]; exact HF.out.1, by have := HR.out.lo; have := HW1.out.2.1; omega, HF.out.2⟩
    · have hbz : (((s.bq x : Nat) : Int) != (x : Int)) = true := by simp; omega
      obtain ⟨hu1, hu2⟩ := HB.out.2 _ HX.out.1 hb
      have hbL : s.bq x < L := HB.out.1 _ hu1
      have hml : ((pre ++ [x]).map fun j : Nat => (j : Int)).length = m := by rw [HM.out]; simp
      have hm4 : m ≤ 4096 := by
        have := HLN.out
        rw [← HX.out.2.2, List.length_append] at this
        have h2 : 1 ≤ (s.chn f x).length := by cases f <;> simp only [Bf.chn]; simp; split <;> simp
        rw [HM.out]; omega
      obtain ⟨g', c', w4, hap, ho4, hgr4, hor4⟩ := appI (some g) c ((pre ++ [x]).map fun j : Nat => (j : Int)) wr HR.out.nd ((s.bq x : Nat) : Int) (by rw [hml]; omega) 60
      rw [hml] at hap
      have hadg : adr (some g) = some ⟨g, 0, none⟩ := rfl
      rw [hadg] at hap
      have HF : Hid (RwI W1 (((pre ++ [x]) ++ [s.bq x]).map fun j : Nat => (j : Int)) g' c' w4) := by
        show RwI _ _ _ _ _
        have := HR.out.put ho4 hgr4 hor4
        simpa using this
      have HX2 : Hid (s.bq x ∈ s.ord ∧ s.ps (s.bq x) ≤ f - 1 ∧ (pre ++ [x]) ++ s.chn (f - 1) (s.bq x) = T) := by
        obtain ⟨f', rfl⟩ : ∃ f', f = f' + 1 := ⟨f - 1, by have := HX.out.2.1; omega⟩
        have h3 := HX.out.2.2
        rw [Bf.chn, if_neg hb] at h3
        exact ⟨hu1, by have := HX.out.2.1; omega, by simpa using h3⟩
      have HPS : Hid (s.ps (s.bq x) < s.ps x) := hu2
      clear ho4 hgr4 hor4 hu1 hu2
      go_wp2_with (at_builtin; refine wpList_ranS _ rfl _ _ 60 60 rfl _ _ _ _ rfl rfl hap ?_)
      go_roundw
      case rel => exact ⟨s.bq x, f - 1, pre ++ [x], g', c', m + 1, rfl, rfl, hbL, HX2.out, by show _ = _; rw [HM.out]; simp, HF.out⟩
      case measure => simp [intOf]; exact HPS.out
theorem way_any (nx : Nat → List Nat) (wo : Int) (L : Nat) (src : List Nat) (s : Bf) (H : BI nx wo L src s s.ord.length []) (gi : Nat) (o : Value) (x0 : Nat) (w : World) (hx : x0 ∈ s.ord) (ho : OwnR w 3 gi L L (iv (Sp.byl L s))) (hL : L ≤ 4096) :
    Calls Tryz.prog 33 #[.agg #[.slice (some ⟨gi, 0, none⟩) L L, o], .int .i64 (x0 : Int)] w (WayE w (s.chn (s.ps x0) x0).reverse) :=
  way_gen L s H.bd (fun _ hx hb => ⟨(H.up hx hb).1, (H.up hx hb).2.1⟩) gi o x0 w hx (chn_len H hx) ho hL
end Go.Proofs.YtikhpbidbcfedaaGreat

/- Plain mathematics: a search that keeps to what is not less than where it begins, and the ring that it closes. -/
namespace Go.Proofs.YtikhpbidbcfedaaGreat

def Sp.ge (nx : Nat → List Nat) (a i : Nat) : List Nat := (nx i).filter fun x => decide (a ≤ x)
theorem ge_mem {nx : Nat → List Nat} {a i x : Nat} : x ∈ Sp.ge nx a i ↔ x ∈ nx i ∧ a ≤ x := by simp [Sp.ge]
def Sp.rs (nx : Nat → List Nat) (L a : Nat) : Bf := Bf.all (Sp.ge nx a) (-1) L [a]
def Sp.rfm (nx : Nat → List Nat) (L a : Nat) : List Nat :=
  match (Sp.rs nx L a).ord.find? (fun p => decide (a ∈ nx p)) with
  | some p => ((Sp.rs nx L a).chn ((Sp.rs nx L a).ps p) p).reverse
  | none => []
def Sp.rgs (nx : Nat → List Nat) (L : Nat) : Nat → List Nat
  | 0 => []
  | k + 1 => if Sp.rfm nx L k ≠ [] ∧ (Sp.rgs nx L k = [] ∨ (Sp.rfm nx L k).length < (Sp.rgs nx L k).length) then Sp.rfm nx L k else Sp.rgs nx L k

section
variable {nx : Nat → List Nat} {L a : Nat}
theorem rs_BI (hlt : ∀ i, (nx i).Pairwise (· < ·)) (hb : ∀ i, ∀ x ∈ nx i, x < L) (ha : a < L) : BI (Sp.ge nx a) (-1) L [a] (Sp.rs nx L a) (Sp.rs nx L a).ord.length [] :=
  all_BI (fun i => (hlt i).filter _) (fun i x hx => hb i x (ge_mem.1 hx).1) (by simpa using ha)
structure Rng (nx : Nat → List Nat) (L a : Nat) (r : List Nat) : Prop where
  way : ∃ p, WayF (Sp.ge nx a) L [a] p r ∧ a ∈ nx p
  ge : ∀ x ∈ r, a ≤ x
theorem rfm_rng (hlt : ∀ i, (nx i).Pairwise (· < ·)) (hb : ∀ i, ∀ x ∈ nx i, x < L) (ha : a < L) (h : Sp.rfm nx L a ≠ []) : Rng nx L a (Sp.rfm nx L a) := by
  have H := rs_BI hlt hb ha
  unfold Sp.rfm at h ⊢
  cases hf : (Sp.rs nx L a).ord.find? (fun p => decide (a ∈ nx p)) with
  | none => rw [hf] at h; exact absurd rfl h
  | some p =>
    have hp := List.mem_of_find?_eq_some hf
    have hq : a ∈ nx p := by simpa using List.find?_some hf
    have hw := (chn_way H ((Sp.rs nx L a).ps p) p hp (Nat.le_refl _)).1
    dsimp only
    refine ⟨⟨p, hw, hq⟩, fun x hx => ?_⟩
    obtain ⟨i, hi, e⟩ := List.mem_iff_getElem.1 hx
    cases i with
    | zero => have := hw.hd x (by rw [List.getElem?_eq_getElem hi, e]); simp at this; exact Nat.le_of_eq this.symm
    | succ i => exact (ge_mem.1 (hw.ed i _ x (List.getElem?_eq_getElem (Nat.lt_of_succ_lt hi)) (by rw [List.getElem?_eq_getElem hi, e]))).2
theorem WayF.wide {nx' : Nat → List Nat} {src : List Nat} {b : Nat} {w : List Nat} (h : WayF nx' L src b w) (hs : ∀ i, ∀ x ∈ nx' i, x ∈ nx i) : WayF nx L src b w := ⟨h.nd, h.hd, h.ne, fun i x y h1 h2 => hs _ _ (h.ed i x y h1 h2), h.la, h.bd⟩
end
end Go.Proofs.YtikhpbidbcfedaaGreat

/- Plain mathematics: no way back by an edge is shorter than the ring, and from each node of the ring it is as long. -/
namespace Go.Proofs.YtikhpbidbcfedaaGreat

section
variable {nx : Nat → List Nat} {L : Nat}
end
end Go.Proofs.YtikhpbidbcfedaaGreat

/- Plain mathematics: a search under way tells what it tells at its end. -/
namespace Go.Proofs.YtikhpbidbcfedaaGreat

structure Ext (s t : Bf) : Prop where
  pre : ∀ {i x : Nat}, s.ord[i]? = some x → t.ord[i]? = some x
  bq : ∀ {x : Nat}, x ∈ s.ord → t.bq x = s.bq x
  ps : ∀ {x : Nat}, x ∈ s.ord → t.ps x = s.ps x
theorem Ext.refl (s : Bf) : Ext s s := ⟨id, fun _ => rfl, fun _ => rfl⟩
theorem Ext.mem {s t : Bf} (h : Ext s t) {x : Nat} (hx : x ∈ s.ord) : x ∈ t.ord := by
  obtain ⟨i, hi, e⟩ := List.mem_iff_getElem.1 hx
  exact List.mem_of_getElem? (h.pre (i := i) (x := x) (by rw [List.getElem?_eq_getElem hi, e]))
theorem Ext.trans {s t u : Bf} (h : Ext s t) (k : Ext t u) : Ext s u := ⟨fun hx => k.pre (h.pre hx), fun hx => (k.bq (h.mem hx)).trans (h.bq hx), fun hx => (k.ps (h.mem hx)).trans (h.ps hx)⟩
theorem Ext.met (wo : Int) (s : Bf) (n p k : Nat) : Ext s (s.met wo n p k) := by
  unfold Bf.met
  split
  · rename_i hc
    refine ⟨fun {i x} hx => ?_, fun {x} hx => ?_, fun {x} hx => ?_⟩
    · simp only [Bf.put]; rw [List.getElem?_append_left (List.getElem?_eq_some_iff.1 hx).1]; exact hx
    · have : x ≠ n := fun e => hc.2 (e ▸ hx)
      simp [Bf.put, this]
    · have : x ≠ n := fun e => hc.2 (e ▸ hx)
      simp [Bf.put, this]
  · exact Ext.refl s
theorem Ext.row (wo : Int) (p : Nat) : ∀ (l : List Nat) (s : Bf), Ext s (Bf.row wo p l s)
  | [], s => Ext.refl s
  | n :: l, s => by rw [Bf.row]; exact (Ext.met wo s n p _).trans (Ext.row wo p l _)
theorem Ext.rnd {nx : Nat → List Nat} {wo : Int} {s0 : Bf} (k : Nat) : ∀ j, Ext (Bf.rnd nx wo s0 k) (Bf.rnd nx wo s0 (k + j))
  | 0 => Ext.refl _
  | j + 1 => by
    refine (Ext.rnd k j).trans ?_
    show Ext _ (Bf.rnd nx wo s0 (k + j + 1))
    rw [Bf.rnd]
    split
    · exact Ext.row _ _ _ _
    · exact Ext.refl _
theorem Ext.chn {s t : Bf} (h : Ext s t) (hup : ∀ x ∈ s.ord, s.bq x ≠ x → s.bq x ∈ s.ord) : ∀ f x, x ∈ s.ord → t.chn f x = s.chn f x
  | 0, x, hx => rfl
  | f + 1, x, hx => by
    rw [Bf.chn, Bf.chn, h.bq hx]
    by_cases e : s.bq x = x
    · rw [if_pos e, if_pos e]
    · rw [if_neg e, if_neg e, Ext.chn h hup f _ (hup x hx e)]

def Bok0 (L : Nat) (s : Bf) : Prop := s.ord.Nodup ∧ ∀ x ∈ s.ord, x < L
section
variable {nx : Nat → List Nat} {L a : Nat}
def Sp.rk (nx : Nat → List Nat) (a k : Nat) : Bf := Bf.rnd (Sp.ge nx a) (-1) (Bf.ini (-1) [a] Bf.no) k
theorem rk_00 : Sp.rk nx a 0 = Bf.no.put a a 0 := by
  have : ((a : Int) ≠ -1) := by omega
  simp [Sp.rk, Bf.rnd, Bf.ini, Bf.met, Bf.no, this]
theorem rk_next {k p : Nat} (h : (Sp.rk nx a k).ord[k]? = some p) : Sp.rk nx a (k + 1) = Bf.row (-1) p (Sp.ge nx a p) (Sp.rk nx a k) := by
  have h1 := (List.getElem?_eq_some_iff.1 h).1
  unfold Sp.rk at h h1 ⊢
  rw [Bf.rnd, if_pos h1]
  have : (Bf.rnd (Sp.ge nx a) (-1) (Bf.ini (-1) [a] Bf.no) k).ord.getD k 0 = p := by rw [List.getD_eq_getElem?_getD, h]; rfl
  rw [this]
theorem rk_all {k : Nat} (hk : k ≤ L) : Ext (Sp.rk nx a k) (Sp.rs nx L a) := by
  have := Ext.rnd (nx := Sp.ge nx a) (wo := -1) (s0 := Bf.ini (-1) [a] Bf.no) k (L - k)
  rwa [show k + (L - k) = L by omega] at this
theorem rk_wy (hlt : ∀ i, (nx i).Pairwise (· < ·)) (hb : ∀ i, ∀ x ∈ nx i, x < L) (ha : a < L) (k : Nat) : (∀ x ∈ (Sp.rk nx a k).ord, x < L) ∧ (∀ x ∈ (Sp.rk nx a k).ord, (Sp.rk nx a k).bq x ≠ x → (Sp.rk nx a k).bq x ∈ (Sp.rk nx a k).ord ∧ (Sp.rk nx a k).ps ((Sp.rk nx a k).bq x) < (Sp.rk nx a k).ps x) ∧ (∀ x ∈ (Sp.rk nx a k).ord, (Sp.rk nx a k).ord[(Sp.rk nx a k).ps x]? = some x) ∧ (Sp.rk nx a k).ord.Nodup := by
  obtain ⟨at_, H, _⟩ := rnd_BI (nx := Sp.ge nx a) (wo := -1) (L := L) (src := [a]) (fun i => (hlt i).filter _) (fun i x hx => hb i x (ge_mem.1 hx).1) (by simpa using ha) k
  refine ⟨H.bd, fun x hx hne => ?_, H.pl, H.nd⟩
  rcases H.st x hx with ⟨_, h, _⟩ | ⟨h1, h2, _⟩
  · exact absurd h hne
  · exact ⟨h1, h2⟩
theorem rk_end {k : Nat} (h : (Sp.rk nx a k).ord.length ≤ k) (hk : k ≤ L) : Sp.rs nx L a = Sp.rk nx a k := rnd_end h hk
theorem rk_chn (hlt : ∀ i, (nx i).Pairwise (· < ·)) (hb : ∀ i, ∀ x ∈ nx i, x < L) (ha : a < L) {k : Nat} (hk : k ≤ L) {x : Nat} (hx : x ∈ (Sp.rk nx a k).ord) : ((Sp.rk nx a k).chn ((Sp.rk nx a k).ps x) x).length ≤ L := by
  have hE := rk_all (nx := nx) (a := a) hk
  have hw := rk_wy hlt hb ha k
  have H := rs_BI hlt hb ha
  rw [← hE.chn (fun y hy hne => (hw.2.1 y hy hne).1) _ _ hx, ← hE.ps hx]
  have h := (chn_way H ((Sp.rs nx L a).ps x) x (hE.mem hx) (Nat.le_refl _)).1
  have := nd_len h.nd h.bd
  simpa using this
theorem rk_ext (k : Nat) : Ext (Sp.rk nx a k) (Sp.rk nx a (k + 1)) := Ext.rnd k 1
def Sp.nbk (nx : Nat → List Nat) (a k : Nat) : Prop := ∀ (i x : Nat), i < k → (Sp.rk nx a k).ord[i]? = some x → a ∉ nx x
theorem nbk_0 : Sp.nbk nx a 0 := fun i x h => by omega
theorem nbk_next {k p : Nat} (h : Sp.nbk nx a k) (hp : (Sp.rk nx a k).ord[k]? = some p) (hq : a ∉ nx p) : Sp.nbk nx a (k + 1) := fun i x hi hx => by
  have hE := rk_ext (nx := nx) (a := a) k
  have hk := (List.getElem?_eq_some_iff.1 hp).1
  have h1 := List.getElem?_eq_getElem (l := (Sp.rk nx a k).ord) (i := i) (by omega)
  have h2 := hE.pre h1
  rw [hx] at h2
  injection h2 with h2
  subst h2
  rcases Nat.lt_or_ge i k with h3 | h3
  · exact h i _ h3 h1
  · have : i = k := by omega
    subst this
    rw [hp] at h1; injection h1 with h1; rw [← h1]; exact hq
theorem find_at {l : List Nat} {q : Nat → Bool} : ∀ {k p : Nat}, l[k]? = some p → q p = true → (∀ (i x : Nat), i < k → l[i]? = some x → q x = false) → l.find? q = some p := by
  induction l with
  | nil => intro k p h; simp at h
  | cons y l ih =>
    intro k p h hq hn
    rw [List.find?_cons]
    cases k with
    | zero => simp at h; subst h; rw [hq]
    | succ k =>
      rw [hn 0 y (by omega) rfl]
      exact ih (by simpa using h) hq fun i x hi hx => hn (i + 1) x (by omega) (by simpa using hx)
theorem rfm_found (hlt : ∀ i, (nx i).Pairwise (· < ·)) (hb : ∀ i, ∀ x ∈ nx i, x < L) (ha : a < L) {k p : Nat} (hk : k ≤ L) (hp : (Sp.rk nx a k).ord[k]? = some p) (hq : a ∈ nx p) (hn : ∀ (i x : Nat), i < k → (Sp.rk nx a k).ord[i]? = some x → a ∉ nx x) : Sp.rfm nx L a = ((Sp.rk nx a k).chn ((Sp.rk nx a k).ps p) p).reverse := by
  have hE := rk_all (nx := nx) (a := a) hk
  have hw := rk_wy hlt hb ha k
  have hm := List.mem_of_getElem? hp
  have hkl := (List.getElem?_eq_some_iff.1 hp).1
  have hf : (Sp.rs nx L a).ord.find? (fun p => decide (a ∈ nx p)) = some p := by
    refine find_at (hE.pre hp) (by simpa using hq) fun i x hi hx => ?_
    have h1 := List.getElem?_eq_getElem (l := (Sp.rk nx a k).ord) (i := i) (by omega)
    have h2 := hE.pre h1
    rw [hx] at h2
    have := hn i x hi (by rw [h1]; exact h2.symm)
    simpa using this
  unfold Sp.rfm
  rw [hf]
  dsimp only
  rw [hE.ps hm, hE.chn (fun x hx hne => (hw.2.1 x hx hne).1) _ _ hm]
theorem rfm_no {k : Nat} (hk : k ≤ L) (h : (Sp.rk nx a k).ord.length ≤ k) (hn : ∀ (i x : Nat), i < k → (Sp.rk nx a k).ord[i]? = some x → a ∉ nx x) : Sp.rfm nx L a = [] := by
  unfold Sp.rfm
  rw [rk_end h hk]
  have : (Sp.rk nx a k).ord.find? (fun p => decide (a ∈ nx p)) = none := by
    rw [List.find?_eq_none]
    intro x hx
    obtain ⟨i, hi, e⟩ := List.mem_iff_getElem.1 hx
    have := hn i x (by omega) (by rw [List.getElem?_eq_getElem hi, e])
    simpa using this
  rw [this]
theorem ge_take {j n : Nat} {p : Nat} (h : (nx p)[j]? = some n) (hn : a ≤ n) (s : Bf) : Bf.row (-1) p (((nx p).take (j + 1)).filter fun x => decide (a ≤ x)) s = (Bf.row (-1) p (((nx p).take j).filter fun x => decide (a ≤ x)) s).met (-1) n p ((Bf.row (-1) p (((nx p).take j).filter fun x => decide (a ≤ x)) s).lv p + 1) := by
  rw [List.take_add_one, h, List.filter_append]
  have : (some n).toList.filter (fun x => decide (a ≤ x)) = [n] := by simp [hn]
  rw [this]
  generalize ((nx p).take j).filter (fun x => decide (a ≤ x)) = l
  induction l generalizing s with
  | nil => rfl
  | cons y l ih => rw [List.cons_append, Bf.row, ih, Bf.row]
theorem ge_less {j n : Nat} {p : Nat} (h : (nx p)[j]? = some n) (hn : ¬ a ≤ n) : ((nx p).take (j + 1)).filter (fun x => decide (a ≤ x)) = ((nx p).take j).filter fun x => decide (a ≤ x) := by
  rw [List.take_add_one, h, List.filter_append]
  have : (some n).toList.filter (fun x => decide (a ≤ x)) = [] := by simp [hn]
  rw [this, List.append_nil]
def Sp.rj (nx : Nat → List Nat) (a k p j : Nat) : Bf := Bf.row (-1) p (((nx p).take j).filter fun x => decide (a ≤ x)) (Sp.rk nx a k)
theorem rj_ext (nx : Nat → List Nat) (a k p j : Nat) : Ext (Sp.rk nx a k) (Sp.rj nx a k p j) := Ext.row _ _ _ _
theorem rj_0 (nx : Nat → List Nat) (a k p : Nat) : Sp.rj nx a k p 0 = Sp.rk nx a k := by simp [Sp.rj, Bf.row]
theorem rj_end {k p : Nat} (h : (Sp.rk nx a k).ord[k]? = some p) : Sp.rj nx a k p (nx p).length = Sp.rk nx a (k + 1) := by
  rw [rk_next h, Sp.rj, List.take_of_length_le (Nat.le_refl _)]; rfl
theorem rj_ok (hb : ∀ i, ∀ x ∈ nx i, x < L) {k p j : Nat} (h : Bok0 L (Sp.rk nx a k)) : Bok0 L (Sp.rj nx a k p j) := by
  unfold Sp.rj
  have : ∀ x ∈ ((nx p).take j).filter (fun x => decide (a ≤ x)), x < L := fun x hx => hb p x (List.mem_of_mem_take (List.mem_filter.1 hx).1)
  revert this h
  generalize ((nx p).take j).filter (fun x => decide (a ≤ x)) = l
  generalize Sp.rk nx a k = s
  induction l generalizing s with
  | nil => intro h _; exact h
  | cons n l ih =>
    intro h hl
    rw [Bf.row]
    refine ih _ ?_ (fun x hx => hl x (by simp [hx]))
    unfold Bf.met
    split
    · rename_i hc
      refine ⟨?_, fun x hx => ?_⟩
      · simp only [Bf.put, List.nodup_append]; exact ⟨h.1, by simp, fun x hx y hy => by simp at hy; subst hy; exact fun e => hc.2 (e ▸ hx)⟩
      · simp [Bf.put] at hx; rcases hx with hx | rfl
        · exact h.2 x hx
        · exact hl _ (by simp)
    · exact h
theorem ge_none {j p : Nat} (hlt : (nx p).Pairwise (· < ·)) (h : (nx p)[j]? = some a) : ((nx p).take j).filter (fun x => decide (a ≤ x)) = [] := by
  rw [List.filter_eq_nil_iff]
  intro x hx
  obtain ⟨i, hi, e⟩ := List.mem_iff_getElem.1 hx
  rw [List.length_take] at hi
  rw [List.getElem_take] at e
  have hj := List.getElem?_eq_some_iff.1 h
  have := List.pairwise_iff_getElem.1 hlt i j (by omega) hj.1 (by omega)
  rw [e, hj.2] at this
  simp; omega
theorem rj_put {k p j n : Nat} (hx : (nx p)[j]? = some n) (hn : a ≤ n) (hno : n ∉ (Sp.rj nx a k p j).ord) : ∃ q, Sp.rj nx a k p (j + 1) = (Sp.rj nx a k p j).put n p q := by
  refine ⟨(Sp.rj nx a k p j).lv p + 1, (ge_take hx hn (Sp.rk nx a k)).trans ?_⟩
  unfold Bf.met
  exact if_pos ⟨nn, hno⟩
theorem rj_old {k p j n : Nat} (hx : (nx p)[j]? = some n) (h : ¬ a ≤ n ∨ n ∈ (Sp.rj nx a k p j).ord) : Sp.rj nx a k p (j + 1) = Sp.rj nx a k p j := by
  by_cases hn : a ≤ n
  · refine (ge_take hx hn (Sp.rk nx a k)).trans ?_
    unfold Bf.met
    exact if_neg fun hc => hc.2 (h.resolve_left fun h => h hn)
  · unfold Sp.rj; rw [ge_less hx hn]
theorem rj_first {k p j : Nat} (hlt : (nx p).Pairwise (· < ·)) (h : (nx p)[j]? = some a) : Sp.rj nx a k p j = Sp.rk nx a k := by
  unfold Sp.rj; rw [ge_none hlt h]; rfl
end
end Go.Proofs.YtikhpbidbcfedaaGreat


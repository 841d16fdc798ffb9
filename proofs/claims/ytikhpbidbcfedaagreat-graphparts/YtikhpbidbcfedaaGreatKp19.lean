/- Plain mathematics: a search under way tells what it tells at its end. -/
import Derived.Test.YtikhpbidbcfedaaGreatKp18
import Derived.Defers
namespace Go.Proofs.YtikhpbidbcfedaaGreat

structure Ext (s t : Bf) : Prop where
  pre : ∀ {i x : Nat}, s.ord[i]? = some x → t.ord[i]? = some x
  bq : ∀ {x : Nat}, x ∈ s.ord → t.bq x = s.bq x
  ps : ∀ {x : Nat}, x ∈ s.ord → t.ps x = s.ps x
theorem Ext.refl (s : Bf) : Ext s s := ⟨id, fun _ => rfl, fun _ => rfl⟩
theorem Ext.mem {s t : Bf} (h : Ext s t) {x : Nat} (hx : x ∈ s.ord) : x ∈ t.ord := by
  obtain ⟨i, hi, e⟩ := List.mem_iff_getElem.1 hx
  exact List.mem_of_getElem? (h.pre (i := i) (x := x) (by rw [List.getElem?_eq_getElem hi, e]))
theorem Ext.trans {s t u : Bf} (h : Ext s t) (k : Ext t u) : Ext s u := ⟨fun hx => k.pre (h.pre hx), fun hx => (k.bq (h.mem hx)).trans (h.bq hx), fun hx => (k.ps (h.mem hx)).trans (h.ps hx)⟩
theorem Ext.met (wo : Int) (s : Bf) (n p k : Nat) : Ext s (s.met wo n p k) := by
  unfold Bf.met
  split
  · rename_i hc
    refine ⟨fun {i x} hx => ?_, fun {x} hx => ?_, fun {x} hx => ?_⟩
    · simp only [Bf.put]; rw [List.getElem?_append_left (List.getElem?_eq_some_iff.1 hx).1]; exact hx
    · have : x ≠ n := fun e => hc.2 (e ▸ hx)
      simp [Bf.put, this]
    · have : x ≠ n := fun e => hc.2 (e ▸ hx)
      simp [Bf.put, this]
  · exact Ext.refl s
theorem Ext.row (wo : Int) (p : Nat) : ∀ (l : List Nat) (s : Bf), Ext s (Bf.row wo p l s)
  | [], s => Ext.refl s
  | n :: l, s => by rw [Bf.row]; exact (Ext.met wo s n p _).trans (Ext.row wo p l _)
theorem Ext.rnd {nx : Nat → List Nat} {wo : Int} {s0 : Bf} (k : Nat) : ∀ j, Ext (Bf.rnd nx wo s0 k) (Bf.rnd nx wo s0 (k + j))
  | 0 => Ext.refl _
  | j + 1 => by
    refine (Ext.rnd k j).trans ?_
    show Ext _ (Bf.rnd nx wo s0 (k + j + 1))
    rw [Bf.rnd]
    split
    · exact Ext.row _ _ _ _
    · exact Ext.refl _
theorem Ext.chn {s t : Bf} (h : Ext s t) (hup : ∀ x ∈ s.ord, s.bq x ≠ x → s.bq x ∈ s.ord) : ∀ f x, x ∈ s.ord → t.chn f x = s.chn f x
  | 0, x, hx => rfl
  | f + 1, x, hx => by
    rw [Bf.chn, Bf.chn, h.bq hx]
    by_cases e : s.bq x = x
    · rw [if_pos e, if_pos e]
    · rw [if_neg e, if_neg e, Ext.chn h hup f _ (hup x hx e)]

def Bok0 (L : Nat) (s : Bf) : Prop := s.ord.Nodup ∧ ∀ x ∈ s.ord, x < L
section
variable {nx : Nat → List Nat} {L a : Nat}
def Sp.rk (nx : Nat → List Nat) (a k : Nat) : Bf := Bf.rnd (Sp.ge nx a) (-1) (Bf.ini (-1) [a] Bf.no) k
theorem rk_00 : Sp.rk nx a 0 = Bf.no.put a a 0 := by
  have : ((a : Int) ≠ -1) := by omega
  simp [Sp.rk, Bf.rnd, Bf.ini, Bf.met, Bf.no, this]
theorem rk_next {k p : Nat} (h : (Sp.rk nx a k).ord[k]? = some p) : Sp.rk nx a (k + 1) = Bf.row (-1) p (Sp.ge nx a p) (Sp.rk nx a k) := by
  have h1 := (List.getElem?_eq_some_iff.1 h).1
  unfold Sp.rk at h h1 ⊢
  rw [Bf.rnd, if_pos h1]
  have : (Bf.rnd (Sp.ge nx a) (-1) (Bf.ini (-1) [a] Bf.no) k).ord.getD k 0 = p := by rw [List.getD_eq_getElem?_getD, h]; rfl
  rw [this]
theorem rk_all {k : Nat} (hk : k ≤ L) : Ext (Sp.rk nx a k) (Sp.rs nx L a) := by
  have := Ext.rnd (nx := Sp.ge nx a) (wo := -1) (s0 := Bf.ini (-1) [a] Bf.no) k (L - k)
  rwa [show k + (L - k) = L by omega] at this
theorem rk_wy (hlt : ∀ i, (nx i).Pairwise (· < ·)) (hb : ∀ i, ∀ x ∈ nx i, x < L) (ha : a < L) (k : Nat) : (∀ x ∈ (Sp.rk nx a k).ord, x < L) ∧ (∀ x ∈ (Sp.rk nx a k).ord, (Sp.rk nx a k).bq x ≠ x → (Sp.rk nx a k).bq x ∈ (Sp.rk nx a k).ord ∧ (Sp.rk nx a k).ps ((Sp.rk nx a k).bq x) < (Sp.rk nx a k).ps x) ∧ (∀ x ∈ (Sp.rk nx a k).ord, (Sp.rk nx a k).ord[(Sp.rk nx a k).ps x]? = some x) ∧ (Sp.rk nx a k).ord.Nodup := by
  obtain ⟨at_, H, _⟩ := rnd_BI (nx := Sp.ge nx a) (wo := -1) (L := L) (src := [a]) (fun i => (hlt i).filter _) (fun i x hx => hb i x (ge_mem.1 hx).1) (by simpa using ha) k
  refine ⟨H.bd, fun x hx hne => ?_, H.pl, H.nd⟩
  rcases H.st x hx with ⟨_, h, _⟩ | ⟨h1, h2, _⟩
  · exact absurd h hne
  · exact ⟨h1, h2⟩
theorem rk_end {k : Nat} (h : (Sp.rk nx a k).ord.length ≤ k) (hk : k ≤ L) : Sp.rs nx L a = Sp.rk nx a k := rnd_end h hk
theorem rk_chn (hlt : ∀ i, (nx i).Pairwise (· < ·)) (hb : ∀ i, ∀ x ∈ nx i, x < L) (ha : a < L) {k : Nat} (hk : k ≤ L) {x : Nat} (hx : x ∈ (Sp.rk nx a k).ord) : ((Sp.rk nx a k).chn ((Sp.rk nx a k).ps x) x).length ≤ L := by
  have hE := rk_all (nx := nx) (a := a) hk
  have hw := rk_wy hlt hb ha k
  have H := rs_BI hlt hb ha
  rw [← hE.chn (fun y hy hne => (hw.2.1 y hy hne).1) _ _ hx, ← hE.ps hx]
  have h := (chn_way H ((Sp.rs nx L a).ps x) x (hE.mem hx) (Nat.le_refl _)).1
  have := nd_len h.nd h.bd
  simpa using this
theorem rk_ext (k : Nat) : Ext (Sp.rk nx a k) (Sp.rk nx a (k + 1)) := Ext.rnd k 1
def Sp.nbk (nx : Nat → List Nat) (a k : Nat) : Prop := ∀ (i x : Nat), i < k → (Sp.rk nx a k).ord[i]? = some x → a ∉ nx x
theorem nbk_0 : Sp.nbk nx a 0 := fun i x h => by omega
theorem nbk_next {k p : Nat} (h : Sp.nbk nx a k) (hp : (Sp.rk nx a k).ord[k]? = some p) (hq : a ∉ nx p) : Sp.nbk nx a (k + 1) := fun i x hi hx => by
  have hE := rk_ext (nx := nx) (a := a) k
  have hk := (List.getElem?_eq_some_iff.1 hp).1
  have h1 := List.getElem?_eq_getElem (l := (Sp.rk nx a k).ord) (i := i) (by omega)
  have h2 := hE.pre h1
  rw [hx] at h2
  injection h2 with h2
  subst h2
  rcases Nat.lt_or_ge i k with h3 | h3
  · exact h i _ h3 h1
  · have : i = k := by omega
    subst this
    rw [hp] at h1; injection h1 with h1; rw [← h1]; exact hq
theorem find_at {l : List Nat} {q : Nat → Bool} : ∀ {k p : Nat}, l[k]? = some p → q p = true → (∀ (i x : Nat), i < k → l[i]? = some x → q x = false) → l.find? q = some p := by
  induction l with
  | nil => intro k p h; simp at h
  | cons y l ih =>
    intro k p h hq hn
    rw [List.find?_cons]
    cases k with
    | zero => simp at h; subst h; rw [hq]
    | succ k =>
      rw [hn 0 y (by omega) rfl]
      exact ih (by simpa using h) hq fun i x hi hx => hn (i + 1) x (by omega) (by simpa using hx)
theorem rfm_found (hlt : ∀ i, (nx i).Pairwise (· < ·)) (hb : ∀ i, ∀ x ∈ nx i, x < L) (ha : a < L) {k p : Nat} (hk : k ≤ L) (hp : (Sp.rk nx a k).ord[k]? = some p) (hq : a ∈ nx p) (hn : ∀ (i x : Nat), i < k → (Sp.rk nx a k).ord[i]? = some x → a ∉ nx x) : Sp.rfm nx L a = ((Sp.rk nx a k).chn ((Sp.rk nx a k).ps p) p).reverse := by
  have hE := rk_all (nx := nx) (a := a) hk
  have hw := rk_wy hlt hb ha k
  have hm := List.mem_of_getElem? hp
  have hkl := (List.getElem?_eq_some_iff.1 hp).1
  have hf : (Sp.rs nx L a).ord.find? (fun p => decide (a ∈ nx p)) = some p := by
    refine find_at (hE.pre hp) (by simpa using hq) fun i x hi hx => ?_
    have h1 := List.getElem?_eq_getElem (l := (Sp.rk nx a k).ord) (i := i) (by omega)
    have h2 := hE.pre h1
    rw [hx] at h2
    have := hn i x hi (by rw [h1]; exact h2.symm)
    simpa using this
  unfold Sp.rfm
  rw [hf]
  dsimp only
  rw [hE.ps hm, hE.chn (fun x hx hne => (hw.2.1 x hx hne).1) _ _ hm]
theorem rfm_no {k : Nat} (hk : k ≤ L) (h : (Sp.rk nx a k).ord.length ≤ k) (hn : ∀ (i x : Nat), i < k → (Sp.rk nx a k).ord[i]? = some x → a ∉ nx x) : Sp.rfm nx L a = [] := by
  unfold Sp.rfm
  rw [rk_end h hk]
  have : (Sp.rk nx a k).ord.find? (fun p => decide (a ∈ nx p)) = none := by
    rw [List.find?_eq_none]
    intro x hx
    obtain ⟨i, hi, e⟩ := List.mem_iff_getElem.1 hx
    have := hn i x (by omega) (by rw [List.getElem?_eq_getElem hi, e])
    simpa using this
  rw [this]
theorem ge_take {j n : Nat} {p : Nat} (h : (nx p)[j]? = some n) (hn : a ≤ n) (s : Bf) : Bf.row (-1) p (((nx p).take (j + 1)).filter fun x => decide (a ≤ x)) s = (Bf.row (-1) p (((nx p).take j).filter fun x => decide (a ≤ x)) s).met (-1) n p ((Bf.row (-1) p (((nx p).take j).filter fun x => decide (a ≤ x)) s).lv p + 1) := by
  rw [List.take_add_one, h, List.filter_append]
  have : (some n).toList.filter (fun x => decide (a ≤ x)) = [n] := by simp [hn]
  rw [this]
  generalize ((nx p).take j).filter (fun x => decide (a ≤ x)) = l
  induction l generalizing s with
  | nil => rfl
  | cons y l ih => rw [List.cons_append, Bf.row, ih, Bf.row]
theorem ge_less {j n : Nat} {p : Nat} (h : (nx p)[j]? = some n) (hn : ¬ a ≤ n) : ((nx p).take (j + 1)).filter (fun x => decide (a ≤ x)) = ((nx p).take j).filter fun x => decide (a ≤ x) := by
  rw [List.take_add_one, h, List.filter_append]
  have : (some n).toList.filter (fun x => decide (a ≤ x)) = [] := by simp [hn]
  rw [this, List.append_nil]
def Sp.rj (nx : Nat → List Nat) (a k p j : Nat) : Bf := Bf.row (-1) p (((nx p).take j).filter fun x => decide (a ≤ x)) (Sp.rk nx a k)
theorem rj_ext (nx : Nat → List Nat) (a k p j : Nat) : Ext (Sp.rk nx a k) (Sp.rj nx a k p j) := Ext.row _ _ _ _
theorem rj_0 (nx : Nat → List Nat) (a k p : Nat) : Sp.rj nx a k p 0 = Sp.rk nx a k := by simp [Sp.rj, Bf.row]
theorem rj_end {k p : Nat} (h : (Sp.rk nx a k).ord[k]? = some p) : Sp.rj nx a k p (nx p).length = Sp.rk nx a (k + 1) := by
  rw [rk_next h, Sp.rj, List.take_of_length_le (Nat.le_refl _)]; rfl
theorem rj_ok (hb : ∀ i, ∀ x ∈ nx i, x < L) {k p j : Nat} (h : Bok0 L (Sp.rk nx a k)) : Bok0 L (Sp.rj nx a k p j) := by
  unfold Sp.rj
  have : ∀ x ∈ ((nx p).take j).filter (fun x => decide (a ≤ x)), x < L := fun x hx => hb p x (List.mem_of_mem_take (List.mem_filter.1 hx).1)
  revert this h
  generalize ((nx p).take j).filter (fun x => decide (a ≤ x)) = l
  generalize Sp.rk nx a k = s
  induction l generalizing s with
  | nil => intro h _; exact h
  | cons n l ih =>
    intro h hl
    rw [Bf.row]
    refine ih _ ?_ (fun x hx => hl x (by simp [hx]))
    unfold Bf.met
    split
    · rename_i hc
      refine ⟨?_, fun x hx => ?_⟩
      · simp only [Bf.put, List.nodup_append]; exact ⟨h.1, by simp, fun x hx y hy => by simp at hy; subst hy; exact fun e => hc.2 (e ▸ hx)⟩
      · simp [Bf.put] at hx; rcases hx with hx | rfl
        · exact h.2 x hx
        · exact hl _ (by simp)
    · exact h
theorem ge_none {j p : Nat} (hlt : (nx p).Pairwise (· < ·)) (h : (nx p)[j]? = some a) : ((nx p).take j).filter (fun x => decide (a ≤ x)) = [] := by
  rw [List.filter_eq_nil_iff]
  intro x hx
  obtain ⟨i, hi, e⟩ := List.mem_iff_getElem.1 hx
  rw [List.length_take] at hi
  rw [List.getElem_take] at e
  have hj := List.getElem?_eq_some_iff.1 h
  have := List.pairwise_iff_getElem.1 hlt i j (by omega) hj.1 (by omega)
  rw [e, hj.2] at this
  simp; omega
theorem rj_put {k p j n : Nat} (hx : (nx p)[j]? = some n) (hn : a ≤ n) (hno : n ∉ (Sp.rj nx a k p j).ord) : ∃ q, Sp.rj nx a k p (j + 1) = (Sp.rj nx a k p j).put n p q := by
  refine ⟨(Sp.rj nx a k p j).lv p + 1, (ge_take hx hn (Sp.rk nx a k)).trans ?_⟩
  unfold Bf.met
  exact if_pos ⟨nn, hno⟩
theorem rj_old {k p j n : Nat} (hx : (nx p)[j]? = some n) (h : ¬ a ≤ n ∨ n ∈ (Sp.rj nx a k p j).ord) : Sp.rj nx a k p (j + 1) = Sp.rj nx a k p j := by
  by_cases hn : a ≤ n
  · refine (ge_take hx hn (Sp.rk nx a k)).trans ?_
    unfold Bf.met
    exact if_neg fun hc => hc.2 (h.resolve_left fun h => h hn)
  · unfold Sp.rj; rw [ge_less hx hn]
theorem rj_first {k p j : Nat} (hlt : (nx p).Pairwise (· < ·)) (h : (nx p)[j]? = some a) : Sp.rj nx a k p j = Sp.rk nx a k := by
  unfold Sp.rj; rw [ge_none hlt h]; rfl
end
end Go.Proofs.YtikhpbidbcfedaaGreat

/- graph.ringFrom: what lies in memory while it searches; its deferred function. -/
namespace Go.Proofs.YtikhpbidbcfedaaGreat
open Go.RowKit Go.ChangeMaps

theorem kw_below {B gi : Nat} {w0 w w' : World} (h : Below B w0 w) (k : Kw (fun k => k = gi) w w') (hg : B ≤ gi) (hz : B ≤ w.heap.size) : Below B w0 w' :=
  ⟨k.os.trans h.os, k.tape.trans h.tape, k.output.trans h.output, Nat.le_trans h.size k.size, fun j hj => (k.block j (by omega) (by omega)).trans (h.block j hj)⟩
structure RnI (w : World) (L gi bB mB : Nat) (bl : List Int) (o : List Nat) (g c : Nat) (wr : World) : Prop where
  kw : Kw (fun k => k = gi) w wr
  bbx : wr.heap[bB]? = some (.cells #[.slice (some ⟨gi, 0, none⟩) L L] 60 (0, 0))
  mbx : wr.heap[mB]? = some (.cells #[.slice (some ⟨g, 0, none⟩) o.length c] 60 (0, 0))
  byl : OwnR wr 3 gi L L (iv bl)
  ord : OwnR wr 3 g o.length c (iv (o.map fun j : Nat => (j : Int)))
  lo : w.heap.size ≤ bB ∧ w.heap.size ≤ mB ∧ bB ≠ mB ∧ w.heap.size ≤ g ∧ g ≠ bB ∧ g ≠ mB ∧ gi < w.heap.size
theorem RnI.nd {w wr : World} {L gi bB mB : Nat} {bl : List Int} {o : List Nat} {g c : Nat} (h : RnI w L gi bB mB bl o g c wr) : NdI wr (some g) c (o.map fun j : Nat => (j : Int)) := ⟨(fun e => by cases e), fun g' hg => by injection hg with hg; subst hg; rw [List.length_map]; exact h.ord⟩
theorem RnI.keep {w wr w1 : World} {L gi bB mB : Nat} {bl : List Int} {o : List Nat} {g c : Nat} (h : RnI w L gi bB mB bl o g c wr) (hb : Below wr.heap.size wr w1) : RnI w L gi bB mB bl o g c w1 :=
  ⟨h.kw.trans ⟨hb.os, hb.tape, hb.output, hb.size, fun j h1 _ => hb.block j h1⟩, (hb.block bB (Array.getElem?_eq_some_iff.1 h.bbx).1).trans h.bbx, (hb.block mB (Array.getElem?_eq_some_iff.1 h.mbx).1).trans h.mbx, h.byl.keep (hb.block gi h.byl.lt), h.ord.keep (hb.block g h.ord.lt), h.lo⟩
theorem RnI.setb {w wr : World} {L gi bB mB : Nat} {bl : List Int} {o : List Nat} {g c : Nat} (h : RnI w L gi bB mB bl o g c wr) (n : Nat) (p : Int) : RnI w L gi bB mB (bl.set n p) o g c (wr.setCell ⟨gi, n, none⟩ (.int .i64 p)) := by
  have e : ∀ k, k ≠ gi → (wr.setCell ⟨gi, n, none⟩ (.int .i64 p)).heap[k]? = wr.heap[k]? := fun k hk => Below.heap_setCell wr _ _ k hk
  obtain ⟨l1, l2, l3, l4, l5, l6, l7⟩ := h.lo
  refine ⟨h.kw.set (.inl rfl) _, (e bB (by omega)).trans h.bbx, (e mB (by omega)).trans h.mbx, ?_, h.ord.keep (e g (by omega)), h.lo⟩
  rw [show iv (bl.set n p) = (iv bl).set n (.int .i64 p) from List.map_set]
  exact h.byl.set n _
theorem RnI.grow {w wr w4 : World} {L gi bB mB : Nat} {bl : List Int} {o : List Nat} {g c g' c' n : Nat} (h : RnI w L gi bB mB bl o g c wr)
    (ho : OwnR w4 3 g' (o.length + 1) c' (iv (o.map (fun j : Nat => (j : Int)) ++ [(n : Int)]))) (hg : (wr.alloc (.cells #[.int .i64 (n : Int)] 3)).grownBy w4 (some g)) (hor : some g = some g' ∨ wr.heap.size < g') :
    RnI w L gi bB mB bl (o ++ [n]) g' c' (w4.setCell ⟨mB, 0, none⟩ (.slice (some ⟨g', 0, none⟩) (o.length + 1) c')) := by
  obtain ⟨l1, l2, l3, l4, l5, l6, l7⟩ := h.lo
  have hsz := h.kw.size
  have hbl := (Array.getElem?_eq_some_iff.1 h.bbx).1
  have hml := (Array.getElem?_eq_some_iff.1 h.mbx).1
  have hgl := h.byl.lt
  have old : ∀ b, b < wr.heap.size → b ≠ g → w4.heap[b]? = wr.heap[b]? := fun b hb h1 => (hg.block b (by rw [al_size]; omega) (fun e => by injection e with e; exact h1 e)).trans (Below.heap_alloc _ _ b hb)
  have e2 : ∀ k, k ≠ mB → (w4.setCell ⟨mB, 0, none⟩ (.slice (some ⟨g', 0, none⟩) (o.length + 1) c')).heap[k]? = w4.heap[k]? := fun k hk => Below.heap_setCell w4 _ _ k hk
  have hg' : w.heap.size ≤ g' ∧ g' ≠ bB ∧ g' ≠ mB := by
    rcases hor with h1 | h1
    · injection h1 with h1; subst h1; exact ⟨l4, l5, l6⟩
    · exact ⟨by omega, by omega, by omega⟩
  have hz4 : wr.heap.size ≤ w4.heap.size := by have := hg.size; rw [al_size] at this; omega
  refine ⟨⟨hg.os.trans h.kw.os, hg.tape.trans h.kw.tape, hg.output.trans h.kw.output, by simpa [World.setCell] using Nat.le_trans hsz hz4, fun j h1 h2 => ?_⟩, ?_, ?_, ?_, ?_, ⟨l1, l2, l3, hg'.1, hg'.2.1, hg'.2.2, l7⟩⟩
  · exact (e2 j (by omega)).trans ((old j (by omega) (by omega)).trans (h.kw.block j h1 h2))
  · exact (e2 bB l3).trans ((old bB hbl (Ne.symm l5)).trans h.bbx)
  · rw [Sort.setCell_eq]; show (w4.heap.modify mB _)[mB]? = _
    rw [Array.getElem?_modify, if_pos rfl, old mB hml (Ne.symm l6), h.mbx]
    simp
    rfl
  · exact h.byl.keep ((e2 gi (by omega)).trans (old gi hgl (by omega)))
  · rw [List.map_append]
    simpa using ho.keep (e2 g' hg'.2.2)
theorem RnI.c1 {w wr : World} {L gi bB mB : Nat} {bl : List Int} {o : List Nat} {g c : Nat} (h : RnI w L gi bB mB bl o g c wr) : wr.cell? ⟨bB, 0, none⟩ = some (.slice (some ⟨gi, 0, none⟩) L L) ∧ wr.cell? ⟨mB, 0, none⟩ = some (.slice (some ⟨g, 0, none⟩) o.length c) ∧ wr.frozen? ⟨mB, 0, none⟩ = false :=
  ⟨by simp [World.cell?, h.bbx], by simp [World.cell?, h.mbx], by simp [World.frozen?, h.mbx]⟩
theorem RnI.start {w W1 W : World} {L gi a : Nat} {nx : Nat → List Nat} (ho : OwnR W1 3 gi L L (iv (List.replicate L (-1)))) (hb : Below w.heap.size w W1) (hz : W1.heap.size = w.heap.size + 1) (h0 : W1.heap[w.heap.size]? = some (.cells #[.slice (some ⟨gi, 0, none⟩) L L] 60 (0, 0))) (hg : gi < w.heap.size)
    (hW : W = ((W1.setCell ⟨gi, a, none⟩ (.int .i64 (a : Int))).alloc (.cells #[.int .i64 (a : Int)] 3)).alloc (.cells #[.slice (some ⟨w.heap.size + 1, 0, none⟩) 1 1] 60)) : RnI w L gi w.heap.size (w.heap.size + 1 + 1) (Sp.byl L (Sp.rk nx a 0)) (Sp.rk nx a 0).ord (w.heap.size + 1) 1 W := by
  have hs : (W1.setCell ⟨gi, a, none⟩ (.int .i64 (a : Int))).heap.size = w.heap.size + 1 := by simp [World.setCell, hz]
  obtain ⟨W2, hW2⟩ : ∃ W2, W1.setCell ⟨gi, a, none⟩ (.int .i64 (a : Int)) = W2 := ⟨_, rfl⟩
  have ho2 : OwnR W2 3 gi L L (iv ((List.replicate L (-1)).set a (a : Int))) := by
    rw [← hW2, show iv ((List.replicate L (-1)).set a (a : Int)) = (iv (List.replicate L (-1))).set a (.int .i64 (a : Int)) from List.map_set]
    exact ho.set a _
  have e2 : ∀ k, k ≠ gi → W2.heap[k]? = W1.heap[k]? := fun k hk => by rw [← hW2]; exact Below.heap_setCell W1 _ _ k hk
  have hk2 : Kw (fun k => k = gi) w W2 := by
    have : Kw (fun k => k = gi) w W1 := ⟨hb.os, hb.tape, hb.output, hb.size, fun j h1 _ => hb.block j h1⟩
    rw [← hW2]; exact this.set (.inl rfl) _
  rw [hW2] at hs hW
  subst hW
  have e3 : ∀ k, k < w.heap.size + 1 → ((W2.alloc (.cells #[.int .i64 (a : Int)] 3)).alloc (.cells #[.slice (some ⟨w.heap.size + 1, 0, none⟩) 1 1] 60)).heap[k]? = W2.heap[k]? := fun k hk => (Below.heap_alloc _ _ k (by rw [al_size]; omega)).trans (Below.heap_alloc _ _ k (by omega))
  have hn1 := heap_alloc_new W2 (.cells #[.int .i64 (a : Int)] 3 (0, 0))
  have hn2 := heap_alloc_new (W2.alloc (.cells #[.int .i64 (a : Int)] 3)) (.cells #[.slice (some ⟨w.heap.size + 1, 0, none⟩) 1 1] 60 (0, 0))
  rw [al_size, hs] at hn2
  rw [hs] at hn1
  rw [rk_00]
  refine ⟨(hk2.alloc _).alloc _, ?_, ?_, ?_, ?_, by omega⟩
  · rw [e3 _ (by omega), e2 _ (by omega)]; exact h0
  · exact hn2
  · rw [byl_put, byl_no]; exact ho2.keep (e3 gi (by omega))
  · have h1 : OwnR (W2.alloc (.cells #[.int .i64 (a : Int)] 3)) 3 (w.heap.size + 1) 1 1 (iv [(a : Int)]) := ⟨rfl, _, hn1, Nat.le_refl _, by simp [maxLen], rfl, rfl⟩
    exact h1.keep (Below.heap_alloc _ _ _ (by rw [al_size]; omega))
def Sp.clr (bl : List Int) (o : List Nat) : List Int := o.foldl (fun b n => b.set n (-1)) bl
theorem clr_len : ∀ (o : List Nat) (bl : List Int), (Sp.clr bl o).length = bl.length
  | [], _ => rfl
  | n :: o, bl => by show (Sp.clr (bl.set n (-1)) o).length = _; rw [clr_len o]; simp
theorem clr_at : ∀ (o : List Nat) (bl : List Int) (t : Nat), t < bl.length → (Sp.clr bl o)[t]? = if t ∈ o then some (-1) else bl[t]?
  | [], bl, t, h => by simp [Sp.clr]
  | n :: o, bl, t, h => by
    show (Sp.clr (bl.set n (-1)) o)[t]? = _
    rw [clr_at o _ t (by simpa using h)]
    by_cases h1 : t ∈ o
    · simp [h1]
    · by_cases h2 : t = n
      · subst h2; simp [h1, h]
      · rw [if_neg h1, if_neg (by simp [h1, h2]), List.getElem?_set_ne (Ne.symm h2)]
theorem clr_byl (L : Nat) (s : Bf) : Sp.clr (Sp.byl L s) s.ord = List.replicate L (-1) := by
  apply List.ext_getElem?
  intro t
  by_cases ht : t < L
  · rw [clr_at _ _ t (by rw [byl_len]; exact ht), byl_at s ht]
    by_cases h : t ∈ s.ord <;> simp [h, ht]
  · rw [List.getElem?_eq_none (by rw [clr_len, byl_len]; omega), List.getElem?_eq_none (by simp; omega)]
theorem clr_snoc {bl : List Int} {o : List Nat} {i n : Nat} (h : o[i]? = some n) : Sp.clr bl (o.take (i + 1)) = (Sp.clr bl (o.take i)).set n (-1) := by
  rw [List.take_add_one, h]; simp [Sp.clr, List.foldl_append]

set_option maxRecDepth 100000 in
set_option maxHeartbeats 4000000 in
theorem rfe_any (w : World) (L gi bB mB : Nat) (bl : List Int) (o : List Nat) (g c : Nat) (u : FrameMode) (wd : World) (h : RnI w L gi bB mB bl o g c wd) (hb : ∀ x ∈ o, x < L) (hl : o.length ≤ 4096) :
    CallsD Tryz.prog 63 #[.pointer (some ⟨mB, 0, none⟩), .pointer (some ⟨bB, 0, none⟩)] u wd fun e u' w' => u' = u ∧ e = .returned (.tuple #[]) ∧ RnI w L gi bB mB (Sp.clr bl o) o g c w' ∧ Kw (fun k => k = gi) wd w' := by
  have H0 : Hid (RnI w L gi bB mB (Sp.clr bl (o.take 0)) o g c wd ∧ Kw (fun k => k = gi) wd wd) := ⟨h, Kw.refl _ _⟩
  have HB : Hid (∀ x ∈ o, x < L) := hb
  obtain ⟨_, k2, _⟩ := h.c1
  clear h hb
  go_enter_d Tryz.func63, Tryz.ntmps63
  go_wp2_with fail
  clear k2
  go_loopw [6] (fun v6 wr => ∃ i : Nat, v6 = .int .i64 i ∧ i ≤ o.length ∧ Hid (RnI w L gi bB mB (Sp.clr bl (o.take i)) o g c wr ∧ Kw (fun k => k = gi) wd wr)) (fun v6 _ => o.length - (intOf v6).toNat)
  case atStart => exact ⟨0, rfl, Nat.zero_le _, H0.out⟩
  case round =>
    clear H0
    obtain ⟨i, rfl, hi, HR⟩ := hrel
    by_cases hlt : i < o.length
    · have hltz : (i : Int) < (o.length : Int) := by omega
      obtain ⟨n, hx⟩ : ∃ n, o[i]? = some n := ⟨_, List.getElem?_eq_getElem hlt⟩
      have hnL : n < L := HB.out n (List.mem_of_getElem? hx)
      have hnz : (n : Int) < (L : Int) := by omega
      have hcx := HR.out.1.ord.cell (t := i) (x := .int .i64 (n : Nat)) (by simp [iv, hx])
      obtain ⟨k1, _, _⟩ := HR.out.1.c1
      have kf := HR.out.1.byl.free n
      obtain ⟨v, kv⟩ : ∃ v : Value, wr.cell? ⟨gi, n, none⟩ = some v := by
        have hlen : n < (iv (Sp.clr bl (o.take i))).length := by have := HR.out.1.byl.len; omega
        exact ⟨_, HR.out.1.byl.cell (List.getElem?_eq_getElem hlen)⟩
      have HF : Hid (RnI w L gi bB mB (Sp.clr bl (o.take (i + 1))) o g c (wr.setCell ⟨gi, n, none⟩ (.int .i64 (-1))) ∧ Kw (fun k => k = gi) wd (wr.setCell ⟨gi, n, none⟩ (.int .i64 (-1)))) := by
        show _ ∧ _
        rw [clr_snoc hx]
        exact ⟨HR.out.1.setb n (-1), HR.out.2.set (.inl rfl) _⟩
      clear hx
      go_wp2_with fail
      go_roundw
      case rel => exact ⟨i + 1, by go_num, by omega, HF.out⟩
      case measure => simp [intOf]; omega
    · obtain rfl : i = o.length := by omega
      have htk : o.take o.length = o := List.take_of_length_le (Nat.le_refl _)
      rw [htk] at HR
      clear htk
      go_wp2_with fail
      go_end0
      exact ⟨rfl, HR.out⟩
end Go.Proofs.YtikhpbidbcfedaaGreat


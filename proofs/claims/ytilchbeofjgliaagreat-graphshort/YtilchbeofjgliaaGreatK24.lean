/- Plain mathematics: a search that keeps to what is not less than where it begins, and the ring that it closes. -/
import Derived.Test.YtilchbeofjgliaaGreatK23
namespace Go.Proofs.YtilchbeofjgliaaGreat

def Sp.ge (nx : Nat → List Nat) (a i : Nat) : List Nat := (nx i).filter fun x => decide (a ≤ x)
theorem ge_mem {nx : Nat → List Nat} {a i x : Nat} : x ∈ Sp.ge nx a i ↔ x ∈ nx i ∧ a ≤ x := by simp [Sp.ge]
def Sp.rs (nx : Nat → List Nat) (L a : Nat) : Bf := Bf.all (Sp.ge nx a) (-1) L [a]
def Sp.rfm (nx : Nat → List Nat) (L a : Nat) : List Nat :=
  match (Sp.rs nx L a).ord.find? (fun p => decide (a ∈ nx p)) with
  | some p => ((Sp.rs nx L a).chn ((Sp.rs nx L a).ps p) p).reverse
  | none => []
def Sp.rgs (nx : Nat → List Nat) (L : Nat) : Nat → List Nat
  | 0 => []
  | k + 1 => if Sp.rfm nx L k ≠ [] ∧ (Sp.rgs nx L k = [] ∨ (Sp.rfm nx L k).length < (Sp.rgs nx L k).length) then Sp.rfm nx L k else Sp.rgs nx L k

section
variable {nx : Nat → List Nat} {L a : Nat}
theorem rs_BI (hlt : ∀ i, (nx i).Pairwise (· < ·)) (hb : ∀ i, ∀ x ∈ nx i, x < L) (ha : a < L) : BI (Sp.ge nx a) (-1) L [a] (Sp.rs nx L a) (Sp.rs nx L a).ord.length [] :=
  all_BI (fun i => (hlt i).filter _) (fun i x hx => hb i x (ge_mem.1 hx).1) (by simpa using ha)
theorem one_root {nx : Nat → List Nat} {wo : Int} {L a : Nat} {s : Bf} (H : BI nx wo L [a] s s.ord.length []) {x : Nat} (hx : x ∈ s.ord) (h : s.bq x = x) : x = a := by have := (H.root hx h).1; simpa using this
theorem root_lv {nx : Nat → List Nat} {L a : Nat} {s : Bf} (H : BI nx (-1) L [a] s s.ord.length []) : a ∈ s.ord ∧ s.lv a = 0 := by
  have hm := H.sr a (by simp) nn
  refine ⟨hm, ?_⟩
  rcases H.st a hm with ⟨_, _, h⟩ | ⟨h1, h2, h3, h4, _⟩
  · exact h
  · by_cases hq : s.bq a = a
    · rw [hq] at h2; omega
    · obtain ⟨c, _, _, _, hc, hcb⟩ := chn_on H (s.ps a) a [] hm rfl (Nat.le_refl _)
      have := one_root H hc hcb
      subst this; exact absurd hcb hq
theorem chn_lv {nx : Nat → List Nat} {L a : Nat} {s : Bf} (H : BI nx (-1) L [a] s s.ord.length []) {b : Nat} (hb : b ∈ s.ord) : (s.chn (s.ps b) b).length = s.lv b + 1 := by
  obtain ⟨c, suf, h1, h2, hc, hcb⟩ := chn_on H (s.ps b) b [] hb rfl (Nat.le_refl _)
  have h3 := on_lv H suf c h2
  have h4 := (H.root hc hcb).2
  have := congrArg List.length h1
  simp at this
  omega
theorem walk_lv {nx : Nat → List Nat} {L a : Nat} {s : Bf} (H : BI nx (-1) L [a] s s.ord.length []) {f : Nat → Nat} (h0 : f 0 = a) {n : Nat} (hf : ∀ i, i < n → f (i + 1) ∈ nx (f i)) : ∀ i, i ≤ n → f i ∈ s.ord ∧ s.lv (f i) ≤ i
  | 0, _ => by rw [h0]; have := root_lv H; exact ⟨this.1, by omega⟩
  | i + 1, h => by
    have ih := walk_lv H h0 hf i (by omega)
    have h1 := hf i (by omega)
    have h2 := H.lip ih.1 h1 nn
    exact ⟨(H.fin ih.1 h1 nn).1, by omega⟩
theorem find_pos {l : List Nat} (hn : l.Nodup) {q : Nat → Bool} {p x : Nat} (h : l.find? q = some p) (hx : x ∈ l) (hq : q x = true) : ∃ i j : Nat, i ≤ j ∧ l[i]? = some p ∧ l[j]? = some x := by
  induction l with
  | nil => simp at hx
  | cons y l ih =>
    rw [List.find?_cons] at h
    cases hy : q y with
    | true =>
      rw [hy] at h; simp at h; subst h
      obtain ⟨j, hj, e⟩ := List.mem_iff_getElem.1 hx
      exact ⟨0, j, Nat.zero_le _, rfl, by rw [List.getElem?_eq_getElem hj, e]⟩
    | false =>
      rw [hy] at h
      rcases List.mem_cons.1 hx with e | hx
      · subst e; rw [hq] at hy; cases hy
      · obtain ⟨i, j, h1, h2, h3⟩ := ih (List.nodup_cons.1 hn).2 h hx
        exact ⟨i + 1, j + 1, by omega, by simpa using h2, by simpa using h3⟩
structure Rng (nx : Nat → List Nat) (L a : Nat) (r : List Nat) : Prop where
  way : ∃ p, WayF (Sp.ge nx a) L [a] p r ∧ a ∈ nx p
  ge : ∀ x ∈ r, a ≤ x
theorem rfm_rng (hlt : ∀ i, (nx i).Pairwise (· < ·)) (hb : ∀ i, ∀ x ∈ nx i, x < L) (ha : a < L) (h : Sp.rfm nx L a ≠ []) : Rng nx L a (Sp.rfm nx L a) := by
  have H := rs_BI hlt hb ha
  unfold Sp.rfm at h ⊢
  cases hf : (Sp.rs nx L a).ord.find? (fun p => decide (a ∈ nx p)) with
  | none => rw [hf] at h; exact absurd rfl h
  | some p =>
    have hp := List.mem_of_find?_eq_some hf
    have hq : a ∈ nx p := by simpa using List.find?_some hf
    have hw := (chn_way H ((Sp.rs nx L a).ps p) p hp (Nat.le_refl _)).1
    dsimp only
    refine ⟨⟨p, hw, hq⟩, fun x hx => ?_⟩
    obtain ⟨i, hi, e⟩ := List.mem_iff_getElem.1 hx
    cases i with
    | zero => have := hw.hd x (by rw [List.getElem?_eq_getElem hi, e]); simp at this; exact Nat.le_of_eq this.symm
    | succ i => exact (ge_mem.1 (hw.ed i _ x (List.getElem?_eq_getElem (Nat.lt_of_succ_lt hi)) (by rw [List.getElem?_eq_getElem hi, e]))).2
theorem rfm_least (hlt : ∀ i, (nx i).Pairwise (· < ·)) (hb : ∀ i, ∀ x ∈ nx i, x < L) (ha : a < L) {f : Nat → Nat} {n : Nat} (h0 : f 0 = a) (hn : f (n + 1) = a) (hge : ∀ i, a ≤ f i) (hf : ∀ i, f (i + 1) ∈ nx (f i)) : Sp.rfm nx L a ≠ [] ∧ (Sp.rfm nx L a).length ≤ n + 1 := by
  have H := rs_BI hlt hb ha
  have hw := walk_lv H h0 (n := n) (fun i _ => ge_mem.2 ⟨hf i, hge _⟩) n (Nat.le_refl _)
  have hq : a ∈ nx (f n) := by rw [← hn]; exact hf n
  unfold Sp.rfm
  cases hfd : (Sp.rs nx L a).ord.find? (fun p => decide (a ∈ nx p)) with
  | none => have := List.find?_eq_none.1 hfd (f n) hw.1; simp at this; exact absurd hq this
  | some p =>
    have hp := List.mem_of_find?_eq_some hfd
    have hl := chn_lv H hp
    obtain ⟨i, j, hij, hi, hj⟩ := find_pos H.nd hfd hw.1 (by simpa using hq)
    have e1 := nd_at H.nd hi (H.pl p hp)
    have e2 := nd_at H.nd hj (H.pl (f n) hw.1)
    have h3 := H.lvmono _ p hp (f n) hw.1 (Nat.le_refl _) (by omega)
    have hw2 := hw.2
    have hlen : ((Sp.rs nx L a).chn ((Sp.rs nx L a).ps p) p).reverse.length ≤ n + 1 := by rw [List.length_reverse, hl]; omega
    refine ⟨?_, hlen⟩
    intro e
    have := congrArg List.length e
    rw [List.length_reverse, hl] at this; simp at this
theorem fun_min (f : Nat → Nat) : ∀ v i, f i ≤ v → ∃ i0, ∀ j, f i0 ≤ f j
  | 0, i, h => ⟨i, fun j => by omega⟩
  | v + 1, i, h => by
    by_cases hj : ∃ j, f j ≤ v
    · obtain ⟨j, hj⟩ := hj; exact fun_min f v j hj
    · exact ⟨i, fun j => Nat.le_of_not_lt fun h2 => hj ⟨j, by omega⟩⟩
theorem rgs_nil : ∀ k, Sp.rgs nx L k = [] ↔ ∀ i, i < k → Sp.rfm nx L i = []
  | 0 => by simp [Sp.rgs]
  | k + 1 => by
    have ih := rgs_nil k
    rw [Sp.rgs]
    split
    · rename_i h
      exact ⟨fun e => absurd e h.1, fun e => absurd (e k (by omega)) h.1⟩
    · rename_i h
      refine ⟨fun e i hi => ?_, fun e => ih.2 fun i hi => e i (by omega)⟩
      rcases Nat.lt_or_ge i k with h1 | h1
      · exact ih.1 e i h1
      · have : i = k := by omega
        subst this
        exact Classical.byContradiction fun h2 => h ⟨h2, .inl e⟩
theorem rgs_min : ∀ k, Sp.rgs nx L k ≠ [] → (∃ i, i < k ∧ Sp.rgs nx L k = Sp.rfm nx L i) ∧ ∀ i, i < k → Sp.rfm nx L i ≠ [] → (Sp.rgs nx L k).length ≤ (Sp.rfm nx L i).length
  | 0, h => absurd rfl h
  | k + 1, h => by
    rw [Sp.rgs] at h ⊢
    split
    · rename_i hc
      refine ⟨⟨k, by omega, rfl⟩, fun i hi hne => ?_⟩
      rcases Nat.lt_or_ge i k with h1 | h1
      · rcases hc.2 with h2 | h2
        · exact absurd ((rgs_nil k).1 h2 i h1) hne
        · by_cases h3 : Sp.rgs nx L k = []
          · rw [h3] at h2; simp at h2
          · have := (rgs_min k h3).2 i h1 hne; omega
      · have : i = k := by omega
        subst this; exact Nat.le_refl _
    · rename_i hc
      rw [if_neg hc] at h
      obtain ⟨⟨i, hi, e⟩, h2⟩ := rgs_min k h
      refine ⟨⟨i, by omega, e⟩, fun j hj hne => ?_⟩
      rcases Nat.lt_or_ge j k with h1 | h1
      · exact h2 j h1 hne
      · have : j = k := by omega
        subst this
        exact Nat.le_of_not_lt fun h3 => hc ⟨hne, .inr h3⟩
theorem rgs_least (hlt : ∀ i, (nx i).Pairwise (· < ·)) (hb : ∀ i, ∀ x ∈ nx i, x < L) {f : Nat → Nat} {n : Nat} (hp : ∀ i, f (i + (n + 1)) = f i) (hL : ∀ i, f i < L) (hf : ∀ i, f (i + 1) ∈ nx (f i)) : Sp.rgs nx L L ≠ [] ∧ (Sp.rgs nx L L).length ≤ n + 1 := by
  obtain ⟨i0, hi⟩ := fun_min f (f 0) 0 (Nat.le_refl _)
  have h := rfm_least (a := f i0) hlt hb (hL i0) (f := fun j => f (i0 + j)) (n := n) rfl (hp i0) (fun j => hi _) (fun j => hf _)
  have hne : Sp.rgs nx L L ≠ [] := fun e => h.1 ((rgs_nil L).1 e _ (hL i0))
  exact ⟨hne, Nat.le_trans ((rgs_min L hne).2 _ (hL i0) h.1) h.2⟩
theorem way_round {a b : Nat} {w : List Nat} (hw : WayF nx L [a] b w) (hab : a ∈ nx b) : (∀ i, w.getD ((i + (w.length - 1 + 1)) % w.length) 0 = w.getD (i % w.length) 0) ∧ (∀ i, w.getD (i % w.length) 0 < L) ∧ ∀ i, w.getD ((i + 1) % w.length) 0 ∈ nx (w.getD (i % w.length) 0) := by
  have hpos := hw.pos
  have e : w.length - 1 + 1 = w.length := by omega
  refine ⟨fun i => ?_, fun i => ?_, fun i => ?_⟩
  · simp only [e, Nat.add_mod_right]
  · have h := Nat.mod_lt i hpos
    simp only [List.getD_eq_getElem?_getD, List.getElem?_eq_getElem h]
    exact hw.bd _ (List.getElem_mem h)
  · have h := Nat.mod_lt i hpos
    have hx := List.getElem?_eq_getElem h
    simp only [List.getD_eq_getElem?_getD]
    rw [hx]
    by_cases hl : i % w.length + 1 < w.length
    · have : (i + 1) % w.length = i % w.length + 1 := by
        rw [Nat.add_mod, Nat.mod_eq_of_lt (show 1 < w.length by omega), Nat.mod_eq_of_lt hl]
      rw [this]
      have hy := List.getElem?_eq_getElem hl
      rw [hy]
      exact hw.ed _ _ _ hx hy
    · have e1 : i % w.length = w.length - 1 := by omega
      have : (i + 1) % w.length = 0 := by
        rw [Nat.add_mod, e1]
        by_cases h1 : w.length = 1
        · rw [h1]
        · rw [Nat.mod_eq_of_lt (show 1 < w.length by omega), e, Nat.mod_self]
      rw [this]
      have hy := List.getElem?_eq_getElem hpos
      rw [hy]
      have h0 := hw.hd _ hy
      simp at h0
      have hla := hw.la
      rw [← e1, hx] at hla
      have hz := Option.some.inj hla
      simp only [Option.getD_some]
      rw [hz, h0]; exact hab
theorem WayF.wide {nx' : Nat → List Nat} {src : List Nat} {b : Nat} {w : List Nat} (h : WayF nx' L src b w) (hs : ∀ i, ∀ x ∈ nx' i, x ∈ nx i) : WayF nx L src b w := ⟨h.nd, h.hd, h.ne, fun i x y h1 h2 => hs _ _ (h.ed i x y h1 h2), h.la, h.bd⟩
end
end Go.Proofs.YtilchbeofjgliaaGreat

/- Plain mathematics: no way back by an edge is shorter than the ring, and from each node of the ring it is as long. -/
namespace Go.Proofs.YtilchbeofjgliaaGreat

section
variable {nx : Nat → List Nat} {L : Nat}
theorem short1 (hlt : ∀ i, (nx i).Pairwise (· < ·)) (hb : ∀ i, ∀ x ∈ nx i, x < L) {a b : Nat} (hbL : b < L) (hab : b ∈ nx a) (h : a ∈ (Bf.all nx (-1) L [b]).ord) : Sp.rgs nx L L ≠ [] ∧ (Sp.rgs nx L L).length ≤ ((Bf.all nx (-1) L [b]).chn ((Bf.all nx (-1) L [b]).ps a) a).reverse.length := by
  have H : BI nx (-1) L [b] (Bf.all nx (-1) L [b]) (Bf.all nx (-1) L [b]).ord.length [] := all_BI hlt hb (by simpa using hbL)
  generalize Bf.all nx (-1) L [b] = s at *
  have hw := (chn_way H (s.ps a) a h (Nat.le_refl _)).1
  have hpos := hw.pos
  obtain ⟨h1, h2, h3⟩ := way_round hw hab
  have h4 := rgs_least hlt hb (f := fun i => (s.chn (s.ps a) a).reverse.getD (i % (s.chn (s.ps a) a).reverse.length) 0) (n := (s.chn (s.ps a) a).reverse.length - 1) h1 h2 h3
  exact ⟨h4.1, by omega⟩
theorem rgs_way (hlt : ∀ i, (nx i).Pairwise (· < ·)) (hb : ∀ i, ∀ x ∈ nx i, x < L) (h : Sp.rgs nx L L ≠ []) : ∃ a p, a < L ∧ WayF nx L [a] p (Sp.rgs nx L L) ∧ a ∈ nx p := by
  obtain ⟨⟨i, hi, e⟩, _⟩ := rgs_min L h
  rw [e] at h ⊢
  obtain ⟨p, hw, hp⟩ := (rfm_rng hlt hb hi h).way
  exact ⟨i, p, hi, hw.wide (fun j x hx => (ge_mem.1 hx).1), hp⟩
theorem short2 (hlt : ∀ i, (nx i).Pairwise (· < ·)) (hb : ∀ i, ∀ x ∈ nx i, x < L) {r : List Nat} (hr : Sp.rgs nx L L = r) {t a b : Nat} (ht : t < r.length) (ha : r[(t + 1) % r.length]? = some a) (hbb : r[t]? = some b) : b ∈ (Bf.all nx (-1) L [a]).ord ∧ ((Bf.all nx (-1) L [a]).chn ((Bf.all nx (-1) L [a]).ps b) b).reverse.length = r.length := by
  have hne : Sp.rgs nx L L ≠ [] := by rw [hr]; intro e; rw [e] at ht; simp at ht
  obtain ⟨a0, p, ha0, hw, hp⟩ := rgs_way hlt hb hne
  rw [hr] at hw
  obtain ⟨h1, h2, h3⟩ := way_round hw hp
  have hpos := hw.pos
  have ea : r.getD ((t + 1) % r.length) 0 = a := by rw [List.getD_eq_getElem?_getD, ha]; rfl
  have eb : r.getD (t % r.length) 0 = b := by rw [Nat.mod_eq_of_lt ht, List.getD_eq_getElem?_getD, hbb]; rfl
  have haL : a < L := by rw [← ea]; exact h2 (t + 1)
  have hab : a ∈ nx b := by rw [← ea, ← eb]; exact h3 t
  have H : BI nx (-1) L [a] (Bf.all nx (-1) L [a]) (Bf.all nx (-1) L [a]).ord.length [] := all_BI hlt hb (by simpa using haL)
  have hl := walk_lv H (f := fun j => r.getD ((t + 1 + j) % r.length) 0) ea (n := r.length - 1) (fun i _ => h3 (t + 1 + i)) (r.length - 1) (Nat.le_refl _)
  have e1 : r.getD ((t + 1 + (r.length - 1)) % r.length) 0 = b := by
    rw [← eb, show t + 1 + (r.length - 1) = t + r.length by omega, Nat.add_mod_right]
  simp only [e1] at hl
  have h5 := (short1 hlt hb haL hab hl.1).2
  rw [hr] at h5
  have h6 := chn_lv H hl.1
  refine ⟨hl.1, ?_⟩
  rw [List.length_reverse] at h5 ⊢
  omega
end
end Go.Proofs.YtilchbeofjgliaaGreat

/- Plain mathematics: a search under way tells what it tells at its end. -/
namespace Go.Proofs.YtilchbeofjgliaaGreat

structure Ext (s t : Bf) : Prop where
  pre : ∀ {i x : Nat}, s.ord[i]? = some x → t.ord[i]? = some x
  bq : ∀ {x : Nat}, x ∈ s.ord → t.bq x = s.bq x
  ps : ∀ {x : Nat}, x ∈ s.ord → t.ps x = s.ps x
theorem Ext.refl (s : Bf) : Ext s s := ⟨id, fun _ => rfl, fun _ => rfl⟩
theorem Ext.mem {s t : Bf} (h : Ext s t) {x : Nat} (hx : x ∈ s.ord) : x ∈ t.ord := by
  obtain ⟨i, hi, e⟩ := List.mem_iff_getElem.1 hx
  exact List.mem_of_getElem? (h.pre (i := i) (x := x) (by rw [List.getElem?_eq_getElem hi, e]))
theorem Ext.trans {s t u : Bf} (h : Ext s t) (k : Ext t u) : Ext s u := ⟨fun hx => k.pre (h.pre hx), fun hx => (k.bq (h.mem hx)).trans (h.bq hx), fun hx => (k.ps (h.mem hx)).trans (h.ps hx)⟩
theorem Ext.met (wo : Int) (s : Bf) (n p k : Nat) : Ext s (s.met wo n p k) := by
  unfold Bf.met
  split
  · rename_i hc
    refine ⟨fun {i x} hx => ?_, fun {x} hx => ?_, fun {x} hx => ?_⟩
    · simp only [Bf.put]; rw [List.getElem?_append_left (List.getElem?_eq_some_iff.1 hx).1]; exact hx
    · have : x ≠ n := fun e => hc.2 (e ▸ hx)
      simp [Bf.put, this]
    · have : x ≠ n := fun e => hc.2 (e ▸ hx)
      simp [Bf.put, this]
  · exact Ext.refl s
theorem Ext.row (wo : Int) (p : Nat) : ∀ (l : List Nat) (s : Bf), Ext s (Bf.row wo p l s)
  | [], s => Ext.refl s
  | n :: l, s => by rw [Bf.row]; exact (Ext.met wo s n p _).trans (Ext.row wo p l _)
theorem Ext.rnd {nx : Nat → List Nat} {wo : Int} {s0 : Bf} (k : Nat) : ∀ j, Ext (Bf.rnd nx wo s0 k) (Bf.rnd nx wo s0 (k + j))
  | 0 => Ext.refl _
  | j + 1 => by
    refine (Ext.rnd k j).trans ?_
    show Ext _ (Bf.rnd nx wo s0 (k + j + 1))
    rw [Bf.rnd]
    split
    · exact Ext.row _ _ _ _
    · exact Ext.refl _
theorem Ext.chn {s t : Bf} (h : Ext s t) (hup : ∀ x ∈ s.ord, s.bq x ≠ x → s.bq x ∈ s.ord) : ∀ f x, x ∈ s.ord → t.chn f x = s.chn f x
  | 0, x, hx => rfl
  | f + 1, x, hx => by
    rw [Bf.chn, Bf.chn, h.bq hx]
    by_cases e : s.bq x = x
    · rw [if_pos e, if_pos e]
    · rw [if_neg e, if_neg e, Ext.chn h hup f _ (hup x hx e)]

def Bok0 (L : Nat) (s : Bf) : Prop := s.ord.Nodup ∧ ∀ x ∈ s.ord, x < L
section
variable {nx : Nat → List Nat} {L a : Nat}
def Sp.rk (nx : Nat → List Nat) (a k : Nat) : Bf := Bf.rnd (Sp.ge nx a) (-1) (Bf.ini (-1) [a] Bf.no) k
theorem rk_00 : Sp.rk nx a 0 = Bf.no.put a a 0 := by
  have : ((a : Int) ≠ -1) := by omega
  simp [Sp.rk, Bf.rnd, Bf.ini, Bf.met, Bf.no, this]
theorem rk_next {k p : Nat} (h : (Sp.rk nx a k).ord[k]? = some p) : Sp.rk nx a (k + 1) = Bf.row (-1) p (Sp.ge nx a p) (Sp.rk nx a k) := by
  have h1 := (List.getElem?_eq_some_iff.1 h).1
  unfold Sp.rk at h h1 ⊢
  rw [Bf.rnd, if_pos h1]
  have : (Bf.rnd (Sp.ge nx a) (-1) (Bf.ini (-1) [a] Bf.no) k).ord.getD k 0 = p := by rw [List.getD_eq_getElem?_getD, h]; rfl
  rw [this]
theorem rk_all {k : Nat} (hk : k ≤ L) : Ext (Sp.rk nx a k) (Sp.rs nx L a) := by
  have := Ext.rnd (nx := Sp.ge nx a) (wo := -1) (s0 := Bf.ini (-1) [a] Bf.no) k (L - k)
  rwa [show k + (L - k) = L by omega] at this
theorem rk_wy (hlt : ∀ i, (nx i).Pairwise (· < ·)) (hb : ∀ i, ∀ x ∈ nx i, x < L) (ha : a < L) (k : Nat) : (∀ x ∈ (Sp.rk nx a k).ord, x < L) ∧ (∀ x ∈ (Sp.rk nx a k).ord, (Sp.rk nx a k).bq x ≠ x → (Sp.rk nx a k).bq x ∈ (Sp.rk nx a k).ord ∧ (Sp.rk nx a k).ps ((Sp.rk nx a k).bq x) < (Sp.rk nx a k).ps x) ∧ (∀ x ∈ (Sp.rk nx a k).ord, (Sp.rk nx a k).ord[(Sp.rk nx a k).ps x]? = some x) ∧ (Sp.rk nx a k).ord.Nodup := by
  obtain ⟨at_, H, _⟩ := rnd_BI (nx := Sp.ge nx a) (wo := -1) (L := L) (src := [a]) (fun i => (hlt i).filter _) (fun i x hx => hb i x (ge_mem.1 hx).1) (by simpa using ha) k
  refine ⟨H.bd, fun x hx hne => ?_, H.pl, H.nd⟩
  rcases H.st x hx with ⟨_, h, _⟩ | ⟨h1, h2, _⟩
  · exact absurd h hne
  · exact ⟨h1, h2⟩
theorem rk_end {k : Nat} (h : (Sp.rk nx a k).ord.length ≤ k) (hk : k ≤ L) : Sp.rs nx L a = Sp.rk nx a k := rnd_end h hk
theorem rk_chn (hlt : ∀ i, (nx i).Pairwise (· < ·)) (hb : ∀ i, ∀ x ∈ nx i, x < L) (ha : a < L) {k : Nat} (hk : k ≤ L) {x : Nat} (hx : x ∈ (Sp.rk nx a k).ord) : ((Sp.rk nx a k).chn ((Sp.rk nx a k).ps x) x).length ≤ L := by
  have hE := rk_all (nx := nx) (a := a) hk
  have hw := rk_wy hlt hb ha k
  have H := rs_BI hlt hb ha
  rw [← hE.chn (fun y hy hne => (hw.2.1 y hy hne).1) _ _ hx, ← hE.ps hx]
  have h := (chn_way H ((Sp.rs nx L a).ps x) x (hE.mem hx) (Nat.le_refl _)).1
  have := nd_len h.nd h.bd
  simpa using this
theorem rk_ext (k : Nat) : Ext (Sp.rk nx a k) (Sp.rk nx a (k + 1)) := Ext.rnd k 1
def Sp.nbk (nx : Nat → List Nat) (a k : Nat) : Prop := ∀ (i x : Nat), i < k → (Sp.rk nx a k).ord[i]? = some x → a ∉ nx x
theorem nbk_0 : Sp.nbk nx a 0 := fun i x h => by omega
theorem nbk_next {k p : Nat} (h : Sp.nbk nx a k) (hp : (Sp.rk nx a k).ord[k]? = some p) (hq : a ∉ nx p) : Sp.nbk nx a (k + 1) := fun i x hi hx => by
  have hE := rk_ext (nx := nx) (a := a) k
  have hk := (List.getElem?_eq_some_iff.1 hp).1
  have h1 := List.getElem?_eq_getElem (l := (Sp.rk nx a k).ord) (i := i) (by omega)
  have h2 := hE.pre h1
  rw [hx] at h2
  injection h2 with h2
  subst h2
  rcases Nat.lt_or_ge i k with h3 | h3
  · exact h i _ h3 h1
  · have : i = k := by omega
    subst this
    rw [hp] at h1; injection h1 with h1; rw [← h1]; exact hq
theorem find_at {l : List Nat} {q : Nat → Bool} : ∀ {k p : Nat}, l[k]? = some p → q p = true → (∀ (i x : Nat), i < k → l[i]? = some x → q x = false) → l.find? q = some p := by
  induction l with
  | nil => intro k p h; simp at h
  | cons y l ih =>
    intro k p h hq hn
    rw [List.find?_cons]
    cases k with
    | zero => simp at h; subst h; rw [hq]
    | succ k =>
      rw [hn 0 y (by omega) rfl]
      exact ih (by simpa using h) hq fun i x hi hx => hn (i + 1) x (by omega) (by simpa using hx)
theorem rfm_found (hlt : ∀ i, (nx i).Pairwise (· < ·)) (hb : ∀ i, ∀ x ∈ nx i, x < L) (ha : a < L) {k p : Nat} (hk : k ≤ L) (hp : (Sp.rk nx a k).ord[k]? = some p) (hq : a ∈ nx p) (hn : ∀ (i x : Nat), i < k → (Sp.rk nx a k).ord[i]? = some x → a ∉ nx x) : Sp.rfm nx L a = ((Sp.rk nx a k).chn ((Sp.rk nx a k).ps p) p).reverse := by
  have hE := rk_all (nx := nx) (a := a) hk
  have hw := rk_wy hlt hb ha k
  have hm := List.mem_of_getElem? hp
  have hkl := (List.getElem?_eq_some_iff.1 hp).1
  have hf : (Sp.rs nx L a).ord.find? (fun p => decide (a ∈ nx p)) = some p := by
    refine find_at (hE.pre hp) (by simpa using hq) fun i x hi hx => ?_
    have h1 := List.getElem?_eq_getElem (l := (Sp.rk nx a k).ord) (i := i) (by omega)
    have h2 := hE.pre h1
    rw [hx] at h2
    have := hn i x hi (by rw [h1]; exact h2.symm)
    simpa using this
  unfold Sp.rfm
  rw [hf]
  dsimp only
  rw [hE.ps hm, hE.chn (fun x hx hne => (hw.2.1 x hx hne).1) _ _ hm]
theorem rfm_no {k : Nat} (hk : k ≤ L) (h : (Sp.rk nx a k).ord.length ≤ k) (hn : ∀ (i x : Nat), i < k → (Sp.rk nx a k).ord[i]? = some x → a ∉ nx x) : Sp.rfm nx L a = [] := by
  unfold Sp.rfm
  rw [rk_end h hk]
  have : (Sp.rk nx a k).ord.find? (fun p => decide (a ∈ nx p)) = none := by
    rw [List.find?_eq_none]
    intro x hx
    obtain ⟨i, hi, e⟩ := List.mem_iff_getElem.1 hx
    have := hn i x (by omega) (by rw [List.getElem?_eq_getElem hi, e])
    simpa using this
  rw [this]
theorem ge_take {j n : Nat} {p : Nat} (h : (nx p)[j]? = some n) (hn : a ≤ n) (s : Bf) : Bf.row (-1) p (((nx p).take (j + 1)).filter fun x => decide (a ≤ x)) s = (Bf.row (-1) p (((nx p).take j).filter fun x => decide (a ≤ x)) s).met (-1) n p ((Bf.row (-1) p (((nx p).take j).filter fun x => decide (a ≤ x)) s).lv p + 1) := by
  rw [List.take_add_one, h, List.filter_append]
  have : (some n).toList.filter (fun x => decide (a ≤ x)) = [n] := by simp [hn]
  rw [this]
  generalize ((nx p).take j).filter (fun x => decide (a ≤ x)) = l
  induction l generalizing s with
  | nil => rfl
  | cons y l ih => rw [List.cons_append, Bf.row, ih, Bf.row]
theorem ge_less {j n : Nat} {p : Nat} (h : (nx p)[j]? = some n) (hn : ¬ a ≤ n) : ((nx p).take (j + 1)).filter (fun x => decide (a ≤ x)) = ((nx p).take j).filter fun x => decide (a ≤ x) := by
  rw [List.take_add_one, h, List.filter_append]
  have : (some n).toList.filter (fun x => decide (a ≤ x)) = [] := by simp [hn]
  rw [this, List.append_nil]
def Sp.rj (nx : Nat → List Nat) (a k p j : Nat) : Bf := Bf.row (-1) p (((nx p).take j).filter fun x => decide (a ≤ x)) (Sp.rk nx a k)
theorem rj_ext (nx : Nat → List Nat) (a k p j : Nat) : Ext (Sp.rk nx a k) (Sp.rj nx a k p j) := Ext.row _ _ _ _
theorem rj_0 (nx : Nat → List Nat) (a k p : Nat) : Sp.rj nx a k p 0 = Sp.rk nx a k := by simp [Sp.rj, Bf.row]
theorem rj_end {k p : Nat} (h : (Sp.rk nx a k).ord[k]? = some p) : Sp.rj nx a k p (nx p).length = Sp.rk nx a (k + 1) := by
  rw [rk_next h, Sp.rj, List.take_of_length_le (Nat.le_refl _)]; rfl
theorem rj_ok (hb : ∀ i, ∀ x ∈ nx i, x < L) {k p j : Nat} (h : Bok0 L (Sp.rk nx a k)) : Bok0 L (Sp.rj nx a k p j) := by
  unfold Sp.rj
  have : ∀ x ∈ ((nx p).take j).filter (fun x => decide (a ≤ x)), x < L := fun x hx => hb p x (List.mem_of_mem_take (List.mem_filter.1 hx).1)
  revert this h
  generalize ((nx p).take j).filter (fun x => decide (a ≤ x)) = l
  generalize Sp.rk nx a k = s
  induction l generalizing s with
  | nil => intro h _; exact h
  | cons n l ih =>
    intro h hl
    rw [Bf.row]
    refine ih _ ?_ (fun x hx => hl x (by simp [hx]))
    unfold Bf.met
    split
    · rename_i hc
      refine ⟨?_, fun x hx => ?_⟩
      · simp only [Bf.put, List.nodup_append]; exact ⟨h.1, by simp, fun x hx y hy => by simp at hy; subst hy; exact fun e => hc.2 (e ▸ hx)⟩
      · simp [Bf.put] at hx; rcases hx with hx | rfl
        · exact h.2 x hx
        · exact hl _ (by simp)
    · exact h
theorem ge_none {j p : Nat} (hlt : (nx p).Pairwise (· < ·)) (h : (nx p)[j]? = some a) : ((nx p).take j).filter (fun x => decide (a ≤ x)) = [] := by
  rw [List.filter_eq_nil_iff]
  intro x hx
  obtain ⟨i, hi, e⟩ := List.mem_iff_getElem.1 hx
  rw [List.length_take] at hi
  rw [List.getElem_take] at e
  have hj := List.getElem?_eq_some_iff.1 h
  have := List.pairwise_iff_getElem.1 hlt i j (by omega) hj.1 (by omega)
  rw [e, hj.2] at this
  simp; omega
theorem rj_put {k p j n : Nat} (hx : (nx p)[j]? = some n) (hn : a ≤ n) (hno : n ∉ (Sp.rj nx a k p j).ord) : ∃ q, Sp.rj nx a k p (j + 1) = (Sp.rj nx a k p j).put n p q := by
  refine ⟨(Sp.rj nx a k p j).lv p + 1, (ge_take hx hn (Sp.rk nx a k)).trans ?_⟩
  unfold Bf.met
  exact if_pos ⟨nn, hno⟩
theorem rj_old {k p j n : Nat} (hx : (nx p)[j]? = some n) (h : ¬ a ≤ n ∨ n ∈ (Sp.rj nx a k p j).ord) : Sp.rj nx a k p (j + 1) = Sp.rj nx a k p j := by
  by_cases hn : a ≤ n
  · refine (ge_take hx hn (Sp.rk nx a k)).trans ?_
    unfold Bf.met
    exact if_neg fun hc => hc.2 (h.resolve_left fun h => h hn)
  · unfold Sp.rj; rw [ge_less hx hn]
theorem rj_first {k p j : Nat} (hlt : (nx p).Pairwise (· < ·)) (h : (nx p)[j]? = some a) : Sp.rj nx a k p j = Sp.rk nx a k := by
  unfold Sp.rj; rw [ge_none hlt h]; rfl
end
end Go.Proofs.YtilchbeofjgliaaGreat


/- Plain mathematics: a search that goes out from some nodes, the nearest first. -/
import Derived.Laws.Runes
import Derived.Test.YtikhpbidbcfedaaGreatProg
import Derived.WalkKit
import Derived.WalkSpells
import Derived.WalkLawsBesides
import Derived.Below
import Derived.Sort.Row
import Derived.Sort.AssemblyPlain
import Derived.CellFam
import Derived.BigGuard
import Derived.BigCall
import Derived.BigQuiet
import Derived.Deep.Draws
import Derived.Deep.QuietTactic
namespace Go.Proofs.YtikhpbidbcfedaaGreat

structure Bf where
  ord : List Nat
  bq : Nat → Nat
  lv : Nat → Nat
  ps : Nat → Nat
def Bf.no : Bf := ⟨[], id, fun _ => 0, fun _ => 0⟩
def Bf.put (s : Bf) (n p k : Nat) : Bf := ⟨s.ord ++ [n], fun i => if i = n then p else s.bq i, fun i => if i = n then k else s.lv i, fun i => if i = n then s.ord.length else s.ps i⟩
def Bf.met (wo : Int) (s : Bf) (n p k : Nat) : Bf := if (n : Int) ≠ wo ∧ n ∉ s.ord then s.put n p k else s
def Bf.ini (wo : Int) : List Nat → Bf → Bf
  | [], s => s
  | n :: l, s => Bf.ini wo l (s.met wo n n 0)
def Bf.row (wo : Int) (p : Nat) : List Nat → Bf → Bf
  | [], s => s
  | n :: l, s => Bf.row wo p l (s.met wo n p (s.lv p + 1))
def Bf.rnd (nx : Nat → List Nat) (wo : Int) (s0 : Bf) : Nat → Bf
  | 0 => s0
  | k + 1 => if k < (Bf.rnd nx wo s0 k).ord.length then Bf.row wo ((Bf.rnd nx wo s0 k).ord.getD k 0) (nx ((Bf.rnd nx wo s0 k).ord.getD k 0)) (Bf.rnd nx wo s0 k) else Bf.rnd nx wo s0 k
def Bf.all (nx : Nat → List Nat) (wo : Int) (L : Nat) (src : List Nat) : Bf := Bf.rnd nx wo (Bf.ini wo src Bf.no) L

inductive Rch (nx : Nat → List Nat) (wo : Int) (src : List Nat) : Nat → Prop
  | base {x} : x ∈ src → (x : Int) ≠ wo → Rch nx wo src x
  | step {x z} : Rch nx wo src x → z ∈ nx x → (z : Int) ≠ wo → Rch nx wo src z

structure BI (nx : Nat → List Nat) (wo : Int) (L : Nat) (src : List Nat) (s : Bf) (at_ : Nat) (pre : List Nat) : Prop where
  nd : s.ord.Nodup
  bd : ∀ x ∈ s.ord, x < L
  wn : ∀ x ∈ s.ord, (x : Int) ≠ wo
  pl : ∀ x ∈ s.ord, s.ord[s.ps x]? = some x
  st : ∀ x ∈ s.ord, (x ∈ src ∧ s.bq x = x ∧ s.lv x = 0) ∨ (s.bq x ∈ s.ord ∧ s.ps (s.bq x) < s.ps x ∧ x ∈ nx (s.bq x) ∧ s.lv x = s.lv (s.bq x) + 1 ∧ (s.ps (s.bq x) < at_ ∨ s.ps (s.bq x) = at_ ∧ x ∈ pre))
  mo : ∀ x ∈ s.ord, ∀ y ∈ s.ord, s.bq x ≠ x → s.bq y ≠ y → s.ps x < s.ps y → s.ps (s.bq x) ≤ s.ps (s.bq y) ∧ (s.bq x = s.bq y → x < y)
  s1 : ∀ x ∈ s.ord, ∀ y ∈ s.ord, s.bq x = x → s.bq y ≠ y → s.ps x < s.ps y
  cl : ∀ p ∈ s.ord, ∀ z ∈ nx p, (z : Int) ≠ wo → (s.ps p < at_ ∨ s.ps p = at_ ∧ z ∈ pre) → z ∈ s.ord ∧ (s.bq z ≠ z → s.ps (s.bq z) ≤ s.ps p)
  sr : ∀ x ∈ src, (x : Int) ≠ wo → x ∈ s.ord
  rc : ∀ x ∈ s.ord, Rch nx wo src x

section
variable {nx : Nat → List Nat} {wo : Int} {L : Nat} {src : List Nat}
theorem BI.pslt {s : Bf} {a : Nat} {pre : List Nat} (h : BI nx wo L src s a pre) {x : Nat} (hx : x ∈ s.ord) : s.ps x < s.ord.length := by
  have := h.pl x hx
  exact (List.getElem?_eq_some_iff.1 this).1
theorem BI.psinj {s : Bf} {a : Nat} {pre : List Nat} (h : BI nx wo L src s a pre) {x y : Nat} (hx : x ∈ s.ord) (hy : y ∈ s.ord) (e : s.ps x = s.ps y) : x = y := by
  have h1 := h.pl x hx; have h2 := h.pl y hy
  rw [e] at h1; rw [h1] at h2; exact Option.some.inj h2
theorem BI.step {s : Bf} {a : Nat} {pre rest : List Nat} {p n : Nat} (h : BI nx wo L src s a pre) (hp : p ∈ s.ord) (hps : s.ps p = a) (hnx : nx p = pre ++ n :: rest) (hlt : (nx p).Pairwise (· < ·)) (hn : n < L) : BI nx wo L src (s.met wo n p (s.lv p + 1)) a (pre ++ [n]) := by
  have hnm : n ∈ nx p := by rw [hnx]; simp
  have hpre : ∀ x ∈ pre, x < n := fun x hx => by
    rw [hnx, List.pairwise_append] at hlt
    exact hlt.2.2 x hx n (by simp)
  unfold Bf.met
  by_cases hc : (n : Int) ≠ wo ∧ n ∉ s.ord
  · rw [if_pos hc]
    obtain ⟨hw, hno⟩ := hc
    have hne : ∀ x ∈ s.ord, x ≠ n := fun x hx e => hno (e ▸ hx)
    have mem : ∀ {x}, x ∈ (s.put n p (s.lv p + 1)).ord ↔ x ∈ s.ord ∨ x = n := by simp [Bf.put]
    have eb : ∀ {x}, x ≠ n → (s.put n p (s.lv p + 1)).bq x = s.bq x := fun hx => by simp [Bf.put, hx]
    have ep : ∀ {x}, x ≠ n → (s.put n p (s.lv p + 1)).ps x = s.ps x := fun hx => by simp [Bf.put, hx]
    have el : ∀ {x}, x ≠ n → (s.put n p (s.lv p + 1)).lv x = s.lv x := fun hx => by simp [Bf.put, hx]
    have bn : (s.put n p (s.lv p + 1)).bq n = p := by simp [Bf.put]
    have pn : (s.put n p (s.lv p + 1)).ps n = s.ord.length := by simp [Bf.put]
    have ln : (s.put n p (s.lv p + 1)).lv n = s.lv p + 1 := by simp [Bf.put]
    have hpn := hne p hp
    have alt := h.pslt hp
    have ebn : ∀ {x}, x ∈ s.ord → s.bq x ≠ n := fun {x} hx e => by
      rcases h.st x hx with ⟨_, h2, _⟩ | ⟨h1, _⟩
      · exact hne x hx (h2 ▸ e)
      · exact hne _ h1 e
    refine ⟨?_, ?_, ?_, ?_, ?_, ?_, ?_, ?_, ?_, ?_⟩
    · simp only [Bf.put, List.nodup_append]; exact ⟨h.nd, by simp, fun x hx y hy => by simp at hy; subst hy; exact hne x hx⟩
    · intro x hx; rcases mem.1 hx with hx | rfl
      · exact h.bd x hx
      · exact hn
    · intro x hx; rcases mem.1 hx with hx | rfl
      · exact h.wn x hx
      · exact hw
    · intro x hx; rcases mem.1 hx with hx | rfl
      · rw [ep (hne x hx)]; simp only [Bf.put]; rw [List.getElem?_append_left (h.pslt hx)]; exact h.pl x hx
      · rw [pn]; simp [Bf.put]
    · intro x hx; rcases mem.1 hx with hx | rfl
      · rcases h.st x hx with h1 | ⟨h1, h2, h3, h4, h5⟩
        · rw [eb (hne x hx), el (hne x hx)]; exact .inl h1
        · refine .inr ?_
          rw [eb (hne x hx), el (hne x hx), ep (hne x hx), ep (ebn hx), el (ebn hx)]
          exact ⟨mem.2 (.inl h1), h2, h3, h4, h5.imp_right fun ⟨a, b⟩ => ⟨a, by simp [b]⟩⟩
      · refine .inr ?_
        rw [bn, ln, pn, ep hpn, el hpn]
        exact ⟨mem.2 (.inl hp), alt, hnm, rfl, .inr ⟨hps, by simp⟩⟩
    · intro x hx0 y hy0
      rcases mem.1 hx0 with hx | rfl <;> rcases mem.1 hy0 with hy | rfl
      · rw [eb (hne x hx), eb (hne y hy), ep (hne x hx), ep (hne y hy), ep (ebn hx), ep (ebn hy)]; exact h.mo x hx y hy
      · rw [eb (hne x hx), ep (hne x hx), bn, pn, ep (ebn hx), ep hpn, hps]
        intro b1 _ _
        rcases h.st x hx with ⟨_, h2, _⟩ | ⟨h1, h2, h3, h4, h5⟩
        · exact absurd h2 b1
        · refine ⟨by rcases h5 with h5 | h5 <;> omega, fun e => ?_⟩
          rcases h5 with h5 | ⟨_, h6⟩
          · rw [e, hps] at h5; omega
          · exact hpre x h6
      · rw [pn, ep (hne y hy)]; intro _ _ hlt; have := h.pslt hy; omega
      · intro _ _ hlt; omega
    · intro x hx0 y hy0
      rcases mem.1 hx0 with hx | rfl <;> rcases mem.1 hy0 with hy | rfl
      · rw [eb (hne x hx), eb (hne y hy), ep (hne x hx), ep (hne y hy)]; exact h.s1 x hx y hy
      · rw [ep (hne x hx), pn]; intro _ _; exact h.pslt hx
      · rw [bn]; intro e; exact absurd e hpn
      · rw [bn]; intro e; exact absurd e hpn
    · intro q hq0 z hz hzw hc
      rcases mem.1 hq0 with hq | rfl
      · rw [ep (hne q hq)] at hc
        by_cases hzn : z = n
        · subst hzn
          refine ⟨mem.2 (.inr rfl), fun _ => ?_⟩
          rw [bn, ep hpn, ep (hne q hq), hps]
          rcases hc with hc | hc
          · exact absurd (h.cl q hq z hz hzw (.inl hc)).1 hno
          · omega
        · have := h.cl q hq z hz hzw (hc.imp_right fun ⟨a, b⟩ => ⟨a, by simpa [hzn] using b⟩)
          refine ⟨mem.2 (.inl this.1), ?_⟩
          rw [eb hzn, ep (ebn this.1), ep (hne q hq)]
          exact this.2
      · rw [pn] at hc; rw [← hps] at hc; omega
    · intro x hx hxw; exact mem.2 (.inl (h.sr x hx hxw))
    · intro x hx; rcases mem.1 hx with hx | rfl
      · exact h.rc x hx
      · exact .step (h.rc p hp) hnm hw
  · rw [if_neg hc]
    have hc' : (n : Int) ≠ wo → n ∈ s.ord := fun hw => Classical.byContradiction fun hn => hc ⟨hw, hn⟩
    refine ⟨h.nd, h.bd, h.wn, h.pl, ?_, h.mo, h.s1, ?_, h.sr, h.rc⟩
    · intro x hx
      exact (h.st x hx).imp_right fun ⟨h1, h2, h3, h4, h5⟩ => ⟨h1, h2, h3, h4, h5.imp_right fun ⟨a, b⟩ => ⟨a, by simp [b]⟩⟩
    · intro q hq z hz hzw hcc
      by_cases ho : s.ps q < a ∨ s.ps q = a ∧ z ∈ pre
      · exact h.cl q hq z hz hzw ho
      · have hq2 : s.ps q = a := by rcases hcc with x | x; exact absurd (.inl x) ho; exact x.1
        have hz2 : z = n := by
          rcases hcc with x | ⟨_, x⟩
          · exact absurd (.inl x) ho
          · rcases List.mem_append.1 x with x | x
            · exact absurd (.inr ⟨hq2, x⟩) ho
            · simpa using x
        subst hz2
        refine ⟨hc' hzw, fun hb => ?_⟩
        rcases h.st z (hc' hzw) with ⟨_, h2, _⟩ | ⟨_, _, _, _, h5⟩
        · exact absurd h2 hb
        · rcases h5 with h5 | h5 <;> omega
theorem met_lv {wo : Int} {s : Bf} {n p k q : Nat} (hq : q ∈ s.ord) : (s.met wo n p k).lv q = s.lv q ∧ (s.met wo n p k).ps q = s.ps q ∧ q ∈ (s.met wo n p k).ord := by
  unfold Bf.met
  split
  · rename_i hc
    have : q ≠ n := fun e => hc.2 (e ▸ hq)
    simp [Bf.put, this, hq]
  · exact ⟨rfl, rfl, hq⟩
theorem BI.row {a p : Nat} : ∀ (rest : List Nat) {s : Bf} {pre : List Nat}, BI nx wo L src s a pre → p ∈ s.ord → s.ps p = a → nx p = pre ++ rest → (nx p).Pairwise (· < ·) → (∀ x ∈ nx p, x < L) → BI nx wo L src (Bf.row wo p rest s) a (nx p)
  | [], s, pre, h, hp, hps, hnx, hlt, hb => by rw [hnx]; simpa [Bf.row] using h
  | n :: rest, s, pre, h, hp, hps, hnx, hlt, hb => by
    rw [Bf.row]
    have hm := met_lv (wo := wo) (n := n) (p := p) (k := s.lv p + 1) hp
    exact BI.row rest (h.step hp hps hnx hlt (hb n (by rw [hnx]; simp))) hm.2.2 (hm.2.1.trans hps) (by rw [hnx]; simp) hlt hb
theorem BI.next {s : Bf} {a p : Nat} (h : BI nx wo L src s a (nx p)) (hp : p ∈ s.ord) (hps : s.ps p = a) : BI nx wo L src s (a + 1) [] := by
  refine ⟨h.nd, h.bd, h.wn, h.pl, ?_, h.mo, h.s1, ?_, h.sr, h.rc⟩
  · intro x hx
    exact (h.st x hx).imp_right fun ⟨h1, h2, h3, h4, h5⟩ => ⟨h1, h2, h3, h4, .inl (by rcases h5 with h5 | h5 <;> omega)⟩
  · intro q hq z hz hzw hc
    refine h.cl q hq z hz hzw ?_
    by_cases he : s.ps q = a
    · have : q = p := h.psinj hq hp (by omega)
      subst this; exact .inr ⟨he, hz⟩
    · rcases hc with hc | ⟨_, hc⟩
      · exact .inl (by omega)
      · simp at hc
theorem ini_BI : ∀ (l done : List Nat) (s : Bf), BI nx wo L done s 0 [] → (∀ x ∈ s.ord, s.bq x = x) → (∀ x ∈ l, x < L) → BI nx wo L (done ++ l) (Bf.ini wo l s) 0 []
  | [], done, s, h, hs, hb => by simpa [Bf.ini] using h
  | n :: l, done, s, h, hs, hb => by
    rw [Bf.ini, show done ++ n :: l = (done ++ [n]) ++ l by simp]
    have mono : ∀ {x}, Rch nx wo done x → Rch nx wo (done ++ [n]) x := fun hx => by
      induction hx with
      | base h1 h2 => exact .base (by simp [h1]) h2
      | step _ h1 h2 ih => exact .step ih h1 h2
    refine ini_BI l (done ++ [n]) _ ?_ ?_ (fun x hx => hb x (by simp [hx]))
    · unfold Bf.met
      by_cases hc : (n : Int) ≠ wo ∧ n ∉ s.ord
      · rw [if_pos hc]
        obtain ⟨hw, hno⟩ := hc
        have hne : ∀ x ∈ s.ord, x ≠ n := fun x hx e => hno (e ▸ hx)
        have mem : ∀ {x}, x ∈ (s.put n n 0).ord ↔ x ∈ s.ord ∨ x = n := by simp [Bf.put]
        have eb : ∀ {x}, x ∈ (s.put n n 0).ord → (s.put n n 0).bq x = x := fun {x} hx => by
          by_cases e : x = n
          · subst e; simp [Bf.put]
          · simp only [Bf.put, e, if_false]; exact hs x ((mem.1 hx).resolve_right e)
        have ep : ∀ {x}, x ≠ n → (s.put n n 0).ps x = s.ps x := fun hx => by simp [Bf.put, hx]
        refine ⟨?_, ?_, ?_, ?_, ?_, ?_, ?_, ?_, ?_, ?_⟩
        · simp only [Bf.put, List.nodup_append]; exact ⟨h.nd, by simp, fun x hx y hy => by simp at hy; subst hy; exact hne x hx⟩
        · intro x hx; rcases mem.1 hx with hx | rfl
          · exact h.bd x hx
          · exact hb _ (by simp)
        · intro x hx; rcases mem.1 hx with hx | rfl
          · exact h.wn x hx
          · exact hw
        · intro x hx; rcases mem.1 hx with hx | rfl
          · rw [ep (hne x hx)]; simp only [Bf.put]; rw [List.getElem?_append_left (h.pslt hx)]; exact h.pl x hx
          · simp [Bf.put]
        · intro x hx
          refine .inl ⟨?_, eb hx, ?_⟩
          · rcases mem.1 hx with hx | rfl
            · rcases h.st x hx with h1 | ⟨h1, h2, _⟩
              · simp [h1.1]
              · rw [hs x hx] at h2; omega
            · simp
          · rcases mem.1 hx with hx | rfl
            · simp only [Bf.put, hne x hx, if_false]
              rcases h.st x hx with h1 | ⟨h1, h2, _⟩
              · exact h1.2.2
              · rw [hs x hx] at h2; omega
            · simp [Bf.put]
        · intro x hx y hy b1; exact absurd (eb hx) b1
        · intro x hx y hy _ b1; exact absurd (eb hy) b1
        · intro p _ z _ _ hc; rcases hc with hc | ⟨_, hc⟩
          · omega
          · simp at hc
        · intro x hx hxw
          rcases List.mem_append.1 hx with hx | hx
          · exact mem.2 (.inl (h.sr x hx hxw))
          · simp at hx; exact mem.2 (.inr hx)
        · intro x hx; rcases mem.1 hx with hx | rfl
          · exact mono (h.rc x hx)
          · exact .base (by simp) hw
      · rw [if_neg hc]
        refine ⟨h.nd, h.bd, h.wn, h.pl, ?_, h.mo, h.s1, h.cl, ?_, fun x hx => mono (h.rc x hx)⟩
        · intro x hx; exact (h.st x hx).imp_left fun ⟨h1, h2⟩ => ⟨by simp [h1], h2⟩
        · intro x hx hxw
          rcases List.mem_append.1 hx with hx | hx
          · exact h.sr x hx hxw
          · simp at hx; subst hx; exact Classical.byContradiction fun hn => hc ⟨hxw, hn⟩
    · intro x hx
      unfold Bf.met at hx ⊢
      split
      · rename_i hc
        rw [if_pos hc] at hx
        by_cases e : x = n
        · subst e; simp [Bf.put]
        · simp only [Bf.put, e, if_false]; exact hs x (by simpa [Bf.put, e] using hx)
      · rename_i hc
        rw [if_neg hc] at hx; exact hs x hx
theorem no_BI : BI nx wo L [] Bf.no 0 [] := by
  refine ⟨by simp [Bf.no], ?_, ?_, ?_, ?_, ?_, ?_, ?_, ?_, ?_⟩ <;> intro x hx <;> simp [Bf.no] at hx
theorem nd_inj {l : List Nat} (h : l.Nodup) {i j : Nat} (hi : i < l.length) (hj : j < l.length) (e : l[i] = l[j]) : i = j := by
  have hp := List.pairwise_iff_getElem.1 h
  rcases Nat.lt_trichotomy i j with h1 | h1 | h1
  · exact absurd e (hp i j hi hj h1)
  · exact h1
  · exact absurd e.symm (hp j i hj hi h1)
theorem nd_len {l : List Nat} {L : Nat} (h : l.Nodup) (hb : ∀ x ∈ l, x < L) : l.length ≤ L := by
  have := List.Nodup.length_le_of_subset h (l₂ := List.range L) fun x hx => by simpa using hb x hx
  simpa using this
theorem row_keep {wo : Int} {p : Nat} : ∀ (l : List Nat) (s : Bf) {q : Nat}, q ∈ s.ord → (Bf.row wo p l s).ps q = s.ps q ∧ (Bf.row wo p l s).lv q = s.lv q ∧ q ∈ (Bf.row wo p l s).ord
  | [], s, q, h => ⟨rfl, rfl, h⟩
  | n :: l, s, q, h => by
    rw [Bf.row]
    have hm := met_lv (wo := wo) (n := n) (p := p) (k := s.lv p + 1) h
    have := row_keep (wo := wo) (p := p) l _ hm.2.2
    exact ⟨this.1.trans hm.2.1, this.2.1.trans hm.1, this.2.2⟩
theorem met_len {wo : Int} {s : Bf} {n p k : Nat} : s.ord.length ≤ (s.met wo n p k).ord.length := by
  unfold Bf.met; split
  · simp [Bf.put]
  · exact Nat.le_refl _
theorem row_len {wo : Int} {p : Nat} : ∀ (l : List Nat) (s : Bf), s.ord.length ≤ (Bf.row wo p l s).ord.length
  | [], s => Nat.le_refl _
  | n :: l, s => by rw [Bf.row]; exact Nat.le_trans met_len (row_len l _)
theorem rnd_BI (hlt : ∀ i, (nx i).Pairwise (· < ·)) (hb : ∀ i, ∀ x ∈ nx i, x < L) (hs : ∀ x ∈ src, x < L) : ∀ k, ∃ a, BI nx wo L src (Bf.rnd nx wo (Bf.ini wo src Bf.no) k) a [] ∧ a ≤ (Bf.rnd nx wo (Bf.ini wo src Bf.no) k).ord.length ∧ (a = k ∨ a = (Bf.rnd nx wo (Bf.ini wo src Bf.no) k).ord.length) ∧ a ≤ k
  | 0 => by
    have := ini_BI (nx := nx) (wo := wo) (L := L) src [] Bf.no no_BI (by simp [Bf.no]) hs
    exact ⟨0, by simpa [Bf.rnd] using this, Nat.zero_le _, .inl rfl, Nat.le_refl _⟩
  | k + 1 => by
    obtain ⟨a, ih, ih2, ih3, ih4⟩ := rnd_BI hlt hb hs k
    rw [Bf.rnd]
    by_cases hc : k < (Bf.rnd nx wo (Bf.ini wo src Bf.no) k).ord.length
    · rw [if_pos hc]
      have ha : a = k := by omega
      subst ha
      generalize Bf.rnd nx wo (Bf.ini wo src Bf.no) a = s at *
      have hp : s.ord.getD a 0 = s.ord[a] := by simp [hc]
      have hm : s.ord.getD a 0 ∈ s.ord := by rw [hp]; exact List.getElem_mem hc
      have hps : s.ps (s.ord.getD a 0) = a := by
        have h1 := ih.pl _ hm
        obtain ⟨h2, h3⟩ := List.getElem?_eq_some_iff.1 h1
        exact nd_inj ih.nd h2 hc (h3.trans hp)
      have h1 := BI.row (p := s.ord.getD a 0) (nx (s.ord.getD a 0)) ih hm hps (by simp) (hlt _) (hb _)
      have h2 := row_keep (wo := wo) (p := s.ord.getD a 0) (nx (s.ord.getD a 0)) s hm
      have h3 := row_len (wo := wo) (p := s.ord.getD a 0) (nx (s.ord.getD a 0)) s
      exact ⟨a + 1, h1.next h2.2.2 (h2.1.trans hps), by omega, .inl rfl, Nat.le_refl _⟩
    · rw [if_neg hc]; exact ⟨a, ih, ih2, by omega, by omega⟩
theorem rnd_stop {nx : Nat → List Nat} {wo : Int} {s0 : Bf} {k : Nat} (h : (Bf.rnd nx wo s0 k).ord.length ≤ k) : ∀ j, Bf.rnd nx wo s0 (k + j) = Bf.rnd nx wo s0 k
  | 0 => rfl
  | j + 1 => by
    have ih := rnd_stop h j
    show Bf.rnd nx wo s0 (k + j + 1) = _
    rw [Bf.rnd, ih, if_neg (by omega)]
theorem all_BI (hlt : ∀ i, (nx i).Pairwise (· < ·)) (hb : ∀ i, ∀ x ∈ nx i, x < L) (hs : ∀ x ∈ src, x < L) : BI nx wo L src (Bf.all nx wo L src) (Bf.all nx wo L src).ord.length [] := by
  obtain ⟨a, h1, h2, h3, h4⟩ := rnd_BI (wo := wo) hlt hb hs L
  have := nd_len h1.nd h1.bd
  unfold Bf.all
  have e : a = (Bf.rnd nx wo (Bf.ini wo src Bf.no) L).ord.length := by omega
  rw [← e]; exact h1
theorem all_rch (hlt : ∀ i, (nx i).Pairwise (· < ·)) (hb : ∀ i, ∀ x ∈ nx i, x < L) (hs : ∀ x ∈ src, x < L) {x : Nat} : x ∈ (Bf.all nx wo L src).ord ↔ Rch nx wo src x := by
  have H := all_BI (wo := wo) hlt hb hs
  refine ⟨H.rc x, fun h => ?_⟩
  induction h with
  | base h1 h2 => exact H.sr _ h1 h2
  | step _ h1 h2 ih => exact (H.cl _ ih _ h1 h2 (.inl (H.pslt ih))).1
theorem rnd_end {s0 : Bf} {k : Nat} (h : (Bf.rnd nx wo s0 k).ord.length ≤ k) (hk : k ≤ L) : Bf.rnd nx wo s0 L = Bf.rnd nx wo s0 k := by
  have := rnd_stop h (L - k)
  rwa [show k + (L - k) = L by omega] at this
end
end Go.Proofs.YtikhpbidbcfedaaGreat

/- Rows of references that are being sorted: what holds of the world meanwhile. -/
namespace Go.Proofs.YtikhpbidbcfedaaGreat
open Go.RowKit

structure SR (w0 : World) (blk off : Nat) (d0 d : Array Int) (w : World) : Prop where
  sz : d.size = d0.size
  holds : Sort.Holds (Value.int .u64) w blk off d
  os : w.os = w0.os
  tape : w.tape = w0.tape
  output : w.output = w0.output
  size : w0.heap.size ≤ w.heap.size
  block : ∀ j, j < w0.heap.size → j ≠ blk → w.heap[j]? = w0.heap[j]?
  row : ∀ cs e fr, w0.heap[blk]? = some (.cells cs e fr) → ∃ cs', w.heap[blk]? = some (.cells cs' e fr) ∧ cs'.size = cs.size ∧ ∀ k, k < off ∨ off + d0.size ≤ k → cs'[k]? = cs[k]?
  lt : blk < w0.heap.size
section
variable {w0 w w' : World} {blk off : Nat} {d0 d d' : Array Int}
theorem SR.refl (h : Sort.Holds (Value.int .u64) w blk off d) (hb : blk < w.heap.size) : SR w blk off d d w := ⟨rfl, h, rfl, rfl, rfl, Nat.le_refl _, fun _ _ _ => rfl, fun cs _ _ h => ⟨cs, h, rfl, fun _ _ => rfl⟩, hb⟩
theorem SR.trans (h : SR w0 blk off d0 d w) (k : SR w blk off d d' w') : SR w0 blk off d0 d' w' := ⟨k.sz.trans h.sz, k.holds, k.os.trans h.os, k.tape.trans h.tape, k.output.trans h.output, Nat.le_trans h.size k.size, fun j h1 h2 => (k.block j (Nat.lt_of_lt_of_le h1 h.size) h2).trans (h.block j h1 h2), fun cs e fr h1 => by
    obtain ⟨c1, h2, h3, h4⟩ := h.row cs e fr h1
    obtain ⟨c2, h5, h6, h7⟩ := k.row c1 e fr h2
    exact ⟨c2, h5, h6.trans h3, fun j hj => (h7 j (by rw [h.sz]; exact hj)).trans (h4 j hj)⟩, h.lt⟩
theorem SR.drewN (h : SR w0 blk off d0 d w) (q : Nat) : SR w0 blk off d0 d (w.drewN q) := ⟨h.sz, h.holds, h.os, h.tape, h.output, h.size, h.block, h.row, h.lt⟩
theorem SR.drew (h : SR w0 blk off d0 d w) : SR w0 blk off d0 d w.drew := ⟨h.sz, h.holds, h.os, h.tape, h.output, h.size, h.block, h.row, h.lt⟩
theorem SR.blt (h : SR w0 blk off d0 d w) : blk < w.heap.size := Nat.lt_of_lt_of_le h.lt h.size
theorem SR.alloc (h : SR w0 blk off d0 d w) (o : Obj) : SR w0 blk off d0 d (w.alloc o) := by
  have e : ∀ j, j < w.heap.size → (w.alloc o).heap[j]? = w.heap[j]? := fun j hj => Below.heap_alloc w o j hj
  refine ⟨h.sz, fun j hj => ?_, h.os, h.tape, h.output, by simpa using Nat.le_trans h.size (Nat.le_succ _), fun j h1 h2 => (e j (Nat.lt_of_lt_of_le h1 h.size)).trans (h.block j h1 h2), fun cs ee fr h1 => ?_, h.lt⟩
  · have := h.holds j hj
    rw [World.cell?_of_block (w := w) (e blk h.blt), World.frozen?_of_block (w := w) (e blk h.blt)]; exact this
  · obtain ⟨c1, h2, h3⟩ := h.row cs ee fr h1
    exact ⟨c1, (e blk h.blt).trans h2, h3⟩
theorem SR.new (h : SR w0 blk off d0 d w) {c o : Nat} (hc : w0.heap.size ≤ c) (v : Value) : SR w0 blk off d0 d (w.setCell ⟨c, o, none⟩ v) := by
  have e : ∀ j, j ≠ c → (w.setCell ⟨c, o, none⟩ v).heap[j]? = w.heap[j]? := fun j hj => Below.heap_setCell w _ v j hj
  have hbc : blk ≠ c := fun x => by have := h.lt; omega
  refine ⟨h.sz, fun j hj => ?_, h.os, h.tape, h.output, by simpa [World.setCell] using h.size, fun j h1 h2 => (e j (by omega)).trans (h.block j h1 h2), fun cs ee fr h1 => ?_, h.lt⟩
  · have := h.holds j hj
    rw [World.cell?_of_block (w := w) (e blk hbc), World.frozen?_of_block (w := w) (e blk hbc)]; exact this
  · obtain ⟨c1, h2, h3⟩ := h.row cs ee fr h1
    exact ⟨c1, (e blk hbc).trans h2, h3⟩
theorem SR.set (h : SR w0 blk off d0 d w) {i : Nat} (hi : i < d.size) (x : Int) : SR w0 blk off d0 (d.setIfInBounds i x) (w.setCell ⟨blk, off + i, none⟩ (.int .u64 x)) := by
  have e : ∀ j, j ≠ blk → (w.setCell ⟨blk, off + i, none⟩ (.int .u64 x)).heap[j]? = w.heap[j]? := fun j hj => Below.heap_setCell w _ _ j hj
  refine ⟨by rw [Array.size_setIfInBounds]; exact h.sz, ?_, h.os, h.tape, h.output, by simpa [World.setCell] using h.size, fun j h1 h2 => (e j h2).trans (h.block j h1 h2), fun cs ee fr h1 => ?_, h.lt⟩
  · have e1 := Sort.putRow_set (Value.int .u64) w blk off d i x hi
    rw [Sort.putRow_self _ _ _ _ _ h.holds] at e1
    rw [e1]
    exact Sort.holds_putRow _ _ _ _ d _ h.holds (by simp)
  · obtain ⟨c1, h2, h3, h4⟩ := h.row cs ee fr h1
    refine ⟨c1.setIfInBounds (off + i) (.int .u64 x), ?_, by simpa using h3, fun k hk => ?_⟩
    · rw [Sort.setCell_eq]; show (w.heap.modify blk _)[blk]? = _
      rw [Array.getElem?_modify, if_pos rfl, h2]; rfl
    · rw [Array.getElem?_setIfInBounds, if_neg (by have := h.sz; omega)]; exact h4 k hk
theorem SR.swap (h : SR w0 blk off d0 d w) {i j : Nat} (hi : i < d.size) (hj : j < d.size) : SR w0 blk off d0 (Sort.swp d i j) ((w.setCell ⟨blk, off + i, none⟩ (.int .u64 d[j]!)).setCell ⟨blk, off + j, none⟩ (.int .u64 d[i]!)) :=
  (h.set hi d[j]!).set (by simpa using hj) d[i]!
end
theorem swo_ref : Sort.SWO Sort.ltInt := Sort.swo_ltInt
end Go.Proofs.YtikhpbidbcfedaaGreat


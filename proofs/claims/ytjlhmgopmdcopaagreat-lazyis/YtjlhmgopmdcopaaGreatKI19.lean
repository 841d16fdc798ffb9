/- Plain mathematics: the parts of a good dict are good, and its names rise. -/
import Derived.Test.YtjlhmgopmdcopaaGreatKI2
import Derived.Test.YtjlhmgopmdcopaaGreatKI10
import Derived.Test.YtjlhmgopmdcopaaGreatKI18
namespace Go.Proofs.YtjlhmgopmdcopaaGreat
open Go.RowKit

mutual
def Tm.pn : Tm → Int | .mk k _ _ _ _ _ _ l fs _ _ => 1 + (if k = 8 then l.pn else if k = 9 ∨ k = 10 then fs.pn else 0)
def TmL.pn : TmL → Int | .nil => 0 | .cons t l => t.pn + l.pn
def TmF.pn : TmF → Int | .nil => 0 | .cons _ t l => t.pn + l.pn
end
/-- each can be by itself -/
def TmL.gd : TmL → Prop | .nil => True | .cons t l => t.all.e = 0 ∧ l.gd
def TmF.gd : TmF → Prop | .nil => True | .cons _ t l => t.all.e = 0 ∧ l.gd
theorem Tm.good_of {t : Tm} {n p d : Int} (h : (t.wk n p d).e = 0) (hn : 1 ≤ n) (hp : 0 ≤ p) : t.all.e = 0 := by
  obtain ⟨N, D, h1, h2, hF⟩ := t.fit n p d h
  rcases hF n p d with ⟨a1, a2, a3⟩ | ⟨_, a2⟩
  · rcases hF 1 0 0 with ⟨_, _, b3⟩ | ⟨b1, _⟩
    · unfold Tm.all; rw [b3]
    · omega
  · rw [h] at a2; cases a2
mutual
theorem Tm.wk_pn : (t : Tm) → ∀ n p d, (t.wk n p d).e = 0 → (t.wk n p d).p = p + t.pn
  | .mk k b i f tx by' rf l fs c v, n, p, d, h => by
    rw [Tm.wk] at h ⊢
    by_cases h0 : (Tm.mk k b i f tx by' rf l fs c v).own p n ≠ 0
    · rw [if_pos h0] at h; exact absurd h h0
    rw [if_neg h0] at h ⊢
    rw [Tm.pn]
    by_cases h8 : k = 8
    · rw [if_pos h8] at h ⊢; rw [if_pos h8, TmL.wk_pn l _ _ _ h]; omega
    rw [if_neg h8] at h ⊢
    by_cases h9 : k = 9 ∨ k = 10
    · rw [if_pos h9] at h ⊢; rw [if_neg h8, if_pos h9, TmF.wk_pn fs _ _ _ h]; omega
    rw [if_neg h9, if_neg h8, if_neg h9]; simp
theorem TmL.wk_pn : (l : TmL) → ∀ n p d, (l.wk n p d).e = 0 → (l.wk n p d).p = p + l.pn
  | .nil, n, p, d, h => by simp [TmL.wk, TmL.pn]
  | .cons t l, n, p, d, h => by
    rw [TmL.wk] at h ⊢
    by_cases he : (t.wk n p d).e ≠ 0
    · rw [if_pos he] at h; exact absurd h he
    rw [if_neg he] at h ⊢
    rw [TmL.wk_pn l _ _ _ h, Tm.wk_pn t _ _ _ (Decidable.not_not.1 he), TmL.pn]; omega
theorem TmF.wk_pn : (l : TmF) → ∀ n p d, (l.wk n p d).e = 0 → (l.wk n p d).p = p + l.pn
  | .nil, n, p, d, h => by simp [TmF.wk, TmF.pn]
  | .cons m t l, n, p, d, h => by
    rw [TmF.wk] at h ⊢
    by_cases he : (t.wk n p d).e ≠ 0
    · rw [if_pos he] at h; exact absurd h he
    rw [if_neg he] at h ⊢
    rw [TmF.wk_pn l _ _ _ h, Tm.wk_pn t _ _ _ (Decidable.not_not.1 he), TmF.pn]; omega
end
mutual
theorem Tm.pn_pos : (t : Tm) → 1 ≤ t.pn
  | .mk k b i f tx by' rf l fs c v => by
    have h1 := TmL.pn_pos l; have h2 := TmF.pn_pos fs
    rw [Tm.pn]; split
    · omega
    · split <;> omega
theorem TmL.pn_pos : (l : TmL) → 0 ≤ l.pn
  | .nil => by simp [TmL.pn]
  | .cons t l => by have h1 := Tm.pn_pos t; have h2 := TmL.pn_pos l; rw [TmL.pn]; omega
theorem TmF.pn_pos : (l : TmF) → 0 ≤ l.pn
  | .nil => by simp [TmF.pn]
  | .cons m t l => by have h1 := Tm.pn_pos t; have h2 := TmF.pn_pos l; rw [TmF.pn]; omega
end
theorem Tm.good_pn {t : Tm} (h : t.all.e = 0) : t.szN = t.pn ∧ t.pn ≤ 16384 := by
  have h1 := t.wk_pn 1 0 0 h
  obtain ⟨N, D, h2, h3, hF⟩ := t.fit 1 0 0 h
  unfold Tm.szN
  rw [if_neg (by rw [h]; decide)]
  have h4 : t.all.p = t.pn := by have : t.all.p = 0 + t.pn := h1; omega
  refine ⟨h4, ?_⟩
  rcases hF 1 0 0 with ⟨a1, _, a3⟩ | ⟨_, a2⟩
  · have : t.all.p = 0 + N := by show (t.wk 1 0 0).p = _; rw [a3]
    omega
  · have h5 : (t.wk 1 0 0).e = 0 := h
    rw [h5] at a2; cases a2
theorem TmL.gd_of : (l : TmL) → ∀ n p d, (l.wk n p d).e = 0 → 1 ≤ n → 0 ≤ p → l.gd
  | .nil, n, p, d, h, _, _ => trivial
  | .cons t l, n, p, d, h, hn, hp => by
    rw [TmL.wk] at h
    by_cases he : (t.wk n p d).e ≠ 0
    · rw [if_pos he] at h; exact absurd h he
    rw [if_neg he] at h
    have he := Decidable.not_not.1 he
    have h1 := t.wk_pn _ _ _ he
    have h2 := t.pn_pos
    exact ⟨Tm.good_of he hn hp, TmL.gd_of l _ _ _ h hn (by omega)⟩
theorem TmF.gd_of : (l : TmF) → ∀ n p d, (l.wk n p d).e = 0 → 1 ≤ n → 0 ≤ p → l.gd
  | .nil, n, p, d, h, _, _ => trivial
  | .cons m t l, n, p, d, h, hn, hp => by
    rw [TmF.wk] at h
    by_cases he : (t.wk n p d).e ≠ 0
    · rw [if_pos he] at h; exact absurd h he
    rw [if_neg he] at h
    have he := Decidable.not_not.1 he
    have h1 := t.wk_pn _ _ _ he
    have h2 := t.pn_pos
    exact ⟨Tm.good_of he hn hp, TmF.gd_of l _ _ _ h hn (by omega)⟩
/-- a good term's parts are good, and not too many -/
theorem Tm.good_parts {k : Int} {b : Bool} {i : Int} {f : Nat} {tx by' : ByteArray} {rf : Int} {l : TmL} {fs : TmF} {c : ByteArray} {v : Int} (h : (Tm.mk k b i f tx by' rf l fs c v).all.e = 0) :
    (k = 8 → l.gd ∧ l.pn < 16384) ∧ (k = 9 ∨ k = 10 → fs.gd ∧ fs.pn < 16384) := by
  have hp := (Tm.good_pn h).2
  rw [Tm.pn] at hp
  unfold Tm.all at h
  rw [Tm.wk] at h
  by_cases h0 : (Tm.mk k b i f tx by' rf l fs c v).own 0 1 ≠ 0
  · rw [if_pos h0] at h; exact absurd h h0
  rw [if_neg h0] at h
  refine ⟨fun h8 => ?_, fun h9 => ?_⟩
  · rw [if_pos h8] at h hp; exact ⟨TmL.gd_of l _ _ _ h (by decide) (by decide), by omega⟩
  · have h8 : k ≠ 8 := by omega
    rw [if_neg h8, if_pos h9] at h hp; exact ⟨TmF.gd_of fs _ _ _ h (by decide) (by decide), by omega⟩


theorem cmpS_self (a : ByteArray) : Sp.cmpS a a = 0 := (cmp_eq_zero _ _).2 rfl
theorem cmpS_neg (a b : ByteArray) : Sp.cmpS a b = -Sp.cmpS b a := neg_cb _ _
theorem cmpS_tri (a b c : ByteArray) : Tri (Sp.cmpS a b) (Sp.cmpS b c) (Sp.cmpS a c) := tri_cb _ _ _
/-- names that rise -/
def Sp.up (l : List ByteArray) : Prop := l.Pairwise fun a b => Sp.cmpS a b < 0
theorem Sp.leS_no {a b : ByteArray} (h : Sp.leS a b = false) : Sp.cmpS b a < 0 := by
  unfold Sp.leS at h
  simp only [Bool.or_eq_false_iff] at h
  have h1 := h.1
  have h2 := h.2
  have ea : ∀ s : ByteArray, s.toList = s.data.toList := fun s => by rw [ByteArray.toList_eq]
  rw [ea, ea] at h1 h2
  rw [bytesLess_cmp] at h1
  have h3 : Sp.cmpS a b ≠ -1 := by show ¬ Lib.compareBytes a.data.toList b.data.toList = -1; simpa using h1
  have h4 : Sp.cmpS a b ≠ 0 := fun e => by rw [(cmp_eq_zero _ _).1 e] at h2; simp at h2
  have h5 := vals_cb a.data.toList b.data.toList
  have h6 := cmpS_neg b a
  have h7 : Sp.cmpS a b = Lib.compareBytes a.data.toList b.data.toList := rfl
  omega
theorem Sp.named_up : (l : List ByteArray) → ∀ a, Sp.named a l = true → Sp.up l ∧ ∀ n ∈ l, Sp.cmpS a n < 0
  | [], a, _ => ⟨List.Pairwise.nil, fun n h => by cases h⟩
  | n :: l, a, h => by
    simp only [Sp.named, Bool.and_eq_true, Bool.not_eq_true'] at h
    obtain ⟨h1, h2⟩ := Sp.named_up l n h.2
    have h3 := Sp.leS_no h.1.2
    refine ⟨List.Pairwise.cons h2 h1, fun m hm => ?_⟩
    rcases List.mem_cons.1 hm with rfl | hm
    · exact h3
    · exact (cmpS_tri a n m).2.1 h3 (by have := h2 m hm; omega)
theorem Sp.up_tail {a : ByteArray} {l : List ByteArray} (h : Sp.up (a :: l)) : Sp.up l ∧ ∀ n ∈ l, Sp.cmpS a n < 0 := ⟨(List.pairwise_cons.1 h).2, (List.pairwise_cons.1 h).1⟩

/-- a dict's term -/
def dctT (L : TmF) : Tm := .mk 9 false 0 0 ByteArray.empty ByteArray.empty 0 .nil L ByteArray.empty 0
theorem dct_ok {L : TmF} (h : (dctT L).all.e = 0) : L.gd ∧ Sp.named ByteArray.empty L.names = true ∧ L.names.length ≤ 4096 := by
  refine ⟨((Tm.good_parts h).2 (.inl rfl)).1, ?_⟩
  unfold Tm.all dctT at h
  rw [Tm.wk] at h
  by_cases h0 : (dctT L).own 0 1 ≠ 0
  · rw [if_pos (by exact h0)] at h; exact absurd h h0
  · have h1 : (dctT L).own 0 1 = 0 := Decidable.not_not.1 h0
    simp [dctT, Tm.own, Sp.ent] at h1
    unfold Sp.fieldsR at h1
    by_cases h4 : 4096 < L.names.length
    · rw [if_pos h4] at h1; exact absurd h1 (by decide)
    · rw [if_neg h4] at h1
      by_cases hn : Sp.named ByteArray.empty L.names = true
      · exact ⟨hn, by omega⟩
      · rw [if_neg hn] at h1; exact absurd h1 (by decide)
theorem named_nm : (l : List ByteArray) → ∀ a, Sp.named a l = true → ∀ n ∈ l, Sp.isNm n = true
  | [], _, _, n, h => by cases h
  | m :: l, a, h, n, hn => by
    simp only [Sp.named, Bool.and_eq_true, Bool.not_eq_true'] at h
    rcases List.mem_cons.1 hn with rfl | hn
    · exact h.1.1
    · exact named_nm l m h.2 n hn
/-- of names that rise the number tells the order -/
theorem up_cmp {l : List ByteArray} (h : Sp.up l) {i j : Nat} {a b : ByteArray} (hi : l[i]? = some a) (hj : l[j]? = some b) : (Sp.cmpS a b < 0 ↔ i < j) ∧ (Sp.cmpS a b = 0 ↔ i = j) := by
  obtain ⟨hi1, hi2⟩ := List.getElem?_eq_some_iff.1 hi
  obtain ⟨hj1, hj2⟩ := List.getElem?_eq_some_iff.1 hj
  have key := List.pairwise_iff_getElem.1 h
  rcases Nat.lt_trichotomy i j with hlt | rfl | hgt
  · have := key i j hi1 hj1 hlt
    rw [hi2, hj2] at this
    exact ⟨⟨fun _ => hlt, fun _ => this⟩, ⟨fun e => by omega, fun e => by omega⟩⟩
  · have e : a = b := hi2.symm.trans hj2
    subst e
    have := cmpS_self a
    exact ⟨⟨fun e => by omega, fun e => by omega⟩, ⟨fun _ => rfl, fun _ => this⟩⟩
  · have := key j i hj1 hi1 hgt
    rw [hi2, hj2] at this
    have h2 := cmpS_neg a b
    exact ⟨⟨fun e => by omega, fun e => by omega⟩, ⟨fun e => by omega, fun e => by omega⟩⟩
/-- the name and the value under a number -/
def TmF.nth : TmF → Nat → Option (ByteArray × Tm)
  | .nil, _ => none
  | .cons n t _, 0 => some (n, t)
  | .cons _ _ l, j + 1 => l.nth j
theorem TmF.nth_gd : (L : TmF) → ∀ j n t, L.gd → L.nth j = some (n, t) → t.all.e = 0
  | .cons _ _ _, 0, _, _, hg, h => by simp only [TmF.nth, Option.some.injEq, Prod.mk.injEq] at h; obtain ⟨rfl, rfl⟩ := h; exact hg.1
  | .cons _ _ l, j + 1, n, t, hg, h => l.nth_gd j n t hg.2 h
end Go.Proofs.YtjlhmgopmdcopaaGreat


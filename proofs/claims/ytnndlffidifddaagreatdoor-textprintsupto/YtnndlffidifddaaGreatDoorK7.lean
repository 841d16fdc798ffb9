/- Plain mathematics: the order of terms, and that it is an order. Nothing of the program stands here. -/
import Derived.Test.YtnndlffidifddaaGreatDoorK1
import Derived.Lib.Bytealg
namespace Go.Proofs.YtnndlffidifddaaGreatDoor

namespace Sp
def cmpI (a b : Int) : Int := if a < b then -1 else if b < a then 1 else 0
def cmpS (a b : ByteArray) : Int := Lib.compareBytes a.data.toList b.data.toList
def rank (b : Bool) : Int := if b then 1 else 0
/-- where a float stands, by its bits -/
def frank (f : Nat) : Int := if 9223372036854775808 ≤ f then 18446744073709551615 - f else f + 9223372036854775808
end Sp

mutual
def Tm.cmp : Tm → Tm → Int
  | .mk k b i f tx by' rf l fs c v, .mk k2 b2 i2 f2 tx2 by2 rf2 l2 fs2 c2 v2 =>
    if Sp.cmpI k k2 ≠ 0 then Sp.cmpI k k2
    else if k = 2 then Sp.cmpI (Sp.rank b) (Sp.rank b2)
    else if k = 3 then Sp.cmpI i i2
    else if k = 4 then Sp.cmpI (Sp.frank f) (Sp.frank f2)
    else if k = 5 then Sp.cmpS tx tx2
    else if k = 6 then Sp.cmpS by' by2
    else if k = 7 then Sp.cmpI rf rf2
    else if k = 8 then l.cmp l2
    else if k = 9 then fs.cmp fs2
    else if k = 10 then (if Sp.cmpS c c2 ≠ 0 then Sp.cmpS c c2 else if Sp.cmpI v v2 ≠ 0 then Sp.cmpI v v2 else fs.cmp fs2)
    else 0
def TmL.cmp : TmL → TmL → Int
  | .nil, .nil => 0
  | .nil, .cons _ _ => -1
  | .cons _ _, .nil => 1
  | .cons t l, .cons t2 l2 => if t.cmp t2 ≠ 0 then t.cmp t2 else l.cmp l2
def TmF.cmp : TmF → TmF → Int
  | .nil, .nil => 0
  | .nil, .cons _ _ _ => -1
  | .cons _ _ _, .nil => 1
  | .cons n t l, .cons n2 t2 l2 => if Sp.cmpS n n2 ≠ 0 then Sp.cmpS n n2 else if t.cmp t2 ≠ 0 then t.cmp t2 else l.cmp l2
end

theorem ba_empty {s : ByteArray} (h : s.size = 0) : s = ByteArray.empty := by
  cases s with | mk d => simp [ByteArray.size] at h; subst h; rfl
theorem cmp_vals : ∀ (a b : List UInt8), Lib.compareBytes a b = -1 ∨ Lib.compareBytes a b = 0 ∨ Lib.compareBytes a b = 1
  | [], [] => by simp [Lib.compareBytes]
  | [], _ :: _ => by simp [Lib.compareBytes]
  | _ :: _, [] => by simp [Lib.compareBytes]
  | x :: a, y :: b => by
    simp only [Lib.compareBytes]
    split
    · simp
    · split
      · simp
      · exact cmp_vals a b

theorem cmpI_zero {a b : Int} (h : Sp.cmpI a b = 0) : a = b := by
  unfold Sp.cmpI at h; split at h
  · omega
  · split at h <;> omega
section
variable {b b2 : Bool} {i i2 : Int} {f f2 : Nat} {tx tx2 : ByteArray} {by' by2 : ByteArray} {rf rf2 : Int} {l l2 : TmL} {fs fs2 : TmF} {c c2 : ByteArray} {v v2 : Int}
end

/-- a term, a list of terms, fields that can be -/
def Tm.Ok (t : Tm) : Prop := ∃ n p d, (t.wk n p d).e = 0
def TmL.Ok (l : TmL) : Prop := ∃ n p d, (l.wk n p d).e = 0
def TmF.Ok (l : TmF) : Prop := ∃ n p d, (l.wk n p d).e = 0
theorem TmL.Ok.head {t : Tm} {l : TmL} (h : TmL.Ok (.cons t l)) : t.Ok ∧ l.Ok := by
  obtain ⟨n, p, d, h⟩ := h
  rw [TmL.wk] at h
  by_cases e : (t.wk n p d).e ≠ 0
  · rw [if_pos e] at h; exact absurd h e
  · rw [if_neg e] at h; exact ⟨⟨n, p, d, Decidable.not_not.1 e⟩, ⟨_, _, _, h⟩⟩
theorem TmF.Ok.head {m : ByteArray} {t : Tm} {l : TmF} (h : TmF.Ok (.cons m t l)) : t.Ok ∧ l.Ok := by
  obtain ⟨n, p, d, h⟩ := h
  rw [TmF.wk] at h
  by_cases e : (t.wk n p d).e ≠ 0
  · rw [if_pos e] at h; exact absurd h e
  · rw [if_neg e] at h; exact ⟨⟨n, p, d, Decidable.not_not.1 e⟩, ⟨_, _, _, h⟩⟩
theorem Tm.Ok.parts {k : Int} {b : Bool} {i : Int} {f : Nat} {tx : ByteArray} {by' : ByteArray} {rf : Int} {l : TmL} {fs : TmF} {c : ByteArray} {v : Int} (h : Tm.Ok (.mk k b i f tx by' rf l fs c v)) :
    1 ≤ k ∧ k ≤ 10 ∧ (k = 8 → l.Ok) ∧ (k = 9 ∨ k = 10 → fs.Ok) := by
  obtain ⟨n, p, d, h⟩ := h
  rw [Tm.wk] at h
  by_cases e : (Tm.mk k b i f tx by' rf l fs c v).own p n ≠ 0
  · rw [if_pos e] at h; exact absurd h e
  · rw [if_neg e] at h
    have hz := Sp.ent_zero (Tm.own_ent _ _ _ (Decidable.not_not.1 e))
    refine ⟨hz.1, hz.2.1, fun h8 => ?_, fun h9 => ?_⟩
    · rw [if_pos h8] at h; exact ⟨_, _, _, h⟩
    · rw [if_neg (by omega), if_pos h9] at h; exact ⟨_, _, _, h⟩
end Go.Proofs.YtnndlffidifddaaGreatDoor

/- Plain mathematics: the order of terms is turned about by turning about, lies in -1, 0, 1, and goes through a third. -/
namespace Go.Proofs.YtnndlffidifddaaGreatDoor

def Tri (ab bc ac : Int) : Prop := (ab = 0 → bc = 0 → ac = 0) ∧ (ab < 0 → bc ≤ 0 → ac < 0) ∧ (ab ≤ 0 → bc < 0 → ac < 0)
def Lex (x y : Int) : Int := if x ≠ 0 then x else y
theorem neg_cmpI (a b : Int) : Sp.cmpI a b = -Sp.cmpI b a := by unfold Sp.cmpI; (repeat' split) <;> omega
theorem vals_cmpI (a b : Int) : -1 ≤ Sp.cmpI a b ∧ Sp.cmpI a b ≤ 1 := by unfold Sp.cmpI; (repeat' split) <;> omega
theorem neg_lex {x x' y y' : Int} (h : x = -x') (g : y = -y') : Lex x y = -Lex x' y' := by unfold Lex; (repeat' split) <;> omega
theorem vals_lex {x y : Int} (h : -1 ≤ x ∧ x ≤ 1) (g : -1 ≤ y ∧ y ≤ 1) : -1 ≤ Lex x y ∧ Lex x y ≤ 1 := by unfold Lex; split <;> omega

theorem cb_cons (x y : UInt8) (a b : List UInt8) : Lib.compareBytes (x :: a) (y :: b) = Lex (Sp.cmpI x.toNat y.toNat) (Lib.compareBytes a b) := by
  simp only [Lib.compareBytes, Lex, Sp.cmpI, UInt8.lt_iff_toNat_lt]
  by_cases h1 : x.toNat < y.toNat
  · simp [h1]
  · by_cases h2 : y.toNat < x.toNat
    · simp [h1, h2]
    · simp [h1, h2]
theorem neg_cb : ∀ (a b : List UInt8), Lib.compareBytes a b = -Lib.compareBytes b a
  | [], [] => by simp [Lib.compareBytes]
  | [], _ :: _ => by simp [Lib.compareBytes]
  | _ :: _, [] => by simp [Lib.compareBytes]
  | x :: a, y :: b => by rw [cb_cons, cb_cons]; exact neg_lex (neg_cmpI _ _) (neg_cb a b)
theorem vals_cb (a b : List UInt8) : -1 ≤ Lib.compareBytes a b ∧ Lib.compareBytes a b ≤ 1 := by
  rcases cmp_vals a b with h | h | h <;> omega

/-- the order of terms as one lexicographic row -/
def Tm.tail : Tm → Tm → Int
  | .mk k b i f tx by' rf l fs c v, .mk _ b2 i2 f2 tx2 by2 rf2 l2 fs2 c2 v2 =>
    if k = 2 then Sp.cmpI (Sp.rank b) (Sp.rank b2)
    else if k = 3 then Sp.cmpI i i2
    else if k = 4 then Sp.cmpI (Sp.frank f) (Sp.frank f2)
    else if k = 5 then Sp.cmpS tx tx2
    else if k = 6 then Sp.cmpS by' by2
    else if k = 7 then Sp.cmpI rf rf2
    else if k = 8 then l.cmp l2
    else if k = 9 then fs.cmp fs2
    else if k = 10 then Lex (Sp.cmpS c c2) (Lex (Sp.cmpI v v2) (fs.cmp fs2))
    else 0
theorem Tm.cmp_lex (s t : Tm) : s.cmp t = Lex (Sp.cmpI s.kind t.kind) (s.tail t) := by
  cases s; cases t; rw [Tm.cmp]; rfl
theorem TmL.cmp_lex (s t : Tm) (l r : TmL) : TmL.cmp (.cons s l) (.cons t r) = Lex (s.cmp t) (l.cmp r) := by rw [TmL.cmp]; rfl
theorem TmF.cmp_lex (n m : ByteArray) (s t : Tm) (l r : TmF) : TmF.cmp (.cons n s l) (.cons m t r) = Lex (Sp.cmpS n m) (Lex (s.cmp t) (l.cmp r)) := by rw [TmF.cmp]; rfl


mutual
theorem Tm.neg : (s t : Tm) → s.cmp t = -t.cmp s ∧ -1 ≤ s.cmp t ∧ s.cmp t ≤ 1
  | .mk k b i f tx by' rf l fs c v, .mk k2 b2 i2 f2 tx2 by2 rf2 l2 fs2 c2 v2 => by
    rw [Tm.cmp_lex, Tm.cmp_lex]
    by_cases hk : Sp.cmpI k k2 = 0
    · obtain rfl := cmpI_zero hk
      have key : Tm.tail (.mk k b i f tx by' rf l fs c v) (.mk k b2 i2 f2 tx2 by2 rf2 l2 fs2 c2 v2) = -Tm.tail (.mk k b2 i2 f2 tx2 by2 rf2 l2 fs2 c2 v2) (.mk k b i f tx by' rf l fs c v) ∧ -1 ≤ Tm.tail (.mk k b i f tx by' rf l fs c v) (.mk k b2 i2 f2 tx2 by2 rf2 l2 fs2 c2 v2) ∧ Tm.tail (.mk k b i f tx by' rf l fs c v) (.mk k b2 i2 f2 tx2 by2 rf2 l2 fs2 c2 v2) ≤ 1 := by
        simp only [Tm.tail]
        by_cases k2 : k = 2
        · simp only [if_pos k2]; exact ⟨neg_cmpI _ _, vals_cmpI _ _⟩
        simp only [if_neg k2]
        by_cases k3 : k = 3
        · simp only [if_pos k3]; exact ⟨neg_cmpI _ _, vals_cmpI _ _⟩
        simp only [if_neg k3]
        by_cases k4 : k = 4
        · simp only [if_pos k4]; exact ⟨neg_cmpI _ _, vals_cmpI _ _⟩
        simp only [if_neg k4]
        by_cases k5 : k = 5
        · simp only [if_pos k5]; exact ⟨neg_cb _ _, vals_cb _ _⟩
        simp only [if_neg k5]
        by_cases k6 : k = 6
        · simp only [if_pos k6]; exact ⟨neg_cb _ _, vals_cb _ _⟩
        simp only [if_neg k6]
        by_cases k7 : k = 7
        · simp only [if_pos k7]; exact ⟨neg_cmpI _ _, vals_cmpI _ _⟩
        simp only [if_neg k7]
        by_cases k8 : k = 8
        · simp only [if_pos k8]; exact TmL.neg l l2
        simp only [if_neg k8]
        by_cases k9 : k = 9
        · simp only [if_pos k9]; exact TmF.neg fs fs2
        simp only [if_neg k9]
        by_cases k10 : k = 10
        · simp only [if_pos k10]
          have hf := TmF.neg fs fs2
          exact ⟨neg_lex (neg_cb _ _) (neg_lex (neg_cmpI _ _) hf.1), vals_lex (vals_cb _ _) (vals_lex (vals_cmpI _ _) hf.2)⟩
        simp only [if_neg k10]
        decide
      exact ⟨neg_lex (neg_cmpI _ _) key.1, vals_lex (vals_cmpI _ _) key.2⟩
    · have hk' : Sp.cmpI k2 k ≠ 0 := by rw [neg_cmpI]; omega
      have e1 : ∀ y, Lex (Sp.cmpI k k2) y = Sp.cmpI k k2 := fun y => by unfold Lex; rw [if_pos hk]
      have e2 : ∀ y, Lex (Sp.cmpI k2 k) y = Sp.cmpI k2 k := fun y => by unfold Lex; rw [if_pos hk']
      simp only [Tm.kind, e1, e2]
      exact ⟨neg_cmpI _ _, vals_cmpI _ _⟩
theorem TmL.neg : (s t : TmL) → s.cmp t = -t.cmp s ∧ -1 ≤ s.cmp t ∧ s.cmp t ≤ 1
  | .nil, .nil => by simp [TmL.cmp]
  | .nil, .cons _ _ => by simp [TmL.cmp]
  | .cons _ _, .nil => by simp [TmL.cmp]
  | .cons s l, .cons t r => by
    rw [TmL.cmp_lex, TmL.cmp_lex]
    have h1 := Tm.neg s t
    have h2 := TmL.neg l r
    exact ⟨neg_lex h1.1 h2.1, vals_lex h1.2 h2.2⟩
theorem TmF.neg : (s t : TmF) → s.cmp t = -t.cmp s ∧ -1 ≤ s.cmp t ∧ s.cmp t ≤ 1
  | .nil, .nil => by simp [TmF.cmp]
  | .nil, .cons _ _ _ => by simp [TmF.cmp]
  | .cons _ _ _, .nil => by simp [TmF.cmp]
  | .cons n s l, .cons m t r => by
    rw [TmF.cmp_lex, TmF.cmp_lex]
    have h1 := Tm.neg s t
    have h2 := TmF.neg l r
    exact ⟨neg_lex (neg_cb _ _) (neg_lex h1.1 h2.1), vals_lex (vals_cb _ _) (vals_lex h1.2 h2.2)⟩
end
end Go.Proofs.YtnndlffidifddaaGreatDoor


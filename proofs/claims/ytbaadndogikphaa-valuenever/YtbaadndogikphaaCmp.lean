/- Plain mathematics: the order of terms, and that it is an order. Nothing of the program stands here. -/
import Derived.Test.YtbaadndogikphaaSpec
import Derived.Lib.Bytealg
namespace Go.Proofs.Ytbaadndogikphaa

namespace Sp
def cmpI (a b : Int) : Int := if a < b then -1 else if b < a then 1 else 0
def cmpS (a b : ByteArray) : Int := Lib.compareBytes a.data.toList b.data.toList
def rank (b : Bool) : Int := if b then 1 else 0
/-- where a float stands, by its bits -/
def frank (f : Nat) : Int := if 9223372036854775808 ≤ f then 18446744073709551615 - f else f + 9223372036854775808
end Sp

mutual
def Tm.cmp : Tm → Tm → Int
  | .mk k b i f tx by' rf l fs c v, .mk k2 b2 i2 f2 tx2 by2 rf2 l2 fs2 c2 v2 =>
    if Sp.cmpI k k2 ≠ 0 then Sp.cmpI k k2
    else if k = 2 then Sp.cmpI (Sp.rank b) (Sp.rank b2)
    else if k = 3 then Sp.cmpI i i2
    else if k = 4 then Sp.cmpI (Sp.frank f) (Sp.frank f2)
    else if k = 5 then Sp.cmpS tx tx2
    else if k = 6 then Sp.cmpS by' by2
    else if k = 7 then Sp.cmpI rf rf2
    else if k = 8 then l.cmp l2
    else if k = 9 then fs.cmp fs2
    else if k = 10 then (if Sp.cmpS c c2 ≠ 0 then Sp.cmpS c c2 else if Sp.cmpI v v2 ≠ 0 then Sp.cmpI v v2 else fs.cmp fs2)
    else 0
def TmL.cmp : TmL → TmL → Int
  | .nil, .nil => 0
  | .nil, .cons _ _ => -1
  | .cons _ _, .nil => 1
  | .cons t l, .cons t2 l2 => if t.cmp t2 ≠ 0 then t.cmp t2 else l.cmp l2
def TmF.cmp : TmF → TmF → Int
  | .nil, .nil => 0
  | .nil, .cons _ _ _ => -1
  | .cons _ _ _, .nil => 1
  | .cons n t l, .cons n2 t2 l2 => if Sp.cmpS n n2 ≠ 0 then Sp.cmpS n n2 else if t.cmp t2 ≠ 0 then t.cmp t2 else l.cmp l2
end

theorem ba_empty {s : ByteArray} (h : s.size = 0) : s = ByteArray.empty := by
  cases s with | mk d => simp [ByteArray.size] at h; subst h; rfl
theorem ba_len (s : ByteArray) : s.data.toList.length = s.size := Array.length_toList
theorem bytesLess_cmp : ∀ (a b : List UInt8), Op.bytesLess a b = decide (Lib.compareBytes a b = -1)
  | [], [] => by simp [Op.bytesLess, Lib.compareBytes]
  | [], _ :: _ => by simp [Op.bytesLess, Lib.compareBytes]
  | _ :: _, [] => by simp [Op.bytesLess, Lib.compareBytes]
  | x :: a, y :: b => by
    simp only [Op.bytesLess, Lib.compareBytes, bytesLess_cmp a b]
    by_cases h1 : x < y
    · simp [h1]
    · by_cases h2 : y < x
      · have : ¬ x = y := by intro e; subst e; exact absurd h2 (UInt8.lt_irrefl _)
        simp [h1, h2, this]
      · have : x = y := UInt8.le_antisymm (UInt8.not_lt.1 h2) (UInt8.not_lt.1 h1)
        simp [this]
theorem cmp_eq_zero : ∀ (a b : List UInt8), Lib.compareBytes a b = 0 ↔ a = b
  | [], [] => by simp [Lib.compareBytes]
  | [], _ :: _ => by simp [Lib.compareBytes]
  | _ :: _, [] => by simp [Lib.compareBytes]
  | x :: a, y :: b => by
    simp only [Lib.compareBytes]
    by_cases h1 : x < y
    · have : ¬ x = y := by intro e; subst e; exact absurd h1 (UInt8.lt_irrefl _)
      simp [h1, this]
    · by_cases h2 : y < x
      · have : ¬ x = y := by intro e; subst e; exact absurd h2 (UInt8.lt_irrefl _)
        simp [h1, h2, this]
      · have : x = y := UInt8.le_antisymm (UInt8.not_lt.1 h2) (UInt8.not_lt.1 h1)
        simp [this, cmp_eq_zero a b]
theorem cmp_vals : ∀ (a b : List UInt8), Lib.compareBytes a b = -1 ∨ Lib.compareBytes a b = 0 ∨ Lib.compareBytes a b = 1
  | [], [] => by simp [Lib.compareBytes]
  | [], _ :: _ => by simp [Lib.compareBytes]
  | _ :: _, [] => by simp [Lib.compareBytes]
  | x :: a, y :: b => by
    simp only [Lib.compareBytes]
    split
    · simp
    · split
      · simp
      · exact cmp_vals a b

theorem cmpI_zero {a b : Int} (h : Sp.cmpI a b = 0) : a = b := by
  unfold Sp.cmpI at h; split at h
  · omega
  · split at h <;> omega
theorem cmpI_self (a : Int) : Sp.cmpI a a = 0 := by unfold Sp.cmpI; rw [if_neg (by omega), if_neg (by omega)]

section
variable {b b2 : Bool} {i i2 : Int} {f f2 : Nat} {tx tx2 : ByteArray} {by' by2 : ByteArray} {rf rf2 : Int} {l l2 : TmL} {fs fs2 : TmF} {c c2 : ByteArray} {v v2 : Int}
theorem Tm.cmp_ne {k k2 : Int} (h : Sp.cmpI k k2 ≠ 0) : (Tm.mk k b i f tx by' rf l fs c v).cmp (.mk k2 b2 i2 f2 tx2 by2 rf2 l2 fs2 c2 v2) = Sp.cmpI k k2 := by rw [Tm.cmp, if_pos h]
theorem Tm.cmp_1 : (Tm.mk 1 b i f tx by' rf l fs c v).cmp (.mk 1 b2 i2 f2 tx2 by2 rf2 l2 fs2 c2 v2) = 0 := by simp [Tm.cmp, cmpI_self]
theorem Tm.cmp_2 : (Tm.mk 2 b i f tx by' rf l fs c v).cmp (.mk 2 b2 i2 f2 tx2 by2 rf2 l2 fs2 c2 v2) = Sp.cmpI (Sp.rank b) (Sp.rank b2) := by simp [Tm.cmp, cmpI_self]
theorem Tm.cmp_3 : (Tm.mk 3 b i f tx by' rf l fs c v).cmp (.mk 3 b2 i2 f2 tx2 by2 rf2 l2 fs2 c2 v2) = Sp.cmpI i i2 := by simp [Tm.cmp, cmpI_self]
theorem Tm.cmp_4 : (Tm.mk 4 b i f tx by' rf l fs c v).cmp (.mk 4 b2 i2 f2 tx2 by2 rf2 l2 fs2 c2 v2) = Sp.cmpI (Sp.frank f) (Sp.frank f2) := by simp [Tm.cmp, cmpI_self]
theorem Tm.cmp_5 : (Tm.mk 5 b i f tx by' rf l fs c v).cmp (.mk 5 b2 i2 f2 tx2 by2 rf2 l2 fs2 c2 v2) = Sp.cmpS tx tx2 := by simp [Tm.cmp, cmpI_self]
theorem Tm.cmp_6 : (Tm.mk 6 b i f tx by' rf l fs c v).cmp (.mk 6 b2 i2 f2 tx2 by2 rf2 l2 fs2 c2 v2) = Sp.cmpS by' by2 := by simp [Tm.cmp, cmpI_self]
theorem Tm.cmp_7 : (Tm.mk 7 b i f tx by' rf l fs c v).cmp (.mk 7 b2 i2 f2 tx2 by2 rf2 l2 fs2 c2 v2) = Sp.cmpI rf rf2 := by simp [Tm.cmp, cmpI_self]
theorem Tm.cmp_8 : (Tm.mk 8 b i f tx by' rf l fs c v).cmp (.mk 8 b2 i2 f2 tx2 by2 rf2 l2 fs2 c2 v2) = l.cmp l2 := by simp [Tm.cmp, cmpI_self]
theorem Tm.cmp_9 : (Tm.mk 9 b i f tx by' rf l fs c v).cmp (.mk 9 b2 i2 f2 tx2 by2 rf2 l2 fs2 c2 v2) = fs.cmp fs2 := by simp [Tm.cmp, cmpI_self]
theorem Tm.cmp_10 : (Tm.mk 10 b i f tx by' rf l fs c v).cmp (.mk 10 b2 i2 f2 tx2 by2 rf2 l2 fs2 c2 v2) = (if Sp.cmpS c c2 ≠ 0 then Sp.cmpS c c2 else if Sp.cmpI v v2 ≠ 0 then Sp.cmpI v v2 else fs.cmp fs2) := by simp [Tm.cmp, cmpI_self]
end

/-- a term, a list of terms, fields that can be -/
def Tm.Ok (t : Tm) : Prop := ∃ n p d, (t.wk n p d).e = 0
def TmL.Ok (l : TmL) : Prop := ∃ n p d, (l.wk n p d).e = 0
def TmF.Ok (l : TmF) : Prop := ∃ n p d, (l.wk n p d).e = 0
theorem TmL.Ok.head {t : Tm} {l : TmL} (h : TmL.Ok (.cons t l)) : t.Ok ∧ l.Ok := by
  obtain ⟨n, p, d, h⟩ := h
  rw [TmL.wk] at h
  by_cases e : (t.wk n p d).e ≠ 0
  · rw [if_pos e] at h; exact absurd h e
  · rw [if_neg e] at h; exact ⟨⟨n, p, d, Decidable.not_not.1 e⟩, ⟨_, _, _, h⟩⟩
theorem TmF.Ok.head {m : ByteArray} {t : Tm} {l : TmF} (h : TmF.Ok (.cons m t l)) : t.Ok ∧ l.Ok := by
  obtain ⟨n, p, d, h⟩ := h
  rw [TmF.wk] at h
  by_cases e : (t.wk n p d).e ≠ 0
  · rw [if_pos e] at h; exact absurd h e
  · rw [if_neg e] at h; exact ⟨⟨n, p, d, Decidable.not_not.1 e⟩, ⟨_, _, _, h⟩⟩
theorem Tm.Ok.parts {k : Int} {b : Bool} {i : Int} {f : Nat} {tx : ByteArray} {by' : ByteArray} {rf : Int} {l : TmL} {fs : TmF} {c : ByteArray} {v : Int} (h : Tm.Ok (.mk k b i f tx by' rf l fs c v)) :
    1 ≤ k ∧ k ≤ 10 ∧ (k = 8 → l.Ok) ∧ (k = 9 ∨ k = 10 → fs.Ok) := by
  obtain ⟨n, p, d, h⟩ := h
  rw [Tm.wk] at h
  by_cases e : (Tm.mk k b i f tx by' rf l fs c v).own p n ≠ 0
  · rw [if_pos e] at h; exact absurd h e
  · rw [if_neg e] at h
    have hz := Sp.ent_zero (Tm.own_ent _ _ _ (Decidable.not_not.1 e))
    refine ⟨hz.1, hz.2.1, fun h8 => ?_, fun h9 => ?_⟩
    · rw [if_pos h8] at h; exact ⟨_, _, _, h⟩
    · rw [if_neg (by omega), if_pos h9] at h; exact ⟨_, _, _, h⟩
end Go.Proofs.Ytbaadndogikphaa

/- Plain mathematics: terms as trees, names, what is wrong with a part, and the walk through a term's parts. Nothing of the program stands here. -/
import GoSem.Core.Value
import GoSem.Op.String
import Derived.Lib.Bytealg
import Derived.OrdersHeld
import Derived.Deep.RegionHeld
namespace Go.Proofs.YtjdjpbdfchhcfaaGreat

mutual
inductive Tm where
  | mk (kind : Int) (b : Bool) (i : Int) (f : Nat) (text : ByteArray) (bytes : ByteArray) (ref : Int) (list : TmL) (fields : TmF) (cls : ByteArray) (ver : Int)
inductive TmL where
  | nil
  | cons (t : Tm) (l : TmL)
inductive TmF where
  | nil
  | cons (n : ByteArray) (t : Tm) (l : TmF)
end

def Tm.kind : Tm → Int | .mk k _ _ _ _ _ _ _ _ _ _ => k
def TmL.len : TmL → Nat | .nil => 0 | .cons _ l => l.len + 1
def TmF.len : TmF → Nat | .nil => 0 | .cons _ _ l => l.len + 1
def TmF.names : TmF → List ByteArray | .nil => [] | .cons n _ l => n :: l.names
def TmF.vals : TmF → TmL | .nil => .nil | .cons _ t l => .cons t l.vals

mutual
def Tm.sz : Tm → Nat | .mk _ _ _ _ _ _ _ l fs _ _ => l.sz + fs.sz + 1
def TmL.sz : TmL → Nat | .nil => 0 | .cons t l => t.sz + l.sz + 1
def TmF.sz : TmF → Nat | .nil => 0 | .cons _ t l => t.sz + l.sz + 1
end

theorem TmF.names_len (l : TmF) : l.names.length = l.len := by
  induction l using TmF.rec (motive_1 := fun _ => True) (motive_2 := fun _ => True) <;> simp_all [TmF.names, TmF.len]
theorem TmF.vals_len (l : TmF) : l.vals.len = l.len := by
  induction l using TmF.rec (motive_1 := fun _ => True) (motive_2 := fun _ => True) <;> simp_all [TmF.vals, TmF.len, TmL.len]

namespace Sp
def letter (c : Int) : Bool := decide (97 ≤ c ∧ c ≤ 122)
def digit (c : Int) : Bool := decide (48 ≤ c ∧ c ≤ 57)
def len (n m : Int) : Int := if n ≤ m then 0 else 2
def ent (kind number depth : Int) : Int := if kind = 11 then 7 else if kind < 1 ∨ 10 < kind then 6 else if 16384 ≤ number ∨ 64 < depth then 2 else 0

def byte (s : ByteArray) (k : Nat) : Int := ((s.data.getD k 0).toNat : Int)
def ch (k : Nat) (c : Int) : Bool := letter c || (k != 0 && (digit c || c == 95))
def nmTo (s : ByteArray) : Nat → Bool
  | 0 => true
  | k + 1 => nmTo s k && ch k (byte s k)
def isNm (s : ByteArray) : Bool := decide (1 ≤ s.size) && decide (s.size ≤ 32) && nmTo s s.size
def leS (a b : ByteArray) : Bool := Op.bytesLess a.toList b.toList || a.toList == b.toList
def named (ahead : ByteArray) : List ByteArray → Bool
  | [] => true
  | n :: l => isNm n && !leS n ahead && named n l
def fieldsR (l : List ByteArray) : Int := if 4096 < l.length then 2 else if named ByteArray.empty l then 0 else 8
def headR (c : ByteArray) (v : Int) : Int := if isNm c = false then 8 else if v < 1 ∨ 1000 < v then 1 else 0
end Sp

def Tm.own : Tm → Int → Int → Int
  | .mk k _ _ _ tx by' _ l fs c v, p, n =>
    if Sp.ent k p n ≠ 0 then Sp.ent k p n
    else if k = 5 then Sp.len tx.size 65536
    else if k = 6 then Sp.len by'.size 65536
    else if k = 8 then Sp.len l.len 4096
    else if k = 9 then Sp.fieldsR fs.names
    else if k = 10 then (if Sp.headR c v ≠ 0 then Sp.headR c v else Sp.fieldsR fs.names)
    else 0

structure Wr where
  p : Int
  d : Int
  e : Int

mutual
def Tm.wk : Tm → Int → Int → Int → Wr
  | .mk k b i f tx by' rf l fs c v, n, p, d =>
    if (Tm.mk k b i f tx by' rf l fs c v).own p n ≠ 0 then ⟨p + 1, max d n, (Tm.mk k b i f tx by' rf l fs c v).own p n⟩
    else if k = 8 then l.wk (n + 1) (p + 1) (max d n)
    else if k = 9 ∨ k = 10 then fs.wk (n + 1) (p + 1) (max d n)
    else ⟨p + 1, max d n, 0⟩
def TmL.wk : TmL → Int → Int → Int → Wr
  | .nil, _, p, d => ⟨p, d, 0⟩
  | .cons t l, n, p, d => if (t.wk n p d).e ≠ 0 then t.wk n p d else l.wk n (t.wk n p d).p (t.wk n p d).d
def TmF.wk : TmF → Int → Int → Int → Wr
  | .nil, _, p, d => ⟨p, d, 0⟩
  | .cons _ t l, n, p, d => if (t.wk n p d).e ≠ 0 then t.wk n p d else l.wk n (t.wk n p d).p (t.wk n p d).d
end

def TmL.wkR (l : TmL) (n p d : Int) : Wr := if 4096 < l.len then ⟨p, d, 2⟩ else l.wk (n + 1) p d
def TmF.wkR (l : TmF) (n p d : Int) : Wr := if Sp.fieldsR l.names ≠ 0 then ⟨p, d, Sp.fieldsR l.names⟩ else l.wk (n + 1) p d

section
variable {k : Int} {b : Bool} {i : Int} {f : Nat} {tx : ByteArray} {by' : ByteArray} {rf : Int} {l : TmL} {fs : TmF} {c : ByteArray} {v n p d : Int}
theorem Tm.wk_ent (h : Sp.ent k p n ≠ 0) : (Tm.mk k b i f tx by' rf l fs c v).wk n p d = ⟨p + 1, max d n, Sp.ent k p n⟩ := by
  have ho : (Tm.mk k b i f tx by' rf l fs c v).own p n = Sp.ent k p n := by simp only [Tm.own]; rw [if_pos h]
  rw [Tm.wk, ho, if_pos h]
theorem Tm.wk_5 (h : Sp.ent 5 p n = 0) : (Tm.mk 5 b i f tx by' rf l fs c v).wk n p d = ⟨p + 1, max d n, Sp.len tx.size 65536⟩ := by
  have ho : (Tm.mk 5 b i f tx by' rf l fs c v).own p n = Sp.len tx.size 65536 := by simp [Tm.own, h]
  rw [Tm.wk, ho]; by_cases e : Sp.len tx.size 65536 = 0 <;> simp [e]
theorem Tm.wk_6 (h : Sp.ent 6 p n = 0) : (Tm.mk 6 b i f tx by' rf l fs c v).wk n p d = ⟨p + 1, max d n, Sp.len by'.size 65536⟩ := by
  have ho : (Tm.mk 6 b i f tx by' rf l fs c v).own p n = Sp.len by'.size 65536 := by simp [Tm.own, h]
  rw [Tm.wk, ho]; by_cases e : Sp.len by'.size 65536 = 0 <;> simp [e]
theorem Tm.wk_8 (h : Sp.ent 8 p n = 0) : (Tm.mk 8 b i f tx by' rf l fs c v).wk n p d = l.wkR n (p + 1) (max d n) := by
  have ho : (Tm.mk 8 b i f tx by' rf l fs c v).own p n = Sp.len l.len 4096 := by simp [Tm.own, h]
  rw [Tm.wk, ho, TmL.wkR]
  by_cases e : 4096 < l.len
  · have e' : Sp.len l.len 4096 = 2 := by unfold Sp.len; rw [if_neg (by omega)]
    simp [e, e']
  · have e' : Sp.len l.len 4096 = 0 := by unfold Sp.len; rw [if_pos (by omega)]
    simp [e, e']
theorem Tm.wk_9 (h : Sp.ent 9 p n = 0) : (Tm.mk 9 b i f tx by' rf l fs c v).wk n p d = fs.wkR n (p + 1) (max d n) := by
  have ho : (Tm.mk 9 b i f tx by' rf l fs c v).own p n = Sp.fieldsR fs.names := by simp [Tm.own, h]
  rw [Tm.wk, ho, TmF.wkR]; simp
theorem Tm.wk_10 (h : Sp.ent 10 p n = 0) (h' : Sp.headR c v = 0) : (Tm.mk 10 b i f tx by' rf l fs c v).wk n p d = fs.wkR n (p + 1) (max d n) := by
  have ho : (Tm.mk 10 b i f tx by' rf l fs c v).own p n = Sp.fieldsR fs.names := by simp [Tm.own, h, h']
  rw [Tm.wk, ho, TmF.wkR]; simp
theorem Tm.wk_10' (h : Sp.ent 10 p n = 0) (h' : Sp.headR c v ≠ 0) : (Tm.mk 10 b i f tx by' rf l fs c v).wk n p d = ⟨p + 1, max d n, Sp.headR c v⟩ := by
  have ho : (Tm.mk 10 b i f tx by' rf l fs c v).own p n = Sp.headR c v := by simp [Tm.own, h, h']
  rw [Tm.wk, ho, if_pos h']
theorem Tm.wk_else (h : Sp.ent k p n = 0) (h5 : k ≠ 5) (h6 : k ≠ 6) (h8 : k ≠ 8) (h9 : k ≠ 9) (h10 : k ≠ 10) : (Tm.mk k b i f tx by' rf l fs c v).wk n p d = ⟨p + 1, max d n, 0⟩ := by
  have ho : (Tm.mk k b i f tx by' rf l fs c v).own p n = 0 := by simp [Tm.own, h, h5, h6, h8, h9, h10]
  rw [Tm.wk, ho]; simp [h8, h9, h10]
end

theorem TmF.wk_vals : (l : TmF) → ∀ n p d, l.vals.wk n p d = l.wk n p d
  | .nil, _, _, _ => rfl
  | .cons _ t l, n, p, d => by simp only [TmF.vals, TmL.wk, TmF.wk, TmF.wk_vals l]

theorem Tm.own_ent (t : Tm) (p n : Int) (h : t.own p n = 0) : Sp.ent t.kind p n = 0 := by
  cases t with
  | mk k b i f tx by' rf l fs c v =>
    simp only [Tm.own] at h
    by_cases h' : Sp.ent k p n ≠ 0
    · rw [if_pos h'] at h; exact absurd h h'
    · simpa [Tm.kind] using h'

theorem Sp.ent_zero {k p n : Int} (h : Sp.ent k p n = 0) : 1 ≤ k ∧ k ≤ 10 ∧ p < 16384 ∧ n ≤ 64 := by
  unfold Sp.ent at h
  split at h
  · omega
  · split at h
    · omega
    · split at h <;> omega

mutual
theorem Tm.wk_bd : (t : Tm) → ∀ n p d, 0 ≤ p → p ≤ 16384 → p ≤ (t.wk n p d).p ∧ (t.wk n p d).p ≤ 16385 ∧ ((t.wk n p d).e = 0 → (t.wk n p d).p ≤ 16384)
  | .mk k b i f tx by' rf l fs c v, n, p, d, h0, h1 => by
    rw [Tm.wk]
    by_cases h : (Tm.mk k b i f tx by' rf l fs c v).own p n ≠ 0
    · rw [if_pos h]; refine ⟨by simp; omega, by simp; omega, fun e => absurd e h⟩
    · rw [if_neg h]
      have hb := Sp.ent_zero (Tm.own_ent _ _ _ (Decidable.not_not.1 h))
      by_cases h8 : k = 8
      · rw [if_pos h8]; have := TmL.wk_bd l (n + 1) (p + 1) (max d n) (by omega) (by omega); omega
      · rw [if_neg h8]
        by_cases h9 : k = 9 ∨ k = 10
        · rw [if_pos h9]; have := TmF.wk_bd fs (n + 1) (p + 1) (max d n) (by omega) (by omega); omega
        · rw [if_neg h9]; simp; omega
theorem TmL.wk_bd : (l : TmL) → ∀ n p d, 0 ≤ p → p ≤ 16384 → p ≤ (l.wk n p d).p ∧ (l.wk n p d).p ≤ 16385 ∧ ((l.wk n p d).e = 0 → (l.wk n p d).p ≤ 16384)
  | .nil, n, p, d, h0, h1 => by simp [TmL.wk]; omega
  | .cons t l, n, p, d, h0, h1 => by
    have h := Tm.wk_bd t n p d h0 h1
    rw [TmL.wk]
    by_cases he : (t.wk n p d).e ≠ 0
    · rw [if_pos he]; exact h
    · rw [if_neg he]
      have := TmL.wk_bd l n (t.wk n p d).p (t.wk n p d).d (by omega) (h.2.2 (Decidable.not_not.1 he))
      omega
theorem TmF.wk_bd : (l : TmF) → ∀ n p d, 0 ≤ p → p ≤ 16384 → p ≤ (l.wk n p d).p ∧ (l.wk n p d).p ≤ 16385 ∧ ((l.wk n p d).e = 0 → (l.wk n p d).p ≤ 16384)
  | .nil, n, p, d, h0, h1 => by simp [TmF.wk]; omega
  | .cons _ t l, n, p, d, h0, h1 => by
    have h := Tm.wk_bd t n p d h0 h1
    rw [TmF.wk]
    by_cases he : (t.wk n p d).e ≠ 0
    · rw [if_pos he]; exact h
    · rw [if_neg he]
      have := TmF.wk_bd l n (t.wk n p d).p (t.wk n p d).d (by omega) (h.2.2 (Decidable.not_not.1 he))
      omega
end

end Go.Proofs.YtjdjpbdfchhcfaaGreat

/- Plain mathematics: the order of terms, and that it is an order. Nothing of the program stands here. -/
namespace Go.Proofs.YtjdjpbdfchhcfaaGreat

namespace Sp
def cmpI (a b : Int) : Int := if a < b then -1 else if b < a then 1 else 0
def cmpS (a b : ByteArray) : Int := Lib.compareBytes a.data.toList b.data.toList
def rank (b : Bool) : Int := if b then 1 else 0
def frank (f : Nat) : Int := if 9223372036854775808 ≤ f then 18446744073709551615 - f else f + 9223372036854775808
end Sp

mutual
def Tm.cmp : Tm → Tm → Int
  | .mk k b i f tx by' rf l fs c v, .mk k2 b2 i2 f2 tx2 by2 rf2 l2 fs2 c2 v2 =>
    if Sp.cmpI k k2 ≠ 0 then Sp.cmpI k k2
    else if k = 2 then Sp.cmpI (Sp.rank b) (Sp.rank b2)
    else if k = 3 then Sp.cmpI i i2
    else if k = 4 then Sp.cmpI (Sp.frank f) (Sp.frank f2)
    else if k = 5 then Sp.cmpS tx tx2
    else if k = 6 then Sp.cmpS by' by2
    else if k = 7 then Sp.cmpI rf rf2
    else if k = 8 then l.cmp l2
    else if k = 9 then fs.cmp fs2
    else if k = 10 then (if Sp.cmpS c c2 ≠ 0 then Sp.cmpS c c2 else if Sp.cmpI v v2 ≠ 0 then Sp.cmpI v v2 else fs.cmp fs2)
    else 0
def TmL.cmp : TmL → TmL → Int
  | .nil, .nil => 0
  | .nil, .cons _ _ => -1
  | .cons _ _, .nil => 1
  | .cons t l, .cons t2 l2 => if t.cmp t2 ≠ 0 then t.cmp t2 else l.cmp l2
def TmF.cmp : TmF → TmF → Int
  | .nil, .nil => 0
  | .nil, .cons _ _ _ => -1
  | .cons _ _ _, .nil => 1
  | .cons n t l, .cons n2 t2 l2 => if Sp.cmpS n n2 ≠ 0 then Sp.cmpS n n2 else if t.cmp t2 ≠ 0 then t.cmp t2 else l.cmp l2
end

theorem ba_empty {s : ByteArray} (h : s.size = 0) : s = ByteArray.empty := by
  cases s with | mk d => simp [ByteArray.size] at h; subst h; rfl
theorem ba_len (s : ByteArray) : s.data.toList.length = s.size := Array.length_toList
theorem bytesLess_cmp : ∀ (a b : List UInt8), Op.bytesLess a b = decide (Lib.compareBytes a b = -1)
  | [], [] => by simp [Op.bytesLess, Lib.compareBytes]
  | [], _ :: _ => by simp [Op.bytesLess, Lib.compareBytes]
  | _ :: _, [] => by simp [Op.bytesLess, Lib.compareBytes]
  | x :: a, y :: b => by
    simp only [Op.bytesLess, Lib.compareBytes, bytesLess_cmp a b]
    by_cases h1 : x < y
    · simp [h1]
    · by_cases h2 : y < x
      · have : ¬ x = y := by intro e; subst e; exact absurd h2 (UInt8.lt_irrefl _)
        simp [h1, h2, this]
      · have : x = y := UInt8.le_antisymm (UInt8.not_lt.1 h2) (UInt8.not_lt.1 h1)
        simp [this]
theorem cmp_eq_zero : ∀ (a b : List UInt8), Lib.compareBytes a b = 0 ↔ a = b
  | [], [] => by simp [Lib.compareBytes]
  | [], _ :: _ => by simp [Lib.compareBytes]
  | _ :: _, [] => by simp [Lib.compareBytes]
  | x :: a, y :: b => by
    simp only [Lib.compareBytes]
    by_cases h1 : x < y
    · have : ¬ x = y := by intro e; subst e; exact absurd h1 (UInt8.lt_irrefl _)
      simp [h1, this]
    · by_cases h2 : y < x
      · have : ¬ x = y := by intro e; subst e; exact absurd h2 (UInt8.lt_irrefl _)
        simp [h1, h2, this]
      · have : x = y := UInt8.le_antisymm (UInt8.not_lt.1 h2) (UInt8.not_lt.1 h1)
        simp [this, cmp_eq_zero a b]
theorem cmp_vals : ∀ (a b : List UInt8), Lib.compareBytes a b = -1 ∨ Lib.compareBytes a b = 0 ∨ Lib.compareBytes a b = 1
  | [], [] => by simp [Lib.compareBytes]
  | [], _ :: _ => by simp [Lib.compareBytes]
  | _ :: _, [] => by simp [Lib.compareBytes]
  | x :: a, y :: b => by
    simp only [Lib.compareBytes]
    split
    · simp
    · split
      · simp
      · exact cmp_vals a b

theorem cmpI_zero {a b : Int} (h : Sp.cmpI a b = 0) : a = b := by
  unfold Sp.cmpI at h; split at h
  · omega
  · split at h <;> omega
theorem cmpI_self (a : Int) : Sp.cmpI a a = 0 := by unfold Sp.cmpI; rw [if_neg (by omega), if_neg (by omega)]

section
variable {b b2 : Bool} {i i2 : Int} {f f2 : Nat} {tx tx2 : ByteArray} {by' by2 : ByteArray} {rf rf2 : Int} {l l2 : TmL} {fs fs2 : TmF} {c c2 : ByteArray} {v v2 : Int}
theorem Tm.cmp_ne {k k2 : Int} (h : Sp.cmpI k k2 ≠ 0) : (Tm.mk k b i f tx by' rf l fs c v).cmp (.mk k2 b2 i2 f2 tx2 by2 rf2 l2 fs2 c2 v2) = Sp.cmpI k k2 := by rw [Tm.cmp, if_pos h]
theorem Tm.cmp_1 : (Tm.mk 1 b i f tx by' rf l fs c v).cmp (.mk 1 b2 i2 f2 tx2 by2 rf2 l2 fs2 c2 v2) = 0 := by simp [Tm.cmp, cmpI_self]
theorem Tm.cmp_2 : (Tm.mk 2 b i f tx by' rf l fs c v).cmp (.mk 2 b2 i2 f2 tx2 by2 rf2 l2 fs2 c2 v2) = Sp.cmpI (Sp.rank b) (Sp.rank b2) := by simp [Tm.cmp, cmpI_self]
theorem Tm.cmp_3 : (Tm.mk 3 b i f tx by' rf l fs c v).cmp (.mk 3 b2 i2 f2 tx2 by2 rf2 l2 fs2 c2 v2) = Sp.cmpI i i2 := by simp [Tm.cmp, cmpI_self]
theorem Tm.cmp_4 : (Tm.mk 4 b i f tx by' rf l fs c v).cmp (.mk 4 b2 i2 f2 tx2 by2 rf2 l2 fs2 c2 v2) = Sp.cmpI (Sp.frank f) (Sp.frank f2) := by simp [Tm.cmp, cmpI_self]
theorem Tm.cmp_5 : (Tm.mk 5 b i f tx by' rf l fs c v).cmp (.mk 5 b2 i2 f2 tx2 by2 rf2 l2 fs2 c2 v2) = Sp.cmpS tx tx2 := by simp [Tm.cmp, cmpI_self]
theorem Tm.cmp_6 : (Tm.mk 6 b i f tx by' rf l fs c v).cmp (.mk 6 b2 i2 f2 tx2 by2 rf2 l2 fs2 c2 v2) = Sp.cmpS by' by2 := by simp [Tm.cmp, cmpI_self]
theorem Tm.cmp_7 : (Tm.mk 7 b i f tx by' rf l fs c v).cmp (.mk 7 b2 i2 f2 tx2 by2 rf2 l2 fs2 c2 v2) = Sp.cmpI rf rf2 := by simp [Tm.cmp, cmpI_self]
theorem Tm.cmp_8 : (Tm.mk 8 b i f tx by' rf l fs c v).cmp (.mk 8 b2 i2 f2 tx2 by2 rf2 l2 fs2 c2 v2) = l.cmp l2 := by simp [Tm.cmp, cmpI_self]
theorem Tm.cmp_9 : (Tm.mk 9 b i f tx by' rf l fs c v).cmp (.mk 9 b2 i2 f2 tx2 by2 rf2 l2 fs2 c2 v2) = fs.cmp fs2 := by simp [Tm.cmp, cmpI_self]
theorem Tm.cmp_10 : (Tm.mk 10 b i f tx by' rf l fs c v).cmp (.mk 10 b2 i2 f2 tx2 by2 rf2 l2 fs2 c2 v2) = (if Sp.cmpS c c2 ≠ 0 then Sp.cmpS c c2 else if Sp.cmpI v v2 ≠ 0 then Sp.cmpI v v2 else fs.cmp fs2) := by simp [Tm.cmp, cmpI_self]
end

def Tm.Ok (t : Tm) : Prop := ∃ n p d, (t.wk n p d).e = 0
def TmL.Ok (l : TmL) : Prop := ∃ n p d, (l.wk n p d).e = 0
def TmF.Ok (l : TmF) : Prop := ∃ n p d, (l.wk n p d).e = 0
theorem TmL.Ok.head {t : Tm} {l : TmL} (h : TmL.Ok (.cons t l)) : t.Ok ∧ l.Ok := by
  obtain ⟨n, p, d, h⟩ := h
  rw [TmL.wk] at h
  by_cases e : (t.wk n p d).e ≠ 0
  · rw [if_pos e] at h; exact absurd h e
  · rw [if_neg e] at h; exact ⟨⟨n, p, d, Decidable.not_not.1 e⟩, ⟨_, _, _, h⟩⟩
theorem TmF.Ok.head {m : ByteArray} {t : Tm} {l : TmF} (h : TmF.Ok (.cons m t l)) : t.Ok ∧ l.Ok := by
  obtain ⟨n, p, d, h⟩ := h
  rw [TmF.wk] at h
  by_cases e : (t.wk n p d).e ≠ 0
  · rw [if_pos e] at h; exact absurd h e
  · rw [if_neg e] at h; exact ⟨⟨n, p, d, Decidable.not_not.1 e⟩, ⟨_, _, _, h⟩⟩
theorem Tm.Ok.parts {k : Int} {b : Bool} {i : Int} {f : Nat} {tx : ByteArray} {by' : ByteArray} {rf : Int} {l : TmL} {fs : TmF} {c : ByteArray} {v : Int} (h : Tm.Ok (.mk k b i f tx by' rf l fs c v)) :
    1 ≤ k ∧ k ≤ 10 ∧ (k = 8 → l.Ok) ∧ (k = 9 ∨ k = 10 → fs.Ok) := by
  obtain ⟨n, p, d, h⟩ := h
  rw [Tm.wk] at h
  by_cases e : (Tm.mk k b i f tx by' rf l fs c v).own p n ≠ 0
  · rw [if_pos e] at h; exact absurd h e
  · rw [if_neg e] at h
    have hz := Sp.ent_zero (Tm.own_ent _ _ _ (Decidable.not_not.1 e))
    refine ⟨hz.1, hz.2.1, fun h8 => ?_, fun h9 => ?_⟩
    · rw [if_pos h8] at h; exact ⟨_, _, _, h⟩
    · rw [if_neg (by omega), if_pos h9] at h; exact ⟨_, _, _, h⟩
end Go.Proofs.YtjdjpbdfchhcfaaGreat

/- Plain mathematics: a term that can be somewhere has a number of parts and a depth of its own; elsewhere it is wrong only by too many parts or too great a depth. Nothing of the program stands here. -/
namespace Go.Proofs.YtjdjpbdfchhcfaaGreat

theorem Sp.ent_or {k p0 n0 : Int} (h : Sp.ent k p0 n0 = 0) (p n : Int) : (p < 16384 ∧ n ≤ 64 ∧ Sp.ent k p n = 0) ∨ ((16384 ≤ p ∨ 64 < n) ∧ Sp.ent k p n = 2) := by
  have := Sp.ent_zero h
  by_cases g : 16384 ≤ p ∨ 64 < n
  · right; refine ⟨g, ?_⟩; unfold Sp.ent; rw [if_neg (by omega), if_neg (by omega), if_pos g]
  · left; refine ⟨by omega, by omega, ?_⟩; unfold Sp.ent; rw [if_neg (by omega), if_neg (by omega), if_neg g]

theorem Tm.own_or {t : Tm} {p0 n0 : Int} (h : t.own p0 n0 = 0) (p n : Int) : (p < 16384 ∧ n ≤ 64 ∧ t.own p n = 0) ∨ ((16384 ≤ p ∨ 64 < n) ∧ t.own p n = 2) := by
  have he := Tm.own_ent _ _ _ h
  cases t with
  | mk k b i f tx by' rf l fs c v =>
    simp only [Tm.kind] at he
    rcases Sp.ent_or he p n with ⟨h1, h2, h3⟩ | ⟨h1, h2⟩
    · left; refine ⟨h1, h2, ?_⟩
      simp only [Tm.own, he, h3] at h ⊢; exact h
    · right; refine ⟨h1, ?_⟩
      simp only [Tm.own, h2]; rw [if_pos (by decide)]

def Tm.Fit (t : Tm) (N D : Int) : Prop := 1 ≤ N ∧ 0 ≤ D ∧ ∀ n p d, (p + N ≤ 16384 ∧ n + D ≤ 64 ∧ t.wk n p d = ⟨p + N, max d (n + D), 0⟩) ∨ ((16384 < p + N ∨ 64 < n + D) ∧ (t.wk n p d).e = 2)
def TmL.Fit (l : TmL) (N D : Int) : Prop := 0 ≤ N ∧ -1 ≤ D ∧ ∀ n p d, p ≤ 16384 → n ≤ 65 → n - 1 ≤ d → (p + N ≤ 16384 ∧ n + D ≤ 64 ∧ l.wk n p d = ⟨p + N, max d (n + D), 0⟩) ∨ ((16384 < p + N ∨ 64 < n + D) ∧ (l.wk n p d).e = 2)
def TmF.Fit (l : TmF) (N D : Int) : Prop := 0 ≤ N ∧ -1 ≤ D ∧ ∀ n p d, p ≤ 16384 → n ≤ 65 → n - 1 ≤ d → (p + N ≤ 16384 ∧ n + D ≤ 64 ∧ l.wk n p d = ⟨p + N, max d (n + D), 0⟩) ∨ ((16384 < p + N ∨ 64 < n + D) ∧ (l.wk n p d).e = 2)

theorem Wr.eq {a b : Wr} (h1 : a.p = b.p) (h2 : a.d = b.d) (h3 : a.e = b.e) : a = b := by cases a; cases b; simp_all

mutual
theorem Tm.fit : (t : Tm) → ∀ n0 p0 d0, (t.wk n0 p0 d0).e = 0 → ∃ N D, t.Fit N D
  | .mk k b i f tx by' rf l fs c v, n0, p0, d0, h => by
    rw [Tm.wk] at h
    by_cases h0 : (Tm.mk k b i f tx by' rf l fs c v).own p0 n0 ≠ 0
    · rw [if_pos h0] at h; exact absurd h h0
    rw [if_neg h0] at h
    have h0 := Decidable.not_not.1 h0
    by_cases h8 : k = 8
    · rw [if_pos h8] at h
      obtain ⟨N, D, hN, hD, hF⟩ := TmL.fit l _ _ _ h
      refine ⟨N + 1, D + 1, by omega, by omega, fun n p d => ?_⟩
      rcases Tm.own_or h0 p n with ⟨g1, g2, g3⟩ | ⟨g1, g2⟩
      · rw [Tm.wk, if_neg (by rw [g3]; decide), if_pos h8]
        rcases hF (n + 1) (p + 1) (max d n) (by omega) (by omega) (by omega) with ⟨f1, f2, f3⟩ | ⟨f1, f2⟩
        · left; refine ⟨by omega, by omega, ?_⟩; rw [f3]; refine Wr.eq ?_ ?_ rfl <;> simp <;> omega
        · right; refine ⟨by omega, f2⟩
      · right; rw [Tm.wk, if_pos (by rw [g2]; decide)]; exact ⟨by omega, g2⟩
    rw [if_neg h8] at h
    by_cases h9 : k = 9 ∨ k = 10
    · rw [if_pos h9] at h
      obtain ⟨N, D, hN, hD, hF⟩ := TmF.fit fs _ _ _ h
      refine ⟨N + 1, D + 1, by omega, by omega, fun n p d => ?_⟩
      rcases Tm.own_or h0 p n with ⟨g1, g2, g3⟩ | ⟨g1, g2⟩
      · rw [Tm.wk, if_neg (by rw [g3]; decide), if_neg h8, if_pos h9]
        rcases hF (n + 1) (p + 1) (max d n) (by omega) (by omega) (by omega) with ⟨f1, f2, f3⟩ | ⟨f1, f2⟩
        · left; refine ⟨by omega, by omega, ?_⟩; rw [f3]; refine Wr.eq ?_ ?_ rfl <;> simp <;> omega
        · right; refine ⟨by omega, f2⟩
      · right; rw [Tm.wk, if_pos (by rw [g2]; decide)]; exact ⟨by omega, g2⟩
    · refine ⟨1, 0, by omega, by omega, fun n p d => ?_⟩
      rcases Tm.own_or h0 p n with ⟨g1, g2, g3⟩ | ⟨g1, g2⟩
      · rw [Tm.wk, if_neg (by rw [g3]; decide), if_neg h8, if_neg h9]
        left; exact ⟨by omega, by omega, Wr.eq rfl (by simp) rfl⟩
      · right; rw [Tm.wk, if_pos (by rw [g2]; decide)]; exact ⟨by omega, g2⟩
theorem TmL.fit : (l : TmL) → ∀ n0 p0 d0, (l.wk n0 p0 d0).e = 0 → ∃ N D, l.Fit N D
  | .nil, n0, p0, d0, h => ⟨0, -1, by omega, by omega, fun n p d h1 h2 h3 => .inl ⟨by omega, by omega, by rw [TmL.wk]; exact Wr.eq (by simp) (by simp; omega) rfl⟩⟩
  | .cons t l, n0, p0, d0, h => by
    rw [TmL.wk] at h
    by_cases he : (t.wk n0 p0 d0).e ≠ 0
    · rw [if_pos he] at h; exact absurd h he
    rw [if_neg he] at h
    obtain ⟨N1, D1, a1, a2, hT⟩ := Tm.fit t _ _ _ (Decidable.not_not.1 he)
    obtain ⟨N2, D2, b1, b2, hL⟩ := TmL.fit l _ _ _ h
    refine ⟨N1 + N2, max D1 D2, by omega, by omega, fun n p d g1 g2 g3 => ?_⟩
    rw [TmL.wk]
    rcases hT n p d with ⟨e1, e2, e3⟩ | ⟨e1, e2⟩
    · rw [e3, if_neg (by simp)]
      rcases hL n (p + N1) (max d (n + D1)) (by omega) (by omega) (by omega) with ⟨f1, f2, f3⟩ | ⟨f1, f2⟩
      · left; refine ⟨by omega, by omega, ?_⟩; simp only [f3]; refine Wr.eq ?_ ?_ rfl <;> simp <;> omega
      · right; exact ⟨by omega, f2⟩
    · right; rw [if_pos (by rw [e2]; decide)]; exact ⟨by omega, e2⟩
theorem TmF.fit : (l : TmF) → ∀ n0 p0 d0, (l.wk n0 p0 d0).e = 0 → ∃ N D, l.Fit N D
  | .nil, n0, p0, d0, h => ⟨0, -1, by omega, by omega, fun n p d h1 h2 h3 => .inl ⟨by omega, by omega, by rw [TmF.wk]; exact Wr.eq (by simp) (by simp; omega) rfl⟩⟩
  | .cons m t l, n0, p0, d0, h => by
    rw [TmF.wk] at h
    by_cases he : (t.wk n0 p0 d0).e ≠ 0
    · rw [if_pos he] at h; exact absurd h he
    rw [if_neg he] at h
    obtain ⟨N1, D1, a1, a2, hT⟩ := Tm.fit t _ _ _ (Decidable.not_not.1 he)
    obtain ⟨N2, D2, b1, b2, hL⟩ := TmF.fit l _ _ _ h
    refine ⟨N1 + N2, max D1 D2, by omega, by omega, fun n p d g1 g2 g3 => ?_⟩
    rw [TmF.wk]
    rcases hT n p d with ⟨e1, e2, e3⟩ | ⟨e1, e2⟩
    · rw [e3, if_neg (by simp)]
      rcases hL n (p + N1) (max d (n + D1)) (by omega) (by omega) (by omega) with ⟨f1, f2, f3⟩ | ⟨f1, f2⟩
      · left; refine ⟨by omega, by omega, ?_⟩; simp only [f3]; refine Wr.eq ?_ ?_ rfl <;> simp <;> omega
      · right; exact ⟨by omega, f2⟩
    · right; rw [if_pos (by rw [e2]; decide)]; exact ⟨by omega, e2⟩
end
end Go.Proofs.YtjdjpbdfchhcfaaGreat

/- Plain mathematics: the order of terms is turned about by turning about, lies in -1, 0, 1, and goes through a third. -/
namespace Go.Proofs.YtjdjpbdfchhcfaaGreat

def Tri (ab bc ac : Int) : Prop := (ab = 0 → bc = 0 → ac = 0) ∧ (ab < 0 → bc ≤ 0 → ac < 0) ∧ (ab ≤ 0 → bc < 0 → ac < 0)
def Lex (x y : Int) : Int := if x ≠ 0 then x else y
theorem lex_lt {x y : Int} : Lex x y < 0 ↔ x < 0 ∨ (x = 0 ∧ y < 0) := by unfold Lex; split <;> omega
theorem lex_le {x y : Int} : Lex x y ≤ 0 ↔ x < 0 ∨ (x = 0 ∧ y ≤ 0) := by unfold Lex; split <;> omega
theorem lex_zero {x y : Int} : Lex x y = 0 ↔ x = 0 ∧ y = 0 := by unfold Lex; split <;> omega
theorem tri_lex {x1 x2 x3 y1 y2 y3 : Int} (hx : Tri x1 x2 x3) (hy : Tri y1 y2 y3) : Tri (Lex x1 y1) (Lex x2 y2) (Lex x3 y3) := by
  obtain ⟨a1, a2, a3⟩ := hx
  obtain ⟨b1, b2, b3⟩ := hy
  refine ⟨fun h g => ?_, fun h g => ?_, fun h g => ?_⟩
  · rw [lex_zero] at *; exact ⟨a1 h.1 g.1, b1 h.2 g.2⟩
  · rw [lex_lt] at h ⊢; rw [lex_le] at g
    rcases h with h | ⟨h, h'⟩
    · exact .inl (a2 h (by omega))
    · rcases g with g | ⟨g, g'⟩
      · exact .inl (a3 (by omega) g)
      · exact .inr ⟨a1 h g, b2 h' g'⟩
  · rw [lex_lt] at g ⊢; rw [lex_le] at h
    rcases g with g | ⟨g, g'⟩
    · exact .inl (a3 (by omega) g)
    · rcases h with h | ⟨h, h'⟩
      · exact .inl (a2 h (by omega))
      · exact .inr ⟨a1 h g, b3 h' g'⟩
theorem tri_cmpI (a b c : Int) : Tri (Sp.cmpI a b) (Sp.cmpI b c) (Sp.cmpI a c) := by
  unfold Tri Sp.cmpI
  refine ⟨?_, ?_, ?_⟩ <;> (repeat' split) <;> omega
theorem tri_zero : Tri 0 0 0 := ⟨fun _ _ => rfl, fun h => absurd h (by decide), fun _ h => absurd h (by decide)⟩
theorem neg_cmpI (a b : Int) : Sp.cmpI a b = -Sp.cmpI b a := by unfold Sp.cmpI; (repeat' split) <;> omega
theorem vals_cmpI (a b : Int) : -1 ≤ Sp.cmpI a b ∧ Sp.cmpI a b ≤ 1 := by unfold Sp.cmpI; (repeat' split) <;> omega
theorem neg_lex {x x' y y' : Int} (h : x = -x') (g : y = -y') : Lex x y = -Lex x' y' := by unfold Lex; (repeat' split) <;> omega
theorem vals_lex {x y : Int} (h : -1 ≤ x ∧ x ≤ 1) (g : -1 ≤ y ∧ y ≤ 1) : -1 ≤ Lex x y ∧ Lex x y ≤ 1 := by unfold Lex; split <;> omega

theorem cb_cons (x y : UInt8) (a b : List UInt8) : Lib.compareBytes (x :: a) (y :: b) = Lex (Sp.cmpI x.toNat y.toNat) (Lib.compareBytes a b) := by
  simp only [Lib.compareBytes, Lex, Sp.cmpI, UInt8.lt_iff_toNat_lt]
  by_cases h1 : x.toNat < y.toNat
  · simp [h1]
  · by_cases h2 : y.toNat < x.toNat
    · simp [h1, h2]
    · simp [h1, h2]
theorem tri_cb : ∀ (a b c : List UInt8), Tri (Lib.compareBytes a b) (Lib.compareBytes b c) (Lib.compareBytes a c)
  | [], [], [] => tri_zero
  | [], [], _ :: _ => by simp [Lib.compareBytes, Tri]
  | [], _ :: _, [] => by simp [Lib.compareBytes, Tri]
  | [], _ :: _, _ :: _ => by simp [Lib.compareBytes, Tri]
  | _ :: _, [], [] => by simp [Lib.compareBytes, Tri]
  | _ :: _, [], _ :: _ => by simp [Lib.compareBytes, Tri]
  | x :: a, y :: b, [] => by simp [Lib.compareBytes, Tri]
  | x :: a, y :: b, z :: c => by
    rw [cb_cons, cb_cons, cb_cons]
    exact tri_lex (tri_cmpI _ _ _) (tri_cb a b c)
theorem neg_cb : ∀ (a b : List UInt8), Lib.compareBytes a b = -Lib.compareBytes b a
  | [], [] => by simp [Lib.compareBytes]
  | [], _ :: _ => by simp [Lib.compareBytes]
  | _ :: _, [] => by simp [Lib.compareBytes]
  | x :: a, y :: b => by rw [cb_cons, cb_cons]; exact neg_lex (neg_cmpI _ _) (neg_cb a b)
theorem vals_cb (a b : List UInt8) : -1 ≤ Lib.compareBytes a b ∧ Lib.compareBytes a b ≤ 1 := by
  rcases cmp_vals a b with h | h | h <;> omega

def Tm.tail : Tm → Tm → Int
  | .mk k b i f tx by' rf l fs c v, .mk _ b2 i2 f2 tx2 by2 rf2 l2 fs2 c2 v2 =>
    if k = 2 then Sp.cmpI (Sp.rank b) (Sp.rank b2)
    else if k = 3 then Sp.cmpI i i2
    else if k = 4 then Sp.cmpI (Sp.frank f) (Sp.frank f2)
    else if k = 5 then Sp.cmpS tx tx2
    else if k = 6 then Sp.cmpS by' by2
    else if k = 7 then Sp.cmpI rf rf2
    else if k = 8 then l.cmp l2
    else if k = 9 then fs.cmp fs2
    else if k = 10 then Lex (Sp.cmpS c c2) (Lex (Sp.cmpI v v2) (fs.cmp fs2))
    else 0
theorem Tm.cmp_lex (s t : Tm) : s.cmp t = Lex (Sp.cmpI s.kind t.kind) (s.tail t) := by
  cases s; cases t; rw [Tm.cmp]; rfl
theorem TmL.cmp_lex (s t : Tm) (l r : TmL) : TmL.cmp (.cons s l) (.cons t r) = Lex (s.cmp t) (l.cmp r) := by rw [TmL.cmp]; rfl
theorem TmF.cmp_lex (n m : ByteArray) (s t : Tm) (l r : TmF) : TmF.cmp (.cons n s l) (.cons m t r) = Lex (Sp.cmpS n m) (Lex (s.cmp t) (l.cmp r)) := by rw [TmF.cmp]; rfl

theorem tri_lex' {x1 x2 x3 y1 y2 y3 : Int} (hx : Tri x1 x2 x3) (hy : x1 = 0 → x2 = 0 → Tri y1 y2 y3) : Tri (Lex x1 y1) (Lex x2 y2) (Lex x3 y3) := by
  by_cases h : x1 = 0 ∧ x2 = 0
  · exact tri_lex hx (hy h.1 h.2)
  · obtain ⟨a1, a2, a3⟩ := hx
    refine ⟨fun p q => ?_, fun p q => ?_, fun p q => ?_⟩
    · rw [lex_zero] at p q; exact absurd ⟨p.1, q.1⟩ h
    · rw [lex_lt] at p ⊢; rw [lex_le] at q
      by_cases e : x1 < 0
      · exact .inl (a2 e (by omega))
      · exact .inl (a3 (by omega) (by omega))
    · rw [lex_lt] at q ⊢; rw [lex_le] at p
      by_cases e : x1 < 0
      · exact .inl (a2 e (by omega))
      · exact .inl (a3 (by omega) (by omega))

mutual
theorem Tm.tri : (s t u : Tm) → Tri (s.cmp t) (t.cmp u) (s.cmp u)
  | .mk k b i f tx by' rf l fs c v, .mk k2 b2 i2 f2 tx2 by2 rf2 l2 fs2 c2 v2, .mk k3 b3 i3 f3 tx3 by3 rf3 l3 fs3 c3 v3 => by
    rw [Tm.cmp_lex, Tm.cmp_lex, Tm.cmp_lex]
    refine tri_lex' (tri_cmpI _ _ _) (fun h1 h2 => ?_)
    obtain rfl : k = k2 := cmpI_zero h1
    obtain rfl : k = k3 := cmpI_zero h2
    simp only [Tm.tail]
    by_cases k2 : k = 2
    · simp only [if_pos k2]; exact tri_cmpI _ _ _
    simp only [if_neg k2]
    by_cases k3 : k = 3
    · simp only [if_pos k3]; exact tri_cmpI _ _ _
    simp only [if_neg k3]
    by_cases k4 : k = 4
    · simp only [if_pos k4]; exact tri_cmpI _ _ _
    simp only [if_neg k4]
    by_cases k5 : k = 5
    · simp only [if_pos k5]; exact tri_cb _ _ _
    simp only [if_neg k5]
    by_cases k6 : k = 6
    · simp only [if_pos k6]; exact tri_cb _ _ _
    simp only [if_neg k6]
    by_cases k7 : k = 7
    · simp only [if_pos k7]; exact tri_cmpI _ _ _
    simp only [if_neg k7]
    by_cases k8 : k = 8
    · simp only [if_pos k8]; exact TmL.tri l l2 l3
    simp only [if_neg k8]
    by_cases k9 : k = 9
    · simp only [if_pos k9]; exact TmF.tri fs fs2 fs3
    simp only [if_neg k9]
    by_cases k10 : k = 10
    · simp only [if_pos k10]; exact tri_lex (tri_cb _ _ _) (tri_lex (tri_cmpI _ _ _) (TmF.tri fs fs2 fs3))
    simp only [if_neg k10]
    exact tri_zero
theorem TmL.tri : (s t u : TmL) → Tri (s.cmp t) (t.cmp u) (s.cmp u)
  | .nil, .nil, .nil => by simp [TmL.cmp, Tri]
  | .nil, .nil, .cons _ _ => by simp [TmL.cmp, Tri]
  | .nil, .cons _ _, .nil => by simp [TmL.cmp, Tri]
  | .nil, .cons _ _, .cons _ _ => by simp [TmL.cmp, Tri]
  | .cons _ _, .nil, .nil => by simp [TmL.cmp, Tri]
  | .cons _ _, .nil, .cons _ _ => by simp [TmL.cmp, Tri]
  | .cons _ _, .cons _ _, .nil => by simp [TmL.cmp, Tri]
  | .cons s l, .cons t r, .cons u q => by
    rw [TmL.cmp_lex, TmL.cmp_lex, TmL.cmp_lex]
    exact tri_lex (Tm.tri s t u) (TmL.tri l r q)
theorem TmF.tri : (s t u : TmF) → Tri (s.cmp t) (t.cmp u) (s.cmp u)
  | .nil, .nil, .nil => by simp [TmF.cmp, Tri]
  | .nil, .nil, .cons _ _ _ => by simp [TmF.cmp, Tri]
  | .nil, .cons _ _ _, .nil => by simp [TmF.cmp, Tri]
  | .nil, .cons _ _ _, .cons _ _ _ => by simp [TmF.cmp, Tri]
  | .cons _ _ _, .nil, .nil => by simp [TmF.cmp, Tri]
  | .cons _ _ _, .nil, .cons _ _ _ => by simp [TmF.cmp, Tri]
  | .cons _ _ _, .cons _ _ _, .nil => by simp [TmF.cmp, Tri]
  | .cons n s l, .cons m t r, .cons o u q => by
    rw [TmF.cmp_lex, TmF.cmp_lex, TmF.cmp_lex]
    exact tri_lex (tri_cb _ _ _) (tri_lex (Tm.tri s t u) (TmF.tri l r q))
end

mutual
theorem Tm.neg : (s t : Tm) → s.cmp t = -t.cmp s ∧ -1 ≤ s.cmp t ∧ s.cmp t ≤ 1
  | .mk k b i f tx by' rf l fs c v, .mk k2 b2 i2 f2 tx2 by2 rf2 l2 fs2 c2 v2 => by
    rw [Tm.cmp_lex, Tm.cmp_lex]
    by_cases hk : Sp.cmpI k k2 = 0
    · obtain rfl := cmpI_zero hk
      have key : Tm.tail (.mk k b i f tx by' rf l fs c v) (.mk k b2 i2 f2 tx2 by2 rf2 l2 fs2 c2 v2) = -Tm.tail (.mk k b2 i2 f2 tx2 by2 rf2 l2 fs2 c2 v2) (.mk k b i f tx by' rf l fs c v) ∧ -1 ≤ Tm.tail (.mk k b i f tx by' rf l fs c v) (.mk k b2 i2 f2 tx2 by2 rf2 l2 fs2 c2 v2) ∧ Tm.tail (.mk k b i f tx by' rf l fs c v) (.mk k b2 i2 f2 tx2 by2 rf2 l2 fs2 c2 v2) ≤ 1 := by
        simp only [Tm.tail]
        by_cases k2 : k = 2
        · simp only [if_pos k2]; exact ⟨neg_cmpI _ _, vals_cmpI _ _⟩
        simp only [if_neg k2]
        by_cases k3 : k = 3
        · simp only [if_pos k3]; exact ⟨neg_cmpI _ _, vals_cmpI _ _⟩
        simp only [if_neg k3]
        by_cases k4 : k = 4
        · simp only [if_pos k4]; exact ⟨neg_cmpI _ _, vals_cmpI _ _⟩
        simp only [if_neg k4]
        by_cases k5 : k = 5
        · simp only [if_pos k5]; exact ⟨neg_cb _ _, vals_cb _ _⟩
        simp only [if_neg k5]
        by_cases k6 : k = 6
        · simp only [if_pos k6]; exact ⟨neg_cb _ _, vals_cb _ _⟩
        simp only [if_neg k6]
        by_cases k7 : k = 7
        · simp only [if_pos k7]; exact ⟨neg_cmpI _ _, vals_cmpI _ _⟩
        simp only [if_neg k7]
        by_cases k8 : k = 8
        · simp only [if_pos k8]; exact TmL.neg l l2
        simp only [if_neg k8]
        by_cases k9 : k = 9
        · simp only [if_pos k9]; exact TmF.neg fs fs2
        simp only [if_neg k9]
        by_cases k10 : k = 10
        · simp only [if_pos k10]
          have hf := TmF.neg fs fs2
          exact ⟨neg_lex (neg_cb _ _) (neg_lex (neg_cmpI _ _) hf.1), vals_lex (vals_cb _ _) (vals_lex (vals_cmpI _ _) hf.2)⟩
        simp only [if_neg k10]
        decide
      exact ⟨neg_lex (neg_cmpI _ _) key.1, vals_lex (vals_cmpI _ _) key.2⟩
    · have hk' : Sp.cmpI k2 k ≠ 0 := by rw [neg_cmpI]; omega
      have e1 : ∀ y, Lex (Sp.cmpI k k2) y = Sp.cmpI k k2 := fun y => by unfold Lex; rw [if_pos hk]
      have e2 : ∀ y, Lex (Sp.cmpI k2 k) y = Sp.cmpI k2 k := fun y => by unfold Lex; rw [if_pos hk']
      simp only [Tm.kind, e1, e2]
      exact ⟨neg_cmpI _ _, vals_cmpI _ _⟩
theorem TmL.neg : (s t : TmL) → s.cmp t = -t.cmp s ∧ -1 ≤ s.cmp t ∧ s.cmp t ≤ 1
  | .nil, .nil => by simp [TmL.cmp]
  | .nil, .cons _ _ => by simp [TmL.cmp]
  | .cons _ _, .nil => by simp [TmL.cmp]
  | .cons s l, .cons t r => by
    rw [TmL.cmp_lex, TmL.cmp_lex]
    have h1 := Tm.neg s t
    have h2 := TmL.neg l r
    exact ⟨neg_lex h1.1 h2.1, vals_lex h1.2 h2.2⟩
theorem TmF.neg : (s t : TmF) → s.cmp t = -t.cmp s ∧ -1 ≤ s.cmp t ∧ s.cmp t ≤ 1
  | .nil, .nil => by simp [TmF.cmp]
  | .nil, .cons _ _ _ => by simp [TmF.cmp]
  | .cons _ _ _, .nil => by simp [TmF.cmp]
  | .cons n s l, .cons m t r => by
    rw [TmF.cmp_lex, TmF.cmp_lex]
    have h1 := Tm.neg s t
    have h2 := TmF.neg l r
    exact ⟨neg_lex (neg_cb _ _) (neg_lex h1.1 h2.1), vals_lex (vals_cb _ _) (vals_lex h1.2 h2.2)⟩
end
end Go.Proofs.YtjdjpbdfchhcfaaGreat

/- Shorter words for walks through regions that draw their order. -/
namespace Go.Proofs.YtjdjpbdfchhcfaaGreat

theorem lsA {α : Type} (a : List α) (i : Nat) (x : α) : a.toArray.setIfInBounds i x = (a.set i x).toArray := List.setIfInBounds_toArray a i x
theorem lsB {α : Type} (x y : α) (l : List α) : (x :: l).set 0 y = y :: l := List.set_cons_zero
theorem lsC {α : Type} (x y : α) (l : List α) (i : Nat) : (x :: l).set (i + 1) y = x :: l.set i y := List.set_cons_succ
theorem tkH {P : Program} {l : List Oper} {Q : Exit → Act → World → Prop} {md : Region.Mode} {S : World → Prop} {i : Nat} {oi : Oper} {v : Value} {fuel : Nat} {listed : Array Bool} {a : Act} {w : World} (hi : l[i]? = some oi)
    (hb : (Region.noSelect l.toArray && Region.free md l.toArray listed i && (Region.ready md l.toArray listed).contains i) = true) (hw : Region.wanted oi (yielded l.toArray a.tmps) = true) (hy : ∀ w, S w → (execOp a.eval oi).run P w = .ok (.value v) w) (hS : S w)
    (h : wpAnyH P md l.toArray Q S fuel (listed.setIfInBounds i true) (a.put oi.dst v) w) (hQ : ∀ c a w, Q (.panic c) (a.put oi.dst v) w → Q (.panic c) a w := by first | exact fun _ _ _ h => h | exact fun _ _ _ h => absurd h.1 (fun e => by cases e)) : wpAnyH P md l.toArray Q S (fuel + 1) listed a w := by
  simp only [Bool.and_eq_true] at hb
  exact wpAnyH_take (ops := l.toArray) (by simpa using hi) hb.1.1 hb.1.2 hb.2 hQ (Or.inl ⟨hw, hy⟩) hS h
theorem tkN {P : Program} {l : List Oper} {Q : Exit → Act → World → Prop} {md : Region.Mode} {S : World → Prop} {i : Nat} {oi : Oper} {fuel : Nat} {listed : Array Bool} {a : Act} {w : World} (hi : l[i]? = some oi)
    (hb : (Region.noSelect l.toArray && Region.free md l.toArray listed i && (Region.ready md l.toArray listed).contains i) = true) (hw : Region.wanted oi (yielded l.toArray a.tmps) = false) (hS : S w)
    (h : wpAnyH P md l.toArray Q S fuel (listed.setIfInBounds i true) (a.put oi.dst undef) w) (hQ : ∀ c a w, Q (.panic c) (a.put oi.dst undef) w → Q (.panic c) a w := by first | exact fun _ _ _ h => h | exact fun _ _ _ h => absurd h.1 (fun e => by cases e)) : wpAnyH P md l.toArray Q S (fuel + 1) listed a w := by
  simp only [Bool.and_eq_true] at hb
  exact wpAnyH_take (ops := l.toArray) (by simpa using hi) hb.1.1 hb.1.2 hb.2 hQ (Or.inr ⟨hw, rfl⟩) hS h
theorem arC {P : Program} {l : List Oper} {Q : Exit → Act → World → Prop} {md : Region.Mode} {S : World → Prop} {fuel : Nat} {listed : Array Bool} {a : Act} {w : World} {i : Nat} {o : Oper} {rs : List Nat} (ho : l[i]? = some o)
    (h : ∀ K' : Act → World → Prop, Shut (∀ a w, S w → (S w → wpAnyH P md l.toArray Q S fuel (listed.setIfInBounds i true) a w) → K' a w) → if Region.wanted o (yielded l.toArray a.tmps) = true then Oper.wp P o a w K' Q else K' (a.put o.dst undef) w)
    (hs : AllReadyH P md l.toArray Q S fuel listed a w rs) : AllReadyH P md l.toArray Q S fuel listed a w (i :: rs) := AllReadyH.cons (ops := l.toArray) (by simpa using ho) h hs
end Go.Proofs.YtjdjpbdfchhcfaaGreat

/- A region that draws its order, whose loads wait for nothing but a certain operation (a store) waits for them: they may be taken first, if what they read holds still till that operation comes up; behind it nothing is asked. -/
namespace Go.Proofs.YtjdjpbdfchhcfaaGreat

section
variable {P : Program} {ops : Array Oper} {Q : Exit → Act → World → Prop} {md : Region.Mode} {S : World → Prop} {m : Nat}

def wpAnyM (P : Program) (md : Region.Mode) (ops : Array Oper) (Q : Exit → Act → World → Prop) (S : World → Prop) (m : Nat) : Nat → Array Bool → Act → World → Prop
  | 0, listed, a, w => Region.ready md ops listed = [] ∧ Q .normal a w
  | fuel + 1, listed, a, w =>
    (Region.ready md ops listed = [] → Q .normal a w) ∧
    ∀ i ∈ Region.ready md ops listed, wpOp P ops Q i (fun a' w' => ((listed.setIfInBounds i true).getD m false = true ∨ S w') ∧ wpAnyM P md ops Q S m fuel (listed.setIfInBounds i true) a' w') a w

theorem wpAny_of_mark : ∀ (fuel : Nat) (listed : Array Bool) (a : Act) (w : World), wpAnyM P md ops Q S m fuel listed a w → wpAny P md ops Q fuel listed a w
  | 0, _, _, _, h => h
  | fuel + 1, _, _, _, h => ⟨h.1, fun i hi => wpOp_mono (fun a' w' h' => wpAny_of_mark fuel _ a' w' h'.2) (h.2 i hi)⟩

def waitsL (md : Region.Mode) (ops : Array Oper) : List Nat → Nat → Bool
  | [], _ => true
  | k :: ks, i => (match ops[k]? with | some o => o.after.any fun e => Region.binds md e && e.on == ks.headD i | none => false) && waitsL md ops ks i
theorem waitsL_not {listed : Array Bool} {i j : Nat} (hi : listed.getD i false = false) (hj : j ∈ Region.ready md ops listed) : (ks : List Nat) → waitsL md ops ks i = true → (∀ k ∈ ks, listed.getD k false = false) → j ∉ ks
  | [], _, _ => by simp
  | k :: ks, h, hu => by
    simp only [waitsL, Bool.and_eq_true] at h
    intro hmem
    rcases List.mem_cons.1 hmem with e | hmem
    rotate_left
    · exact waitsL_not hi hj ks h.2 (fun q hq => hu q (List.mem_cons_of_mem _ hq)) hmem
    obtain ⟨hjun, oj, hoj, hall⟩ := mem_ready.1 hj
    have h1 := h.1
    rw [← e, hoj] at h1
    obtain ⟨q, hq, hx⟩ := Array.any_eq_true.1 h1
    rw [Bool.and_eq_true] at hx
    have h2 := hall oj.after[q] (Array.getElem_mem hq) hx.1
    have h3 : oj.after[q].on = ks.headD i := by simpa using hx.2
    have h4 : listed.getD (ks.headD i) false = false := by
      cases ks with
      | nil => exact hi
      | cons k2 ks => exact hu k2 (by simp)
    rw [h3] at h2
    rw [Array.getD_eq_getD_getElem?] at h4
    rw [Array.getD_eq_getD_getElem?] at h2
    cases hg : listed[ks.headD i]? with
    | none => rw [hg] at h2; simp at h2
    | some b => rw [hg] at h2 h4; simp at h2 h4; rw [h2] at h4; cases h4

theorem wpAnyM_first {i : Nat} {oi : Oper} {v : Value} {ks : List Nat} (hi : ops[i]? = some oi) (hwait : waitsL md ops (m :: ks) i = true) (hmi : i ∉ m :: ks) (hsel : ∀ (j : Nat) (o : Oper) cs b, ops[j]? = some o → o.op ≠ .select cs b)
    (hQ : ∀ c a w, Q (.panic c) (a.put oi.dst v) w → Q (.panic c) a w) (fuel : Nat) :
    ∀ (listed : Array Bool) (a : Act) (w : World), (∀ j oj, ops[j]? = some oj → j ≠ i → listed.getD j true = false → (∀ e ∈ oj.after, Region.binds md e = true → e.on ≠ i) → oi.apart ops oj = true) →
      (∀ k ∈ m :: ks, listed.getD k false = false) → i ∈ Region.ready md ops listed → YieldsIf P ops S oi v a → S w → wpAnyM P md ops Q S m fuel (listed.setIfInBounds i true) (a.put oi.dst v) w → wpAnyM P md ops Q S m (fuel + 1) listed a w := by
  have hmi' : m ≠ i := fun e => hmi (by simp [e])
  induction fuel with
  | zero =>
    intro listed a w _ hm hr hy hS H
    refine ⟨fun h => (by rw [h] at hr; cases hr), fun j hj => ?_⟩
    by_cases hji : j = i
    · subst hji; exact hy.wpOp hi hS ⟨.inr hS, H⟩
    · have := ready_mono hj hji
      rw [H.1] at this
      cases this
  | succ fuel ih =>
    intro listed a w hfree hm hr hy hS H
    refine ⟨fun h => (by rw [h] at hr; cases hr), fun j hj => ?_⟩
    by_cases hji : j = i
    · subst hji; exact hy.wpOp hi hS ⟨.inr hS, H⟩
    · have h1 := H.2 j (ready_mono hj hji)
      obtain ⟨hjun, oj, hoj, hall⟩ := mem_ready.1 hj
      have hiu : listed.getD i false = false := by
        have h0 := (mem_ready.1 hr).1
        rw [Array.getD_eq_getD_getElem?] at h0 ⊢
        cases hg : listed[i]? with
        | none => rfl
        | some b => rw [hg] at h0; simpa using h0
      have hnot : ∀ e ∈ oj.after, Region.binds md e = true → e.on ≠ i := fun e he hb heq => by
        have h1 := hall e he hb
        have h0 := (mem_ready.1 hr).1
        rw [heq] at h1
        rcases Nat.lt_or_ge i listed.size with h' | h'
        · simp [h'] at h0 h1; rw [h0] at h1; cases h1
        · simp [Array.getElem?_eq_none h'] at h1
      have hjp := waitsL_not hiu hj (m :: ks) hwait hm
      have hjm : j ≠ m := fun e => hjp (by simp [e])
      have h2 := wpOp_putIf hoj (hfree j oj hoj hji hjun hnot) (fun cs b => hsel i oi cs b hi) (fun cs b => hsel j oj cs b hoj) hQ hy h1
      have hfree' : ∀ k ok, ops[k]? = some ok → k ≠ i → (listed.setIfInBounds j true).getD k true = false → (∀ e ∈ ok.after, Region.binds md e = true → e.on ≠ i) → oi.apart ops ok = true := fun k ok hk hki hun hno => by
        refine hfree k ok hk hki ?_ hno
        by_cases hjk : j = k
        · subst hjk; exact hjun
        · rw [getD_set_ne true hjk] at hun; exact hun
      have hmj : ∀ k ∈ m :: ks, (listed.setIfInBounds j true).getD k false = false := fun k hk => by
        have hjk : j ≠ k := fun e => hjp (by rw [e]; exact hk)
        rw [getD_set_ne false hjk]; exact hm k hk
      refine wpOp_mono (fun a' w' h3 => ?_) h2
      have hS' : S w' := by
        rcases h3.2.1 with h | h
        · rw [getD_set_ne false hjm, getD_set_ne false (Ne.symm hmi'), hm m (by simp)] at h; cases h
        · exact h
      refine ⟨.inr hS', ih (listed.setIfInBounds j true) a' w' hfree' hmj (ready_mono hr (Ne.symm hji)) h3.1 hS' ?_⟩
      rw [Array.setIfInBounds_comm _ _ hji]
      exact h3.2.2

theorem wpAnyM_pure {i : Nat} {oi : Oper} {v : Value} (hi : ops[i]? = some oi) (hmi : m ≠ i) (hsel : ∀ (j : Nat) (o : Oper) cs b, ops[j]? = some o → o.op ≠ .select cs b)
    (hQ : ∀ c a w, Q (.panic c) (a.put oi.dst v) w → Q (.panic c) a w) (fuel : Nat) :
    ∀ (listed : Array Bool) (a : Act) (w : World), (∀ j oj, ops[j]? = some oj → j ≠ i → listed.getD j true = false → (∀ e ∈ oj.after, Region.binds md e = true → e.on ≠ i) → oi.apart ops oj = true) →
      i ∈ Region.ready md ops listed → YieldsIf P ops (fun _ => True) oi v a → (listed.getD m false = true ∨ S w) → wpAnyM P md ops Q S m fuel (listed.setIfInBounds i true) (a.put oi.dst v) w → wpAnyM P md ops Q S m (fuel + 1) listed a w := by
  have keep : ∀ {listed : Array Bool} {w : World}, (listed.getD m false = true ∨ S w) → ((listed.setIfInBounds i true).getD m false = true ∨ S w) := fun h => by rw [getD_set_ne false (Ne.symm hmi)]; exact h
  induction fuel with
  | zero =>
    intro listed a w _ hr hy hS H
    refine ⟨fun h => (by rw [h] at hr; cases hr), fun j hj => ?_⟩
    by_cases hji : j = i
    · subst hji; exact hy.wpOp hi trivial ⟨keep hS, H⟩
    · have := ready_mono hj hji
      rw [H.1] at this
      cases this
  | succ fuel ih =>
    intro listed a w hfree hr hy hS H
    refine ⟨fun h => (by rw [h] at hr; cases hr), fun j hj => ?_⟩
    by_cases hji : j = i
    · subst hji; exact hy.wpOp hi trivial ⟨keep hS, H⟩
    · have h1 := H.2 j (ready_mono hj hji)
      obtain ⟨hjun, oj, hoj, hall⟩ := mem_ready.1 hj
      have hnot : ∀ e ∈ oj.after, Region.binds md e = true → e.on ≠ i := fun e he hb heq => by
        have h1 := hall e he hb
        have h0 := (mem_ready.1 hr).1
        rw [heq] at h1
        rcases Nat.lt_or_ge i listed.size with h' | h'
        · simp [h'] at h0 h1; rw [h0] at h1; cases h1
        · simp [Array.getElem?_eq_none h'] at h1
      have h2 := wpOp_putIf hoj (hfree j oj hoj hji hjun hnot) (fun cs b => hsel i oi cs b hi) (fun cs b => hsel j oj cs b hoj) hQ hy h1
      have hfree' : ∀ k ok, ops[k]? = some ok → k ≠ i → (listed.setIfInBounds j true).getD k true = false → (∀ e ∈ ok.after, Region.binds md e = true → e.on ≠ i) → oi.apart ops ok = true := fun k ok hk hki hun hno => by
        refine hfree k ok hk hki ?_ hno
        by_cases hjk : j = k
        · subst hjk; exact hjun
        · rw [getD_set_ne true hjk] at hun; exact hun
      refine wpOp_mono (fun a' w' h3 => ?_) h2
      have hS' : (listed.setIfInBounds j true).getD m false = true ∨ S w' := by
        have := h3.2.1
        rw [Array.setIfInBounds_comm _ _ (Ne.symm hji), getD_set_ne false (Ne.symm hmi)] at this
        exact this
      refine ⟨hS', ih (listed.setIfInBounds j true) a' w' hfree' (ready_mono hr (Ne.symm hji)) h3.1 hS' ?_⟩
      rw [Array.setIfInBounds_comm _ _ hji]
      exact h3.2.2

theorem wpAnyM_take {i : Nat} {oi : Oper} {v : Value} {fuel : Nat} {listed : Array Bool} {a : Act} {w : World} (ks : List Nat) (hi : ops[i]? = some oi) (hwait : waitsL md ops (m :: ks) i = true) (hmi : ((m :: ks).contains i) = false)
    (hs : Region.noSelect ops = true) (hf : Region.free md ops listed i = true) (hr : (Region.ready md ops listed).contains i = true) (hm : ((m :: ks).all fun k => !listed.getD k false) = true)
    (hQ : ∀ c a w, Q (.panic c) (a.put oi.dst v) w → Q (.panic c) a w) (hy : YieldsIf P ops S oi v a) (hS : S w)
    (h : wpAnyM P md ops Q S m fuel (listed.setIfInBounds i true) (a.put oi.dst v) w) : wpAnyM P md ops Q S m (fuel + 1) listed a w :=
  wpAnyM_first hi hwait (fun hx => by rw [List.contains_eq_mem] at hmi; simp only [decide_eq_false_iff_not] at hmi; exact hmi hx) (Region.noSelect_spec hs) hQ fuel listed a w (Region.free_spec hi hf) (fun k hk => by have := List.all_eq_true.1 hm k hk; simpa using this) (by simpa using hr) hy hS h
theorem wpAnyM_free {i : Nat} {oi : Oper} {v : Value} {fuel : Nat} {listed : Array Bool} {a : Act} {w : World} (hi : ops[i]? = some oi) (hmi : (m != i) = true)
    (hs : Region.noSelect ops = true) (hf : Region.free md ops listed i = true) (hr : (Region.ready md ops listed).contains i = true)
    (hQ : ∀ c a w, Q (.panic c) (a.put oi.dst v) w → Q (.panic c) a w) (hy : YieldsIf P ops (fun _ => True) oi v a) (hS : listed.getD m false = true ∨ S w)
    (h : wpAnyM P md ops Q S m fuel (listed.setIfInBounds i true) (a.put oi.dst v) w) : wpAnyM P md ops Q S m (fuel + 1) listed a w :=
  wpAnyM_pure hi (by simpa using hmi) (Region.noSelect_spec hs) hQ fuel listed a w (Region.free_spec hi hf) (by simpa using hr) hy hS h
theorem wpAnyM_one {i : Nat} {o : Oper} {fuel : Nat} {listed : Array Bool} {a : Act} {w : World} (hr : Region.ready md ops listed = [i]) (ho : ops[i]? = some o)
    (h : ∀ K' : Act → World → Prop, Shut (∀ a w, ((listed.setIfInBounds i true).getD m false = true ∨ S w) → wpAnyM P md ops Q S m fuel (listed.setIfInBounds i true) a w → K' a w) → if Region.wanted o (yielded ops a.tmps) = true then Oper.wp P o a w K' Q else K' (a.put o.dst undef) w) :
    wpAnyM P md ops Q S m (fuel + 1) listed a w := by
  refine ⟨fun h0 => (by rw [hr] at h0; cases h0), fun j hj => ?_⟩
  rw [hr] at hj
  have hj : j = i := by simpa using hj
  subst hj
  exact wpOp_step ho (fun K' hK => h K' (fun a w hS hW => hK a w ⟨hS, hW⟩))
theorem wpAnyM_done {listed : Array Bool} {a : Act} {w : World} (hr : Region.ready md ops listed = []) (h : Q .normal a w) : ∀ fuel, wpAnyM P md ops Q S m fuel listed a w
  | 0 => ⟨hr, h⟩
  | _ + 1 => ⟨fun _ => h, by rw [hr]; simp⟩
theorem tkM {l : List Oper} {i : Nat} {oi : Oper} {v : Value} {fuel : Nat} {listed : Array Bool} {a : Act} {w : World} (ks : List Nat) (hi : l[i]? = some oi)
    (hb : (waitsL md l.toArray (m :: ks) i && !((m :: ks).contains i) && Region.noSelect l.toArray && Region.free md l.toArray listed i && (Region.ready md l.toArray listed).contains i && ((m :: ks).all fun k => !listed.getD k false)) = true)
    (hw : Region.wanted oi (yielded l.toArray a.tmps) = true) (hy : ∀ w, S w → (execOp a.eval oi).run P w = .ok (.value v) w) (hS : S w)
    (h : wpAnyM P md l.toArray Q S m fuel (listed.setIfInBounds i true) (a.put oi.dst v) w) (hQ : ∀ c a w, Q (.panic c) (a.put oi.dst v) w → Q (.panic c) a w := by exact fun _ _ _ h => h) : wpAnyM P md l.toArray Q S m (fuel + 1) listed a w := by
  simp only [Bool.and_eq_true] at hb
  obtain ⟨⟨⟨⟨⟨h1, h2⟩, h3⟩, h4⟩, h5⟩, h6⟩ := hb
  exact wpAnyM_take (ops := l.toArray) ks (by simpa using hi) h1 (by simpa only [Bool.not_eq_true'] using h2) h3 h4 h5 h6 hQ (Or.inl ⟨hw, hy⟩) hS h
theorem tkF {l : List Oper} {i : Nat} {oi : Oper} {v : Value} {fuel : Nat} {listed : Array Bool} {a : Act} {w : World} (hi : l[i]? = some oi)
    (hb : ((m != i) && Region.noSelect l.toArray && Region.free md l.toArray listed i && (Region.ready md l.toArray listed).contains i) = true)
    (hw : Region.wanted oi (yielded l.toArray a.tmps) = true) (hy : ∀ w, True → (execOp a.eval oi).run P w = .ok (.value v) w) (hS : listed.getD m false = true ∨ S w)
    (h : wpAnyM P md l.toArray Q S m fuel (listed.setIfInBounds i true) (a.put oi.dst v) w) (hQ : ∀ c a w, Q (.panic c) (a.put oi.dst v) w → Q (.panic c) a w := by exact fun _ _ _ h => h) : wpAnyM P md l.toArray Q S m (fuel + 1) listed a w := by
  simp only [Bool.and_eq_true] at hb
  obtain ⟨⟨⟨h1, h2⟩, h3⟩, h4⟩ := hb
  exact wpAnyM_free (ops := l.toArray) (by simpa using hi) h1 h2 h3 h4 hQ (Or.inl ⟨hw, hy⟩) hS h
theorem tkO {l : List Oper} {i : Nat} {o : Oper} {fuel : Nat} {listed : Array Bool} {a : Act} {w : World} (hr : Region.ready md l.toArray listed = [i]) (ho : l[i]? = some o)
    (h : ∀ K' : Act → World → Prop, Shut (∀ a w, ((listed.setIfInBounds i true).getD m false = true ∨ S w) → wpAnyM P md l.toArray Q S m fuel (listed.setIfInBounds i true) a w → K' a w) → if Region.wanted o (yielded l.toArray a.tmps) = true then Oper.wp P o a w K' Q else K' (a.put o.dst undef) w) :
    wpAnyM P md l.toArray Q S m (fuel + 1) listed a w := wpAnyM_one (ops := l.toArray) hr (by simpa using ho) h
theorem wp_region_mark {id : Nat} {a : Act} {w : World} (S : World → Prop) (m : Nat) (hm : P.follows .mixedOrders = true) (h : wpAnyM P .any ops Q S m ops.size (Array.replicate ops.size false) a w.drew) : (Code.region id ops true).wp P Q a w :=
  wp_region_any hm (wpAny_of_mark _ _ _ _ h)
end
end Go.Proofs.YtjdjpbdfchhcfaaGreat


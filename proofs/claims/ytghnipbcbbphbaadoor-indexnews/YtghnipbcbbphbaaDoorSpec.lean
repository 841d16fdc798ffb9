/- Plain mathematics: terms as trees, names, what is wrong with a part, and the walk through a term's parts. Nothing of the program stands here. -/
import GoSem.Core.Value
import GoSem.Op.String
namespace Go.Proofs.YtghnipbcbbphbaaDoor

mutual
inductive Tm where
  | mk (kind : Int) (b : Bool) (i : Int) (f : Nat) (text : ByteArray) (bytes : ByteArray) (ref : Int) (list : TmL) (fields : TmF) (cls : ByteArray) (ver : Int)
inductive TmL where
  | nil
  | cons (t : Tm) (l : TmL)
inductive TmF where
  | nil
  | cons (n : ByteArray) (t : Tm) (l : TmF)
end

def Tm.kind : Tm → Int | .mk k _ _ _ _ _ _ _ _ _ _ => k
def Tm.list : Tm → TmL | .mk _ _ _ _ _ _ _ l _ _ _ => l
def Tm.fields : Tm → TmF | .mk _ _ _ _ _ _ _ _ l _ _ => l
def TmL.len : TmL → Nat | .nil => 0 | .cons _ l => l.len + 1
def TmF.len : TmF → Nat | .nil => 0 | .cons _ _ l => l.len + 1
def TmF.names : TmF → List ByteArray | .nil => [] | .cons n _ l => n :: l.names
def TmF.vals : TmF → TmL | .nil => .nil | .cons _ t l => .cons t l.vals

mutual
def Tm.sz : Tm → Nat | .mk _ _ _ _ _ _ _ l fs _ _ => l.sz + fs.sz + 1
def TmL.sz : TmL → Nat | .nil => 0 | .cons t l => t.sz + l.sz + 1
def TmF.sz : TmF → Nat | .nil => 0 | .cons _ t l => t.sz + l.sz + 1
end

theorem TmF.names_len (l : TmF) : l.names.length = l.len := by
  induction l using TmF.rec (motive_1 := fun _ => True) (motive_2 := fun _ => True) <;> simp_all [TmF.names, TmF.len]
theorem TmF.vals_len (l : TmF) : l.vals.len = l.len := by
  induction l using TmF.rec (motive_1 := fun _ => True) (motive_2 := fun _ => True) <;> simp_all [TmF.vals, TmF.len, TmL.len]

namespace Sp
def letter (c : Int) : Bool := decide (97 ≤ c ∧ c ≤ 122)
def digit (c : Int) : Bool := decide (48 ≤ c ∧ c ≤ 57)
def len (n m : Int) : Int := if n ≤ m then 0 else 2
/-- the error that a part has by its kind, its number and its depth -/
def ent (kind number depth : Int) : Int := if kind = 11 then 7 else if kind < 1 ∨ 10 < kind then 6 else if 16384 ≤ number ∨ 64 < depth then 2 else 0

def byte (s : ByteArray) (k : Nat) : Int := ((s.data.getD k 0).toNat : Int)
/-- may the byte at place k of a name be c -/
def ch (k : Nat) (c : Int) : Bool := letter c || (k != 0 && (digit c || c == 95))
def nmTo (s : ByteArray) : Nat → Bool
  | 0 => true
  | k + 1 => nmTo s k && ch k (byte s k)
def isNm (s : ByteArray) : Bool := decide (1 ≤ s.size) && decide (s.size ≤ 32) && nmTo s s.size
/-- Go's '<=' on strings, as the model spells it -/
def leS (a b : ByteArray) : Bool := Op.bytesLess a.toList b.toList || a.toList == b.toList
/-- all names can be, each above the one ahead -/
def named (ahead : ByteArray) : List ByteArray → Bool
  | [] => true
  | n :: l => isNm n && !leS n ahead && named n l
def fieldsR (l : List ByteArray) : Int := if 4096 < l.length then 2 else if named ByteArray.empty l then 0 else 8
def headR (c : ByteArray) (v : Int) : Int := if isNm c = false then 8 else if v < 1 ∨ 1000 < v then 1 else 0
end Sp

/-- what is wrong with a part by itself -/
def Tm.own : Tm → Int → Int → Int
  | .mk k _ _ _ tx by' _ l fs c v, p, n =>
    if Sp.ent k p n ≠ 0 then Sp.ent k p n
    else if k = 5 then Sp.len tx.size 65536
    else if k = 6 then Sp.len by'.size 65536
    else if k = 8 then Sp.len l.len 4096
    else if k = 9 then Sp.fieldsR fs.names
    else if k = 10 then (if Sp.headR c v ≠ 0 then Sp.headR c v else Sp.fieldsR fs.names)
    else 0

structure Wr where
  p : Int
  d : Int
  e : Int

mutual
/-- the walk through a term at depth n, behind p parts, the deepest d: the numbers behind it, and the error -/
def Tm.wk : Tm → Int → Int → Int → Wr
  | .mk k b i f tx by' rf l fs c v, n, p, d =>
    if (Tm.mk k b i f tx by' rf l fs c v).own p n ≠ 0 then ⟨p + 1, max d n, (Tm.mk k b i f tx by' rf l fs c v).own p n⟩
    else if k = 8 then l.wk (n + 1) (p + 1) (max d n)
    else if k = 9 ∨ k = 10 then fs.wk (n + 1) (p + 1) (max d n)
    else ⟨p + 1, max d n, 0⟩
def TmL.wk : TmL → Int → Int → Int → Wr
  | .nil, _, p, d => ⟨p, d, 0⟩
  | .cons t l, n, p, d => if (t.wk n p d).e ≠ 0 then t.wk n p d else l.wk n (t.wk n p d).p (t.wk n p d).d
def TmF.wk : TmF → Int → Int → Int → Wr
  | .nil, _, p, d => ⟨p, d, 0⟩
  | .cons _ t l, n, p, d => if (t.wk n p d).e ≠ 0 then t.wk n p d else l.wk n (t.wk n p d).p (t.wk n p d).d
end

def TmL.wkR (l : TmL) (n p d : Int) : Wr := if 4096 < l.len then ⟨p, d, 2⟩ else l.wk (n + 1) p d
def TmF.wkR (l : TmF) (n p d : Int) : Wr := if Sp.fieldsR l.names ≠ 0 then ⟨p, d, Sp.fieldsR l.names⟩ else l.wk (n + 1) p d

section
variable {k : Int} {b : Bool} {i : Int} {f : Nat} {tx : ByteArray} {by' : ByteArray} {rf : Int} {l : TmL} {fs : TmF} {c : ByteArray} {v n p d : Int}
theorem Tm.wk_ent (h : Sp.ent k p n ≠ 0) : (Tm.mk k b i f tx by' rf l fs c v).wk n p d = ⟨p + 1, max d n, Sp.ent k p n⟩ := by
  have ho : (Tm.mk k b i f tx by' rf l fs c v).own p n = Sp.ent k p n := by simp only [Tm.own]; rw [if_pos h]
  rw [Tm.wk, ho, if_pos h]
theorem Tm.wk_5 (h : Sp.ent 5 p n = 0) : (Tm.mk 5 b i f tx by' rf l fs c v).wk n p d = ⟨p + 1, max d n, Sp.len tx.size 65536⟩ := by
  have ho : (Tm.mk 5 b i f tx by' rf l fs c v).own p n = Sp.len tx.size 65536 := by simp [Tm.own, h]
  rw [Tm.wk, ho]; by_cases e : Sp.len tx.size 65536 = 0 <;> simp [e]
theorem Tm.wk_6 (h : Sp.ent 6 p n = 0) : (Tm.mk 6 b i f tx by' rf l fs c v).wk n p d = ⟨p + 1, max d n, Sp.len by'.size 65536⟩ := by
  have ho : (Tm.mk 6 b i f tx by' rf l fs c v).own p n = Sp.len by'.size 65536 := by simp [Tm.own, h]
  rw [Tm.wk, ho]; by_cases e : Sp.len by'.size 65536 = 0 <;> simp [e]
theorem Tm.wk_8 (h : Sp.ent 8 p n = 0) : (Tm.mk 8 b i f tx by' rf l fs c v).wk n p d = l.wkR n (p + 1) (max d n) := by
  have ho : (Tm.mk 8 b i f tx by' rf l fs c v).own p n = Sp.len l.len 4096 := by simp [Tm.own, h]
  rw [Tm.wk, ho, TmL.wkR]
  by_cases e : 4096 < l.len
  · have e' : Sp.len l.len 4096 = 2 := by unfold Sp.len; rw [if_neg (by omega)]
    simp [e, e']
  · have e' : Sp.len l.len 4096 = 0 := by unfold Sp.len; rw [if_pos (by omega)]
    simp [e, e']
theorem Tm.wk_9 (h : Sp.ent 9 p n = 0) : (Tm.mk 9 b i f tx by' rf l fs c v).wk n p d = fs.wkR n (p + 1) (max d n) := by
  have ho : (Tm.mk 9 b i f tx by' rf l fs c v).own p n = Sp.fieldsR fs.names := by simp [Tm.own, h]
  rw [Tm.wk, ho, TmF.wkR]; simp
theorem Tm.wk_10 (h : Sp.ent 10 p n = 0) (h' : Sp.headR c v = 0) : (Tm.mk 10 b i f tx by' rf l fs c v).wk n p d = fs.wkR n (p + 1) (max d n) := by
  have ho : (Tm.mk 10 b i f tx by' rf l fs c v).own p n = Sp.fieldsR fs.names := by simp [Tm.own, h, h']
  rw [Tm.wk, ho, TmF.wkR]; simp
theorem Tm.wk_10' (h : Sp.ent 10 p n = 0) (h' : Sp.headR c v ≠ 0) : (Tm.mk 10 b i f tx by' rf l fs c v).wk n p d = ⟨p + 1, max d n, Sp.headR c v⟩ := by
  have ho : (Tm.mk 10 b i f tx by' rf l fs c v).own p n = Sp.headR c v := by simp [Tm.own, h, h']
  rw [Tm.wk, ho, if_pos h']
theorem Tm.wk_else (h : Sp.ent k p n = 0) (h5 : k ≠ 5) (h6 : k ≠ 6) (h8 : k ≠ 8) (h9 : k ≠ 9) (h10 : k ≠ 10) : (Tm.mk k b i f tx by' rf l fs c v).wk n p d = ⟨p + 1, max d n, 0⟩ := by
  have ho : (Tm.mk k b i f tx by' rf l fs c v).own p n = 0 := by simp [Tm.own, h, h5, h6, h8, h9, h10]
  rw [Tm.wk, ho]; simp [h8, h9, h10]
end

theorem TmF.wk_vals : (l : TmF) → ∀ n p d, l.vals.wk n p d = l.wk n p d
  | .nil, _, _, _ => rfl
  | .cons _ t l, n, p, d => by simp only [TmF.vals, TmL.wk, TmF.wk, TmF.wk_vals l]

theorem Tm.own_ent (t : Tm) (p n : Int) (h : t.own p n = 0) : Sp.ent t.kind p n = 0 := by
  cases t with
  | mk k b i f tx by' rf l fs c v =>
    simp only [Tm.own] at h
    by_cases h' : Sp.ent k p n ≠ 0
    · rw [if_pos h'] at h; exact absurd h h'
    · simpa [Tm.kind] using h'

theorem Sp.ent_zero {k p n : Int} (h : Sp.ent k p n = 0) : 1 ≤ k ∧ k ≤ 10 ∧ p < 16384 ∧ n ≤ 64 := by
  unfold Sp.ent at h
  split at h
  · omega
  · split at h
    · omega
    · split at h <;> omega

mutual
theorem Tm.wk_bd : (t : Tm) → ∀ n p d, 0 ≤ p → p ≤ 16384 → p ≤ (t.wk n p d).p ∧ (t.wk n p d).p ≤ 16385 ∧ ((t.wk n p d).e = 0 → (t.wk n p d).p ≤ 16384)
  | .mk k b i f tx by' rf l fs c v, n, p, d, h0, h1 => by
    rw [Tm.wk]
    by_cases h : (Tm.mk k b i f tx by' rf l fs c v).own p n ≠ 0
    · rw [if_pos h]; refine ⟨by simp; omega, by simp; omega, fun e => absurd e h⟩
    · rw [if_neg h]
      have hb := Sp.ent_zero (Tm.own_ent _ _ _ (Decidable.not_not.1 h))
      by_cases h8 : k = 8
      · rw [if_pos h8]; have := TmL.wk_bd l (n + 1) (p + 1) (max d n) (by omega) (by omega); omega
      · rw [if_neg h8]
        by_cases h9 : k = 9 ∨ k = 10
        · rw [if_pos h9]; have := TmF.wk_bd fs (n + 1) (p + 1) (max d n) (by omega) (by omega); omega
        · rw [if_neg h9]; simp; omega
theorem TmL.wk_bd : (l : TmL) → ∀ n p d, 0 ≤ p → p ≤ 16384 → p ≤ (l.wk n p d).p ∧ (l.wk n p d).p ≤ 16385 ∧ ((l.wk n p d).e = 0 → (l.wk n p d).p ≤ 16384)
  | .nil, n, p, d, h0, h1 => by simp [TmL.wk]; omega
  | .cons t l, n, p, d, h0, h1 => by
    have h := Tm.wk_bd t n p d h0 h1
    rw [TmL.wk]
    by_cases he : (t.wk n p d).e ≠ 0
    · rw [if_pos he]; exact h
    · rw [if_neg he]
      have := TmL.wk_bd l n (t.wk n p d).p (t.wk n p d).d (by omega) (h.2.2 (Decidable.not_not.1 he))
      omega
theorem TmF.wk_bd : (l : TmF) → ∀ n p d, 0 ≤ p → p ≤ 16384 → p ≤ (l.wk n p d).p ∧ (l.wk n p d).p ≤ 16385 ∧ ((l.wk n p d).e = 0 → (l.wk n p d).p ≤ 16384)
  | .nil, n, p, d, h0, h1 => by simp [TmF.wk]; omega
  | .cons _ t l, n, p, d, h0, h1 => by
    have h := Tm.wk_bd t n p d h0 h1
    rw [TmF.wk]
    by_cases he : (t.wk n p d).e ≠ 0
    · rw [if_pos he]; exact h
    · rw [if_neg he]
      have := TmF.wk_bd l n (t.wk n p d).p (t.wk n p d).d (by omega) (h.2.2 (Decidable.not_not.1 he))
      omega
end

theorem Tm.sz_list (t : Tm) : t.list.sz < t.sz := by cases t; simp [Tm.list, Tm.sz]; omega
theorem Tm.sz_fields (t : Tm) : t.fields.sz < t.sz := by cases t; simp [Tm.fields, Tm.sz]; omega
end Go.Proofs.YtghnipbcbbphbaaDoor

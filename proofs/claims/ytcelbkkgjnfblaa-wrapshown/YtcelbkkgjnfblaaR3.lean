/- Plain mathematics: terms as trees, names, what is wrong with a part, and the walk through a term's parts. Nothing of the program stands here. -/
import GoSem.Core.Value
import GoSem.Op.String
namespace Go.Proofs.Ytcelbkkgjnfblaa

mutual
inductive Tm where
  | mk (kind : Int) (b : Bool) (i : Int) (f : Nat) (text : ByteArray) (bytes : ByteArray) (ref : Int) (list : TmL) (fields : TmF) (cls : ByteArray) (ver : Int)
inductive TmL where
  | nil
  | cons (t : Tm) (l : TmL)
inductive TmF where
  | nil
  | cons (n : ByteArray) (t : Tm) (l : TmF)
end

def Tm.kind : Tm → Int | .mk k _ _ _ _ _ _ _ _ _ _ => k
def Tm.list : Tm → TmL | .mk _ _ _ _ _ _ _ l _ _ _ => l
def Tm.fields : Tm → TmF | .mk _ _ _ _ _ _ _ _ l _ _ => l
def TmL.len : TmL → Nat | .nil => 0 | .cons _ l => l.len + 1
def TmF.len : TmF → Nat | .nil => 0 | .cons _ _ l => l.len + 1
def TmF.names : TmF → List ByteArray | .nil => [] | .cons n _ l => n :: l.names
def TmF.vals : TmF → TmL | .nil => .nil | .cons _ t l => .cons t l.vals

mutual
def Tm.sz : Tm → Nat | .mk _ _ _ _ _ _ _ l fs _ _ => l.sz + fs.sz + 1
def TmL.sz : TmL → Nat | .nil => 0 | .cons t l => t.sz + l.sz + 1
def TmF.sz : TmF → Nat | .nil => 0 | .cons _ t l => t.sz + l.sz + 1
end

namespace Sp
def letter (c : Int) : Bool := decide (97 ≤ c ∧ c ≤ 122)
def digit (c : Int) : Bool := decide (48 ≤ c ∧ c ≤ 57)
def len (n m : Int) : Int := if n ≤ m then 0 else 2
/-- the error that a part has by its kind, its number and its depth -/
def ent (kind number depth : Int) : Int := if kind = 11 then 7 else if kind < 1 ∨ 10 < kind then 6 else if 16384 ≤ number ∨ 64 < depth then 2 else 0

def byte (s : ByteArray) (k : Nat) : Int := ((s.data.getD k 0).toNat : Int)
/-- may the byte at place k of a name be c -/
def ch (k : Nat) (c : Int) : Bool := letter c || (k != 0 && (digit c || c == 95))
def nmTo (s : ByteArray) : Nat → Bool
  | 0 => true
  | k + 1 => nmTo s k && ch k (byte s k)
def isNm (s : ByteArray) : Bool := decide (1 ≤ s.size) && decide (s.size ≤ 32) && nmTo s s.size
/-- Go's '<=' on strings, as the model spells it -/
def leS (a b : ByteArray) : Bool := Op.bytesLess a.toList b.toList || a.toList == b.toList
/-- all names can be, each above the one ahead -/
def named (ahead : ByteArray) : List ByteArray → Bool
  | [] => true
  | n :: l => isNm n && !leS n ahead && named n l
def fieldsR (l : List ByteArray) : Int := if 4096 < l.length then 2 else if named ByteArray.empty l then 0 else 8
def headR (c : ByteArray) (v : Int) : Int := if isNm c = false then 8 else if v < 1 ∨ 1000 < v then 1 else 0
end Sp

/-- what is wrong with a part by itself -/
def Tm.own : Tm → Int → Int → Int
  | .mk k _ _ _ tx by' _ l fs c v, p, n =>
    if Sp.ent k p n ≠ 0 then Sp.ent k p n
    else if k = 5 then Sp.len tx.size 65536
    else if k = 6 then Sp.len by'.size 65536
    else if k = 8 then Sp.len l.len 4096
    else if k = 9 then Sp.fieldsR fs.names
    else if k = 10 then (if Sp.headR c v ≠ 0 then Sp.headR c v else Sp.fieldsR fs.names)
    else 0

structure Wr where
  p : Int
  d : Int
  e : Int

mutual
/-- the walk through a term at depth n, behind p parts, the deepest d: the numbers behind it, and the error -/
def Tm.wk : Tm → Int → Int → Int → Wr
  | .mk k b i f tx by' rf l fs c v, n, p, d =>
    if (Tm.mk k b i f tx by' rf l fs c v).own p n ≠ 0 then ⟨p + 1, max d n, (Tm.mk k b i f tx by' rf l fs c v).own p n⟩
    else if k = 8 then l.wk (n + 1) (p + 1) (max d n)
    else if k = 9 ∨ k = 10 then fs.wk (n + 1) (p + 1) (max d n)
    else ⟨p + 1, max d n, 0⟩
def TmL.wk : TmL → Int → Int → Int → Wr
  | .nil, _, p, d => ⟨p, d, 0⟩
  | .cons t l, n, p, d => if (t.wk n p d).e ≠ 0 then t.wk n p d else l.wk n (t.wk n p d).p (t.wk n p d).d
def TmF.wk : TmF → Int → Int → Int → Wr
  | .nil, _, p, d => ⟨p, d, 0⟩
  | .cons _ t l, n, p, d => if (t.wk n p d).e ≠ 0 then t.wk n p d else l.wk n (t.wk n p d).p (t.wk n p d).d
end

def TmL.wkR (l : TmL) (n p d : Int) : Wr := if 4096 < l.len then ⟨p, d, 2⟩ else l.wk (n + 1) p d
def TmF.wkR (l : TmF) (n p d : Int) : Wr := if Sp.fieldsR l.names ≠ 0 then ⟨p, d, Sp.fieldsR l.names⟩ else l.wk (n + 1) p d

section
variable {k : Int} {b : Bool} {i : Int} {f : Nat} {tx : ByteArray} {by' : ByteArray} {rf : Int} {l : TmL} {fs : TmF} {c : ByteArray} {v n p d : Int}
end


end Go.Proofs.Ytcelbkkgjnfblaa


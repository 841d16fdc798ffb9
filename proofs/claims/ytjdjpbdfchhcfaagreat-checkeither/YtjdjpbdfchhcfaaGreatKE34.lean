/- tenonmake.Same, Lists, Entries: two terms of one value are told to be the same. -/
import Derived.Test.YtjdjpbdfchhcfaaGreatKE33
import Derived.Test.YtjdjpbdfchhcfaaGreatKE18
import Derived.Deep.RegionHeld3
namespace Go.Proofs.YtjdjpbdfchhcfaaGreat
open Go.RowKit

mutual
def Tm.eqv : Tm → Tm → Prop
  | .mk k b i f tx by' rf l fs c v, .mk k2 b2 i2 f2 tx2 by2 rf2 l2 fs2 c2 v2 => k = k2 ∧ (1 ≤ k ∧ k ≤ 10) ∧ (k = 2 → b = b2) ∧ (k = 3 → i = i2) ∧ (k = 4 → f = f2) ∧ (k = 5 → tx = tx2) ∧ (k = 6 → by' = by2) ∧ (k = 7 → rf = rf2) ∧ (k = 8 → l.eqv l2) ∧ (k = 9 ∨ k = 10 → fs.eqv fs2) ∧ (k = 10 → c = c2 ∧ v = v2)
def TmL.eqv : TmL → TmL → Prop
  | .nil, .nil => True
  | .cons t l, .cons t2 l2 => t.eqv t2 ∧ l.eqv l2
  | _, _ => False
def TmF.eqv : TmF → TmF → Prop
  | .nil, .nil => True
  | .cons n t l, .cons n2 t2 l2 => n = n2 ∧ t.eqv t2 ∧ l.eqv l2
  | _, _ => False
end
end Go.Proofs.YtjdjpbdfchhcfaaGreat

/- tenonmake.Entries. -/
namespace Go.Proofs.YtjdjpbdfchhcfaaGreat
open Go.RowKit

end Go.Proofs.YtjdjpbdfchhcfaaGreat

/- tenonmake.Same, kind by kind. -/
namespace Go.Proofs.YtjdjpbdfchhcfaaGreat
open Go.RowKit

section
variable (b : Bool) (i : Int) (f : Nat) (tx : ByteArray) (vb : Value) (rf : Int) (vl vf : Value) (c : ByteArray) (vr : Int)
variable (b2 : Bool) (i2 : Int) (f2 : Nat) (tx2 : ByteArray) (vb2 : Value) (rf2 : Int) (vl2 vf2 : Value) (c2 : ByteArray) (vr2 : Int) (w : World)
end
end Go.Proofs.YtjdjpbdfchhcfaaGreat

/- tenonmake.Same at two terms of one value. -/
namespace Go.Proofs.YtjdjpbdfchhcfaaGreat
open Go.RowKit

end Go.Proofs.YtjdjpbdfchhcfaaGreat


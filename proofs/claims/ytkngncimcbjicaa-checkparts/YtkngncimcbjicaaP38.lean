/- check.plainlyOf: whether a type is plainly of another one. -/
import Derived.Test.YtkngncimcbjicaaP36
import Derived.Test.YtkngncimcbjicaaP37
import Derived.Test.YtkngncimcbjicaaP26
namespace Go.Proofs.Ytkngncimcbjicaa
open Go.RowKit

def TyL.anyS (pr : Ty → Bool) : TyL → Bool
  | .nil => false
  | .cons t l => pr t || l.anyS pr
end Go.Proofs.Ytkngncimcbjicaa

/- check.plainlyOf of every two types. -/
namespace Go.Proofs.Ytkngncimcbjicaa
open Go.RowKit

/- check.plainlyOf: lists', dicts' and records' types; every two types; check.Sub. -/
namespace Go.Proofs.Ytkngncimcbjicaa
open Go.RowKit

/- check.plainlyOf of every two types; check.Sub. -/
namespace Go.Proofs.Ytkngncimcbjicaa
open Go.RowKit

end Go.Proofs.Ytkngncimcbjicaa

/- check.shapesOf, check.Sub. -/
namespace Go.Proofs.Ytkngncimcbjicaa
open Go.RowKit

section
variable (a b : Ty) (ca cb : Array Value) (B : Nat) (w : World)
/-- the world with both boxes -/
abbrev tb (w : World) (ca cb : Array Value) : World := (w.alloc (.cells ca 34)).alloc (.cells cb 34)
/-- what Sub answers -/
def Sp.subA (a b : Ty) : Bool × Int := if a.can && b.can then (a.sub b, 0) else (false, 70)
end
end Go.Proofs.Ytkngncimcbjicaa


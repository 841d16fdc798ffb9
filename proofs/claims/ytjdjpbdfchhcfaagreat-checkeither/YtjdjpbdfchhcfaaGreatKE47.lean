/- tenonref07.is: what it answers; kinds without parts. -/
import Derived.Test.YtjdjpbdfchhcfaaGreatKE31
import Derived.Test.YtjdjpbdfchhcfaaGreatKE26
import Derived.Test.YtjdjpbdfchhcfaaGreatKE29
import Derived.Test.YtjdjpbdfchhcfaaGreatKE39
import Derived.Test.YtjdjpbdfchhcfaaGreatKE33
namespace Go.Proofs.YtjdjpbdfchhcfaaGreat
open Go.RowKit

section
variable (k o : Int) (t : Tm) (p : TyL) (n : List ByteArray) (l : List Bool) (op : Bool) (c : ByteArray) (v : Tm) (ct cs : Array Value) (B : Nat → Prop) (w : World) (at_ : Int)
end
end Go.Proofs.YtjdjpbdfchhcfaaGreat


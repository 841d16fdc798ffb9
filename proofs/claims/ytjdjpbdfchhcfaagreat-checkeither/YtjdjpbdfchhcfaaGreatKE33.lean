/- The document's own order of two terms (tenonref01.Compare), kind by kind. -/
import Derived.Test.YtjdjpbdfchhcfaaGreatKE29
import Derived.Laws.BytesArg
namespace Go.Proofs.YtjdjpbdfchhcfaaGreat
open Go.RowKit

section
variable (b : Bool) (i : Int) (f : Nat) (tx : ByteArray) (vb : Value) (rf : Int) (vl vf : Value) (c : ByteArray) (vr : Int)
variable (b2 : Bool) (i2 : Int) (f2 : Nat) (tx2 : ByteArray) (vb2 : Value) (rf2 : Int) (vl2 vf2 : Value) (c2 : ByteArray) (vr2 : Int) (w : World)
end
end Go.Proofs.YtjdjpbdfchhcfaaGreat

/- The document's own order of any two terms that can be (tenonref01.Compare), and its Order and Same. -/
namespace Go.Proofs.YtjdjpbdfchhcfaaGreat
open Go.RowKit

end Go.Proofs.YtjdjpbdfchhcfaaGreat


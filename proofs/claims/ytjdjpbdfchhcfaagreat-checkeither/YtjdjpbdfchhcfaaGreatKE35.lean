/- tenonmake.plain at bytes, and whole; tenonmake.Is. -/
import Derived.Test.YtjdjpbdfchhcfaaGreatKE32
import Derived.Test.YtjdjpbdfchhcfaaGreatKE34
namespace Go.Proofs.YtjdjpbdfchhcfaaGreat
open Go.RowKit

end Go.Proofs.YtjdjpbdfchhcfaaGreat


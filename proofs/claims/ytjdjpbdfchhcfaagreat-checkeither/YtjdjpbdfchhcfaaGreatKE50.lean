/- tenonmake.Plain and Is at a value that can be. -/
import Derived.Test.YtjdjpbdfchhcfaaGreatKE36
import Derived.Test.YtjdjpbdfchhcfaaGreatKE18
namespace Go.Proofs.YtjdjpbdfchhcfaaGreat
open Go.RowKit

end Go.Proofs.YtjdjpbdfchhcfaaGreat


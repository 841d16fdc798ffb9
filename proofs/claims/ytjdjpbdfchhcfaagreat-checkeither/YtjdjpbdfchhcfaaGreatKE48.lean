/- The Go function tenonlaw07.CheckSound returns true. -/
import Derived.Test.YtjdjpbdfchhcfaaGreatKE44
import Derived.Test.YtjdjpbdfchhcfaaGreatKE43
import Derived.Test.YtjdjpbdfchhcfaaGreatKE47
import Derived.Test.YtjdjpbdfchhcfaaGreatKE6
import Derived.Great.BuildSlice
namespace Go.Proofs.YtjdjpbdfchhcfaaGreat
open Go.RowKit

theorem yzero : (Tryz.prog.info? 34).map (fun i => (i.size, i.zero.map (fun z => z.cells.size))) = some (18, some 18) := by kernel_rfl
abbrev both (ca cb : Array Value) : Array Value := (ca.toList ++ cb.toList).toArray
end Go.Proofs.YtjdjpbdfchhcfaaGreat


/- strings.Clone and bytes.Clone: the same bytes, in new memory. -/
import Derived.Test.YtnndlffidifddaaGreatDoorK6
import Derived.Test.YtnndlffidifddaaGreatDoorK7
import Derived.Lib.UnsafeStr
import Derived.Lib.BufferWrite
import Derived.Laws.MakeOwn
namespace Go.Proofs.YtnndlffidifddaaGreatDoor
open Go.RowKit

end Go.Proofs.YtnndlffidifddaaGreatDoor


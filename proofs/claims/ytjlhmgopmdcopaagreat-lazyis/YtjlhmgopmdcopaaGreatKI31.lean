/- tenonmake.pointer, and how the methods of the new object are found. -/
import Derived.Test.YtjlhmgopmdcopaaGreatKI30
import Derived.Deep.WholeRow
namespace Go.Proofs.YtjlhmgopmdcopaaGreat
open Go.RowKit

end Go.Proofs.YtjlhmgopmdcopaaGreat


/- How a method of a made object is found by its type. -/
import Derived.Test.YtjlhmgopmdcopaaGreatKI23
import Derived.Deep.MidRow
namespace Go.Proofs.YtjlhmgopmdcopaaGreat
open Go.RowKit

/-- the blocks above c are as they were -/
def Kp (c : Nat) (w W : World) : Prop := ∀ j, c < j → j < w.heap.size → W.heap[j]? = w.heap[j]?

end Go.Proofs.YtjlhmgopmdcopaaGreat

/- tenonmake.value, and how the methods of the object are found. -/
namespace Go.Proofs.YtjlhmgopmdcopaaGreat
open Go.RowKit

end Go.Proofs.YtjlhmgopmdcopaaGreat


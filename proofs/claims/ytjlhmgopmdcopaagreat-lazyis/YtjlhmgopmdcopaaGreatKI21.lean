/- tenonlaw10.ObjectTries' functions that are handed in, and tenonmake.Panics: what they panic with. -/
import Derived.Test.YtjlhmgopmdcopaaGreatKI20
import Derived.Stop.Asserts
namespace Go.Proofs.YtjlhmgopmdcopaaGreat
open Go.RowKit

end Go.Proofs.YtjlhmgopmdcopaaGreat


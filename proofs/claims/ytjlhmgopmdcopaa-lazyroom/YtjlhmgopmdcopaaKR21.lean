/- tenonlaw10.ObjectTries' functions that are handed in, and tenonmake.Panics: what they panic with. -/
import Derived.Test.YtjlhmgopmdcopaaKR20
import Derived.Stop.Asserts
namespace Go.Proofs.Ytjlhmgopmdcopaa
open Go.RowKit

end Go.Proofs.Ytjlhmgopmdcopaa


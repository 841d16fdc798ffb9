/- The leaves of package value's order: numbers, texts, bools, floats, bytes. -/
import Derived.Test.YtjlhmgopmdcopaaKR4
import Derived.Test.YtjlhmgopmdcopaaKR2
import Derived.Lib.BytesEntry
namespace Go.Proofs.Ytjlhmgopmdcopaa
open Go.RowKit

end Go.Proofs.Ytjlhmgopmdcopaa

/- Package value's order of two values is the plain order of their terms. -/
namespace Go.Proofs.Ytjlhmgopmdcopaa
open Go.RowKit

end Go.Proofs.Ytjlhmgopmdcopaa

/- Package value's order of dicts and records is the plain order of their terms' fields. -/
namespace Go.Proofs.Ytjlhmgopmdcopaa
open Go.RowKit

end Go.Proofs.Ytjlhmgopmdcopaa


/- The leaves of package value's order: numbers, texts, bools, floats, bytes. -/
import Derived.Test.YtbjjeleoimcboaaQ13
import Derived.Test.YtbjjeleoimcboaaQ19
import Derived.Lib.BytesEntry
namespace Go.Proofs.Ytbjjeleoimcboaa
open Go.RowKit

end Go.Proofs.Ytbjjeleoimcboaa

/- Package value's order of two values is the plain order of their terms. -/
namespace Go.Proofs.Ytbjjeleoimcboaa
open Go.RowKit

end Go.Proofs.Ytbjjeleoimcboaa

/- Package value's order of dicts and records is the plain order of their terms' fields. -/
namespace Go.Proofs.Ytbjjeleoimcboaa
open Go.RowKit

end Go.Proofs.Ytbjjeleoimcboaa


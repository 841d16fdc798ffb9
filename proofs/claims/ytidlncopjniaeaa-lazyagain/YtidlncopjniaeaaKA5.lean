/- The leaves of package value's order: numbers, texts, bools, floats, bytes. -/
import Derived.Test.YtidlncopjniaeaaKA4
import Derived.Test.YtidlncopjniaeaaKA2
import Derived.Lib.BytesEntry
namespace Go.Proofs.Ytidlncopjniaeaa
open Go.RowKit

end Go.Proofs.Ytidlncopjniaeaa

/- Package value's order of two values is the plain order of their terms. -/
namespace Go.Proofs.Ytidlncopjniaeaa
open Go.RowKit

end Go.Proofs.Ytidlncopjniaeaa

/- Package value's order of dicts and records is the plain order of their terms' fields. -/
namespace Go.Proofs.Ytidlncopjniaeaa
open Go.RowKit

end Go.Proofs.Ytidlncopjniaeaa


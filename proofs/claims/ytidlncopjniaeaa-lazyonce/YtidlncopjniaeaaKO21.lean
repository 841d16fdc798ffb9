/- tenonlaw10.ObjectTries' functions that are handed in, and tenonmake.Panics: what they panic with. -/
import Derived.Test.YtidlncopjniaeaaKO20
import Derived.Stop.Asserts
namespace Go.Proofs.Ytidlncopjniaeaa
open Go.RowKit

end Go.Proofs.Ytidlncopjniaeaa


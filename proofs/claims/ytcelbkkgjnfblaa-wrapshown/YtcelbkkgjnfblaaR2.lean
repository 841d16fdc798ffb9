/- tenonlaw10.ObjectTries' functions that are handed in, and tenonmake.Panics: what they panic with. -/
import Derived.Test.YtcelbkkgjnfblaaR1
import Derived.Stop.Asserts
namespace Go.Proofs.Ytcelbkkgjnfblaa
open Go.RowKit

end Go.Proofs.Ytcelbkkgjnfblaa


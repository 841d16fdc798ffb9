/- tenonlaw10.ObjectTries' functions that are handed in, and tenonmake.Panics: what they panic with. -/
import Derived.Test.YtgcgaekomegobaaR20
import Derived.Stop.Asserts
namespace Go.Proofs.Ytgcgaekomegobaa
open Go.RowKit

end Go.Proofs.Ytgcgaekomegobaa


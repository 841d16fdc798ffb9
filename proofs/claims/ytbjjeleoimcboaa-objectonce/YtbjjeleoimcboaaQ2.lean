/- tenonlaw10.ObjectTries' functions that are handed in, and tenonmake.Panics: what they panic with. -/
import Derived.Test.YtbjjeleoimcboaaQ1
import Derived.Stop.Asserts
namespace Go.Proofs.Ytbjjeleoimcboaa
open Go.RowKit

end Go.Proofs.Ytbjjeleoimcboaa


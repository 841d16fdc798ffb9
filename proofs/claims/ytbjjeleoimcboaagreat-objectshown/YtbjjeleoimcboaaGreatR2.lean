/- tenonlaw10.ObjectTries' functions that are handed in, and tenonmake.Panics: what they panic with. -/
import Derived.Test.YtbjjeleoimcboaaGreatR1
import Derived.Stop.Asserts
namespace Go.Proofs.YtbjjeleoimcboaaGreat
open Go.RowKit

end Go.Proofs.YtbjjeleoimcboaaGreat


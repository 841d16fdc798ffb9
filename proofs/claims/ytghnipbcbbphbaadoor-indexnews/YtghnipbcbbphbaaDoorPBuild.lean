/- strings.Builder: copyCheck and WriteString, of a builder of one's own. -/
import Derived.Test.YtghnipbcbbphbaaDoorPBase
import Derived.Lib.Builder
import Derived.Lib.AppendStr
namespace Go.Proofs.YtghnipbcbbphbaaDoor
open Go.RowKit

theorem Tryd.undUn : Tryd.prog.underlying 120 = some .unsafePointer := by kernel_rfl

theorem own_slice {w : World} {B : Nat} {e : TypeId} {size n : Nat} {v : Value} {xs : List Value} (h : w.ownsRow B e size v n xs) : ∃ a m c, v = .slice a m c := by
  rcases h.2 with ⟨e, _⟩ | ⟨g, c, cur, e, _⟩
  · exact ⟨_, _, _, e⟩
  · exact ⟨_, _, _, e⟩

end Go.Proofs.YtghnipbcbbphbaaDoor

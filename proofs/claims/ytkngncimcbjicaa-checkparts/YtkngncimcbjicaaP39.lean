/- tenonref07.fits: too many, too deep; kinds without parts. -/
import Derived.Test.YtkngncimcbjicaaP21
import Derived.Test.YtkngncimcbjicaaP9
import Derived.Laws.ResultCell
import Derived.Test.YtkngncimcbjicaaP2
namespace Go.Proofs.Ytkngncimcbjicaa
open Go.RowKit

def RFitE (x : Bool × Int) (w : World) (e : Ending) (w' : World) : Prop := e = .returned (.tuple #[.agg #[.int .i64 x.2], .bool x.1]) ∧ Below w.heap.size w w'
def RFitC (N : Nat) : Prop := ∀ (t : Ty), t.sz ≤ N → ∀ (cs : Array Value) (B : Nat → Prop) (w : World) (r d : Int), t.In w B cs → Sub B w → 0 ≤ r → r ≤ 16384 → 0 ≤ d → d ≤ 65 →
  Calls Try.prog 24 #[.agg #[.int .i64 r], .agg cs, .int .i64 d] w (RFitE (t.fitR d r) w)
theorem RFitE.of {x : Bool × Int} {b : Bool} {q : Int} {w W : World} (hx : x = (b, q)) (hb : Below w.heap.size w W) : RFitE x w (.returned (.tuple #[.agg #[.int .i64 q], .bool b])) W := by subst hx; exact ⟨rfl, hb⟩
end Go.Proofs.Ytkngncimcbjicaa

/- tenonref07.fits: kinds 3 and 4, and no kind. -/
namespace Go.Proofs.Ytkngncimcbjicaa
open Go.RowKit

end Go.Proofs.Ytkngncimcbjicaa

/- tenonref07.fits: a type of one value. -/
namespace Go.Proofs.Ytkngncimcbjicaa
open Go.RowKit

end Go.Proofs.Ytkngncimcbjicaa

/- tenonref07.fits: a record's type. -/
namespace Go.Proofs.Ytkngncimcbjicaa
open Go.RowKit

end Go.Proofs.Ytkngncimcbjicaa


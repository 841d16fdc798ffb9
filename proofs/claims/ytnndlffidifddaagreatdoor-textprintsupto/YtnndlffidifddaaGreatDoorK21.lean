/- The leaves of package value's order: numbers, texts, bools, floats, bytes. -/
import Derived.Test.YtnndlffidifddaaGreatDoorK4
import Derived.Test.YtnndlffidifddaaGreatDoorK7
import Derived.Lib.BytesEntry
namespace Go.Proofs.YtnndlffidifddaaGreatDoor
open Go.RowKit

theorem bits_run (f : Nat) (w : World) : (callFunc 25 #[.float .f64 f]).run Tryz.prog w = .ok (.value (.int .u64 f)) w := by
  rw [run_callFunc_extern Tryz.func25 (by kernel_rfl) (by kernel_rfl) (by kernel_rfl) (e := Extern.MathFloatBits.float64bits) (by kernel_rfl)]
  rfl

end Go.Proofs.YtnndlffidifddaaGreatDoor

/- Package value's order of two values is the plain order of their terms. -/
namespace Go.Proofs.YtnndlffidifddaaGreatDoor
open Go.RowKit

end Go.Proofs.YtnndlffidifddaaGreatDoor

/- Package value's order of dicts and records is the plain order of their terms' fields. -/
namespace Go.Proofs.YtnndlffidifddaaGreatDoor
open Go.RowKit

end Go.Proofs.YtnndlffidifddaaGreatDoor


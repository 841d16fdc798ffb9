/- tenonref01.Size at a term: what the plain walk through it says. -/
import Derived.Test.YtjdjpbdfchhcfaaGreatKE9
import Derived.Test.YtjdjpbdfchhcfaaGreatKE3
import Derived.Deep.RegionHeld3
namespace Go.Proofs.YtjdjpbdfchhcfaaGreat
open Go.RowKit

end Go.Proofs.YtjdjpbdfchhcfaaGreat

/- tenonlaw01.ValueKinds answers true at every term that lies in memory. -/
namespace Go.Proofs.YtjdjpbdfchhcfaaGreat
open Go.RowKit

set_option maxRecDepth 100000 in
set_option maxHeartbeats 400000 in
theorem Kind_any (v : Value) (k : Int) (hk : KindC v k) (w : World) :
    Calls Tryz.prog 71 #[v] w fun e w' => e = .returned (.int .i64 k) ∧ w = w' := by
  go_enter Tryz.func71, Tryz.ntmps71
  go_wp2_with (go_at_call 101; refine (hk _).mono ?_; rintro e w' ⟨rfl, rfl⟩)
  go_ret
  exact ⟨rfl, rfl⟩

end Go.Proofs.YtjdjpbdfchhcfaaGreat


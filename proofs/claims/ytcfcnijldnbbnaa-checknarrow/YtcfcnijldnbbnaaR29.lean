/- tenonref01.Size at a term: what the plain walk through it says. -/
import Derived.Test.YtcfcnijldnbbnaaR9
import Derived.Test.YtcfcnijldnbbnaaR3
import Derived.Deep.RegionHeld3
namespace Go.Proofs.Ytcfcnijldnbbnaa
open Go.RowKit

end Go.Proofs.Ytcfcnijldnbbnaa

/- tenonlaw01.ValueKinds answers true at every term that lies in memory. -/
namespace Go.Proofs.Ytcfcnijldnbbnaa
open Go.RowKit

set_option maxRecDepth 100000 in
set_option maxHeartbeats 400000 in
theorem Kind_any (v : Value) (k : Int) (hk : KindC v k) (w : World) :
    Calls Try.prog 35 #[v] w fun e w' => e = .returned (.int .i64 k) ∧ w = w' := by
  go_enter Try.func35, Try.ntmps35
  go_wp2_with (go_at_call 59; refine (hk _).mono ?_; rintro e w' ⟨rfl, rfl⟩)
  go_ret
  exact ⟨rfl, rfl⟩

def Tm.kindOf' (k : Int) : Int := if k < 1 ∨ 11 < k then 0 else k

theorem Tm.In_cells {w : World} {B : Nat → Prop} {t : Tm} {cs : Array Value} (h : t.In w B cs) : ∃ b i f tx vb rf vl vf c vr, cs = tcells t.kind b i f tx vb rf vl vf c vr := by
  cases t; simp only [Tm.In] at h; obtain ⟨_, _, _, _, _, _, rfl, _⟩ := h; exact ⟨_, _, _, _, _, _, _, _, _, _, rfl⟩

end Go.Proofs.Ytcfcnijldnbbnaa


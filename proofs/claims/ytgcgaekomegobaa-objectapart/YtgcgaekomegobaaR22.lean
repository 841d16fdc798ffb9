/- tenonlaw10.ObjectTries returns true. -/
import Derived.Test.YtgcgaekomegobaaR21
import Derived.BigQuiet
namespace Go.Proofs.Ytgcgaekomegobaa
open Go.RowKit

def wantK (n : Int) : Int := if n = 0 then 0 else if n = 1 then 1 else if n = 2 then 2 else if n = 3 then 3 else if n = 4 then 4 else 5
def wantE (n e : Int) : Int := if n = 0 then 0 else if n = 2 then e else 9

set_option maxRecDepth 100000 in
set_option maxHeartbeats 1000000 in
theorem Try_any (f : Nat) (cap : Array Value) (k er : Int) (w : World) (Q : World → Prop) (hcf : ∀ W, Sem.run Try.prog (callFunc f cap) W = .ok (.enter f cap) W) (hQ : Hid (∀ W W', Below w.heap.size W W' → Q W → Q W'))
    (HC : Hid (∀ W1, Below w.heap.size w W1 → W1.heap.size = w.heap.size + 2 → Calls Try.prog f cap W1 fun e w' => Ends k er e ∧ w'.heap[w.heap.size]? = W1.heap[w.heap.size]? ∧ w'.heap[w.heap.size + 1]? = W1.heap[w.heap.size + 1]? ∧ Q w')) :
    Calls Try.prog 30 #[.func (.func f) #[] cap] w fun e w' => e = .returned (.tuple #[.int .i64 k, .int .i64 er]) ∧ Q w' := by
  have HX : Hid (Calls Try.prog 48 #[.func (.func f) #[] cap] w fun e w' => e = .returned (.tuple #[.int .i64 k, .int .i64 er]) ∧ Q w') := caught_any f cap k er w Q hcf hQ HC
  have hfn : ∀ W, Sem.run Try.prog (binOp .eql 1 (.func (.func f) #[] cap) .nilFunc) W = .ok (.bool false) W := fun W => by kernel_rfl
  have hfg : ∀ x y W, Sem.run Try.prog (eqGuard .eql 1 x y (.func (.func f) #[] cap) .nilFunc) W = .ok () W := fun x y W => by kernel_rfl
  go_enter Try.func30, Try.ntmps30
  go_wp2_with fail
  refine HX.out.mono ?_
  rintro e w1 ⟨rfl, hq⟩
  have HQ : Hid (Q w1) := hq
  clear hq
  go_wp2_with fail
  go_ret2
  exact ⟨rfl, HQ.out⟩

end Go.Proofs.Ytgcgaekomegobaa


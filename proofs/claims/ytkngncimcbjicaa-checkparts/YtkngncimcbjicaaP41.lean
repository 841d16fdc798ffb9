/- tenonref07.is: what it answers; kinds without parts. -/
import Derived.Test.YtkngncimcbjicaaP39
import Derived.Test.YtkngncimcbjicaaP27
import Derived.Test.YtkngncimcbjicaaP29
import Derived.Test.YtkngncimcbjicaaP33
import Derived.Test.YtkngncimcbjicaaP40
namespace Go.Proofs.Ytkngncimcbjicaa
open Go.RowKit

def RIsE (x : Bool × Int) (at_ : Int) (w : World) (e : Ending) (w' : World) : Prop := e = .returned (.tuple #[.bool x.1, .int .i64 (if x.1 then 0 else at_ + x.2)]) ∧ Below w.heap.size w w'
def RIsC (N : Nat) : Prop := ∀ (t : Ty), t.sz ≤ N → t.ok = true → ∀ (v : Tm) (ct cs : Array Value) (B : Nat → Prop) (w : World) (at_ : Int), v.all.e = 0 → v.In w B ct → t.In w B cs → Sub B w → 0 ≤ at_ → at_ + v.pn ≤ 16384 →
  Calls Try.prog 22 #[.agg ct, .agg cs, .int .i64 at_] w (RIsE (t.has v) at_ w)
theorem RIsE.no {x : Bool × Int} {at_ q : Int} {w W : World} (hx : x = (false, q)) (hb : Below w.heap.size w W) : RIsE x at_ w (.returned (.tuple #[.bool false, .int .i64 (at_ + q)])) W := by unfold RIsE; rw [hx]; exact ⟨rfl, hb⟩
section
variable (k o : Int) (t : Tm) (p : TyL) (n : List ByteArray) (l : List Bool) (op : Bool) (c : ByteArray) (v : Tm) (ct cs : Array Value) (B : Nat → Prop) (w : World) (at_ : Int)
end
end Go.Proofs.Ytkngncimcbjicaa


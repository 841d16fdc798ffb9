/- object.caught: what a function panicked with is told. -/
import Derived.Test.YtcelbkkgjnfblaaProg
import Derived.WalkKit
import Derived.WalkSpells
import Derived.WalkLawsBesides
import Derived.Defers
import Derived.Recover
import Derived.Below
namespace Go.Proofs.Ytcelbkkgjnfblaa
open Go.RowKit

/-- What a type assertion of a panic's value tells, whatever the world. -/
def TA (v : Value) (t : Nat) (b : Bool) : Prop := ∃ x, ∀ W, Sem.run Try.prog (Instr.typeAssert v 20 t true) W = .ok (.tuple #[x, .bool b]) W

/-- What is told of a panic's value: kind and error. -/
def Kd (v : Value) (k er : Int) : Prop :=
  (v = .nilIface ∧ k = 1 ∧ er = 9) ∨
  (∃ T pv, v = .iface T pv) ∧
  ((TA v 241 true ∧ k = 1 ∧ er = 9) ∨
   (TA v 241 false ∧ (∀ W, Sem.run Try.prog (Instr.typeAssert v 20 26 true) W = .ok (.tuple #[.int .i64 er, .bool true]) W) ∧ k = 2) ∨
   (TA v 241 false ∧ TA v 26 false ∧ TA v 243 true ∧ k = 3 ∧ er = 9) ∨
   (TA v 241 false ∧ TA v 26 false ∧ TA v 243 false ∧ TA v 9 true ∧ k = 4 ∧ er = 9) ∨
   (TA v 241 false ∧ TA v 26 false ∧ TA v 243 false ∧ TA v 9 false ∧ k = 5 ∧ er = 9))

theorem al2_new (Q : World) (o o' : Obj) : ((Q.alloc o).alloc o').heap[Q.heap.size + 1]? = some o' := by
  show ((Q.heap.push o).push o')[Q.heap.size + 1]? = _
  rw [Array.getElem?_push, if_pos (by simp)]
theorem al2_old (Q : World) (o o' : Obj) : ((Q.alloc o).alloc o').heap[Q.heap.size]? = some o := by
  show ((Q.heap.push o).push o')[Q.heap.size]? = _
  rw [Array.getElem?_push, if_neg (by simp), Array.getElem?_push, if_pos rfl]
/-- How a function that was handed in ends: kind and error. -/
def Ends (k er : Int) (e : Ending) : Prop := (e = .returned (.tuple #[]) ∧ k = 0 ∧ er = 0) ∨ ∃ v, e = .panicked [{ v := v, recovered := false }] ∧ Kd v k er

end Go.Proofs.Ytcelbkkgjnfblaa


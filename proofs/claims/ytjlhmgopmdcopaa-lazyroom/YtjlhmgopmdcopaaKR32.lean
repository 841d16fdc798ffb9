/- A term that can be read as data lies in memory as a tree of terms. -/
import Derived.Test.YtjlhmgopmdcopaaKR3
import Derived.ProofKit
import Derived.OpenShut
import Derived.SizedLaws
namespace Go.Proofs.Ytjlhmgopmdcopaa
open Go.ChangeShapes Go.WideShapes Go.ChangeAt Go.RowKit

section
variable {H : Type} {enc : TypeId × Value → H} {W : World}

theorem add_none (b o n : Nat) : (⟨b, o, none⟩ : Addr).add n = ⟨b, o + n, none⟩ := by
  unfold Addr.add; split
  · rename_i h; rw [h]; rfl
  · rfl
/-- what is read of one element of a slice -/
theorem elem_at {P : Program} {e : TypeId} {a : Addr} {i n : Nat} {r : List (DataW H × List MemPlace)} (hi : i < r.length) (h : (W.cells? 0 (a.add (i * P.cellsOf e)) (P.cellsOf e)).bind (DataW.trod enc P W 0 (fun _ => true) true n e) = r[i]?) :
    ∃ cs, W.cells? 0 (a.add (i * P.cellsOf e)) (P.cellsOf e) = some cs ∧ DataW.trod enc P W 0 (fun _ => true) true n e cs = some r[i] := by
  rw [List.getElem?_eq_getElem hi] at h
  exact Option.bind_eq_some_iff.1 h

/-- the reading of a term at fuel n gives its tree -/
def OpenC (enc : TypeId × Value → H) (W : World) (n : Nat) : Prop := ∀ (cs : List Value) (x : DataW H × List MemPlace), DataW.trod enc Try.prog W 0 (fun _ => true) true n 29 cs = some x → (∀ m ∈ x.1.weights Try.prog 29, m ≤ reachBytes) → ∃ t : Tm, t.In W (Lo W.heap.size) cs.toArray

theorem reach_le : reachBytes ≤ 140737488355328 := by decide

end
end Go.Proofs.Ytjlhmgopmdcopaa


/- tenonmake.Built at dicts, records and bytes; and at every term. -/
import Derived.Test.YtbjjeleoimcboaaQ14
import Derived.Deep.AppendSrc
namespace Go.Proofs.Ytbjjeleoimcboaa
open Go.RowKit

/-- the cells of bytes -/
def bcells (l : ByteArray) : List Value := (List.range l.size).map fun j => .int .u8 (Sp.byte l j)
theorem bcells_at (l : ByteArray) (j : Nat) (u : Value) (h : (bcells l)[j]? = some u) : j < l.size ∧ u = .int .u8 (Sp.byte l j) := by
  unfold bcells at h
  rw [List.getElem?_map] at h
  have hj : j < l.size := by
    rcases Nat.lt_or_ge j l.size with hj | hj
    · exact hj
    · rw [List.getElem?_eq_none (by simpa using hj)] at h; simp at h
  rw [List.getElem?_range hj] at h
  simp at h
  exact ⟨hj, h.symm⟩
theorem addr_add (b o n : Nat) : (⟨b, o, none⟩ : Addr).add n = ⟨b, o + n, none⟩ := by
  unfold Addr.add; split
  · rename_i h; rw [h]; rfl
  · rfl
theorem bcells_one (l : ByteArray) : ∀ u ∈ bcells l, u.oneCell' = true := by
  intro u hu; simp [bcells] at hu; obtain ⟨j, _, rfl⟩ := hu; rfl

end Go.Proofs.Ytbjjeleoimcboaa


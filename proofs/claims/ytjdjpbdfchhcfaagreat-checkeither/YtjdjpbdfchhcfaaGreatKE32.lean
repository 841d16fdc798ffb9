/- tenonmake.plain at a list. -/
import Derived.Test.YtjdjpbdfchhcfaaGreatKE18
import Derived.Deep.RegionLaw
import Derived.Deep.AppendLies
import Derived.Deep.RegionHeld3
namespace Go.Proofs.YtjdjpbdfchhcfaaGreat
open Go.RowKit

end Go.Proofs.YtjdjpbdfchhcfaaGreat

/- tenonmake.entries: the entries of a dict, made by appending. -/
namespace Go.Proofs.YtjdjpbdfchhcfaaGreat
open Go.RowKit

end Go.Proofs.YtjdjpbdfchhcfaaGreat

/- tenonmake.plain, kind by kind. -/
namespace Go.Proofs.YtjdjpbdfchhcfaaGreat
open Go.RowKit

theorem box_at1 {w : World} {o : Obj} {w1 : World} (h : Below (w.alloc o).heap.size (w.alloc o) w1) : w1.heap[w.heap.size]? = some o ∧ Below w.heap.size w w1 ∧ w.heap.size + 1 ≤ w1.heap.size := by
  refine ⟨?_, below_to ((Below.refl _ _).alloc (Nat.le_refl _) _) h, by have := h.size; simpa using this⟩
  rw [h.block w.heap.size (by simp)]; exact heap_alloc_new w o

end Go.Proofs.YtjdjpbdfchhcfaaGreat


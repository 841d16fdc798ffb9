/- Two boxes in new memory, each with a term's eleven cells. -/
import Derived.Test.YtbaadndogikphaaSameV
namespace Go.Proofs.Ytbaadndogikphaa
open Go.RowKit

def two (w : World) (a b : Array Value) : World := (w.alloc (.cells a 29 (0, 0))).alloc (.cells b 29 (0, 0))
theorem two_size (w : World) (a b : Array Value) : (two w a b).heap.size = w.heap.size + 2 := by simp [two]
theorem two_bel (w : World) (a b : Array Value) : Below w.heap.size w (two w a b) := by
  unfold two
  refine Below.alloc (Below.alloc (Below.refl _ _) (Nat.le_refl _) _) ?_ _; simp
theorem two_a {w W : World} {a b : Array Value} (h : Below (two w a b).heap.size (two w a b) W) : W.heap[w.heap.size]? = some (.cells a 29 (0, 0)) := by
  rw [h.block w.heap.size (by rw [two_size]; omega)]; unfold two
  rw [((Below.refl (w.alloc (.cells a 29 (0, 0))).heap.size _).alloc (Nat.le_refl _) (.cells b 29 (0, 0))).block w.heap.size (by simp)]; exact heap_alloc_new w _
theorem two_b {w W : World} {a b : Array Value} (h : Below (two w a b).heap.size (two w a b) W) : W.heap[w.heap.size + 1]? = some (.cells b 29 (0, 0)) := by
  rw [h.block (w.heap.size + 1) (by rw [two_size]; omega)]; unfold two
  have := heap_alloc_new (w.alloc (.cells a 29 (0, 0))) (.cells b 29 (0, 0))
  simpa using this
theorem two_w {w W : World} {a b : Array Value} (h : Below (two w a b).heap.size (two w a b) W) : Below w.heap.size w W := below_to (two_bel w a b) h
end Go.Proofs.Ytbaadndogikphaa

/- Lists and dicts that stand in the text: a row of their own each. -/
import Derived.Test.YtbaadndogikphaaSzM
import Derived.Test.YtbaadndogikphaaMem
namespace Go.Proofs.Ytbaadndogikphaa
open Go.RowKit

/-- the block of a row that was made in place -/
def Rowed (w : World) (g : Nat) (e : TypeId) (n : Nat) : Prop := ∃ cur, w.heap[g]? = some (.cells cur e (0, 0)) ∧ cur.size = n
theorem V8r {l : TmL} {w : World} {B : Nat → Prop} {g n : Nat} (hn : l.len = n) (hm : n ≤ maxLen) (hg : B g) (hr : Rowed w g 20 n) (h : l.V w B (some ⟨g, 0, none⟩) 0) : (mkL l).V w B (.iface 63 (.slice (some ⟨g, 0, none⟩) n n)) := by
  subst hn
  exact Tm.V_of8 ⟨Ln.row (by obtain ⟨cur, h1, h2⟩ := hr; exact ⟨cur, h1, by omega⟩) hm hg, h⟩
theorem V9r {l : TmF} {w : World} {B : Nat → Prop} {g n : Nat} (hn : l.len = n) (hm : n ≤ maxLen) (hg : B g) (hr : Rowed w g 60 (n * 2)) (h : l.V w B (some ⟨g, 0, none⟩) 0) : (mkD l).V w B (.iface 62 (.slice (some ⟨g, 0, none⟩) n n)) := by
  subst hn
  exact Tm.V_of9 ⟨Ln.row hr hm hg, h⟩
theorem rowed_new (w : World) (cs : Array Value) (e : TypeId) : Rowed (w.alloc (.cells cs e)) w.heap.size e cs.size := ⟨cs, heap_alloc_new w _, rfl⟩
theorem rowed_old {w : World} {g : Nat} {e : TypeId} {n : Nat} (h : Rowed w g e n) (hg : g < w.heap.size) (o : Obj) : Rowed (w.alloc o) g e n := by
  obtain ⟨cur, h1, h2⟩ := h
  exact ⟨cur, by rw [Below.heap_alloc _ _ _ hg]; exact h1, h2⟩
theorem rowed_two (w : World) (a b : Array Value) (e e' : TypeId) : Rowed ((w.alloc (.cells a e)).alloc (.cells b e')) w.heap.size e a.size ∧ Rowed ((w.alloc (.cells a e)).alloc (.cells b e')) (w.heap.size + 1) e' b.size :=
  ⟨rowed_old (rowed_new w a e) (by simp) _, by have := rowed_new (w.alloc (.cells a e)) b e'; simpa using this⟩
end Go.Proofs.Ytbaadndogikphaa

/- What stands behind a made object: its counts, its owner. Core.call, owned.Owner, owned.Give. -/
import Derived.Test.YtbjjeleoimcboaaQ9
import Derived.Deep.RegionHeld3
namespace Go.Proofs.Ytbjjeleoimcboaa
open Go.RowKit

/-- At c lies what stands behind an object whose methods do not panic: its owner, what Give answers; and a count under each of 5 and 6. -/
def Cg (w : World) (c : Nat) (ow : ByteArray) (gv : Int) : Prop := ∃ cs, w.heap[c]? = some (.cells cs 45) ∧ cs.size = 23 ∧ cs[8]? = some (.string ow) ∧ cs[9]? = some (.int .i64 gv) ∧ cs[12]? = some (.int .i64 0) ∧ (∃ k, cs[19]? = some (.int .i64 k)) ∧ (∃ k, cs[20]? = some (.int .i64 k))

/-- all but block c is as it was -/
structure Kc (c : Nat) (w w' : World) : Prop where
  os : w'.os = w.os
  tape : w'.tape = w.tape
  output : w'.output = w.output
  size : w.heap.size ≤ w'.heap.size
  block : ∀ j, j < w.heap.size → j ≠ c → w'.heap[j]? = w.heap[j]?
theorem Kc.refl (c : Nat) (w : World) : Kc c w w := ⟨rfl, rfl, rfl, Nat.le_refl _, fun _ _ _ => rfl⟩
theorem Kc.trans {c : Nat} {a b d : World} (h : Kc c a b) (k : Kc c b d) : Kc c a d := ⟨k.os.trans h.os, k.tape.trans h.tape, k.output.trans h.output, Nat.le_trans h.size k.size, fun j h1 h2 => (k.block j (Nat.lt_of_lt_of_le h1 h.size) h2).trans (h.block j h1 h2)⟩
theorem Kc.of {c : Nat} {w w' : World} (h : Below w.heap.size w w') : Kc c w w' := ⟨h.os, h.tape, h.output, h.size, fun j h1 _ => h.block j h1⟩
theorem Kc.below {c B : Nat} {w w' : World} (h : Kc c w w') (hB : B ≤ c) (hs : B ≤ w.heap.size) : Below B w w' := ⟨h.os, h.tape, h.output, h.size, fun j hj => h.block j (by omega) (by omega)⟩
theorem Kc.kp {c : Nat} {w w' : World} (h : Kc c w w') : Kp c w w' := fun j h1 h2 => h.block j h2 (by omega)
theorem Kc.set {c o : Nat} {w : World} (v : Value) : Kc c w (w.setCell ⟨c, o, none⟩ v) := ⟨rfl, rfl, rfl, by simp [World.setCell], fun j _ h2 => Below.heap_setCell _ _ _ _ h2⟩
theorem Kc.drew {c : Nat} {a w : World} (h : Kc c a w) : Kc c a w.drew := ⟨h.os, h.tape, h.output, h.size, h.block⟩
theorem Cg.keep {w w' : World} {c : Nat} {ow : ByteArray} {gv : Int} (h : Cg w c ow gv) (hb : w'.heap[c]? = w.heap[c]?) : Cg w' c ow gv := by
  obtain ⟨cs, h1, h2⟩ := h
  exact ⟨cs, hb.trans h1, h2⟩
theorem Cg.lt {w : World} {c : Nat} {ow : ByteArray} {gv : Int} (h : Cg w c ow gv) : c < w.heap.size := by
  obtain ⟨cs, h1, _⟩ := h
  exact (Array.getElem?_eq_some_iff.1 h1).1
/-- a count is written -/
theorem Cg.count {w : World} {c : Nat} {ow : ByteArray} {gv : Int} (h : Cg w c ow gv) (j : Nat) (hj : j = 19 ∨ j = 20) (k : Int) : Cg (w.setCell ⟨c, j, none⟩ (.int .i64 k)) c ow gv := by
  obtain ⟨cs, h1, h2, h3, h4, h5, h6, h7⟩ := h
  refine ⟨cs.setIfInBounds j (.int .i64 k), ?_, by simp [h2], ?_, ?_, ?_, ?_, ?_⟩
  · rw [setCell_eq_setRow _ _ _ _ _ _ _ h1]; exact setRow_heap _ _ _ _ _ _ h1
  · rw [Array.getElem?_setIfInBounds_ne (by omega)]; exact h3
  · rw [Array.getElem?_setIfInBounds_ne (by omega)]; exact h4
  · rw [Array.getElem?_setIfInBounds_ne (by omega)]; exact h5
  · rcases hj with rfl | rfl
    · exact ⟨k, by rw [Array.getElem?_setIfInBounds_self_of_lt (by omega)]⟩
    · obtain ⟨q, h6⟩ := h6; exact ⟨q, by rw [Array.getElem?_setIfInBounds_ne (by omega)]; exact h6⟩
  · rcases hj with rfl | rfl
    · obtain ⟨q, h7⟩ := h7; exact ⟨q, by rw [Array.getElem?_setIfInBounds_ne (by omega)]; exact h7⟩
    · exact ⟨k, by rw [Array.getElem?_setIfInBounds_self_of_lt (by omega)]⟩
/-- the owner is written -/
theorem Cg.owner {w : World} {c : Nat} {ow : ByteArray} {gv : Int} (h : Cg w c ow gv) (to : ByteArray) : Cg (w.setCell ⟨c, 8, none⟩ (.string to)) c to gv := by
  obtain ⟨cs, h1, h2, h3, h4, h5, ⟨k, h6⟩, ⟨q, h7⟩⟩ := h
  refine ⟨cs.setIfInBounds 8 (.string to), ?_, by simp [h2], by rw [Array.getElem?_setIfInBounds_self_of_lt (by omega)], ?_, ?_, ⟨k, ?_⟩, ⟨q, ?_⟩⟩
  · rw [setCell_eq_setRow _ _ _ _ _ _ _ h1]; exact setRow_heap _ _ _ _ _ _ h1
  · rw [Array.getElem?_setIfInBounds_ne (by omega)]; exact h4
  · rw [Array.getElem?_setIfInBounds_ne (by omega)]; exact h5
  · rw [Array.getElem?_setIfInBounds_ne (by omega)]; exact h6
  · rw [Array.getElem?_setIfInBounds_ne (by omega)]; exact h7
/-- the cells that a walk reads -/
theorem Cg.cells {w : World} {c : Nat} {ow : ByteArray} {gv : Int} (h : Cg w c ow gv) : w.cell? ⟨c, 8, none⟩ = some (.string ow) ∧ w.cell? ⟨c, 9, none⟩ = some (.int .i64 gv) ∧ w.cell? ⟨c, 12, none⟩ = some (.int .i64 0) ∧ (∃ k, w.cell? ⟨c, 19, none⟩ = some (.int .i64 k)) ∧ (∃ k, w.cell? ⟨c, 20, none⟩ = some (.int .i64 k)) ∧ ∀ j, w.frozen? ⟨c, j, none⟩ = false := by
  obtain ⟨cs, h1, h2, h3, h4, h5, ⟨k, h6⟩, ⟨q, h7⟩⟩ := h
  have e := fun j => cell_of_row w c j cs _ _ h1
  exact ⟨by rw [e, h3], by rw [e, h4], by rw [e, h5], ⟨k, by rw [e, h6]⟩, ⟨q, by rw [e, h7]⟩, fun j => frozen_of_row _ _ j _ _ h1⟩

end Go.Proofs.Ytbjjeleoimcboaa


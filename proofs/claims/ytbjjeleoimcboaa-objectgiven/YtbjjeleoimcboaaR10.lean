/- What stands behind a made object: its counts, its owner. Core.call, owned.Owner, owned.Give. -/
import Derived.Test.YtbjjeleoimcboaaR9
import Derived.Deep.RegionHeld3
namespace Go.Proofs.Ytbjjeleoimcboaa
open Go.RowKit

/-- At c lies what stands behind an object whose methods do not panic: its owner, what Give answers; and a count under each of 5 and 6. -/
def Cg (w : World) (c : Nat) (ow : ByteArray) (gv : Int) : Prop := ∃ cs, w.heap[c]? = some (.cells cs 45) ∧ cs.size = 23 ∧ cs[8]? = some (.string ow) ∧ cs[9]? = some (.int .i64 gv) ∧ cs[12]? = some (.int .i64 0) ∧ (∃ k, cs[19]? = some (.int .i64 k)) ∧ (∃ k, cs[20]? = some (.int .i64 k))

/-- all but block c is as it was -/
structure Kc (c : Nat) (w w' : World) : Prop where
  os : w'.os = w.os
  tape : w'.tape = w.tape
  output : w'.output = w.output
  size : w.heap.size ≤ w'.heap.size
  block : ∀ j, j < w.heap.size → j ≠ c → w'.heap[j]? = w.heap[j]?
theorem Kc.refl (c : Nat) (w : World) : Kc c w w := ⟨rfl, rfl, rfl, Nat.le_refl _, fun _ _ _ => rfl⟩
theorem Kc.trans {c : Nat} {a b d : World} (h : Kc c a b) (k : Kc c b d) : Kc c a d := ⟨k.os.trans h.os, k.tape.trans h.tape, k.output.trans h.output, Nat.le_trans h.size k.size, fun j h1 h2 => (k.block j (Nat.lt_of_lt_of_le h1 h.size) h2).trans (h.block j h1 h2)⟩
theorem Kc.of {c : Nat} {w w' : World} (h : Below w.heap.size w w') : Kc c w w' := ⟨h.os, h.tape, h.output, h.size, fun j h1 _ => h.block j h1⟩
theorem Kc.below {c B : Nat} {w w' : World} (h : Kc c w w') (hB : B ≤ c) (hs : B ≤ w.heap.size) : Below B w w' := ⟨h.os, h.tape, h.output, h.size, fun j hj => h.block j (by omega) (by omega)⟩
theorem Kc.kp {c : Nat} {w w' : World} (h : Kc c w w') : Kp c w w' := fun j h1 h2 => h.block j h2 (by omega)
theorem Kc.set {c o : Nat} {w : World} (v : Value) : Kc c w (w.setCell ⟨c, o, none⟩ v) := ⟨rfl, rfl, rfl, by simp [World.setCell], fun j _ h2 => Below.heap_setCell _ _ _ _ h2⟩
theorem Kc.drew {c : Nat} {a w : World} (h : Kc c a w) : Kc c a w.drew := ⟨h.os, h.tape, h.output, h.size, h.block⟩
theorem Cg.keep {w w' : World} {c : Nat} {ow : ByteArray} {gv : Int} (h : Cg w c ow gv) (hb : w'.heap[c]? = w.heap[c]?) : Cg w' c ow gv := by
  obtain ⟨cs, h1, h2⟩ := h
  exact ⟨cs, hb.trans h1, h2⟩
theorem Cg.lt {w : World} {c : Nat} {ow : ByteArray} {gv : Int} (h : Cg w c ow gv) : c < w.heap.size := by
  obtain ⟨cs, h1, _⟩ := h
  exact (Array.getElem?_eq_some_iff.1 h1).1
/-- a count is written -/
theorem Cg.count {w : World} {c : Nat} {ow : ByteArray} {gv : Int} (h : Cg w c ow gv) (j : Nat) (hj : j = 19 ∨ j = 20) (k : Int) : Cg (w.setCell ⟨c, j, none⟩ (.int .i64 k)) c ow gv := by
  obtain ⟨cs, h1, h2, h3, h4, h5, h6, h7⟩ := h
  refine ⟨cs.setIfInBounds j (.int .i64 k), ?_, by simp [h2], ?_, ?_, ?_, ?_, ?_⟩
  · rw [setCell_eq_setRow _ _ _ _ _ _ _ h1]; exact setRow_heap _ _ _ _ _ _ h1
  · rw [Array.getElem?_setIfInBounds_ne (by omega)]; exact h3
  · rw [Array.getElem?_setIfInBounds_ne (by omega)]; exact h4
  · rw [Array.getElem?_setIfInBounds_ne (by omega)]; exact h5
  · rcases hj with rfl | rfl
    · exact ⟨k, by rw [Array.getElem?_setIfInBounds_self_of_lt (by omega)]⟩
    · obtain ⟨q, h6⟩ := h6; exact ⟨q, by rw [Array.getElem?_setIfInBounds_ne (by omega)]; exact h6⟩
  · rcases hj with rfl | rfl
    · obtain ⟨q, h7⟩ := h7; exact ⟨q, by rw [Array.getElem?_setIfInBounds_ne (by omega)]; exact h7⟩
    · exact ⟨k, by rw [Array.getElem?_setIfInBounds_self_of_lt (by omega)]⟩
/-- the owner is written -/
theorem Cg.owner {w : World} {c : Nat} {ow : ByteArray} {gv : Int} (h : Cg w c ow gv) (to : ByteArray) : Cg (w.setCell ⟨c, 8, none⟩ (.string to)) c to gv := by
  obtain ⟨cs, h1, h2, h3, h4, h5, ⟨k, h6⟩, ⟨q, h7⟩⟩ := h
  refine ⟨cs.setIfInBounds 8 (.string to), ?_, by simp [h2], by rw [Array.getElem?_setIfInBounds_self_of_lt (by omega)], ?_, ?_, ⟨k, ?_⟩, ⟨q, ?_⟩⟩
  · rw [setCell_eq_setRow _ _ _ _ _ _ _ h1]; exact setRow_heap _ _ _ _ _ _ h1
  · rw [Array.getElem?_setIfInBounds_ne (by omega)]; exact h4
  · rw [Array.getElem?_setIfInBounds_ne (by omega)]; exact h5
  · rw [Array.getElem?_setIfInBounds_ne (by omega)]; exact h6
  · rw [Array.getElem?_setIfInBounds_ne (by omega)]; exact h7
/-- the cells that a walk reads -/
theorem Cg.cells {w : World} {c : Nat} {ow : ByteArray} {gv : Int} (h : Cg w c ow gv) : w.cell? ⟨c, 8, none⟩ = some (.string ow) ∧ w.cell? ⟨c, 9, none⟩ = some (.int .i64 gv) ∧ w.cell? ⟨c, 12, none⟩ = some (.int .i64 0) ∧ (∃ k, w.cell? ⟨c, 19, none⟩ = some (.int .i64 k)) ∧ (∃ k, w.cell? ⟨c, 20, none⟩ = some (.int .i64 k)) ∧ ∀ j, w.frozen? ⟨c, j, none⟩ = false := by
  obtain ⟨cs, h1, h2, h3, h4, h5, ⟨k, h6⟩, ⟨q, h7⟩⟩ := h
  have e := fun j => cell_of_row w c j cs _ _ h1
  exact ⟨by rw [e, h3], by rw [e, h4], by rw [e, h5], ⟨k, by rw [e, h6]⟩, ⟨q, by rw [e, h7]⟩, fun j => frozen_of_row _ _ j _ _ h1⟩

set_option maxRecDepth 100000 in
set_option maxHeartbeats 2000000 in
theorem call_5 (c : Nat) (ow : ByteArray) (gv : Int) (w : World) (h : Cg w c ow gv) :
    Calls Try.prog 78 #[.pointer (some ⟨c, 0, none⟩), .int .i64 5] w fun e w' => e = .returned (.tuple #[]) ∧ Cg w' c ow gv ∧ Kc c w w' ∧ w'.heap.size = w.heap.size := by
  obtain ⟨_, _, e12, ⟨k, ej⟩, _, ef⟩ := h.cells
  have HG : Hid (Cg w c ow gv) := h
  clear h
  have z := ef 19
  clear ef
  go_enter Try.func78, Try.ntmps78
  go_wp2_with fail
  go_region
  have HG1 : Hid (Cg ((w.setCell ⟨c, 19, none⟩ (.int .i64 (wrap64 (k + 1)))).drew) c ow gv) := HG.out.count 19 (by omega) _
  have HK1 : Hid (Kc c w ((w.setCell ⟨c, 19, none⟩ (.int .i64 (wrap64 (k + 1)))).drew) ∧ ((w.setCell ⟨c, 19, none⟩ (.int .i64 (wrap64 (k + 1)))).drew).heap.size = w.heap.size) := ⟨(Kc.set _).drew, by simp [World.setCell, World.drew]⟩
  generalize (w.setCell ⟨c, 19, none⟩ (.int .i64 (wrap64 (k + 1)))).drew = w1 at HG1 HK1 ⊢
  have y12 : w1.cell? ⟨c, 12, none⟩ = some (.int .i64 0) := HG1.out.cells.2.2.1
  clear e12 ej z HG
  go_wp2_with fail
  go_end0
  exact ⟨rfl, HG1.out, HK1.out.1, HK1.out.2⟩

set_option maxRecDepth 100000 in
set_option maxHeartbeats 2000000 in
theorem call_6 (c : Nat) (ow : ByteArray) (gv : Int) (w : World) (h : Cg w c ow gv) :
    Calls Try.prog 78 #[.pointer (some ⟨c, 0, none⟩), .int .i64 6] w fun e w' => e = .returned (.tuple #[]) ∧ Cg w' c ow gv ∧ Kc c w w' ∧ w'.heap.size = w.heap.size := by
  obtain ⟨_, _, e12, _, ⟨k, ej⟩, ef⟩ := h.cells
  have HG : Hid (Cg w c ow gv) := h
  clear h
  have z := ef 20
  clear ef
  go_enter Try.func78, Try.ntmps78
  go_wp2_with fail
  go_region
  have HG1 : Hid (Cg ((w.setCell ⟨c, 20, none⟩ (.int .i64 (wrap64 (k + 1)))).drew) c ow gv) := HG.out.count 20 (by omega) _
  have HK1 : Hid (Kc c w ((w.setCell ⟨c, 20, none⟩ (.int .i64 (wrap64 (k + 1)))).drew) ∧ ((w.setCell ⟨c, 20, none⟩ (.int .i64 (wrap64 (k + 1)))).drew).heap.size = w.heap.size) := ⟨(Kc.set _).drew, by simp [World.setCell, World.drew]⟩
  generalize (w.setCell ⟨c, 20, none⟩ (.int .i64 (wrap64 (k + 1)))).drew = w1 at HG1 HK1 ⊢
  have y12 : w1.cell? ⟨c, 12, none⟩ = some (.int .i64 0) := HG1.out.cells.2.2.1
  clear e12 ej z HG
  go_wp2_with fail
  go_end0
  exact ⟨rfl, HG1.out, HK1.out.1, HK1.out.2⟩

set_option maxRecDepth 100000 in
set_option maxHeartbeats 2000000 in
theorem Owner_any (c : Nat) (ow : ByteArray) (gv : Int) (w : World) (h : Cg w c ow gv) :
    Calls Try.prog 104 #[.agg #[.pointer (some ⟨c, 0, none⟩)]] w fun e w' => e = .returned (.string ow) ∧ Cg w' c ow gv ∧ Kc c w w' := by
  have HC : Hid (∀ W, Cg W c ow gv → Calls Try.prog 78 #[.pointer (some ⟨c, 0, none⟩), .int .i64 5] W fun e w' => e = .returned (.tuple #[]) ∧ Cg w' c ow gv ∧ Kc c W w' ∧ w'.heap.size = W.heap.size) := fun W h => call_5 c ow gv W h
  have HG : Hid (Cg (w.alloc (.cells #[.pointer (some ⟨c, 0, none⟩)] 105)) c ow gv) := h.keep (Below.heap_alloc _ _ _ h.lt)
  have HL : Hid (c < w.heap.size) := h.lt
  have HK : Hid (Kc c w (w.alloc (.cells #[.pointer (some ⟨c, 0, none⟩)] 105))) := Kc.of ((Below.refl _ _).alloc (Nat.le_refl _) _)
  have HA : Hid ((w.alloc (.cells #[.pointer (some ⟨c, 0, none⟩)] 105)).heap[w.heap.size]? = some (.cells #[.pointer (some ⟨c, 0, none⟩)] 105)) := heap_alloc_last _ _
  clear h
  go_enter Try.func104, Try.ntmps104
  go_wp2_with fail
  refine (HC.out _ HG.out).mono ?_
  rintro e w1 ⟨rfl, hg1, hk1, hs1⟩
  have x0 : w1.cell? ⟨w.heap.size, 0, none⟩ = some (.pointer (some ⟨c, 0, none⟩)) := by rw [cell_of_row _ _ 0 _ _ _ ((hk1.block w.heap.size (by simp) (by have := HL.out; omega)).trans HA.out)]; rfl
  have x8 : w1.cell? ⟨c, 8, none⟩ = some (.string ow) := hg1.cells.1
  have HR : Hid (Cg w1 c ow gv ∧ Kc c w w1) := ⟨hg1, HK.out.trans hk1⟩
  clear hg1 hk1 hs1 HG HK HA HC
  go_wp2_with fail
  go_ret
  exact ⟨rfl, HR.out⟩

set_option maxRecDepth 100000 in
set_option maxHeartbeats 2000000 in
theorem GiveM_yes (c : Nat) (ow to : ByteArray) (w : World) (h : Cg w c ow 0) :
    Calls Try.prog 103 #[.agg #[.pointer (some ⟨c, 0, none⟩)], .string to] w fun e w' => e = .returned (.int .i64 0) ∧ Cg w' c to 0 ∧ Kc c w w' := by
  have HC : Hid (∀ W, Cg W c ow 0 → Calls Try.prog 78 #[.pointer (some ⟨c, 0, none⟩), .int .i64 6] W fun e w' => e = .returned (.tuple #[]) ∧ Cg w' c ow 0 ∧ Kc c W w' ∧ w'.heap.size = W.heap.size) := fun W h => call_6 c ow 0 W h
  have HG : Hid (Cg (w.alloc (.cells #[.pointer (some ⟨c, 0, none⟩)] 105)) c ow 0) := h.keep (Below.heap_alloc _ _ _ h.lt)
  have HL : Hid (c < w.heap.size) := h.lt
  have HK : Hid (Kc c w (w.alloc (.cells #[.pointer (some ⟨c, 0, none⟩)] 105))) := Kc.of ((Below.refl _ _).alloc (Nat.le_refl _) _)
  have HA : Hid ((w.alloc (.cells #[.pointer (some ⟨c, 0, none⟩)] 105)).heap[w.heap.size]? = some (.cells #[.pointer (some ⟨c, 0, none⟩)] 105)) := heap_alloc_last _ _
  clear h
  go_enter Try.func103, Try.ntmps103
  go_wp2_with fail
  refine (HC.out _ HG.out).mono ?_
  rintro e w1 ⟨rfl, hg1, hk1, hs1⟩
  have x0 : w1.cell? ⟨w.heap.size, 0, none⟩ = some (.pointer (some ⟨c, 0, none⟩)) := by rw [cell_of_row _ _ 0 _ _ _ ((hk1.block w.heap.size (by simp) (by have := HL.out; omega)).trans HA.out)]; rfl
  have x8 : w1.cell? ⟨c, 8, none⟩ = some (.string ow) := hg1.cells.1
  have x9 : w1.cell? ⟨c, 9, none⟩ = some (.int .i64 0) := hg1.cells.2.1
  have z8 : w1.frozen? ⟨c, 8, none⟩ = false := hg1.cells.2.2.2.2.2 8
  have y0 : ∀ v, (w1.setCell ⟨c, 8, none⟩ v).cell? ⟨w.heap.size, 0, none⟩ = some (.pointer (some ⟨c, 0, none⟩)) := fun v => by rw [World.cell?_setCell_other _ _ _ _ (by intro e; injection e with e1 _; have := HL.out; omega)]; exact x0
  have y9 : ∀ v, (w1.setCell ⟨c, 8, none⟩ v).cell? ⟨c, 9, none⟩ = some (.int .i64 0) := fun v => by rw [World.cell?_setCell_other _ _ _ _ (by intro e; injection e with _ e1; omega)]; exact x9
  have HR : Hid (Cg (w1.setCell ⟨c, 8, none⟩ (.string to)) c to 0 ∧ Kc c w (w1.setCell ⟨c, 8, none⟩ (.string to))) := ⟨hg1.owner to, (HK.out.trans hk1).trans (Kc.set _)⟩
  clear hg1 hk1 hs1 HG HK HA HC
  go_wp2_with fail
  go_ret
  exact ⟨rfl, HR.out⟩

set_option maxRecDepth 100000 in
set_option maxHeartbeats 2000000 in
theorem GiveM_no (c : Nat) (ow to : ByteArray) (gv : Int) (w : World) (h : Cg w c ow gv) (hgv : gv ≠ 0) :
    Calls Try.prog 103 #[.agg #[.pointer (some ⟨c, 0, none⟩)], .string to] w fun e w' => e = .returned (.int .i64 gv) ∧ Cg w' c ow gv ∧ Kc c w w' := by
  have hb : (gv == 0) = false := by simp [hgv]
  clear hgv
  have HC : Hid (∀ W, Cg W c ow gv → Calls Try.prog 78 #[.pointer (some ⟨c, 0, none⟩), .int .i64 6] W fun e w' => e = .returned (.tuple #[]) ∧ Cg w' c ow gv ∧ Kc c W w' ∧ w'.heap.size = W.heap.size) := fun W h => call_6 c ow gv W h
  have HG : Hid (Cg (w.alloc (.cells #[.pointer (some ⟨c, 0, none⟩)] 105)) c ow gv) := h.keep (Below.heap_alloc _ _ _ h.lt)
  have HL : Hid (c < w.heap.size) := h.lt
  have HK : Hid (Kc c w (w.alloc (.cells #[.pointer (some ⟨c, 0, none⟩)] 105))) := Kc.of ((Below.refl _ _).alloc (Nat.le_refl _) _)
  have HA : Hid ((w.alloc (.cells #[.pointer (some ⟨c, 0, none⟩)] 105)).heap[w.heap.size]? = some (.cells #[.pointer (some ⟨c, 0, none⟩)] 105)) := heap_alloc_last _ _
  clear h
  go_enter Try.func103, Try.ntmps103
  go_wp2_with fail
  refine (HC.out _ HG.out).mono ?_
  rintro e w1 ⟨rfl, hg1, hk1, hs1⟩
  have x0 : w1.cell? ⟨w.heap.size, 0, none⟩ = some (.pointer (some ⟨c, 0, none⟩)) := by rw [cell_of_row _ _ 0 _ _ _ ((hk1.block w.heap.size (by simp) (by have := HL.out; omega)).trans HA.out)]; rfl
  have x8 : w1.cell? ⟨c, 8, none⟩ = some (.string ow) := hg1.cells.1
  have x9 : w1.cell? ⟨c, 9, none⟩ = some (.int .i64 gv) := hg1.cells.2.1
  have z8 : w1.frozen? ⟨c, 8, none⟩ = false := hg1.cells.2.2.2.2.2 8
  have HR : Hid (Cg w1 c ow gv ∧ Kc c w w1) := ⟨hg1, HK.out.trans hk1⟩
  clear hg1 hk1 hs1 HG HK HA HC
  go_wp2_with fail
  go_ret
  exact ⟨rfl, HR.out⟩

end Go.Proofs.Ytbjjeleoimcboaa


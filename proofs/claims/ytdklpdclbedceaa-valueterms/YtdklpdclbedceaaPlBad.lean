/- value.Plain of what Check refuses. -/
import Derived.Test.YtdklpdclbedceaaBackV
namespace Go.Proofs.Ytdklpdclbedceaa
open Go.RowKit

def BadT (v : Value) (e : Int) (w : World) : Prop := e ≠ 0 ∧ ∀ W, Below w.heap.size w W → Calls Try.prog 35 #[v] W fun x w' => ∃ a, x = .returned (.tuple #[.int .i64 a, .int .i64 e]) ∧ Below W.heap.size W w'
set_option maxRecDepth 100000 in
set_option maxHeartbeats 400000 in
theorem Plain_badT (v : Value) (e : Int) (w : World) (h : BadT v e w) : Calls Try.prog 10 #[v] w fun x w' => x = .returned (.tuple #[.agg #[.int .i64 0, .bool false, .int .i64 0, .float .f64 0, .string ByteArray.empty, .slice none 0 0, .int .u64 0, .slice none 0 0, .slice none 0 0, .string ByteArray.empty, .int .i64 0], .int .i64 e]) ∧ Below w.heap.size w w' := by
  have he := ne_bool h.1
  have HC : Hid (∀ W, Below w.heap.size w W → Calls Try.prog 35 #[v] W fun x w' => ∃ a, x = .returned (.tuple #[.int .i64 a, .int .i64 e]) ∧ Below W.heap.size W w') := h.2
  have HX : Hid (∀ o w1, Below (w.alloc o).heap.size (w.alloc o) w1 → w1.heap[w.heap.size]? = some o ∧ Below w.heap.size w w1) := fun o w1 h => ⟨by rw [h.block w.heap.size (by simp)]; exact heap_alloc_new w o, below_to ((Below.refl _ _).alloc (Nat.le_refl _) _) h⟩
  clear h
  go_enter Try.func10, Try.ntmps10
  go_wp2_with (go_at_call 35; refine (HC.out _ ((Below.refl _ _).alloc (Nat.le_refl _) _)).mono ?_; rintro x w1 ⟨a, rfl, hb1⟩; obtain ⟨hR, hbw⟩ := HX.out _ _ hb1; have hh := fun j => cell_of_row w1 w.heap.size j _ _ _ hR; have hf := fun j => frozen_of_row w1 w.heap.size j _ _ hR; have r0 := hh 0; have z0 := hf 0; have r1 := hh 1; have z1 := hf 1; have r2 := hh 2; have z2 := hf 2; have r3 := hh 3; have z3 := hf 3; have r4 := hh 4; have z4 := hf 4; have r5 := hh 5; have z5 := hf 5; have r6 := hh 6; have z6 := hf 6; have r7 := hh 7; have z7 := hf 7; have r8 := hh 8; have z8 := hf 8; have r9 := hh 9; have z9 := hf 9; have r10 := hh 10; have z10 := hf 10; have HB1 : Hid _ := hbw; clear hb1 hR hbw hh hf)
  have HE : Hid (Below w.heap.size w (setN w1 w.heap.size 0 [.int .i64 0, .bool false, .int .i64 0, .float .f64 0, .string ByteArray.empty, .slice none 0 0, .int .u64 0, .slice none 0 0, .slice none 0 0, .string ByteArray.empty, .int .i64 0])) := setN_below (Nat.le_refl _) _ _ _ _ HB1.out
  refine bodyPost_ret (v := .tuple #[.agg #[.int .i64 0, .bool false, .int .i64 0, .float .f64 0, .string ByteArray.empty, .slice none 0 0, .int .u64 0, .slice none 0 0, .slice none 0 0, .string ByteArray.empty, .int .i64 0], .int .i64 e]) (by simp [results, Try.results10, go_sem, r0, r1, r2, r3, r4, r5, r6, r7, r8, r9, r10] <;> rfl) rfl ⟨rfl, HE.out⟩
end Go.Proofs.Ytdklpdclbedceaa

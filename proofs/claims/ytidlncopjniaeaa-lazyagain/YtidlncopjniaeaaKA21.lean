/- tenonlaw10.ObjectTries' functions that are handed in, and tenonmake.Panics: what they panic with. -/
import Derived.Test.YtidlncopjniaeaaKA20
import Derived.Stop.Asserts
namespace Go.Proofs.Ytidlncopjniaeaa
open Go.RowKit

theorem Kd_errno (e : Int) : Kd (.iface 34 (.int .i64 e)) 2 e :=
  .inr ⟨⟨_, _, rfl⟩, .inr (.inl ⟨⟨.nilIface, fun W => run_typeAssert_lacksB Try.underlying128 (by kernel_rfl) (by kernel_rfl) _ _ W⟩, fun W => by kernel_rfl, rfl⟩)⟩
theorem Kd_text (s : ByteArray) : Kd (.iface 9 (.string s)) 4 9 :=
  .inr ⟨⟨_, _, rfl⟩, .inr (.inr (.inr (.inl ⟨⟨.nilIface, fun W => run_typeAssert_lacksB Try.underlying128 (by kernel_rfl) (by kernel_rfl) _ _ W⟩, ⟨.int .i64 0, fun W => by kernel_rfl⟩, ⟨.nilIface, fun W => run_typeAssert_lacksB Try.underlying71 (by kernel_rfl) (by kernel_rfl) _ _ W⟩, ⟨.string s, fun W => by kernel_rfl⟩, rfl, rfl⟩)))⟩
theorem Kd_int (n : Int) : Kd (.iface 3 (.int .i64 n)) 5 9 :=
  .inr ⟨⟨_, _, rfl⟩, .inr (.inr (.inr (.inr ⟨⟨.nilIface, fun W => run_typeAssert_lacksB Try.underlying128 (by kernel_rfl) (by kernel_rfl) _ _ W⟩, ⟨.int .i64 0, fun W => by kernel_rfl⟩, ⟨.nilIface, fun W => run_typeAssert_lacksB Try.underlying71 (by kernel_rfl) (by kernel_rfl) _ _ W⟩, ⟨.string ⟨#[]⟩, fun W => by kernel_rfl⟩, rfl, rfl⟩)))⟩
theorem Kd_error (a : Addr) : Kd (.iface 102 (.pointer (some a))) 3 9 :=
  .inr ⟨⟨_, _, rfl⟩, .inr (.inr (.inl ⟨⟨.nilIface, fun W => run_typeAssert_lacksB Try.underlying128 (by kernel_rfl) (by kernel_rfl) _ _ W⟩, ⟨.int .i64 0, fun W => by kernel_rfl⟩, ⟨_, fun W => run_typeAssert_hasB Try.underlying71 (by kernel_rfl) _ _ W⟩, rfl, rfl⟩))⟩
theorem Kd_bounds (x y : Int) (s : Bool) (c : Nat) : Kd (.iface 8 (.agg #[.int .i64 x, .int .i64 y, .bool s, .int .u8 c])) 1 9 :=
  .inr ⟨⟨_, _, rfl⟩, .inl ⟨⟨_, fun W => run_typeAssert_hasB Try.underlying128 (by kernel_rfl) _ _ W⟩, rfl, rfl⟩⟩
theorem idx_out (w : World) : ∃ s w', Sem.run Try.prog (Instr.indexAt 69 (.slice none 0 0) (.int .i64 3)) w = .halt (.panic (.iface 8 (.agg #[.int .i64 3, .int .i64 0, .bool s, .int .u8 0]))) w' ∧ Below w.heap.size w w' := by
  have e : (Instr.indexAt 69 (.slice none 0 0) (.int .i64 3)).run Try.prog w = (boundsPanic .i64 3 0 .index).run Try.prog w := by
    simp [Instr.indexAt, run_underlying Try.underlying69, asIntOf]
  rw [e]
  unfold boundsPanic
  simp [runtimePanic, goPanic, go_sem]
  have h3 : IntKind.i64.wrap 3 = 3 := by kernel_rfl
  have h0 : BoundsCode.index.toNat = 0 := rfl
  simp only [h3, h0, and_true, true_and]
  by_cases hx : (Question.extern "runtime.boundsError.signed" 2).cut (w.tape w.drawn (Question.extern "runtime.boundsError.signed" 2)) = 1
  · exact .inr ⟨_, ⟨hx, rfl⟩, (Below.refl _ _).drew⟩
  · exact .inl ⟨_, ⟨hx, rfl⟩, (Below.refl _ _).drew⟩

set_option maxRecDepth 100000 in
set_option maxHeartbeats 1000000 in
theorem New_any (x : ByteArray) (w : World) :
    Calls Try.prog 27 #[.string x] w fun e w' => e = .returned (.iface 102 (.pointer (some ⟨w.heap.size, 0, none⟩))) ∧ Below w.heap.size w w' := by
  go_enter Try.func27, Try.ntmps27
  go_wp2_with fail
  go_ret
  exact ⟨rfl, (Below.refl _ _).alloc (Nat.le_refl _) _⟩

set_option maxRecDepth 100000 in
set_option maxHeartbeats 1000000 in
theorem Panics_1_int (b : Nat) (n : Int) (w : World) (hc : w.cell? ⟨b, 0, none⟩ = some (.int .i64 n)) (h0 : (n == 0) = false) (h1 : (n == 1) = false) (h2 : (n == 2) = false) (h3 : (n == 3) = false) (h4 : (n == 4) = false) :
    Calls Try.prog 26 #[.pointer (some ⟨b, 0, none⟩)] w fun e w' => Ends 5 9 e ∧ Below w.heap.size w w' := by
  go_enter Try.func26, Try.ntmps26
  go_wp2_with fail
  exact ⟨rfl, .inr ⟨_, rfl, Kd_int 7⟩, Below.refl _ _⟩
set_option maxRecDepth 100000 in
set_option maxHeartbeats 1000000 in
theorem Panics_1_text (b : Nat) (w : World) (hc : w.cell? ⟨b, 0, none⟩ = some (.int .i64 4)) :
    Calls Try.prog 26 #[.pointer (some ⟨b, 0, none⟩)] w fun e w' => Ends 4 9 e ∧ Below w.heap.size w w' := by
  go_enter Try.func26, Try.ntmps26
  go_wp2_with fail
  exact ⟨rfl, .inr ⟨_, rfl, Kd_text _⟩, Below.refl _ _⟩
set_option maxRecDepth 100000 in
set_option maxHeartbeats 1000000 in
theorem Panics_1_error (b : Nat) (w : World) (hc : w.cell? ⟨b, 0, none⟩ = some (.int .i64 3)) :
    Calls Try.prog 26 #[.pointer (some ⟨b, 0, none⟩)] w fun e w' => Ends 3 9 e ∧ Below w.heap.size w w' := by
  go_enter Try.func26, Try.ntmps26
  go_wp2_with fail
  refine (New_any _ w).mono ?_
  rintro e w1 ⟨rfl, hb⟩
  go_wp2_with fail
  exact ⟨rfl, .inr ⟨_, rfl, Kd_error _⟩, hb⟩
set_option maxRecDepth 100000 in
set_option maxHeartbeats 1000000 in
theorem Panics_1_run (b : Nat) (w : World) (hc : w.cell? ⟨b, 0, none⟩ = some (.int .i64 1)) :
    Calls Try.prog 26 #[.pointer (some ⟨b, 0, none⟩)] w fun e w' => Ends 1 9 e ∧ Below w.heap.size w w' := by
  obtain ⟨s, w1, hix, hb⟩ := idx_out w
  go_enter Try.func26, Try.ntmps26
  go_wp2_with fail
  exact ⟨rfl, .inr ⟨_, rfl, Kd_bounds _ _ _ _⟩, hb⟩
end Go.Proofs.Ytidlncopjniaeaa


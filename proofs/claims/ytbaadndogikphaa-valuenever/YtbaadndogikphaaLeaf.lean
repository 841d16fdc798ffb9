/- Contracts of the small functions of package value that only reckon, or write into the walk alone: isLetter, isDigit, lengthRule, enter. -/
import Derived.Test.YtbaadndogikphaaProg
import Derived.Test.YtbaadndogikphaaMem
import Derived.WalkKit
import Derived.WalkSpells
import Derived.WalkLawsBesides
namespace Go.Proofs.Ytbaadndogikphaa
open Go.RowKit

set_option maxHeartbeats 400000 in
theorem isLetter_any (c : Int) (w : World) (_h0 : 0 ≤ c) (_h1 : c ≤ 255) :
    Calls Try.prog 88 #[.int .u8 c] w fun e w' => e = .returned (.bool (Sp.letter c)) ∧ w = w' := by
  by_cases ha : 97 ≤ c
  · by_cases hb : c ≤ 122
    · go_enter Try.func88, Try.ntmps88
      go_wp2
      go_ret
      exact ⟨by simp [Sp.letter, ha, hb], rfl⟩
    · go_enter Try.func88, Try.ntmps88
      go_wp2
      go_ret
      exact ⟨by simp [Sp.letter]; omega, rfl⟩
  · go_enter Try.func88, Try.ntmps88
    go_wp2
    go_ret
    exact ⟨by simp [Sp.letter]; omega, rfl⟩

set_option maxHeartbeats 400000 in
theorem isDigit_any (c : Int) (w : World) (_h0 : 0 ≤ c) (_h1 : c ≤ 255) :
    Calls Try.prog 90 #[.int .u8 c] w fun e w' => e = .returned (.bool (Sp.digit c)) ∧ w = w' := by
  by_cases ha : 48 ≤ c
  · by_cases hb : c ≤ 57
    · go_enter Try.func90, Try.ntmps90
      go_wp2
      go_ret
      exact ⟨by simp [Sp.digit, ha, hb], rfl⟩
    · go_enter Try.func90, Try.ntmps90
      go_wp2
      go_ret
      exact ⟨by simp [Sp.digit]; omega, rfl⟩
  · go_enter Try.func90, Try.ntmps90
    go_wp2
    go_ret
    exact ⟨by simp [Sp.digit]; omega, rfl⟩

set_option maxHeartbeats 400000 in
theorem lengthRule_any (n m : Int) (w : World) :
    Calls Try.prog 49 #[.int .i64 n, .int .i64 m] w fun e w' => e = .returned (.int .i64 (Sp.len n m)) ∧ w = w' := by
  by_cases h : m < n
  · go_enter Try.func49, Try.ntmps49
    go_wp2
    go_ret
    exact ⟨by rw [Sp.len, if_neg (by omega)]; rfl, rfl⟩
  · go_enter Try.func49, Try.ntmps49
    go_wp2
    go_ret
    exact ⟨by rw [Sp.len, if_pos (by omega)]; rfl, rfl⟩

theorem ret_int {k : IntKind} {a b : Int} (h : a = b) : Ending.returned (.int k a) = .returned (.int k b) := by rw [h]

set_option maxHeartbeats 400000 in
theorem enter_any (b : Nat) (p d k n : Int) (w : World) (h : Wk w b p d) (hp : 0 ≤ p) (hp' : p ≤ 100000) :
    Calls Try.prog 48 #[.pointer (some ⟨b, 0, none⟩), .int .i64 k, .int .i64 n] w fun e w' => e = .returned (.int .i64 (Sp.ent k p n)) ∧ (w.setCell ⟨b, 0, none⟩ (.int .i64 (p + 1))).setCell ⟨b, 1, none⟩ (.int .i64 (max d n)) = w' := by
  obtain ⟨h0, h1, f0, f1⟩ := h
  go_enter Try.func48, Try.ntmps48
  go_wp2
  all_goals
    go_ret
    refine ⟨?_, ?_⟩
    · refine ret_int ?_
      simp only [beq_iff_eq, beq_eq_false_iff_ne, ne_eq] at *
      unfold Sp.ent
      (repeat' split) <;> omega
    · have hm : max d n = if n ≤ d then d else n := by omega
      rw [hm]; split <;> first | rfl | omega

set_option maxRecDepth 100000 in
set_option maxHeartbeats 400000 in
theorem kindOf_alien (T : Nat) (x : Value) (w : World) (h : Alien T) :
    Calls Try.prog 34 #[.iface T x] w fun e w' => e = .returned (.int .i64 0) ∧ w = w' := by
  obtain ⟨h1, h2, h3, h4, h5, h6, h7, h8, h9⟩ := h
  go_enter Try.func34, Try.ntmps34
  go_wp2
  go_ret
  exact ⟨rfl, rfl⟩
set_option maxRecDepth 100000 in
set_option maxHeartbeats 400000 in
theorem kindOf_nil (w : World) :
    Calls Try.prog 34 #[.nilIface] w fun e w' => e = .returned (.int .i64 1) ∧ w = w' := by
  go_enter Try.func34, Try.ntmps34
  go_wp2
  go_ret
  exact ⟨rfl, rfl⟩
set_option maxRecDepth 100000 in
set_option maxHeartbeats 400000 in
theorem kindOf_bool (x : Value) (w : World) :
    Calls Try.prog 34 #[.iface 4 x] w fun e w' => e = .returned (.int .i64 2) ∧ w = w' := by
  go_enter Try.func34, Try.ntmps34
  go_wp2
  go_ret
  exact ⟨rfl, rfl⟩
set_option maxRecDepth 100000 in
set_option maxHeartbeats 400000 in
theorem kindOf_int (x : Value) (w : World) :
    Calls Try.prog 34 #[.iface 2 x] w fun e w' => e = .returned (.int .i64 3) ∧ w = w' := by
  go_enter Try.func34, Try.ntmps34
  go_wp2
  go_ret
  exact ⟨rfl, rfl⟩
set_option maxRecDepth 100000 in
set_option maxHeartbeats 400000 in
theorem kindOf_float (x : Value) (w : World) :
    Calls Try.prog 34 #[.iface 22 x] w fun e w' => e = .returned (.int .i64 4) ∧ w = w' := by
  go_enter Try.func34, Try.ntmps34
  go_wp2
  go_ret
  exact ⟨rfl, rfl⟩
set_option maxRecDepth 100000 in
set_option maxHeartbeats 400000 in
theorem kindOf_text (x : Value) (w : World) :
    Calls Try.prog 34 #[.iface 9 x] w fun e w' => e = .returned (.int .i64 5) ∧ w = w' := by
  go_enter Try.func34, Try.ntmps34
  go_wp2
  go_ret
  exact ⟨rfl, rfl⟩
set_option maxRecDepth 100000 in
set_option maxHeartbeats 400000 in
theorem kindOf_bytes (x : Value) (w : World) :
    Calls Try.prog 34 #[.iface 23 x] w fun e w' => e = .returned (.int .i64 6) ∧ w = w' := by
  go_enter Try.func34, Try.ntmps34
  go_wp2
  go_ret
  exact ⟨rfl, rfl⟩
set_option maxRecDepth 100000 in
set_option maxHeartbeats 400000 in
theorem kindOf_ref (x : Value) (w : World) :
    Calls Try.prog 34 #[.iface 25 x] w fun e w' => e = .returned (.int .i64 7) ∧ w = w' := by
  go_enter Try.func34, Try.ntmps34
  go_wp2
  go_ret
  exact ⟨rfl, rfl⟩
set_option maxRecDepth 100000 in
set_option maxHeartbeats 400000 in
theorem kindOf_list (x : Value) (w : World) :
    Calls Try.prog 34 #[.iface 63 x] w fun e w' => e = .returned (.int .i64 8) ∧ w = w' := by
  go_enter Try.func34, Try.ntmps34
  go_wp2
  go_ret
  exact ⟨rfl, rfl⟩
set_option maxRecDepth 100000 in
set_option maxHeartbeats 400000 in
theorem kindOf_dict (x : Value) (w : World) :
    Calls Try.prog 34 #[.iface 62 x] w fun e w' => e = .returned (.int .i64 9) ∧ w = w' := by
  go_enter Try.func34, Try.ntmps34
  go_wp2
  go_ret
  exact ⟨rfl, rfl⟩
set_option maxRecDepth 100000 in
set_option maxHeartbeats 400000 in
theorem kindOf_rec (a : Addr) (w : World) :
    Calls Try.prog 34 #[.iface 55 (.pointer (some a))] w fun e w' => e = .returned (.int .i64 10) ∧ w = w' := by
  go_enter Try.func34, Try.ntmps34
  go_wp2
  go_ret
  exact ⟨rfl, rfl⟩
set_option maxRecDepth 100000 in
set_option maxHeartbeats 400000 in
theorem kindOf_nothing (w : World) :
    Calls Try.prog 34 #[.iface 55 (.pointer none)] w fun e w' => e = .returned (.int .i64 11) ∧ w = w' := by
  go_enter Try.func34, Try.ntmps34
  go_wp2
  go_ret
  exact ⟨rfl, rfl⟩
end Go.Proofs.Ytbaadndogikphaa

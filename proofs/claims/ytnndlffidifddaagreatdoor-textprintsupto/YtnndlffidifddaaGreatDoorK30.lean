/- text.Float, of floats that are no NaN. -/
import Derived.Test.YtnndlffidifddaaGreatDoorK29
import Derived.Test.YtnndlffidifddaaGreatDoorK13
namespace Go.Proofs.YtnndlffidifddaaGreatDoor
open Go.RowKit

theorem inf_p (f : Nat) (hf : f < 18446744073709551616) (h1 : Sp.fexp f = 2047) (h2 : Sp.fman f = 0) : decide (f = 9218868437227405312) = !Sp.fneg f := by
  unfold Sp.fexp at h1
  unfold Sp.fman at h2
  unfold Sp.fneg
  by_cases c : f / 2 ^ 63 = 1
  · have hn : ¬ f = 9218868437227405312 := by omega
    rw [decide_eq_false hn, decide_eq_true c]; rfl
  · have hn : f = 9218868437227405312 := by omega
    rw [decide_eq_true hn, decide_eq_false c]; rfl
theorem inf_m (f : Nat) (_hf : f < 18446744073709551616) (h1 : Sp.fexp f = 2047) (h2 : Sp.fman f = 0) : decide (f = 18442240474082181120) = Sp.fneg f := by
  unfold Sp.fexp at h1
  unfold Sp.fman at h2
  unfold Sp.fneg
  by_cases c : f / 2 ^ 63 = 1
  · have hn : f = 18442240474082181120 := by omega
    rw [decide_eq_true hn, decide_eq_true c]
  · have hn : ¬ f = 18442240474082181120 := by omega
    rw [decide_eq_false hn, decide_eq_false c]
theorem fin_p (f : Nat) (h1 : Sp.fexp f ≠ 2047) : decide (f = 9218868437227405312) = false := decide_eq_false (by unfold Sp.fexp at h1; omega)
theorem fin_m (f : Nat) (h1 : Sp.fexp f ≠ 2047) : decide (f = 18442240474082181120) = false := decide_eq_false (by unfold Sp.fexp at h1; omega)

set_option maxRecDepth 100000 in
set_option maxHeartbeats 1000000 in
theorem Float_inf (f : Nat) (w : World) (hf : f < 18446744073709551616) (h1 : Sp.fexp f = 2047) (h2 : Sp.fman f = 0) :
    Calls Tryz.prog 12 #[.float .f64 f] w (FltE f w) := by
  have HX : Hid (Sp.floatT f = if Sp.fneg f then [45, 105, 110, 102] else [43, 105, 110, 102]) := by show _ = _; unfold Sp.floatT; rw [if_pos h1, if_pos h2]
  have HA : Hid (Calls Tryz.prog 23 #[.float .f64 f] w fun e w' => e = .returned (.bool false) ∧ w = w') := by
    have := IsNaN_any f w
    rw [show decide (Sp.fexp f = 2047 ∧ Sp.fman f ≠ 0) = false by simp [h2]] at this
    exact this
  have HB : Hid (Calls Tryz.prog 26 #[.float .f64 f, .int .i64 1] w fun e w' => e = .returned (.bool (!Sp.fneg f)) ∧ w = w') := by
    have := IsInf_p f w hf
    rw [inf_p f hf h1 h2] at this
    exact this
  have HC : Hid (Calls Tryz.prog 26 #[.float .f64 f, .int .i64 (-1)] w fun e w' => e = .returned (.bool (Sp.fneg f)) ∧ w = w') := by
    have := IsInf_m f w hf
    rw [inf_m f hf h1 h2] at this
    exact this
  clear h1 h2 hf
  generalize Sp.fneg f = neg at *
  cases neg with
  | true =>
    go_enter Tryz.func12, Tryz.ntmps12
    go_wp2_with fail
    refine HA.out.mono ?_
    rintro e w' ⟨rfl, rfl⟩
    go_wp2_with fail
    refine HB.out.mono ?_
    rintro e w' ⟨rfl, rfl⟩
    go_wp2_with fail
    refine HC.out.mono ?_
    rintro e w' ⟨rfl, rfl⟩
    go_wp2_with fail
    go_ret
    exact ⟨ret_str (by rw [HX.out]; rfl), Below.refl _ _⟩
  | false =>
    go_enter Tryz.func12, Tryz.ntmps12
    go_wp2_with fail
    refine HA.out.mono ?_
    rintro e w' ⟨rfl, rfl⟩
    go_wp2_with fail
    refine HB.out.mono ?_
    rintro e w' ⟨rfl, rfl⟩
    go_wp2_with fail
    go_ret
    exact ⟨ret_str (by rw [HX.out]; rfl), Below.refl _ _⟩

set_option maxRecDepth 100000 in
set_option maxHeartbeats 1000000 in
theorem Float_fin (f : Nat) (w : World) (hf : f < 18446744073709551616) (h1 : Sp.fexp f ≠ 2047) :
    Calls Tryz.prog 12 #[.float .f64 f] w (FltE f w) := by
  have HA : Hid (Calls Tryz.prog 23 #[.float .f64 f] w fun e w' => e = .returned (.bool false) ∧ w = w') := by
    have := IsNaN_any f w
    rw [show decide (Sp.fexp f = 2047 ∧ Sp.fman f ≠ 0) = false by simp [h1]] at this
    exact this
  have HB : Hid (Calls Tryz.prog 26 #[.float .f64 f, .int .i64 1] w fun e w' => e = .returned (.bool false) ∧ w = w') := by
    have := IsInf_p f w hf
    rw [fin_p f h1] at this
    exact this
  have HC : Hid (Calls Tryz.prog 26 #[.float .f64 f, .int .i64 (-1)] w fun e w' => e = .returned (.bool false) ∧ w = w') := by
    have := IsInf_m f w hf
    rw [fin_m f h1] at this
    exact this
  have HF : Hid (Calls Tryz.prog 27 #[.float .f64 f, .int .u8 120, .int .i64 (-1), .int .i64 64] w fun e w' => e = .returned (.string ⟨(Sp.floatT f).toArray⟩) ∧ Below w.heap.size w w') := FormatFloat_any f w hf h1
  clear h1 hf
  go_enter Tryz.func12, Tryz.ntmps12
  go_wp2_with fail
  refine HA.out.mono ?_
  rintro e w' ⟨rfl, rfl⟩
  go_wp2_with fail
  refine HB.out.mono ?_
  rintro e w' ⟨rfl, rfl⟩
  go_wp2_with fail
  refine HC.out.mono ?_
  rintro e w' ⟨rfl, rfl⟩
  go_wp2_with fail
  refine HF.out.mono ?_
  rintro e w1 ⟨rfl, hb1⟩
  have HB1 : Hid (Below w.heap.size w w1) := hb1
  clear hb1
  go_wp2_with fail
  go_ret
  exact ⟨rfl, HB1.out⟩
end Go.Proofs.YtnndlffidifddaaGreatDoor


/- FormatFloat at 'x', -1, 64. -/
import Derived.Test.YtnndlffidifddaaGreatDoorK28
import Derived.Laws.MakeOwn
namespace Go.Proofs.YtnndlffidifddaaGreatDoor
open Go.RowKit

set_option maxRecDepth 100000 in
set_option maxHeartbeats 2000000 in
theorem iFormatFloat_any (f : Nat) (w : World) (hf : f < 18446744073709551616) (h1 : Sp.fexp f ≠ 2047) :
    Calls Tryz.prog 42 #[.float .f64 f, .int .u8 120, .int .i64 (-1), .int .i64 64] w fun e w' => e = .returned (.string ⟨(Sp.floatT f).toArray⟩) ∧ Below w.heap.size w w' := by
  obtain ⟨i0, hi, hz0, hz1, hz2⟩ := info_parts Tryz.infoB
  have HC : Hid (∀ (a : Option Addr) (cap : Nat) (W : World), Byts W w.heap.size a 0 cap [] → w.heap.size ≤ W.heap.size → Calls Tryz.prog 65 #[.slice a 0 cap, .float .f64 f, .int .u8 120, .int .i64 (-1)] W (AppE w.heap.size [] (Sp.floatT f) W)) := fun a cap W hW hb => ftoa_any f a cap w.heap.size W hW hb hf h1
  obtain ⟨wm, hmk, hown, hgr⟩ := run_make_own (P := Tryz.prog) w w.heap.size 23 5 i0 (.int .u8 0) 1 Tryz.undB hi hz0 hz1 .i64 .i64 24 (by rw [hz2]; omega) (by unfold maxLen; omega) (Nat.le_refl _)
  have hmk2 : (Instr.makeSlice 23 (.int .i64 0) (.int .i64 24)).run Tryz.prog w = .ok (.slice (some ⟨w.heap.size, 0, none⟩) 0 24) wm := hmk
  have HM : Hid (Byts wm w.heap.size (some ⟨w.heap.size, 0, none⟩) 0 24 []) := ⟨rfl, hown⟩
  have HB : Hid (Below w.heap.size w wm) := (Below.refl _ _).grown hgr (Nat.le_refl _) (fun k e => by cases e)
  obtain ⟨RES, HRES⟩ : ∃ R, Hid (Sp.floatT f = R) := ⟨_, show _ = _ from rfl⟩
  rw [HRES.out] at HC ⊢
  clear h1 hf hmk hown hgr
  go_enter Tryz.func42, Tryz.ntmps42
  go_wp2_with fail
  refine (HC.out _ _ _ HM.out HB.out.size).mono ?_
  rintro e w1 ⟨a1, p1, rfl, hn1, hb1⟩
  have HB1 : Hid (Below w.heap.size w w1) := HB.out.trans hb1
  rw [show ([] : List UInt8).length + RES.length = RES.length by simp, List.nil_append] at hn1
  have hcv := hn1.conv (Below.refl _ _)
  clear hn1 hb1
  rw [show ([] : List UInt8).length + RES.length = RES.length by simp]
  generalize RES.length = q at hcv ⊢
  go_wp2_with fail
  go_ret
  exact ⟨rfl, HB1.out⟩

set_option maxRecDepth 100000 in
set_option maxHeartbeats 1000000 in
theorem FormatFloat_any (f : Nat) (w : World) (hf : f < 18446744073709551616) (h1 : Sp.fexp f ≠ 2047) :
    Calls Tryz.prog 27 #[.float .f64 f, .int .u8 120, .int .i64 (-1), .int .i64 64] w fun e w' => e = .returned (.string ⟨(Sp.floatT f).toArray⟩) ∧ Below w.heap.size w w' := by
  have HC : Hid (Calls Tryz.prog 42 #[.float .f64 f, .int .u8 120, .int .i64 (-1), .int .i64 64] w fun e w' => e = .returned (.string ⟨(Sp.floatT f).toArray⟩) ∧ Below w.heap.size w w') := iFormatFloat_any f w hf h1
  clear h1 hf
  go_enter Tryz.func27, Tryz.ntmps27
  go_wp2_with fail
  refine HC.out.mono ?_
  rintro e w1 ⟨rfl, hb1⟩
  have HB1 : Hid (Below w.heap.size w w1) := hb1
  clear hb1
  go_wp2_with fail
  go_ret
  exact ⟨rfl, HB1.out⟩
end Go.Proofs.YtnndlffidifddaaGreatDoor


/- strconv.FormatUint at the base 16, and text.Float of every float. -/
import Derived.Test.YtnndlffidifddaaGreatDoorK28
import Derived.Test.YtnndlffidifddaaGreatDoorK30
namespace Go.Proofs.YtnndlffidifddaaGreatDoor
open Go.RowKit

/-- the place of the table that the base's bits are looked up in holds what it must -/
def Tz (w : World) : Prop := w.cell? ⟨4, 15, none⟩ = some (.int .u8 4)
theorem Tz.on {w w' : World} (h : Tz w) (hw : Below w.heap.size w w') : Tz w' := by
  unfold Tz at h ⊢
  rw [hw.cell (p := ⟨4, 15, none⟩) (World.block_lt_of_cell? _ _ h)]; exact h

set_option maxRecDepth 100000 in
set_option maxHeartbeats 1000000 in
theorem FormatUintI_16 (u : Nat) (w : World) (hu : u < 18446744073709551616) (hu1 : 1152921504606846976 ≤ u) (ht : Tz w) :
    Calls Tryz.prog 40 #[.int .u64 (u : Int), .int .i64 16] w fun e w' => e = .returned (.string ⟨(Sp.hexN u 16).toArray⟩) ∧ Below w.heap.size w w' := by
  have HC : Hid (Calls Tryz.prog 62 #[.slice none 0 0, .int .u64 (u : Int), .int .i64 16, .bool false, .bool false] w fun e w' => e = .returned (.tuple #[.slice none 0 0, .string ⟨(Sp.hexN u 16).toArray⟩]) ∧ Below w.heap.size w w') := formatBits_16 u w hu hu1 ht
  clear hu hu1 ht
  go_enter Tryz.func40, Tryz.ntmps40
  go_wp2_with fail
  refine HC.out.mono ?_
  rintro e w1 ⟨rfl, hb1⟩
  have HB1 : Hid (Below w.heap.size w w1) := hb1
  clear hb1
  go_wp2_with fail
  go_ret
  exact ⟨rfl, HB1.out⟩
set_option maxRecDepth 100000 in
set_option maxHeartbeats 1000000 in
theorem FormatUint_16 (u : Nat) (w : World) (hu : u < 18446744073709551616) (hu1 : 1152921504606846976 ≤ u) (ht : Tz w) :
    Calls Tryz.prog 24 #[.int .u64 (u : Int), .int .i64 16] w fun e w' => e = .returned (.string ⟨(Sp.hexN u 16).toArray⟩) ∧ Below w.heap.size w w' := by
  have HC : Hid (Calls Tryz.prog 40 #[.int .u64 (u : Int), .int .i64 16] w fun e w' => e = .returned (.string ⟨(Sp.hexN u 16).toArray⟩) ∧ Below w.heap.size w w') := FormatUintI_16 u w hu hu1 ht
  clear hu hu1 ht
  go_enter Tryz.func24, Tryz.ntmps24
  go_wp2_with fail
  refine HC.out.mono ?_
  rintro e w1 ⟨rfl, hb1⟩
  have HB1 : Hid (Below w.heap.size w w1) := hb1
  clear hb1
  go_wp2_with fail
  go_ret
  exact ⟨rfl, HB1.out⟩

theorem nan_big (f : Nat) (h1 : Sp.fexp f = 2047) : 1152921504606846976 ≤ f := by unfold Sp.fexp at h1; omega
set_option maxRecDepth 100000 in
set_option maxHeartbeats 1000000 in
theorem Float_nan (f : Nat) (w : World) (hf : f < 18446744073709551616) (h1 : Sp.fexp f = 2047) (h2 : Sp.fman f ≠ 0) (ht : Tz w) :
    Calls Tryz.prog 12 #[.float .f64 f] w (FltE f w) := by
  have HX : Hid (Sp.floatT f = [110, 97, 110, 40] ++ Sp.hexN f 16 ++ [41]) := by show _ = _; unfold Sp.floatT; rw [if_pos h1, if_neg h2]
  have HA : Hid (Calls Tryz.prog 23 #[.float .f64 f] w fun e w' => e = .returned (.bool true) ∧ w = w') := by
    have := IsNaN_any f w
    rw [show decide (Sp.fexp f = 2047 ∧ Sp.fman f ≠ 0) = true by simp [h1, h2]] at this
    exact this
  obtain ⟨I, hI, HI⟩ : ∃ I : ByteArray, I.size = 16 ∧ Hid (I = ⟨(Sp.hexN f 16).toArray⟩) := ⟨_, by show (Sp.hexN f 16).toArray.size = 16; rw [List.size_toArray, Sp.hexN_len], rfl⟩
  have HC : Hid (Calls Tryz.prog 24 #[.int .u64 (f : Int), .int .i64 16] w fun e w' => e = .returned (.string I) ∧ Below w.heap.size w w') := by
    show Calls _ _ _ _ _
    rw [HI.out]; exact FormatUint_16 f w hf (nan_big f h1) ht
  have hbr := fbits_run f w
  clear h1 h2 hf ht
  go_enter Tryz.func12, Tryz.ntmps12
  go_wp2_with fail
  refine HA.out.mono ?_
  rintro e w' ⟨rfl, rfl⟩
  go_wp2_with fail
  refine HC.out.mono ?_
  rintro e w1 ⟨rfl, hb1⟩
  have HB1 : Hid (Below w.heap.size w w1) := hb1
  clear hb1
  go_wp2_with fail
  go_ret
  refine ⟨ret_str ?_, HB1.out⟩
  rw [HX.out, HI.out, show (⟨#[110, 97, 110, 40]⟩ : ByteArray) = ⟨([110, 97, 110, 40] : List UInt8).toArray⟩ from rfl, show (⟨#[41]⟩ : ByteArray) = ⟨([41] : List UInt8).toArray⟩ from rfl, ba_app, ba_app]
theorem Float_any (f : Nat) (w : World) (hf : f < 18446744073709551616) (ht : Tz w) : Calls Tryz.prog 12 #[.float .f64 f] w (FltE f w) := by
  by_cases h1 : Sp.fexp f = 2047
  · by_cases h2 : Sp.fman f = 0
    · exact Float_inf f w hf h1 h2
    · exact Float_nan f w hf h1 h2 ht
  · exact Float_fin f w hf h1
end Go.Proofs.YtnndlffidifddaaGreatDoor


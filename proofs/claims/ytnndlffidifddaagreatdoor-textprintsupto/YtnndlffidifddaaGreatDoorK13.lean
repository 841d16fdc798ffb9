/- tenonref02.Float. -/
import Derived.Test.YtnndlffidifddaaGreatDoorK11
import Derived.Test.YtnndlffidifddaaGreatDoorK12
namespace Go.Proofs.YtnndlffidifddaaGreatDoor
open Go.RowKit

theorem fbits_run (f : Nat) (w : World) : (callFunc 25 #[.float .f64 f]).run Tryz.prog w = .ok (.value (.int .u64 f)) w := by
  rw [run_callFunc_extern Tryz.func25 (by kernel_rfl) (by kernel_rfl) (by kernel_rfl) (e := Extern.MathFloatBits.float64bits) (by kernel_rfl)]
  rfl

/-- a float's parts, as the walk meets them -/
theorem Sp.fparts (f : Nat) (hf : f < 18446744073709551616) : (f : Int) / 4503599627370496 % 2048 = (Sp.fexp f : Int) ∧ (f : Int) % 4503599627370496 = (Sp.fman f : Int) ∧ (f : Int) / 9223372036854775808 = (if Sp.fneg f then 1 else 0 : Int) := by
  refine ⟨by unfold Sp.fexp; omega, by unfold Sp.fman; omega, ?_⟩
  unfold Sp.fneg
  by_cases c : f / 2 ^ 63 = 1
  · simp only [c, decide_true, if_true]; omega
  · simp only [c, decide_false, Bool.false_eq_true, if_false]; omega

def FltE (f : Nat) (w : World) (e : Ending) (w' : World) : Prop := e = .returned (.string ⟨(Sp.floatT f).toArray⟩) ∧ Below w.heap.size w w'

set_option maxRecDepth 100000 in
set_option maxHeartbeats 2000000 in
theorem rFloat_nan (f : Nat) (w : World) (hf : f < 18446744073709551616) (h1 : Sp.fexp f = 2047) (h2 : Sp.fman f ≠ 0) :
    Calls Tryz.prog 13 #[.float .f64 f] w (FltE f w) := by
  obtain ⟨hE, hM, hG⟩ := Sp.fparts f hf
  have hb := fbits_run f
  have HX : Hid (Sp.floatT f = [110, 97, 110, 40] ++ Sp.hexN f 16 ++ [41]) := by show _ = _; unfold Sp.floatT; rw [if_pos h1, if_neg h2]
  have HL : Hid ((Sp.hexN f 16).length = 16) := Sp.hexN_len _ _
  have HD := digits_any f 16 w hf (by omega)
  obtain ⟨A, hA, HA⟩ : ∃ A : ByteArray, A.size = 16 ∧ Hid (A = ⟨(Sp.hexN f 16).toArray⟩) := ⟨_, by show (Sp.hexN f 16).toArray.size = 16; rw [List.size_toArray]; exact HL.out, rfl⟩
  rw [← HA.out] at HD
  have HD' : Hid (Calls Tryz.prog 28 #[.int .u64 (f : Int), .int .i64 16] w fun e w' => e = .returned (.string A) ∧ Below w.heap.size w w') := HD
  clear HD HL
  rw [h1] at hE
  have hm0 : (0 : Int) < (Sp.fman f : Int) := by omega
  clear h1 h2 hG
  go_enter Tryz.func13, Tryz.ntmps13
  go_wp2_with fail
  refine HD'.out.mono ?_
  rintro e w1 ⟨rfl, hb1⟩
  have HB1 : Hid (Below w.heap.size w w1) := hb1
  clear hb1
  go_wp2_with fail
  go_ret
  refine ⟨ret_str ?_, HB1.out⟩
  rw [HX.out, HA.out, ← ba_app, ← ba_app]

set_option maxRecDepth 100000 in
set_option maxHeartbeats 2000000 in
theorem rFloat_inf (f : Nat) (w : World) (hf : f < 18446744073709551616) (h1 : Sp.fexp f = 2047) (h2 : Sp.fman f = 0) :
    Calls Tryz.prog 13 #[.float .f64 f] w (FltE f w) := by
  obtain ⟨hE, hM, hG⟩ := Sp.fparts f hf
  have hb := fbits_run f
  have HX : Hid (Sp.floatT f = if Sp.fneg f then [45, 105, 110, 102] else [43, 105, 110, 102]) := by show _ = _; unfold Sp.floatT; rw [if_pos h1, if_pos h2]
  rw [h1] at hE
  rw [h2] at hM
  clear h1 h2
  cases hn : Sp.fneg f with
  | true =>
    rw [hn] at hG
    have hG1 : (f : Int) / 9223372036854775808 = 1 := hG
    clear hG
    go_enter Tryz.func13, Tryz.ntmps13
    go_wp2_with fail
    go_ret
    exact ⟨ret_str (by rw [HX.out, hn]; rfl), Below.refl _ _⟩
  | false =>
    rw [hn] at hG
    have hG1 : (f : Int) / 9223372036854775808 = 0 := hG
    clear hG
    go_enter Tryz.func13, Tryz.ntmps13
    go_wp2_with fail
    go_ret
    exact ⟨ret_str (by rw [HX.out, hn]; rfl), Below.refl _ _⟩

set_option maxRecDepth 100000 in
set_option maxHeartbeats 2000000 in
theorem rFloat_zero (f : Nat) (w : World) (hf : f < 18446744073709551616) (h1 : Sp.fexp f = 0) (h2 : Sp.fman f = 0) :
    Calls Tryz.prog 13 #[.float .f64 f] w (FltE f w) := by
  obtain ⟨hE, hM, hG⟩ := Sp.fparts f hf
  have hb := fbits_run f
  have HX : Hid (Sp.floatT f = Sp.signT f ++ [48, 120, 48, 112, 43, 48, 48]) := by show _ = _; unfold Sp.floatT; rw [if_neg (by omega), if_pos h1, if_pos h2]
  rw [h1] at hE
  rw [h2] at hM
  clear h1 h2
  cases hn : Sp.fneg f with
  | true =>
    rw [hn] at hG
    have hG1 : (f : Int) / 9223372036854775808 = 1 := hG
    clear hG
    go_enter Tryz.func13, Tryz.ntmps13
    go_wp2_with fail
    go_ret
    exact ⟨ret_str (by rw [HX.out, Sp.signT, hn]; rfl), Below.refl _ _⟩
  | false =>
    rw [hn] at hG
    have hG1 : (f : Int) / 9223372036854775808 = 0 := hG
    clear hG
    go_enter Tryz.func13, Tryz.ntmps13
    go_wp2_with fail
    go_ret
    exact ⟨ret_str (by rw [HX.out, Sp.signT, hn]; rfl), Below.refl _ _⟩
end Go.Proofs.YtnndlffidifddaaGreatDoor

/- tenonref02.Float: of floats whose fraction is nought. -/
namespace Go.Proofs.YtnndlffidifddaaGreatDoor
open Go.RowKit

set_option maxRecDepth 100000 in
set_option maxHeartbeats 2000000 in
theorem rFloat_intp (f : Nat) (w : World) (hf : f < 18446744073709551616) (h1 : Sp.fexp f ≠ 2047) (h2 : Sp.fexp f ≠ 0) (h3 : Sp.fman f = 0) (hn : Sp.fneg f = false) :
    Calls Tryz.prog 13 #[.float .f64 f] w (FltE f w) := by
  obtain ⟨hE, hM, hG⟩ := Sp.fparts f hf
  have hb := fbits_run f
  have HF : Hid (Sp.fracT (Sp.fman f) = []) := by show _ = _; rw [h3]; rfl
  rw [h3] at hM
  clear h3
  have HX : Hid (Sp.floatT f = Sp.signT f ++ [48, 120, 49] ++ Sp.fracT (Sp.fman f) ++ [112] ++ Sp.expT ((Sp.fexp f : Int) - 1023)) := by show _ = _; unfold Sp.floatT; rw [if_neg h1, if_neg h2]
  have hlt := Sp.fexp_lt f
  have d1 : ((Sp.fexp f : Int) == 2047) = false := by simp; omega
  have d2 : ((Sp.fexp f : Int) == 0) = false := by simp; omega
  rw [hn] at hG
  clear h1 h2
  generalize Sp.fexp f = n at *
  obtain ⟨u, HU⟩ : ∃ u : Nat, Hid (((n : Int) - 1023).natAbs = u) := ⟨_, rfl⟩
  obtain ⟨A, hA, HA⟩ : ∃ A : ByteArray, A.size ≤ 20 ∧ Hid (A = ⟨(Lib.decDigits u).toArray⟩) := ⟨_, by
    show (Lib.decDigits u).toArray.size ≤ 20
    rw [List.size_toArray, Lib.decDigits_length]; exact Lib.nDigits_le20 _ (by have := HU.out; omega), rfl⟩
  have HDec : Hid (∀ (z : Int) (W : World), z = (u : Int) → Calls Tryz.prog 29 #[.int .u64 z] W fun e w' => e = .returned (.string A) ∧ Below W.heap.size W w') := fun z W hz => by rw [HA.out, hz]; exact Dec_any (u + 1) u W (by omega) (by have := HU.out; omega)
  have hG1 : (f : Int) / 9223372036854775808 = 0 := hG
  have HS : Hid (Sp.signT f = []) := by show _ = _; rw [Sp.signT, hn]; rfl
  clear hG hn
  by_cases c1 : ((n : Int) - 1023) < 0
  · by_cases c2 : -((n : Int) - 1023) < 10
    · have HXT : Hid (Sp.expT ((n : Int) - 1023) = 45 :: 48 :: Lib.decDigits u) := by show _ = _; unfold Sp.expT; rw [if_pos c1, if_pos (by omega), HU.out]; rfl
      have hu := HU.out
      go_enter Tryz.func13, Tryz.ntmps13
      go_wp2_with fail
      refine (HDec.out _ _ (by omega)).mono ?_
      rintro e w3 ⟨rfl, hb3⟩
      have HB3 : Hid (Below w.heap.size w w3) := hb3
      clear hb3
      go_wp2_with fail
      go_ret
      refine ⟨ret_str ?_, HB3.out⟩
      rw [HX.out, HXT.out, HS.out, HF.out, HA.out]
      apply ByteArray.ext
      simp
    · have HXT : Hid (Sp.expT ((n : Int) - 1023) = 45 :: Lib.decDigits u) := by show _ = _; unfold Sp.expT; rw [if_pos c1, if_neg (by omega), HU.out]; rfl
      have hu := HU.out
      go_enter Tryz.func13, Tryz.ntmps13
      go_wp2_with fail
      refine (HDec.out _ _ (by omega)).mono ?_
      rintro e w3 ⟨rfl, hb3⟩
      have HB3 : Hid (Below w.heap.size w w3) := hb3
      clear hb3
      go_wp2_with fail
      go_ret
      refine ⟨ret_str ?_, HB3.out⟩
      rw [HX.out, HXT.out, HS.out, HF.out, HA.out]
      apply ByteArray.ext
      simp
  · by_cases c2 : ((n : Int) - 1023) < 10
    · have HXT : Hid (Sp.expT ((n : Int) - 1023) = 43 :: 48 :: Lib.decDigits u) := by show _ = _; unfold Sp.expT; rw [if_neg c1, if_pos (by omega), HU.out]; rfl
      have hu := HU.out
      go_enter Tryz.func13, Tryz.ntmps13
      go_wp2_with fail
      refine (HDec.out _ _ (by omega)).mono ?_
      rintro e w3 ⟨rfl, hb3⟩
      have HB3 : Hid (Below w.heap.size w w3) := hb3
      clear hb3
      go_wp2_with fail
      go_ret
      refine ⟨ret_str ?_, HB3.out⟩
      rw [HX.out, HXT.out, HS.out, HF.out, HA.out]
      apply ByteArray.ext
      simp
    · have HXT : Hid (Sp.expT ((n : Int) - 1023) = 43 :: Lib.decDigits u) := by show _ = _; unfold Sp.expT; rw [if_neg c1, if_neg (by omega), HU.out]; rfl
      have hu := HU.out
      go_enter Tryz.func13, Tryz.ntmps13
      go_wp2_with fail
      refine (HDec.out _ _ (by omega)).mono ?_
      rintro e w3 ⟨rfl, hb3⟩
      have HB3 : Hid (Below w.heap.size w w3) := hb3
      clear hb3
      go_wp2_with fail
      go_ret
      refine ⟨ret_str ?_, HB3.out⟩
      rw [HX.out, HXT.out, HS.out, HF.out, HA.out]
      apply ByteArray.ext
      simp


set_option maxRecDepth 100000 in
set_option maxHeartbeats 2000000 in
theorem rFloat_intm (f : Nat) (w : World) (hf : f < 18446744073709551616) (h1 : Sp.fexp f ≠ 2047) (h2 : Sp.fexp f ≠ 0) (h3 : Sp.fman f = 0) (hn : Sp.fneg f = true) :
    Calls Tryz.prog 13 #[.float .f64 f] w (FltE f w) := by
  obtain ⟨hE, hM, hG⟩ := Sp.fparts f hf
  have hb := fbits_run f
  have HF : Hid (Sp.fracT (Sp.fman f) = []) := by show _ = _; rw [h3]; rfl
  rw [h3] at hM
  clear h3
  have HX : Hid (Sp.floatT f = Sp.signT f ++ [48, 120, 49] ++ Sp.fracT (Sp.fman f) ++ [112] ++ Sp.expT ((Sp.fexp f : Int) - 1023)) := by show _ = _; unfold Sp.floatT; rw [if_neg h1, if_neg h2]
  have hlt := Sp.fexp_lt f
  have d1 : ((Sp.fexp f : Int) == 2047) = false := by simp; omega
  have d2 : ((Sp.fexp f : Int) == 0) = false := by simp; omega
  rw [hn] at hG
  clear h1 h2
  generalize Sp.fexp f = n at *
  obtain ⟨u, HU⟩ : ∃ u : Nat, Hid (((n : Int) - 1023).natAbs = u) := ⟨_, rfl⟩
  obtain ⟨A, hA, HA⟩ : ∃ A : ByteArray, A.size ≤ 20 ∧ Hid (A = ⟨(Lib.decDigits u).toArray⟩) := ⟨_, by
    show (Lib.decDigits u).toArray.size ≤ 20
    rw [List.size_toArray, Lib.decDigits_length]; exact Lib.nDigits_le20 _ (by have := HU.out; omega), rfl⟩
  have HDec : Hid (∀ (z : Int) (W : World), z = (u : Int) → Calls Tryz.prog 29 #[.int .u64 z] W fun e w' => e = .returned (.string A) ∧ Below W.heap.size W w') := fun z W hz => by rw [HA.out, hz]; exact Dec_any (u + 1) u W (by omega) (by have := HU.out; omega)
  have hG1 : (f : Int) / 9223372036854775808 = 1 := hG
  have HS : Hid (Sp.signT f = [45]) := by show _ = _; rw [Sp.signT, hn]; rfl
  clear hG hn
  by_cases c1 : ((n : Int) - 1023) < 0
  · by_cases c2 : -((n : Int) - 1023) < 10
    · have HXT : Hid (Sp.expT ((n : Int) - 1023) = 45 :: 48 :: Lib.decDigits u) := by show _ = _; unfold Sp.expT; rw [if_pos c1, if_pos (by omega), HU.out]; rfl
      have hu := HU.out
      go_enter Tryz.func13, Tryz.ntmps13
      go_wp2_with fail
      refine (HDec.out _ _ (by omega)).mono ?_
      rintro e w3 ⟨rfl, hb3⟩
      have HB3 : Hid (Below w.heap.size w w3) := hb3
      clear hb3
      go_wp2_with fail
      go_ret
      refine ⟨ret_str ?_, HB3.out⟩
      rw [HX.out, HXT.out, HS.out, HF.out, HA.out]
      apply ByteArray.ext
      simp
    · have HXT : Hid (Sp.expT ((n : Int) - 1023) = 45 :: Lib.decDigits u) := by show _ = _; unfold Sp.expT; rw [if_pos c1, if_neg (by omega), HU.out]; rfl
      have hu := HU.out
      go_enter Tryz.func13, Tryz.ntmps13
      go_wp2_with fail
      refine (HDec.out _ _ (by omega)).mono ?_
      rintro e w3 ⟨rfl, hb3⟩
      have HB3 : Hid (Below w.heap.size w w3) := hb3
      clear hb3
      go_wp2_with fail
      go_ret
      refine ⟨ret_str ?_, HB3.out⟩
      rw [HX.out, HXT.out, HS.out, HF.out, HA.out]
      apply ByteArray.ext
      simp
  · by_cases c2 : ((n : Int) - 1023) < 10
    · have HXT : Hid (Sp.expT ((n : Int) - 1023) = 43 :: 48 :: Lib.decDigits u) := by show _ = _; unfold Sp.expT; rw [if_neg c1, if_pos (by omega), HU.out]; rfl
      have hu := HU.out
      go_enter Tryz.func13, Tryz.ntmps13
      go_wp2_with fail
      refine (HDec.out _ _ (by omega)).mono ?_
      rintro e w3 ⟨rfl, hb3⟩
      have HB3 : Hid (Below w.heap.size w w3) := hb3
      clear hb3
      go_wp2_with fail
      go_ret
      refine ⟨ret_str ?_, HB3.out⟩
      rw [HX.out, HXT.out, HS.out, HF.out, HA.out]
      apply ByteArray.ext
      simp
    · have HXT : Hid (Sp.expT ((n : Int) - 1023) = 43 :: Lib.decDigits u) := by show _ = _; unfold Sp.expT; rw [if_neg c1, if_neg (by omega), HU.out]; rfl
      have hu := HU.out
      go_enter Tryz.func13, Tryz.ntmps13
      go_wp2_with fail
      refine (HDec.out _ _ (by omega)).mono ?_
      rintro e w3 ⟨rfl, hb3⟩
      have HB3 : Hid (Below w.heap.size w w3) := hb3
      clear hb3
      go_wp2_with fail
      go_ret
      refine ⟨ret_str ?_, HB3.out⟩
      rw [HX.out, HXT.out, HS.out, HF.out, HA.out]
      apply ByteArray.ext
      simp

end Go.Proofs.YtnndlffidifddaaGreatDoor

/- math.IsNaN. -/
namespace Go.Proofs.YtnndlffidifddaaGreatDoor
open Go.RowKit

theorem nan_iff (f : Nat) : (FloatKind.f64.format.read f).isNaN = decide (Sp.fexp f = 2047 ∧ Sp.fman f ≠ 0) := by
  have e : FloatKind.f64.format = Ieee.double := rfl
  have e1 : Ieee.double.signWeight = 9223372036854775808 := by decide
  have e2 : Ieee.double.binade = 4503599627370496 := by decide
  have e3 : Ieee.double.infRung = 9218868437227405312 := by decide
  rw [e]
  unfold Ieee.Format.read Sp.fexp Sp.fman
  simp only [e1, e2, e3]
  by_cases c1 : f % 9223372036854775808 < 4503599627370496
  · rw [if_pos c1]
    simp [Ieee.Datum.isNaN]; omega
  · rw [if_neg c1]
    by_cases c2 : f % 9223372036854775808 < 9218868437227405312
    · rw [if_pos c2]
      simp [Ieee.Datum.isNaN]; omega
    · rw [if_neg c2]
      by_cases c3 : f % 9223372036854775808 = 9218868437227405312
      · rw [if_pos c3]
        simp [Ieee.Datum.isNaN]; omega
      · rw [if_neg c3]
        simp [Ieee.Datum.isNaN]; omega
theorem order_self (d : Ieee.Datum) : (d.order d != some Ordering.eq) = d.isNaN := by
  cases d with
  | number s m i => simp [Ieee.Datum.order, Ieee.Datum.isNaN]
  | infinity s => cases s <;> rfl
  | nan s t => rfl

set_option maxRecDepth 100000 in
set_option maxHeartbeats 1000000 in
theorem IsNaN_any (f : Nat) (w : World) :
    Calls Tryz.prog 23 #[.float .f64 f] w fun e w' => e = .returned (.bool (decide (Sp.fexp f = 2047 ∧ Sp.fman f ≠ 0))) ∧ w = w' := by
  have ho : (FloatKind.f64.format.order f f != some Ordering.eq) = decide (Sp.fexp f = 2047 ∧ Sp.fman f ≠ 0) := by
    rw [← nan_iff]; exact order_self _
  generalize decide (Sp.fexp f = 2047 ∧ Sp.fman f ≠ 0) = b at ho ⊢
  go_enter Tryz.func23, Tryz.ntmps23
  go_wp2_with fail
  go_ret
  exact ⟨rfl, rfl⟩
end Go.Proofs.YtnndlffidifddaaGreatDoor

/- math.IsInf. -/
namespace Go.Proofs.YtnndlffidifddaaGreatDoor
open Go.RowKit

theorem cmp_gt (a b : Int) (h : a ≤ b) : (some (compare a b) == some Ordering.gt) = false := by
  have : compare a b ≠ Ordering.gt := by
    show compareOfLessAndEq a b ≠ Ordering.gt
    unfold compareOfLessAndEq
    by_cases c1 : a < b
    · rw [if_pos c1]; decide
    · rw [if_neg c1, if_pos (by omega)]; decide
  simpa using this
theorem num_le (s : Bool) (m M : Nat) (i I : Int) (h : m ≤ M) (hi : i ≤ I) : Ieee.signed s m (i - min i I).toNat ≤ Ieee.signed false M (I - min i I).toNat := by
  have e : min i I = i := by omega
  rw [e, show (i - i).toNat = 0 by omega]
  unfold Ieee.signed
  have hM : M ≤ M <<< (I - i).toNat := by rw [Nat.shiftLeft_eq]; exact Nat.le_mul_of_pos_right _ (Nat.two_pow_pos _)
  have h0 : m <<< 0 = m := rfl
  cases s
  · simp only [h0, if_neg Bool.false_ne_true]; omega
  · simp only [h0, if_true, if_neg Bool.false_ne_true]; omega
theorem gt_max (f : Nat) (hf : f < 18446744073709551616) : (FloatKind.f64.format.order f 9218868437227405311 == some Ordering.gt) = decide (f = 9218868437227405312) := by
  have e : FloatKind.f64.format = Ieee.double := rfl
  have e1 : Ieee.double.signWeight = 9223372036854775808 := by decide
  have e2 : Ieee.double.binade = 4503599627370496 := by decide
  have e3 : Ieee.double.infRung = 9218868437227405312 := by decide
  have hM : Ieee.double.read 9218868437227405311 = .number false 9007199254740991 (Ieee.double.leastPlace + 2045) := by decide
  rw [e]
  unfold Ieee.Format.order
  rw [hM]
  clear hM
  obtain ⟨I, hI⟩ : ∃ I : Int, Ieee.double.leastPlace + 2045 = I := ⟨_, rfl⟩
  rw [hI]
  unfold Ieee.Format.read
  simp only [e1, e2, e3]
  by_cases c1 : f % 9223372036854775808 < 4503599627370496
  · rw [if_pos c1, Ieee.Datum.order, cmp_gt _ _ (num_le _ _ _ _ _ (by omega) (by omega))]
    symm; simp; omega
  · rw [if_neg c1]
    by_cases c2 : f % 9223372036854775808 < 9218868437227405312
    · rw [if_pos c2, Ieee.Datum.order, cmp_gt _ _ (num_le _ _ _ _ _ (by omega) (by omega))]
      symm; simp; omega
    · rw [if_neg c2]
      by_cases c3 : f % 9223372036854775808 = 9218868437227405312
      · rw [if_pos c3]
        by_cases c4 : f = 9218868437227405312
        · subst c4; rfl
        · have hs : (f / 9223372036854775808 % 2 == 1) = true := by simp; omega
          rw [hs]
          simp [Ieee.Datum.order, c4]
      · rw [if_neg c3]
        have c4 : f ≠ 9218868437227405312 := by omega
        simp [Ieee.Datum.order, c4]

set_option maxRecDepth 100000 in
set_option maxHeartbeats 1000000 in
theorem IsInf_p (f : Nat) (w : World) (hf : f < 18446744073709551616) :
    Calls Tryz.prog 26 #[.float .f64 f, .int .i64 1] w fun e w' => e = .returned (.bool (decide (f = 9218868437227405312))) ∧ w = w' := by
  have ho := gt_max f hf
  generalize decide (f = 9218868437227405312) = b at ho ⊢
  go_enter Tryz.func26, Tryz.ntmps26
  go_wp2_with fail
  go_ret
  exact ⟨rfl, rfl⟩
set_option maxRecDepth 100000 in
set_option maxHeartbeats 1000000 in
theorem IsInf_m (f : Nat) (w : World) (hf : f < 18446744073709551616) :
    Calls Tryz.prog 26 #[.float .f64 f, .int .i64 (-1)] w fun e w' => e = .returned (.bool (decide (f = 18442240474082181120))) ∧ w = w' := by
  obtain ⟨g, hg⟩ : ∃ g, f ^^^ 9223372036854775808 = g := ⟨_, rfl⟩
  have hneg : ∀ W, (Op.unary .neg (.float .f64 f)).run Tryz.prog W = .ok (.float .f64 g) W := fun W => by rw [← hg]; rfl
  have hgl : g < 18446744073709551616 := by rw [← hg]; exact Nat.xor_lt_two_pow (n := 64) hf (by decide)
  have ho := gt_max g hgl
  have hd : decide (g = 9218868437227405312) = decide (f = 18442240474082181120) := by
    have hff : f = g ^^^ 9223372036854775808 := by rw [← hg, Nat.xor_assoc, Nat.xor_self, Nat.xor_zero]
    by_cases c : g = 9218868437227405312
    · have : f = 18442240474082181120 := by rw [hff, c]; rfl
      simp [c, this]
    · have : f ≠ 18442240474082181120 := by intro e; apply c; rw [← hg, e]; rfl
      simp [c, this]
  rw [hd] at ho
  clear hg hgl hd
  generalize decide (f = 18442240474082181120) = b at ho ⊢
  go_enter Tryz.func26, Tryz.ntmps26
  go_wp2_with fail
  go_ret
  exact ⟨rfl, rfl⟩
end Go.Proofs.YtnndlffidifddaaGreatDoor


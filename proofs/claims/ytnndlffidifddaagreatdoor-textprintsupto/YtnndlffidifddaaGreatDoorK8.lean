/- tenonref02.digits. -/
import Derived.Test.YtnndlffidifddaaGreatDoorK7
import Derived.Laws.ShiftsVar
import Derived.Lib.ItoaLen
namespace Go.Proofs.YtnndlffidifddaaGreatDoor
open Go.RowKit

theorem Sp.hexN_takeC {n c j : Nat} (hj : j < c) : (Sp.hexN n c).take (j + 1) = (Sp.hexN n c).take j ++ [Sp.hexd (n / 16 ^ (c - 1 - j) % 16)] := by
  have hjl : j < (Sp.hexN n c).length := by rw [Sp.hexN_len]; exact hj
  rw [List.take_succ_eq_append_getElem hjl]
  have hat := Sp.hexN_at n c j hj
  rw [List.getElem?_eq_getElem hjl] at hat
  injection hat with hat
  rw [hat]

set_option maxRecDepth 100000 in
set_option maxHeartbeats 2000000 in
theorem digits_any (n c : Nat) (w : World) (_hn : n < 18446744073709551616) (hc : c ≤ 16) :
    Calls Tryz.prog 28 #[.int .u64 (n : Int), .int .i64 (c : Int)] w fun e w' => e = .returned (.string ⟨(Sp.hexN n c).toArray⟩) ∧ Below w.heap.size w w' := by
  obtain ⟨i0, hi, hz0, hz1, hz2⟩ := info_parts Tryz.infoB
  go_enter Tryz.func28, Tryz.ntmps28
  go_wp2_with fail
  go_loopw [5, 6] (fun u i wr => ∃ (j : Nat) (a' : Option Addr) (p' : Nat), j ≤ c ∧ i = .int .i64 ((c : Int) - 1 - j) ∧ u = .slice a' j p' ∧ Hid (Byts wr w.heap.size a' j p' ((Sp.hexN n c).take j)) ∧ Hid (Below w.heap.size w wr)) (fun _ i _ => (intOf i + 1).toNat)
  case atStart => exact ⟨0, none, 0, by omega, by simp, rfl, ⟨by simp, rfl, .inl ⟨rfl, rfl⟩⟩, Below.refl _ _⟩
  case round =>
    obtain ⟨j, a', p', hj, rfl, rfl, HN, HB⟩ := hrel
    by_cases hlt : j < c
    · have HX : Hid ((Sp.hexN n c).take (j + 1) = (Sp.hexN n c).take j ++ [Sp.hexd (n / 16 ^ (c - 1 - j) % 16)]) := Sp.hexN_takeC hlt
      obtain ⟨d, HD⟩ : ∃ d : Nat, Hid (c = j + 1 + d) := ⟨c - j - 1, by show _ = _; omega⟩
      have hd16 : d ≤ 15 := by have := HD.out; omega
      have e1 : (c : Int) - 1 - (j : Int) = (d : Int) := by have := HD.out; omega
      simp only [e1]
      have hx : ∀ W, (Instr.index 9 (.string ⟨#[48, 49, 50, 51, 52, 53, 54, 55, 56, 57, 97, 98, 99, 100, 101, 102]⟩) (.int .u64 (Int.tmod ((n : Int) / 2 ^ (4 * d)) 16))).run Tryz.prog W = .ok (.int .u8 ((Sp.hexd (n / 16 ^ (c - 1 - j) % 16)).toNat : Int)) W := by
        refine idx_hex .u64 _ _ ?_ (Nat.mod_lt _ (by decide))
        rw [show c - 1 - j = d by have := HD.out; omega, show (16 : Nat) = 2 ^ 4 by decide, ← Nat.pow_mul]
        generalize 4 * d = q
        have e2 : ((n : Int) / 2 ^ q) = ((n / 2 ^ q : Nat) : Int) := by push_cast; rfl
        rw [e2, Int.tmod_eq_emod_of_nonneg (Int.natCast_nonneg _)]
        push_cast; rfl
      generalize Sp.hexd (n / 16 ^ (c - 1 - j) % 16) = v at hx HX
      go_wp2_with (at_builtin; refine wpList_app _ rfl _ _ 23 rfl w.heap.size 5 i0 (.int .u8 0) 1 1 Tryz.undB hi hz0 hz1 hz2 rfl (by decide) _ j (Sp.u8c ((Sp.hexN n c).take j)) rfl (HN.out.2.alloc _) ⟨wr.heap.size, 0, none⟩ 1 1 (Sp.u8c [v]) rfl rfl (bytes_new wr [v] rfl rfl) (u8c_one _) (by decide) (by unfold maxLen; omega) (by omega) (by have := HB.out.size; simp; omega) ?_; intro g5 p5 w5 hown hgrow hor; have HB5 : Hid (Below w.heap.size w w5) := (HB.out.alloc HB.out.size _).grown hgrow (by have := HB.out.size; simp; omega) (fun q hq => own_ge HN.out.2 hq); have HN5 : Hid (Byts w5 w.heap.size (some ⟨g5, 0, none⟩) (j + 1) p5 ((Sp.hexN n c).take j ++ [v])) := ⟨by rw [List.length_append, ← HN.out.1]; rfl, by rw [u8c_app]; exact hown⟩; clear hown hgrow hor)
      go_roundw
      case rel => exact ⟨j + 1, _, p5, by omega, (by congr 1; have := HD.out; omega), rfl, (by show Byts _ _ _ _ _ _; rw [HX.out]; exact HN5.out), HB5⟩
      case measure => simp [intOf]
    · obtain rfl : j = c := by omega
      have e1 : (j : Int) - 1 - (j : Int) = -1 := by omega
      simp only [e1]
      have HE : Hid ((Sp.hexN n j).take j = Sp.hexN n j) := by show _ = _; rw [List.take_of_length_le (by rw [Sp.hexN_len]; omega)]
      have hcv := HN.out.conv (Below.refl _ _)
      rw [HE.out] at hcv
      go_wp2_with fail
      go_ret
      exact ⟨rfl, HB.out⟩
end Go.Proofs.YtnndlffidifddaaGreatDoor

/- tenonref02.Dec and Int, of every number. -/
namespace Go.Proofs.YtnndlffidifddaaGreatDoor
open Go.RowKit

set_option maxRecDepth 100000 in
set_option maxHeartbeats 1000000 in
theorem Dec_any : ∀ (n u : Nat) (w : World), u < n → u < 18446744073709551616 →
    Calls Tryz.prog 29 #[.int .u64 (u : Int)] w fun e w' => e = .returned (.string ⟨(Lib.decDigits u).toArray⟩) ∧ Below w.heap.size w w'
  | 0, u, w, h, _ => by omega
  | n + 1, u, w, h, h64 => by
    by_cases h10 : u < 10
    · obtain ⟨c, HC, hc⟩ : ∃ c : UInt8, Hid (Lib.decDigits u = [c]) ∧ (c.toNat : Int) = 48 + (u : Int) := ⟨UInt8.ofNat (48 + u), Lib.decDigits_one h10, by
        have : (UInt8.ofNat (48 + u)).toNat = (48 + u) % 256 := rfl
        rw [this]; omega⟩
      have hcv : (convert 23 9 (.slice (some ⟨w.heap.size, 0, none⟩) 1 1)).run Tryz.prog (w.alloc (.cells #[.int .u8 (48 + (u : Int))] 5)) = .ok (.string ⟨#[c]⟩) (w.alloc (.cells #[.int .u8 (48 + (u : Int))] 5)) := by
        refine conv_row [c] w.heap.size 0 1 _ (fun j v hj => ?_)
        match j, hj with
        | 0, hj =>
          simp at hj
          subst hj
          rw [hc]
          simp
      clear hc
      go_enter Tryz.func29, Tryz.ntmps29
      go_wp2_with fail
      go_ret
      exact ⟨by rw [HC.out]; rfl, (Below.refl _ _).alloc (Nat.le_refl _) _⟩
    · obtain ⟨A, hA, HA⟩ : ∃ A : ByteArray, A.size ≤ 20 ∧ Hid (A = ⟨(Lib.decDigits (u / 10)).toArray⟩) := ⟨_, by
        show (Lib.decDigits (u / 10)).toArray.size ≤ 20
        rw [List.size_toArray, Lib.decDigits_length]; exact Lib.nDigits_le20 _ (by omega), rfl⟩
      obtain ⟨B, hB, HB⟩ : ∃ B : ByteArray, B.size ≤ 20 ∧ Hid (B = ⟨(Lib.decDigits (u % 10)).toArray⟩) := ⟨_, by
        show (Lib.decDigits (u % 10)).toArray.size ≤ 20
        rw [List.size_toArray, Lib.decDigits_length]; exact Lib.nDigits_le20 _ (by omega), rfl⟩
      have HCA : Hid (∀ W, Calls Tryz.prog 29 #[.int .u64 ((u : Int) / 10)] W fun e w' => e = .returned (.string A) ∧ Below W.heap.size W w') := fun W => by rw [HA.out]; exact Dec_any n (u / 10) W (by omega) (by omega)
      have HCB : Hid (∀ W, Calls Tryz.prog 29 #[.int .u64 ((u : Int) % 10)] W fun e w' => e = .returned (.string B) ∧ Below W.heap.size W w') := fun W => by rw [HB.out]; exact Dec_any n (u % 10) W (by omega) (by omega)
      have HD : Hid (A ++ B = ⟨(Lib.decDigits u).toArray⟩) := by
        show _ = _
        rw [HA.out, HB.out, ba_app]
        conv => rhs; rw [Lib.decDigits, dif_neg h10]
        rw [Lib.decDigits_one (i := u % 10) (by omega)]
      go_enter Tryz.func29, Tryz.ntmps29
      go_wp2_with fail
      refine (HCA.out _).mono ?_
      rintro e w1 ⟨rfl, hb1⟩
      have HB1 : Hid (Below w.heap.size w w1) := hb1
      clear hb1
      go_wp2_with fail
      refine (HCB.out _).mono ?_
      rintro e w2 ⟨rfl, hb2⟩
      have HB2 : Hid (Below w.heap.size w w2) := below_to HB1.out hb2
      clear hb2
      go_wp2_with fail
      go_ret
      exact ⟨ret_str HD.out, HB2.out⟩


set_option maxRecDepth 100000 in
set_option maxHeartbeats 1000000 in
theorem IntR_any (n : Int) (w : World) (h0 : -9223372036854775808 ≤ n) (h1 : n ≤ 9223372036854775807) :
    Calls Tryz.prog 55 #[.int .i64 n] w fun e w' => e = .returned (.string ⟨(Lib.itoa n).toArray⟩) ∧ Below w.heap.size w w' := by
  obtain ⟨u, hu, HU⟩ : ∃ u : Nat, u < 18446744073709551616 ∧ Hid (u = n.natAbs) := ⟨n.natAbs, by omega, rfl⟩
  obtain ⟨A, hA, HA⟩ : ∃ A : ByteArray, A.size ≤ 20 ∧ Hid (A = ⟨(Lib.decDigits u).toArray⟩) := ⟨_, by
    show (Lib.decDigits u).toArray.size ≤ 20
    rw [List.size_toArray, Lib.decDigits_length]; exact Lib.nDigits_le20 _ (by omega), rfl⟩
  have HD : Hid (∀ W, Calls Tryz.prog 29 #[.int .u64 (u : Int)] W fun e w' => e = .returned (.string A) ∧ Below W.heap.size W w') := fun W => by rw [HA.out]; exact Dec_any (u + 1) u W (by omega) (by omega)
  by_cases hn : n < 0
  · have HI : Hid ((⟨#[45]⟩ : ByteArray) ++ A = ⟨(Lib.itoa n).toArray⟩) := by
      show _ = _
      rw [HA.out, HU.out]; unfold Lib.itoa; rw [if_pos hn]; exact ba_app [45] _
    have hw : IntKind.u64.wrap (-IntKind.u64.wrap n) = (u : Int) := by rw [IntKind.wrap_u64, IntKind.wrap_u64, HU.out]; omega
    go_enter Tryz.func55, Tryz.ntmps55
    go_wp2_with fail
    refine (HD.out _).mono ?_
    rintro e w1 ⟨rfl, hb1⟩
    have HB1 : Hid (Below w.heap.size w w1) := hb1
    clear hb1
    go_wp2_with fail
    go_ret
    exact ⟨ret_str HI.out, HB1.out⟩
  · have HI : Hid (A = ⟨(Lib.itoa n).toArray⟩) := by
      show _ = _
      rw [HA.out, HU.out]; unfold Lib.itoa; rw [if_neg hn, show n.natAbs = n.toNat by omega]
    obtain rfl : n = (u : Int) := by have := HU.out; omega
    go_enter Tryz.func55, Tryz.ntmps55
    go_wp2_with fail
    refine (HD.out _).mono ?_
    rintro e w1 ⟨rfl, hb1⟩
    have HB1 : Hid (Below w.heap.size w w1) := hb1
    clear hb1
    go_wp2_with fail
    go_ret
    exact ⟨by rw [HI.out]; rfl, HB1.out⟩
end Go.Proofs.YtnndlffidifddaaGreatDoor

/- tenonref02.Float. -/
namespace Go.Proofs.YtnndlffidifddaaGreatDoor
open Go.RowKit

theorem bits_run (f : Nat) (w : World) : (callFunc 25 #[.float .f64 f]).run Tryz.prog w = .ok (.value (.int .u64 f)) w := by
  rw [run_callFunc_extern Tryz.func25 (by kernel_rfl) (by kernel_rfl) (by kernel_rfl) (e := Extern.MathFloatBits.float64bits) (by kernel_rfl)]
  rfl

/-- a float's parts, as the walk meets them -/
theorem Sp.fparts (f : Nat) (hf : f < 18446744073709551616) : (f : Int) / 4503599627370496 % 2048 = (Sp.fexp f : Int) ∧ (f : Int) % 4503599627370496 = (Sp.fman f : Int) ∧ (f : Int) / 9223372036854775808 = (if Sp.fneg f then 1 else 0 : Int) := by
  refine ⟨by unfold Sp.fexp; omega, by unfold Sp.fman; omega, ?_⟩
  unfold Sp.fneg
  by_cases c : f / 2 ^ 63 = 1
  · simp only [c, decide_true, if_true]; omega
  · simp only [c, decide_false, Bool.false_eq_true, if_false]; omega

def FltE (f : Nat) (w : World) (e : Ending) (w' : World) : Prop := e = .returned (.string ⟨(Sp.floatT f).toArray⟩) ∧ Below w.heap.size w w'

set_option maxRecDepth 100000 in
set_option maxHeartbeats 2000000 in
theorem rFloat_nan (f : Nat) (w : World) (hf : f < 18446744073709551616) (h1 : Sp.fexp f = 2047) (h2 : Sp.fman f ≠ 0) :
    Calls Tryz.prog 13 #[.float .f64 f] w (FltE f w) := by
  obtain ⟨hE, hM, hG⟩ := Sp.fparts f hf
  have hb := bits_run f
  have HX : Hid (Sp.floatT f = [110, 97, 110, 40] ++ Sp.hexN f 16 ++ [41]) := by show _ = _; unfold Sp.floatT; rw [if_pos h1, if_neg h2]
  have HL : Hid ((Sp.hexN f 16).length = 16) := Sp.hexN_len _ _
  have HD := digits_any f 16 w hf (by omega)
  obtain ⟨A, hA, HA⟩ : ∃ A : ByteArray, A.size = 16 ∧ Hid (A = ⟨(Sp.hexN f 16).toArray⟩) := ⟨_, by show (Sp.hexN f 16).toArray.size = 16; rw [List.size_toArray]; exact HL.out, rfl⟩
  rw [← HA.out] at HD
  have HD' : Hid (Calls Tryz.prog 28 #[.int .u64 (f : Int), .int .i64 16] w fun e w' => e = .returned (.string A) ∧ Below w.heap.size w w') := HD
  clear HD HL
  rw [h1] at hE
  have hm0 : (0 : Int) < (Sp.fman f : Int) := by omega
  clear h1 h2 hG
  go_enter Tryz.func13, Tryz.ntmps13
  go_wp2_with fail
  refine HD'.out.mono ?_
  rintro e w1 ⟨rfl, hb1⟩
  have HB1 : Hid (Below w.heap.size w w1) := hb1
  clear hb1
  go_wp2_with fail
  go_ret
  refine ⟨ret_str ?_, HB1.out⟩
  rw [HX.out, HA.out, ← ba_app, ← ba_app]

set_option maxRecDepth 100000 in
set_option maxHeartbeats 2000000 in
theorem rFloat_inf (f : Nat) (w : World) (hf : f < 18446744073709551616) (h1 : Sp.fexp f = 2047) (h2 : Sp.fman f = 0) :
    Calls Tryz.prog 13 #[.float .f64 f] w (FltE f w) := by
  obtain ⟨hE, hM, hG⟩ := Sp.fparts f hf
  have hb := bits_run f
  have HX : Hid (Sp.floatT f = if Sp.fneg f then [45, 105, 110, 102] else [43, 105, 110, 102]) := by show _ = _; unfold Sp.floatT; rw [if_pos h1, if_pos h2]
  rw [h1] at hE
  rw [h2] at hM
  clear h1 h2
  cases hn : Sp.fneg f with
  | true =>
    rw [hn] at hG
    have hG1 : (f : Int) / 9223372036854775808 = 1 := hG
    clear hG
    go_enter Tryz.func13, Tryz.ntmps13
    go_wp2_with fail
    go_ret
    exact ⟨ret_str (by rw [HX.out, hn]; rfl), Below.refl _ _⟩
  | false =>
    rw [hn] at hG
    have hG1 : (f : Int) / 9223372036854775808 = 0 := hG
    clear hG
    go_enter Tryz.func13, Tryz.ntmps13
    go_wp2_with fail
    go_ret
    exact ⟨ret_str (by rw [HX.out, hn]; rfl), Below.refl _ _⟩

set_option maxRecDepth 100000 in
set_option maxHeartbeats 2000000 in
theorem rFloat_zero (f : Nat) (w : World) (hf : f < 18446744073709551616) (h1 : Sp.fexp f = 0) (h2 : Sp.fman f = 0) :
    Calls Tryz.prog 13 #[.float .f64 f] w (FltE f w) := by
  obtain ⟨hE, hM, hG⟩ := Sp.fparts f hf
  have hb := bits_run f
  have HX : Hid (Sp.floatT f = Sp.signT f ++ [48, 120, 48, 112, 43, 48, 48]) := by show _ = _; unfold Sp.floatT; rw [if_neg (by omega), if_pos h1, if_pos h2]
  rw [h1] at hE
  rw [h2] at hM
  clear h1 h2
  cases hn : Sp.fneg f with
  | true =>
    rw [hn] at hG
    have hG1 : (f : Int) / 9223372036854775808 = 1 := hG
    clear hG
    go_enter Tryz.func13, Tryz.ntmps13
    go_wp2_with fail
    go_ret
    exact ⟨ret_str (by rw [HX.out, Sp.signT, hn]; rfl), Below.refl _ _⟩
  | false =>
    rw [hn] at hG
    have hG1 : (f : Int) / 9223372036854775808 = 0 := hG
    clear hG
    go_enter Tryz.func13, Tryz.ntmps13
    go_wp2_with fail
    go_ret
    exact ⟨ret_str (by rw [HX.out, Sp.signT, hn]; rfl), Below.refl _ _⟩
end Go.Proofs.YtnndlffidifddaaGreatDoor

/- tenonref02.Float: of floats whose fraction is nought. -/
namespace Go.Proofs.YtnndlffidifddaaGreatDoor
open Go.RowKit

set_option maxRecDepth 100000 in
set_option maxHeartbeats 2000000 in
theorem rFloat_intp (f : Nat) (w : World) (hf : f < 18446744073709551616) (h1 : Sp.fexp f ≠ 2047) (h2 : Sp.fexp f ≠ 0) (h3 : Sp.fman f = 0) (hn : Sp.fneg f = false) :
    Calls Tryz.prog 13 #[.float .f64 f] w (FltE f w) := by
  obtain ⟨hE, hM, hG⟩ := Sp.fparts f hf
  have hb := bits_run f
  have HF : Hid (Sp.fracT (Sp.fman f) = []) := by show _ = _; rw [h3]; rfl
  rw [h3] at hM
  clear h3
  have HX : Hid (Sp.floatT f = Sp.signT f ++ [48, 120, 49] ++ Sp.fracT (Sp.fman f) ++ [112] ++ Sp.expT ((Sp.fexp f : Int) - 1023)) := by show _ = _; unfold Sp.floatT; rw [if_neg h1, if_neg h2]
  have hlt := Sp.fexp_lt f
  have d1 : ((Sp.fexp f : Int) == 2047) = false := by simp; omega
  have d2 : ((Sp.fexp f : Int) == 0) = false := by simp; omega
  rw [hn] at hG
  clear h1 h2
  generalize Sp.fexp f = n at *
  obtain ⟨u, HU⟩ : ∃ u : Nat, Hid (((n : Int) - 1023).natAbs = u) := ⟨_, rfl⟩
  obtain ⟨A, hA, HA⟩ : ∃ A : ByteArray, A.size ≤ 20 ∧ Hid (A = ⟨(Lib.decDigits u).toArray⟩) := ⟨_, by
    show (Lib.decDigits u).toArray.size ≤ 20
    rw [List.size_toArray, Lib.decDigits_length]; exact Lib.nDigits_le20 _ (by have := HU.out; omega), rfl⟩
  have HDec : Hid (∀ (z : Int) (W : World), z = (u : Int) → Calls Tryz.prog 29 #[.int .u64 z] W fun e w' => e = .returned (.string A) ∧ Below W.heap.size W w') := fun z W hz => by rw [HA.out, hz]; exact Dec_any (u + 1) u W (by omega) (by have := HU.out; omega)
  have hG1 : (f : Int) / 9223372036854775808 = 0 := hG
  have HS : Hid (Sp.signT f = []) := by show _ = _; rw [Sp.signT, hn]; rfl
  clear hG hn
  by_cases c1 : ((n : Int) - 1023) < 0
  · by_cases c2 : -((n : Int) - 1023) < 10
    · have HXT : Hid (Sp.expT ((n : Int) - 1023) = 45 :: 48 :: Lib.decDigits u) := by show _ = _; unfold Sp.expT; rw [if_pos c1, if_pos (by omega), HU.out]; rfl
      have hu := HU.out
      go_enter Tryz.func13, Tryz.ntmps13
      go_wp2_with fail
      refine (HDec.out _ _ (by omega)).mono ?_
      rintro e w3 ⟨rfl, hb3⟩
      have HB3 : Hid (Below w.heap.size w w3) := hb3
      clear hb3
      go_wp2_with fail
      go_ret
      refine ⟨ret_str ?_, HB3.out⟩
      rw [HX.out, HXT.out, HS.out, HF.out, HA.out]
      apply ByteArray.ext
      simp
    · have HXT : Hid (Sp.expT ((n : Int) - 1023) = 45 :: Lib.decDigits u) := by show _ = _; unfold Sp.expT; rw [if_pos c1, if_neg (by omega), HU.out]; rfl
      have hu := HU.out
      go_enter Tryz.func13, Tryz.ntmps13
      go_wp2_with fail
      refine (HDec.out _ _ (by omega)).mono ?_
      rintro e w3 ⟨rfl, hb3⟩
      have HB3 : Hid (Below w.heap.size w w3) := hb3
      clear hb3
      go_wp2_with fail
      go_ret
      refine ⟨ret_str ?_, HB3.out⟩
      rw [HX.out, HXT.out, HS.out, HF.out, HA.out]
      apply ByteArray.ext
      simp
  · by_cases c2 : ((n : Int) - 1023) < 10
    · have HXT : Hid (Sp.expT ((n : Int) - 1023) = 43 :: 48 :: Lib.decDigits u) := by show _ = _; unfold Sp.expT; rw [if_neg c1, if_pos (by omega), HU.out]; rfl
      have hu := HU.out
      go_enter Tryz.func13, Tryz.ntmps13
      go_wp2_with fail
      refine (HDec.out _ _ (by omega)).mono ?_
      rintro e w3 ⟨rfl, hb3⟩
      have HB3 : Hid (Below w.heap.size w w3) := hb3
      clear hb3
      go_wp2_with fail
      go_ret
      refine ⟨ret_str ?_, HB3.out⟩
      rw [HX.out, HXT.out, HS.out, HF.out, HA.out]
      apply ByteArray.ext
      simp
    · have HXT : Hid (Sp.expT ((n : Int) - 1023) = 43 :: Lib.decDigits u) := by show _ = _; unfold Sp.expT; rw [if_neg c1, if_neg (by omega), HU.out]; rfl
      have hu := HU.out
      go_enter Tryz.func13, Tryz.ntmps13
      go_wp2_with fail
      refine (HDec.out _ _ (by omega)).mono ?_
      rintro e w3 ⟨rfl, hb3⟩
      have HB3 : Hid (Below w.heap.size w w3) := hb3
      clear hb3
      go_wp2_with fail
      go_ret
      refine ⟨ret_str ?_, HB3.out⟩
      rw [HX.out, HXT.out, HS.out, HF.out, HA.out]
      apply ByteArray.ext
      simp


set_option maxRecDepth 100000 in
set_option maxHeartbeats 2000000 in
theorem rFloat_intm (f : Nat) (w : World) (hf : f < 18446744073709551616) (h1 : Sp.fexp f ≠ 2047) (h2 : Sp.fexp f ≠ 0) (h3 : Sp.fman f = 0) (hn : Sp.fneg f = true) :
    Calls Tryz.prog 13 #[.float .f64 f] w (FltE f w) := by
  obtain ⟨hE, hM, hG⟩ := Sp.fparts f hf
  have hb := bits_run f
  have HF : Hid (Sp.fracT (Sp.fman f) = []) := by show _ = _; rw [h3]; rfl
  rw [h3] at hM
  clear h3
  have HX : Hid (Sp.floatT f = Sp.signT f ++ [48, 120, 49] ++ Sp.fracT (Sp.fman f) ++ [112] ++ Sp.expT ((Sp.fexp f : Int) - 1023)) := by show _ = _; unfold Sp.floatT; rw [if_neg h1, if_neg h2]
  have hlt := Sp.fexp_lt f
  have d1 : ((Sp.fexp f : Int) == 2047) = false := by simp; omega
  have d2 : ((Sp.fexp f : Int) == 0) = false := by simp; omega
  rw [hn] at hG
  clear h1 h2
  generalize Sp.fexp f = n at *
  obtain ⟨u, HU⟩ : ∃ u : Nat, Hid (((n : Int) - 1023).natAbs = u) := ⟨_, rfl⟩
  obtain ⟨A, hA, HA⟩ : ∃ A : ByteArray, A.size ≤ 20 ∧ Hid (A = ⟨(Lib.decDigits u).toArray⟩) := ⟨_, by
    show (Lib.decDigits u).toArray.size ≤ 20
    rw [List.size_toArray, Lib.decDigits_length]; exact Lib.nDigits_le20 _ (by have := HU.out; omega), rfl⟩
  have HDec : Hid (∀ (z : Int) (W : World), z = (u : Int) → Calls Tryz.prog 29 #[.int .u64 z] W fun e w' => e = .returned (.string A) ∧ Below W.heap.size W w') := fun z W hz => by rw [HA.out, hz]; exact Dec_any (u + 1) u W (by omega) (by have := HU.out; omega)
  have hG1 : (f : Int) / 9223372036854775808 = 1 := hG
  have HS : Hid (Sp.signT f = [45]) := by show _ = _; rw [Sp.signT, hn]; rfl
  clear hG hn
  by_cases c1 : ((n : Int) - 1023) < 0
  · by_cases c2 : -((n : Int) - 1023) < 10
    · have HXT : Hid (Sp.expT ((n : Int) - 1023) = 45 :: 48 :: Lib.decDigits u) := by show _ = _; unfold Sp.expT; rw [if_pos c1, if_pos (by omega), HU.out]; rfl
      have hu := HU.out
      go_enter Tryz.func13, Tryz.ntmps13
      go_wp2_with fail
      refine (HDec.out _ _ (by omega)).mono ?_
      rintro e w3 ⟨rfl, hb3⟩
      have HB3 : Hid (Below w.heap.size w w3) := hb3
      clear hb3
      go_wp2_with fail
      go_ret
      refine ⟨ret_str ?_, HB3.out⟩
      rw [HX.out, HXT.out, HS.out, HF.out, HA.out]
      apply ByteArray.ext
      simp
    · have HXT : Hid (Sp.expT ((n : Int) - 1023) = 45 :: Lib.decDigits u) := by show _ = _; unfold Sp.expT; rw [if_pos c1, if_neg (by omega), HU.out]; rfl
      have hu := HU.out
      go_enter Tryz.func13, Tryz.ntmps13
      go_wp2_with fail
      refine (HDec.out _ _ (by omega)).mono ?_
      rintro e w3 ⟨rfl, hb3⟩
      have HB3 : Hid (Below w.heap.size w w3) := hb3
      clear hb3
      go_wp2_with fail
      go_ret
      refine ⟨ret_str ?_, HB3.out⟩
      rw [HX.out, HXT.out, HS.out, HF.out, HA.out]
      apply ByteArray.ext
      simp
  · by_cases c2 : ((n : Int) - 1023) < 10
    · have HXT : Hid (Sp.expT ((n : Int) - 1023) = 43 :: 48 :: Lib.decDigits u) := by show _ = _; unfold Sp.expT; rw [if_neg c1, if_pos (by omega), HU.out]; rfl
      have hu := HU.out
      go_enter Tryz.func13, Tryz.ntmps13
      go_wp2_with fail
      refine (HDec.out _ _ (by omega)).mono ?_
      rintro e w3 ⟨rfl, hb3⟩
      have HB3 : Hid (Below w.heap.size w w3) := hb3
      clear hb3
      go_wp2_with fail
      go_ret
      refine ⟨ret_str ?_, HB3.out⟩
      rw [HX.out, HXT.out, HS.out, HF.out, HA.out]
      apply ByteArray.ext
      simp
    · have HXT : Hid (Sp.expT ((n : Int) - 1023) = 43 :: Lib.decDigits u) := by show _ = _; unfold Sp.expT; rw [if_neg c1, if_neg (by omega), HU.out]; rfl
      have hu := HU.out
      go_enter Tryz.func13, Tryz.ntmps13
      go_wp2_with fail
      refine (HDec.out _ _ (by omega)).mono ?_
      rintro e w3 ⟨rfl, hb3⟩
      have HB3 : Hid (Below w.heap.size w w3) := hb3
      clear hb3
      go_wp2_with fail
      go_ret
      refine ⟨ret_str ?_, HB3.out⟩
      rw [HX.out, HXT.out, HS.out, HF.out, HA.out]
      apply ByteArray.ext
      simp

end Go.Proofs.YtnndlffidifddaaGreatDoor


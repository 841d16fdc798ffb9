/- tenonref02.Float: of floats below the least whose first digit is 1; and of every float. -/
import Derived.Test.YtnndlffidifddaaGreatDoorK9
namespace Go.Proofs.YtnndlffidifddaaGreatDoor
open Go.RowKit

set_option maxRecDepth 100000 in
set_option maxHeartbeats 2000000 in
theorem rFloat_lowp (f : Nat) (w : World) (hf : f < 18446744073709551616) (h1 : Sp.fexp f = 0) (h2 : Sp.fman f ≠ 0) (hn : Sp.fneg f = false) :
    Calls Tryz.prog 13 #[.float .f64 f] w (FltE f w) := by
  obtain ⟨hE, hM, hG⟩ := Sp.fparts f hf
  have hb := bits_run f
  have hmlt := Sp.fman_lt f
  have hup := Sp.up_bd h2 hmlt
  obtain ⟨p, HP⟩ : ∃ p, Hid (Sp.up (Sp.fman f) = p) := ⟨_, show _ = _ from rfl⟩
  rw [HP.out] at hup
  obtain ⟨hu1, hu2, hu3, hu4⟩ := hup
  obtain ⟨m, HR⟩ : ∃ m : Nat, Hid (Sp.fman f * 2 ^ p = 4503599627370496 + m) := ⟨Sp.fman f * 2 ^ p - 4503599627370496, by show _ = _; omega⟩
  have hr1 : m < 4503599627370496 := by have := HR.out; omega
  have HX : Hid (Sp.floatT f = Sp.signT f ++ [48, 120, 49] ++ Sp.fracT m ++ [112] ++ Sp.expT (-1022 - (p : Int))) := by
    show _ = _
    unfold Sp.floatT
    rw [if_neg (by omega), if_pos h1, if_neg h2, HP.out, HR.out, show 4503599627370496 + m - 2 ^ 52 = m by omega]
  have HU4 : Hid (∀ c, c < p → Sp.fman f * 2 ^ c < 4503599627370496) := hu4
  have d3 : ((Sp.fman f : Int) == 0) = false := by simp; omega
  have HPW : Hid (∀ c, Sp.fman f * 2 ^ (c + 1) = Sp.fman f * 2 ^ c * 2) := fun c => by rw [Nat.pow_succ, Nat.mul_assoc]
  rw [h1] at hE
  rw [hn] at hG
  clear h1 h2 hu4 hu1 hu2 HP
  obtain ⟨m0, HM0⟩ : ∃ m0 : Nat, Hid (Sp.fman f = m0) := ⟨_, show _ = _ from rfl⟩
  rw [HM0.out] at hM hmlt HR HU4 d3 HPW
  clear HM0
  obtain ⟨u, HU⟩ : ∃ u : Nat, Hid (1022 + p = u) := ⟨_, show _ = _ from rfl⟩
  obtain ⟨A, hA, HA⟩ : ∃ A : ByteArray, A.size ≤ 20 ∧ Hid (A = ⟨(Lib.decDigits u).toArray⟩) := ⟨_, by
    show (Lib.decDigits u).toArray.size ≤ 20
    rw [List.size_toArray, Lib.decDigits_length]; exact Lib.nDigits_le20 _ (by have := HU.out; omega), rfl⟩
  have HDec : Hid (∀ (z : Int) (W : World), z = (u : Int) → Calls Tryz.prog 29 #[.int .u64 z] W fun e w' => e = .returned (.string A) ∧ Below W.heap.size W w') := fun z W hz => by rw [HA.out, hz]; exact Dec_any (u + 1) u W (by omega) (by have := HU.out; omega)
  have HXT : Hid (Sp.expT (-1022 - (p : Int)) = 45 :: Lib.decDigits u) := by
    show _ = _
    unfold Sp.expT
    rw [if_pos (by omega), if_neg (by omega), show (-1022 - (p : Int)).natAbs = u by have := HU.out; omega]; rfl
  have hu := HU.out
  have hG1 : (f : Int) / 9223372036854775808 = 0 := hG
  have HS : Hid (Sp.signT f = []) := by show _ = _; rw [Sp.signT, hn]; rfl
  clear hG hn
  by_cases h3 : m = 0
  · have HF : Hid (Sp.fracT m = []) := by show _ = _; rw [h3]; rfl
    have hm0 : ¬ (0 : Int) < (m : Int) := by omega
    clear h3
    go_enter Tryz.func13, Tryz.ntmps13
    go_wp2_with fail
    go_loopw [5, 6] (fun ev mv wr => ∃ c : Nat, c ≤ p ∧ ev = .int .i64 (1 - (c : Int)) ∧ mv = .int .u64 ((m0 * 2 ^ c : Nat) : Int) ∧ w = wr) (fun ev _ _ => (intOf ev + 60).toNat)
    case atStart => exact ⟨0, by omega, rfl, (by rw [Nat.pow_zero, Nat.mul_one]; first | done | rw [hM]), rfl⟩
    case round =>
      obtain ⟨c, hc, rfl, rfl, rfl⟩ := hrel
      by_cases hlt : c < p
      · have hq := HU4.out c hlt
        have HLT : Hid (c + 1 ≤ p) := hlt
        have hnx := HPW.out c
        generalize m0 * 2 ^ c = q at hq hnx ⊢
        have HNX : Hid (m0 * 2 ^ (c + 1) = q * 2) := hnx
        have hqI : (q : Int) < 4503599627370496 := by omega
        have hq0 : (0 : Int) ≤ (q : Int) := by omega
        have HC : Hid (c ≤ p) := hc
        have hc52 : (c : Int) ≤ 52 := by omega
        clear hnx hq hmlt hr1 hu3 hlt hc
        go_wp2_with fail
        refine ⟨⟨c + 1, HLT.out, ?_, ?_, trivial⟩, ?_⟩
        · exact congrArg (Value.int .i64) (by omega)
        · rw [HNX.out]; exact congrArg (Value.int .u64) (by omega)
        · simp [intOf]; omega
      · obtain rfl : c = p := by omega
        have hq := HR.out
        generalize m0 * 2 ^ c = q0 at hq ⊢
        obtain ⟨q, hqq⟩ : ∃ q : Int, (q0 : Int) = q := ⟨_, rfl⟩
        rw [hqq]
        have hq1 : ¬ q < 4503599627370496 := by omega
        have hq2 : q - 4503599627370496 = (m : Int) := by omega
        have hq3 : q < 9007199254740992 := by omega
        have hq4 : 4503599627370496 ≤ q := by omega
        clear hqq
        have hc52 : (c : Int) ≤ 52 := by omega
        have hmI : (m : Int) < 4503599627370496 := by omega
        clear hlt hq hmlt hr1 hc hu3
        iterate 44 (first | go_step | go_simp)
        clear hq1 hq2 hq3 hq4 hmI
        go_wp2_with fail
        refine (HDec.out _ _ (by omega)).mono ?_
        rintro e w3 ⟨rfl, hb3⟩
        have HB3 : Hid (Below w.heap.size w w3) := hb3
        clear hb3
        go_wp2_with fail
        go_ret
        refine ⟨ret_str ?_, HB3.out⟩
        rw [HX.out, HXT.out, HS.out, HF.out, HA.out]
        apply ByteArray.ext
        simp
  · have hm0 : (0 : Int) < (m : Int) := by omega
    obtain ⟨T, HTe⟩ : ∃ T, Hid (Sp.trim (Sp.hexN m 13) = T) := ⟨_, rfl⟩
    have HF : Hid (Sp.fracT m = 46 :: T) := by show _ = _; unfold Sp.fracT; rw [if_neg h3, HTe.out]
    have HTn : Hid (T ≠ []) := by show _ ≠ _; rw [← HTe.out]; exact Sp.trim_ne h3 hr1
    clear h3
    obtain ⟨D, hD, HDe⟩ : ∃ D : ByteArray, D.size = 13 ∧ Hid (D = ⟨(Sp.hexN m 13).toArray⟩) := ⟨_, by show (Sp.hexN m 13).toArray.size = 13; rw [List.size_toArray, Sp.hexN_len], rfl⟩
    have HDT : Hid (Sp.trim D.data.toList = T) := by show _ = _; rw [HDe.out, ofL, HTe.out]
    have HDg : Hid (∀ W, Calls Tryz.prog 28 #[.int .u64 (m : Int), .int .i64 13] W fun e w' => e = .returned (.string D) ∧ Below W.heap.size W w') := fun W => by rw [HDe.out]; exact digits_any m 13 W (by omega) (by omega)
    go_enter Tryz.func13, Tryz.ntmps13
    go_wp2_with fail
    go_loopw [5, 6] (fun ev mv wr => ∃ c : Nat, c ≤ p ∧ ev = .int .i64 (1 - (c : Int)) ∧ mv = .int .u64 ((m0 * 2 ^ c : Nat) : Int) ∧ w = wr) (fun ev _ _ => (intOf ev + 60).toNat)
    case atStart => exact ⟨0, by omega, rfl, (by rw [Nat.pow_zero, Nat.mul_one]; first | done | rw [hM]), rfl⟩
    case round =>
      obtain ⟨c, hc, rfl, rfl, rfl⟩ := hrel
      by_cases hlt : c < p
      · have hq := HU4.out c hlt
        have HLT : Hid (c + 1 ≤ p) := hlt
        have hnx := HPW.out c
        generalize m0 * 2 ^ c = q at hq hnx ⊢
        have HNX : Hid (m0 * 2 ^ (c + 1) = q * 2) := hnx
        have hqI : (q : Int) < 4503599627370496 := by omega
        have hq0 : (0 : Int) ≤ (q : Int) := by omega
        have HC : Hid (c ≤ p) := hc
        have hc52 : (c : Int) ≤ 52 := by omega
        clear hnx hq hmlt hr1 hu3 hlt hc
        go_wp2_with fail
        refine ⟨⟨c + 1, HLT.out, ?_, ?_, trivial⟩, ?_⟩
        · exact congrArg (Value.int .i64) (by omega)
        · rw [HNX.out]; exact congrArg (Value.int .u64) (by omega)
        · simp [intOf]; omega
      · obtain rfl : c = p := by omega
        have hq := HR.out
        generalize m0 * 2 ^ c = q0 at hq ⊢
        obtain ⟨q, hqq⟩ : ∃ q : Int, (q0 : Int) = q := ⟨_, rfl⟩
        rw [hqq]
        have hq1 : ¬ q < 4503599627370496 := by omega
        have hq2 : q - 4503599627370496 = (m : Int) := by omega
        have hq3 : q < 9007199254740992 := by omega
        have hq4 : 4503599627370496 ≤ q := by omega
        clear hqq
        have hc52 : (c : Int) ≤ 52 := by omega
        have hmI : (m : Int) < 4503599627370496 := by omega
        clear hlt hq hmlt hr1 hc hu3
        iterate 44 (first | go_step | go_simp)
        clear hq1 hq2 hq3 hq4 hmI
        go_wp2_with fail
        refine (HDg.out _).mono ?_
        rintro e w1 ⟨rfl, hb1⟩
        have HB1 : Hid (Below w.heap.size w w1) := hb1
        clear hb1
        go_wp2_with fail
        go_loopw [8] (fun v wr => ∃ d : ByteArray, v = .string d ∧ 1 ≤ d.size ∧ d.size ≤ 13 ∧ Hid (Sp.trim d.data.toList = T) ∧ w1 = wr) (fun v _ => vsz v)
        case atStart => exact ⟨D, rfl, by omega, by omega, HDT, rfl⟩
        case round =>
          obtain ⟨d, rfl, hd1, hd2, HT, rfl⟩ := hrel
          have HLS : Hid (d.data.toList = (d.extract 0 (d.size - 1)).data.toList ++ [d[d.size - 1]'(by omega)]) := Sp.last_split d hd1
          obtain ⟨c, HC⟩ : ∃ c : UInt8, Hid (d[d.size - 1]'(by omega) = c) := ⟨_, show _ = _ from rfl⟩
          have hx : ∀ W, (Instr.index 9 (.string d) (.int .i64 ((d.size : Int) - 1))).run Tryz.prog W = .ok (.int .u8 (c.toNat : Int)) W := fun W => by
            have := run_index_string (P := Tryz.prog) W 9 d .i64 ((d.size : Int) - 1) Tryz.undSd
            rw [dif_pos ⟨by omega, by omega⟩] at this
            refine this.trans ?_
            rw [← HC.out]
            congr 5
            omega
          by_cases c48 : c = 48
          · have HT2 : Hid (Sp.trim (d.extract 0 (d.size - 1)).data.toList = T) := by
              show _ = _
              rw [← HT.out, HLS.out, HC.out, c48, Sp.trim_snoc0]
            have HZ2 : Hid ((d.extract 0 (d.size - 1)).size = d.size - 1) := by show _ = _; rw [ByteArray.size_extract]; omega
            have HM2 : Hid (1 ≤ d.size - 1) := by
              show _ ≤ _
              by_cases c1 : 1 ≤ d.size - 1
              · exact c1
              · exfalso
                apply HTn.out
                rw [← HT2.out]
                have e0 : (d.extract 0 (d.size - 1)).data.toList = [] := List.eq_nil_of_length_eq_zero (by rw [Array.length_toList]; exact HZ2.out.trans (by omega))
                rw [e0]; rfl
            have e48 : ((c.toNat : Int) == 48) = true := by rw [c48]; rfl
            clear c48
            go_wp2_with fail
            refine ⟨⟨_, rfl, ?_, ?_, HT2, trivial⟩, ?_⟩
            · rw [HZ2.out]; exact HM2.out
            · rw [HZ2.out]; omega
            · show (d.extract 0 (d.size - 1)).size < d.size
              rw [HZ2.out]; omega
          · have HTd : Hid (d.data.toList = T) := by
              show _ = _
              rw [← HT.out, HLS.out, HC.out, Sp.trim_snoc _ _ c48]
            have n48 : ((c.toNat : Int) == 48) = false := by simpa using u8_ne c48
            have HF' : Hid (Sp.fracT m = 46 :: d.data.toList) := by show _ = _; rw [HF.out, HTd.out]
            clear c48
            go_wp2_with fail
            refine (HDec.out _ _ (by omega)).mono ?_
            rintro e w3 ⟨rfl, hb3⟩
            have HB3 : Hid (Below w.heap.size w w3) := below_to HB1.out hb3
            clear hb3
            go_wp2_with fail
            go_ret
            refine ⟨ret_str ?_, HB3.out⟩
            rw [HX.out, HXT.out, HS.out, HF'.out, HA.out]
            apply ByteArray.ext
            simp


set_option maxRecDepth 100000 in
set_option maxHeartbeats 2000000 in
theorem rFloat_lowm (f : Nat) (w : World) (hf : f < 18446744073709551616) (h1 : Sp.fexp f = 0) (h2 : Sp.fman f ≠ 0) (hn : Sp.fneg f = true) :
    Calls Tryz.prog 13 #[.float .f64 f] w (FltE f w) := by
  obtain ⟨hE, hM, hG⟩ := Sp.fparts f hf
  have hb := bits_run f
  have hmlt := Sp.fman_lt f
  have hup := Sp.up_bd h2 hmlt
  obtain ⟨p, HP⟩ : ∃ p, Hid (Sp.up (Sp.fman f) = p) := ⟨_, show _ = _ from rfl⟩
  rw [HP.out] at hup
  obtain ⟨hu1, hu2, hu3, hu4⟩ := hup
  obtain ⟨m, HR⟩ : ∃ m : Nat, Hid (Sp.fman f * 2 ^ p = 4503599627370496 + m) := ⟨Sp.fman f * 2 ^ p - 4503599627370496, by show _ = _; omega⟩
  have hr1 : m < 4503599627370496 := by have := HR.out; omega
  have HX : Hid (Sp.floatT f = Sp.signT f ++ [48, 120, 49] ++ Sp.fracT m ++ [112] ++ Sp.expT (-1022 - (p : Int))) := by
    show _ = _
    unfold Sp.floatT
    rw [if_neg (by omega), if_pos h1, if_neg h2, HP.out, HR.out, show 4503599627370496 + m - 2 ^ 52 = m by omega]
  have HU4 : Hid (∀ c, c < p → Sp.fman f * 2 ^ c < 4503599627370496) := hu4
  have d3 : ((Sp.fman f : Int) == 0) = false := by simp; omega
  have HPW : Hid (∀ c, Sp.fman f * 2 ^ (c + 1) = Sp.fman f * 2 ^ c * 2) := fun c => by rw [Nat.pow_succ, Nat.mul_assoc]
  rw [h1] at hE
  rw [hn] at hG
  clear h1 h2 hu4 hu1 hu2 HP
  obtain ⟨m0, HM0⟩ : ∃ m0 : Nat, Hid (Sp.fman f = m0) := ⟨_, show _ = _ from rfl⟩
  rw [HM0.out] at hM hmlt HR HU4 d3 HPW
  clear HM0
  obtain ⟨u, HU⟩ : ∃ u : Nat, Hid (1022 + p = u) := ⟨_, show _ = _ from rfl⟩
  obtain ⟨A, hA, HA⟩ : ∃ A : ByteArray, A.size ≤ 20 ∧ Hid (A = ⟨(Lib.decDigits u).toArray⟩) := ⟨_, by
    show (Lib.decDigits u).toArray.size ≤ 20
    rw [List.size_toArray, Lib.decDigits_length]; exact Lib.nDigits_le20 _ (by have := HU.out; omega), rfl⟩
  have HDec : Hid (∀ (z : Int) (W : World), z = (u : Int) → Calls Tryz.prog 29 #[.int .u64 z] W fun e w' => e = .returned (.string A) ∧ Below W.heap.size W w') := fun z W hz => by rw [HA.out, hz]; exact Dec_any (u + 1) u W (by omega) (by have := HU.out; omega)
  have HXT : Hid (Sp.expT (-1022 - (p : Int)) = 45 :: Lib.decDigits u) := by
    show _ = _
    unfold Sp.expT
    rw [if_pos (by omega), if_neg (by omega), show (-1022 - (p : Int)).natAbs = u by have := HU.out; omega]; rfl
  have hu := HU.out
  have hG1 : (f : Int) / 9223372036854775808 = 1 := hG
  have HS : Hid (Sp.signT f = [45]) := by show _ = _; rw [Sp.signT, hn]; rfl
  clear hG hn
  by_cases h3 : m = 0
  · have HF : Hid (Sp.fracT m = []) := by show _ = _; rw [h3]; rfl
    have hm0 : ¬ (0 : Int) < (m : Int) := by omega
    clear h3
    go_enter Tryz.func13, Tryz.ntmps13
    go_wp2_with fail
    go_loopw [5, 6] (fun ev mv wr => ∃ c : Nat, c ≤ p ∧ ev = .int .i64 (1 - (c : Int)) ∧ mv = .int .u64 ((m0 * 2 ^ c : Nat) : Int) ∧ w = wr) (fun ev _ _ => (intOf ev + 60).toNat)
    case atStart => exact ⟨0, by omega, rfl, (by rw [Nat.pow_zero, Nat.mul_one]; first | done | rw [hM]), rfl⟩
    case round =>
      obtain ⟨c, hc, rfl, rfl, rfl⟩ := hrel
      by_cases hlt : c < p
      · have hq := HU4.out c hlt
        have HLT : Hid (c + 1 ≤ p) := hlt
        have hnx := HPW.out c
        generalize m0 * 2 ^ c = q at hq hnx ⊢
        have HNX : Hid (m0 * 2 ^ (c + 1) = q * 2) := hnx
        have hqI : (q : Int) < 4503599627370496 := by omega
        have hq0 : (0 : Int) ≤ (q : Int) := by omega
        have HC : Hid (c ≤ p) := hc
        have hc52 : (c : Int) ≤ 52 := by omega
        clear hnx hq hmlt hr1 hu3 hlt hc
        go_wp2_with fail
        refine ⟨⟨c + 1, HLT.out, ?_, ?_, trivial⟩, ?_⟩
        · exact congrArg (Value.int .i64) (by omega)
        · rw [HNX.out]; exact congrArg (Value.int .u64) (by omega)
        · simp [intOf]; omega
      · obtain rfl : c = p := by omega
        have hq := HR.out
        generalize m0 * 2 ^ c = q0 at hq ⊢
        obtain ⟨q, hqq⟩ : ∃ q : Int, (q0 : Int) = q := ⟨_, rfl⟩
        rw [hqq]
        have hq1 : ¬ q < 4503599627370496 := by omega
        have hq2 : q - 4503599627370496 = (m : Int) := by omega
        have hq3 : q < 9007199254740992 := by omega
        have hq4 : 4503599627370496 ≤ q := by omega
        clear hqq
        have hc52 : (c : Int) ≤ 52 := by omega
        have hmI : (m : Int) < 4503599627370496 := by omega
        clear hlt hq hmlt hr1 hc hu3
        iterate 44 (first | go_step | go_simp)
        clear hq1 hq2 hq3 hq4 hmI
        go_wp2_with fail
        refine (HDec.out _ _ (by omega)).mono ?_
        rintro e w3 ⟨rfl, hb3⟩
        have HB3 : Hid (Below w.heap.size w w3) := hb3
        clear hb3
        go_wp2_with fail
        go_ret
        refine ⟨ret_str ?_, HB3.out⟩
        rw [HX.out, HXT.out, HS.out, HF.out, HA.out]
        apply ByteArray.ext
        simp
  · have hm0 : (0 : Int) < (m : Int) := by omega
    obtain ⟨T, HTe⟩ : ∃ T, Hid (Sp.trim (Sp.hexN m 13) = T) := ⟨_, rfl⟩
    have HF : Hid (Sp.fracT m = 46 :: T) := by show _ = _; unfold Sp.fracT; rw [if_neg h3, HTe.out]
    have HTn : Hid (T ≠ []) := by show _ ≠ _; rw [← HTe.out]; exact Sp.trim_ne h3 hr1
    clear h3
    obtain ⟨D, hD, HDe⟩ : ∃ D : ByteArray, D.size = 13 ∧ Hid (D = ⟨(Sp.hexN m 13).toArray⟩) := ⟨_, by show (Sp.hexN m 13).toArray.size = 13; rw [List.size_toArray, Sp.hexN_len], rfl⟩
    have HDT : Hid (Sp.trim D.data.toList = T) := by show _ = _; rw [HDe.out, ofL, HTe.out]
    have HDg : Hid (∀ W, Calls Tryz.prog 28 #[.int .u64 (m : Int), .int .i64 13] W fun e w' => e = .returned (.string D) ∧ Below W.heap.size W w') := fun W => by rw [HDe.out]; exact digits_any m 13 W (by omega) (by omega)
    go_enter Tryz.func13, Tryz.ntmps13
    go_wp2_with fail
    go_loopw [5, 6] (fun ev mv wr => ∃ c : Nat, c ≤ p ∧ ev = .int .i64 (1 - (c : Int)) ∧ mv = .int .u64 ((m0 * 2 ^ c : Nat) : Int) ∧ w = wr) (fun ev _ _ => (intOf ev + 60).toNat)
    case atStart => exact ⟨0, by omega, rfl, (by rw [Nat.pow_zero, Nat.mul_one]; first | done | rw [hM]), rfl⟩
    case round =>
      obtain ⟨c, hc, rfl, rfl, rfl⟩ := hrel
      by_cases hlt : c < p
      · have hq := HU4.out c hlt
        have HLT : Hid (c + 1 ≤ p) := hlt
        have hnx := HPW.out c
        generalize m0 * 2 ^ c = q at hq hnx ⊢
        have HNX : Hid (m0 * 2 ^ (c + 1) = q * 2) := hnx
        have hqI : (q : Int) < 4503599627370496 := by omega
        have hq0 : (0 : Int) ≤ (q : Int) := by omega
        have HC : Hid (c ≤ p) := hc
        have hc52 : (c : Int) ≤ 52 := by omega
        clear hnx hq hmlt hr1 hu3 hlt hc
        go_wp2_with fail
        refine ⟨⟨c + 1, HLT.out, ?_, ?_, trivial⟩, ?_⟩
        · exact congrArg (Value.int .i64) (by omega)
        · rw [HNX.out]; exact congrArg (Value.int .u64) (by omega)
        · simp [intOf]; omega
      · obtain rfl : c = p := by omega
        have hq := HR.out
        generalize m0 * 2 ^ c = q0 at hq ⊢
        obtain ⟨q, hqq⟩ : ∃ q : Int, (q0 : Int) = q := ⟨_, rfl⟩
        rw [hqq]
        have hq1 : ¬ q < 4503599627370496 := by omega
        have hq2 : q - 4503599627370496 = (m : Int) := by omega
        have hq3 : q < 9007199254740992 := by omega
        have hq4 : 4503599627370496 ≤ q := by omega
        clear hqq
        have hc52 : (c : Int) ≤ 52 := by omega
        have hmI : (m : Int) < 4503599627370496 := by omega
        clear hlt hq hmlt hr1 hc hu3
        iterate 44 (first | go_step | go_simp)
        clear hq1 hq2 hq3 hq4 hmI
        go_wp2_with fail
        refine (HDg.out _).mono ?_
        rintro e w1 ⟨rfl, hb1⟩
        have HB1 : Hid (Below w.heap.size w w1) := hb1
        clear hb1
        go_wp2_with fail
        go_loopw [8] (fun v wr => ∃ d : ByteArray, v = .string d ∧ 1 ≤ d.size ∧ d.size ≤ 13 ∧ Hid (Sp.trim d.data.toList = T) ∧ w1 = wr) (fun v _ => vsz v)
        case atStart => exact ⟨D, rfl, by omega, by omega, HDT, rfl⟩
        case round =>
          obtain ⟨d, rfl, hd1, hd2, HT, rfl⟩ := hrel
          have HLS : Hid (d.data.toList = (d.extract 0 (d.size - 1)).data.toList ++ [d[d.size - 1]'(by omega)]) := Sp.last_split d hd1
          obtain ⟨c, HC⟩ : ∃ c : UInt8, Hid (d[d.size - 1]'(by omega) = c) := ⟨_, show _ = _ from rfl⟩
          have hx : ∀ W, (Instr.index 9 (.string d) (.int .i64 ((d.size : Int) - 1))).run Tryz.prog W = .ok (.int .u8 (c.toNat : Int)) W := fun W => by
            have := run_index_string (P := Tryz.prog) W 9 d .i64 ((d.size : Int) - 1) Tryz.undSd
            rw [dif_pos ⟨by omega, by omega⟩] at this
            refine this.trans ?_
            rw [← HC.out]
            congr 5
            omega
          by_cases c48 : c = 48
          · have HT2 : Hid (Sp.trim (d.extract 0 (d.size - 1)).data.toList = T) := by
              show _ = _
              rw [← HT.out, HLS.out, HC.out, c48, Sp.trim_snoc0]
            have HZ2 : Hid ((d.extract 0 (d.size - 1)).size = d.size - 1) := by show _ = _; rw [ByteArray.size_extract]; omega
            have HM2 : Hid (1 ≤ d.size - 1) := by
              show _ ≤ _
              by_cases c1 : 1 ≤ d.size - 1
              · exact c1
              · exfalso
                apply HTn.out
                rw [← HT2.out]
                have e0 : (d.extract 0 (d.size - 1)).data.toList = [] := List.eq_nil_of_length_eq_zero (by rw [Array.length_toList]; exact HZ2.out.trans (by omega))
                rw [e0]; rfl
            have e48 : ((c.toNat : Int) == 48) = true := by rw [c48]; rfl
            clear c48
            go_wp2_with fail
            refine ⟨⟨_, rfl, ?_, ?_, HT2, trivial⟩, ?_⟩
            · rw [HZ2.out]; exact HM2.out
            · rw [HZ2.out]; omega
            · show (d.extract 0 (d.size - 1)).size < d.size
              rw [HZ2.out]; omega
          · have HTd : Hid (d.data.toList = T) := by
              show _ = _
              rw [← HT.out, HLS.out, HC.out, Sp.trim_snoc _ _ c48]
            have n48 : ((c.toNat : Int) == 48) = false := by simpa using u8_ne c48
            have HF' : Hid (Sp.fracT m = 46 :: d.data.toList) := by show _ = _; rw [HF.out, HTd.out]
            clear c48
            go_wp2_with fail
            refine (HDec.out _ _ (by omega)).mono ?_
            rintro e w3 ⟨rfl, hb3⟩
            have HB3 : Hid (Below w.heap.size w w3) := below_to HB1.out hb3
            clear hb3
            go_wp2_with fail
            go_ret
            refine ⟨ret_str ?_, HB3.out⟩
            rw [HX.out, HXT.out, HS.out, HF'.out, HA.out]
            apply ByteArray.ext
            simp


/-- a float's text, as the document has it -/
theorem rFloat_any (f : Nat) (w : World) (hf : f < 18446744073709551616) : Calls Tryz.prog 13 #[.float .f64 f] w (FltE f w) := by
  by_cases h1 : Sp.fexp f = 2047
  · by_cases h2 : Sp.fman f = 0
    · exact rFloat_inf f w hf h1 h2
    · exact rFloat_nan f w hf h1 h2
  · by_cases h2 : Sp.fexp f = 0
    · by_cases h3 : Sp.fman f = 0
      · exact rFloat_zero f w hf h2 h3
      · cases hn : Sp.fneg f with
        | true => exact rFloat_lowm f w hf h2 h3 hn
        | false => exact rFloat_lowp f w hf h2 h3 hn
    · by_cases h3 : Sp.fman f = 0
      · cases hn : Sp.fneg f with
        | true => exact rFloat_intm f w hf h1 h2 h3 hn
        | false => exact rFloat_intp f w hf h1 h2 h3 hn
      · cases hn : Sp.fneg f with
        | true => exact rFloat_fracm f w hf h1 h2 h3 hn
        | false => exact rFloat_fracp f w hf h1 h2 h3 hn
end Go.Proofs.YtnndlffidifddaaGreatDoor

/- text.appendQuoted and Quote. -/
namespace Go.Proofs.YtnndlffidifddaaGreatDoor
open Go.RowKit

set_option maxRecDepth 100000 in
set_option maxHeartbeats 2000000 in
theorem appendQuoted_any (s : ByteArray) (xs : List UInt8) (a : Option Addr) (m cap base : Nat) (w : World) (h : Byts w base a m cap xs) (hb : base ≤ w.heap.size) (hl : m + 4 * s.size + 2 ≤ 17592186044416) :
    Calls Tryz.prog 22 #[.slice a m cap, .string s] w (AppK base xs (Sp.quote s) w) := by
  obtain ⟨i0, hi, hz0, hz1, hz2⟩ := info_parts Tryz.infoB
  have HO : Hid (Byts w base a m cap xs) := h
  clear h
  go_enter Tryz.func22, Tryz.ntmps22
  go_wp2_with (at_builtin; refine wpList_app _ rfl _ _ 23 rfl base 5 i0 (.int .u8 0) 1 1 Tryz.undB hi hz0 hz1 hz2 rfl (by decide) _ m (Sp.u8c (xs)) rfl (HO.out.2.alloc _) ⟨w.heap.size, 0, none⟩ 1 1 (Sp.u8c [34]) rfl rfl (bytes_new w [34] rfl rfl) (u8c_one _) (by decide) (by unfold maxLen; omega) (by omega) (by have := hb; simp; omega) ?_; intro g1 p1 w1 hown hgrow hor; have HB1 : Hid (Kp base w w1) := ((Kp.refl base w).alloc hb _).grown hgrow (by have := hb; simp; omega) (HO.out.2.alloc _); have HN1 : Hid (Byts w1 base (some ⟨g1, 0, none⟩) (m + 1) p1 (xs ++ [34])) := ⟨by rw [List.length_append, ← HO.out.1]; rfl, by rw [u8c_app]; exact hown⟩; clear hown hgrow hor)
  go_loopw [0, 11] (fun u i wr => ∃ (k m' : Nat) (a' : Option Addr) (p' : Nat), k ≤ s.size ∧ i = .int .i64 (k : Int) ∧ u = .slice a' m' p' ∧ m' ≤ m + 1 + 4 * k ∧ Hid (Byts wr base a' m' p' (xs ++ [34] ++ Sp.escs s k)) ∧ Hid (Kp base w wr)) (fun _ i _ => s.size - (intOf i).toNat)
  case atStart => exact ⟨0, m + 1, _, p1, by omega, rfl, rfl, by omega, (by show Byts _ _ _ _ _ _; simpa [Sp.escs] using HN1.out), HB1⟩
  case round =>
    obtain ⟨k, m', a', p', hk, rfl, rfl, hm, HN, HB⟩ := hrel
    have HZ : Hid (base ≤ wr.heap.size) := Nat.le_trans hb HB.out.size
    by_cases hlt : k < s.size
    · have HC : Hid (Calls Tryz.prog 39 #[.slice a' m' p', .int .u8 (s[k].toNat : Int)] wr (AppK base (xs ++ [34] ++ Sp.escs s k) (Sp.esc s[k]) wr)) := by
        have := appendEscaped_any s[k] (xs ++ [34] ++ Sp.escs s k) a' p' base wr (by rw [← HN.out.1]; exact HN.out) HZ.out (by rw [← HN.out.1]; omega)
        rw [← HN.out.1] at this
        exact this
      have HE : Hid (xs ++ [34] ++ Sp.escs s (k + 1) = xs ++ [34] ++ Sp.escs s k ++ Sp.esc s[k]) := by show _ = _; rw [Sp.escs_succ s k hlt, List.append_assoc]; simp
      have HL : Hid ((Sp.esc s[k]).length ≤ 4) := Sp.esc_len _
      go_wp2_with fail
      refine HC.out.mono ?_
      rintro e w2 ⟨a2, p2, rfl, hn2, hb2⟩
      have HN2 : Hid (Byts w2 base a2 (m' + (Sp.esc s[k]).length) p2 (xs ++ [34] ++ Sp.escs s (k + 1))) := by
        show Byts _ _ _ _ _ _
        rw [← HN.out.1] at hn2
        rw [HE.out]; exact hn2
      have HB2 : Hid (Kp base w w2) := HB.out.trans hb2
      rw [← HN.out.1]
      clear hn2 hb2
      have hl4 := HL.out
      generalize (Sp.esc s[k]).length = q at HN2 hl4 ⊢
      go_wp2_with fail
      go_roundw
      case rel => exact ⟨k + 1, m' + q, a2, p2, by omega, by go_num, rfl, by omega, HN2, HB2⟩
      case measure => simp [intOf]; omega
    · have HE : Hid (xs ++ [34] ++ Sp.escs s k ++ [34] = xs ++ Sp.quote s) := by show _ = _; rw [show k = s.size by omega, Sp.quote]; simp
      go_wp2_with (at_builtin; refine wpList_app _ rfl _ _ 23 rfl base 5 i0 (.int .u8 0) 1 1 Tryz.undB hi hz0 hz1 hz2 rfl (by decide) _ m' (Sp.u8c (xs ++ [34] ++ Sp.escs s k)) rfl (HN.out.2.alloc _) ⟨wr.heap.size, 0, none⟩ 1 1 (Sp.u8c [34]) rfl rfl (bytes_new wr [34] rfl rfl) (u8c_one _) (by decide) (by unfold maxLen; omega) (by omega) (by have := HZ.out; simp; omega) ?_; intro g5 p5 w5 hown hgrow hor; have HB5 : Hid (Kp base w w5) := (HB.out.alloc HZ.out _).grown hgrow (by have := HZ.out; simp; omega) (HN.out.2.alloc _); have HN5 : Hid (Byts w5 base (some ⟨g5, 0, none⟩) (m' + 1) p5 (xs ++ [34] ++ Sp.escs s k ++ [34])) := ⟨by rw [List.length_append, ← HN.out.1]; rfl, by rw [u8c_app]; exact hown⟩; clear hown hgrow hor)
      go_ret
      have e5 : m' + 1 = xs.length + (Sp.quote s).length := by
        have := HN5.out.1
        rw [HE.out, List.length_append] at this
        exact this
      refine ⟨some ⟨g5, 0, none⟩, p5, ?_, ?_, HB5.out⟩
      · rw [← e5]; rfl
      · rw [← e5, ← HE.out]; exact HN5.out

set_option maxRecDepth 100000 in
set_option maxHeartbeats 1000000 in
theorem Quote_any (s : ByteArray) (w : World) (hl : s.size ≤ 1099511627776) :
    Calls Tryz.prog 10 #[.string s] w fun e w' => e = .returned (.string ⟨(Sp.quote s).toArray⟩) ∧ Below w.heap.size w w' := by
  have HC : Hid (Calls Tryz.prog 22 #[.slice none 0 0, .string s] w (AppK w.heap.size [] (Sp.quote s) w)) := appendQuoted_any s [] none 0 0 w.heap.size w ⟨rfl, rfl, .inl ⟨rfl, rfl⟩⟩ (Nat.le_refl _) (by omega)
  go_enter Tryz.func10, Tryz.ntmps10
  go_wp2_with fail
  refine HC.out.mono ?_
  rintro e w1 ⟨a1, p1, rfl, hn, hb1⟩
  have HB1 : Hid (Below w.heap.size w w1) := hb1.below
  have hcv := hn.conv (Below.refl _ _)
  clear hn hb1
  generalize ([] : List UInt8).length + (Sp.quote s).length = q at hcv ⊢
  go_wp2_with fail
  go_ret
  exact ⟨rfl, HB1.out⟩
end Go.Proofs.YtnndlffidifddaaGreatDoor


/- tenonref02.Float: of floats with a fraction. -/
import Derived.Test.YtnndlffidifddaaGreatDoorK13
import Derived.Test.YtnndlffidifddaaGreatDoorK10
namespace Go.Proofs.YtnndlffidifddaaGreatDoor
open Go.RowKit

theorem Sp.dropW {p : UInt8 → Bool} : ∀ (l : List UInt8), l.dropWhile p = [] → ∀ x ∈ l, p x = true
  | [], _, x, hx => by simp at hx
  | y :: l, h, x, hx => by
    by_cases c : p y = true
    · rw [List.dropWhile_cons_of_pos c] at h
      rcases List.mem_cons.1 hx with rfl | hx
      · exact c
      · exact Sp.dropW l h x hx
    · rw [List.dropWhile_cons_of_neg c] at h
      simp at h
theorem Sp.nought : ∀ (c n : Nat), n < 16 ^ c → (∀ i, i < c → n / 16 ^ i % 16 = 0) → n = 0
  | 0, n, h, _ => by simp at h; omega
  | c + 1, n, h, hz => by
    have h1 := hz c (by omega)
    have h2 : n / 16 ^ c < 16 := by rw [Nat.div_lt_iff_lt_mul (Nat.pow_pos (by decide)), Nat.mul_comm]; rw [Nat.pow_succ] at h; exact h
    have h3 : n / 16 ^ c = 0 := by generalize n / 16 ^ c = q at h1 h2; omega
    have h4 : n < 16 ^ c := by
      rcases Nat.div_eq_zero_iff.1 h3 with h5 | h5
      · exact absurd h5 (Nat.ne_of_gt (Nat.pow_pos (by decide)))
      · exact h5
    exact Sp.nought c n h4 (fun i hi => hz i (by omega))
/-- a fraction that is none has a digit that is none -/
theorem Sp.trim_ne {m : Nat} (h0 : m ≠ 0) (h : m < 4503599627370496) : Sp.trim (Sp.hexN m 13) ≠ [] := by
  intro e
  apply h0
  refine Sp.nought 13 m (by omega) (fun i hi => ?_)
  have e' : (Sp.hexN m 13).reverse.dropWhile (· == 48) = [] := by
    have := congrArg List.reverse e
    simpa [Sp.trim] using this
  have hall := Sp.dropW _ e'
  have hat := Sp.hexN_at m 13 (12 - i) (by omega)
  have hmem := List.mem_of_getElem? hat
  have h48 := hall _ (List.mem_reverse.2 hmem)
  have := (Sp.hexd_zero (Nat.mod_lt _ (by decide))).1 (by simpa using h48)
  rw [show 13 - 1 - (12 - i) = i by omega] at this
  exact this
/-- a text's last byte -/
theorem Sp.last_split (d : ByteArray) (h : 1 ≤ d.size) : d.data.toList = (d.extract 0 (d.size - 1)).data.toList ++ [d[d.size - 1]'(by omega)] := by
  have hl : d.data.toList.length = d.size := by rw [Array.length_toList]; rfl
  have e1 : (d.extract 0 (d.size - 1)).data.toList = d.data.toList.take (d.size - 1) := by
    rw [ByteArray.data_extract]
    simp [List.dropLast_eq_take]
  rw [e1]
  have e2 : d.data.toList = d.data.toList.take (d.size - 1 + 1) := by rw [List.take_of_length_le (by omega)]
  conv => lhs; rw [e2, List.take_succ_eq_append_getElem (by omega)]
  congr 2
def vsz : Value → Nat | .string d => d.size | _ => 0

set_option maxRecDepth 100000 in
set_option maxHeartbeats 2000000 in
theorem rFloat_fracp (f : Nat) (w : World) (hf : f < 18446744073709551616) (h1 : Sp.fexp f ≠ 2047) (h2 : Sp.fexp f ≠ 0) (h3 : Sp.fman f ≠ 0) (hn : Sp.fneg f = false) :
    Calls Tryz.prog 13 #[.float .f64 f] w (FltE f w) := by
  obtain ⟨hE, hM, hG⟩ := Sp.fparts f hf
  have hb := fbits_run f
  have HX : Hid (Sp.floatT f = Sp.signT f ++ [48, 120, 49] ++ Sp.fracT (Sp.fman f) ++ [112] ++ Sp.expT ((Sp.fexp f : Int) - 1023)) := by show _ = _; unfold Sp.floatT; rw [if_neg h1, if_neg h2]
  have hlt := Sp.fexp_lt f
  have d1 : ((Sp.fexp f : Int) == 2047) = false := by simp; omega
  have d2 : ((Sp.fexp f : Int) == 0) = false := by simp; omega
  rw [hn] at hG
  clear h1 h2
  generalize Sp.fexp f = n at *
  obtain ⟨u, HU⟩ : ∃ u : Nat, Hid (((n : Int) - 1023).natAbs = u) := ⟨_, rfl⟩
  obtain ⟨A, hA, HA⟩ : ∃ A : ByteArray, A.size ≤ 20 ∧ Hid (A = ⟨(Lib.decDigits u).toArray⟩) := ⟨_, by
    show (Lib.decDigits u).toArray.size ≤ 20
    rw [List.size_toArray, Lib.decDigits_length]; exact Lib.nDigits_le20 _ (by have := HU.out; omega), rfl⟩
  have HDec : Hid (∀ (z : Int) (W : World), z = (u : Int) → Calls Tryz.prog 29 #[.int .u64 z] W fun e w' => e = .returned (.string A) ∧ Below W.heap.size W w') := fun z W hz => by rw [HA.out, hz]; exact Dec_any (u + 1) u W (by omega) (by have := HU.out; omega)
  have hmlt := Sp.fman_lt f
  have hm0 : (0 : Int) < (Sp.fman f : Int) := by omega
  obtain ⟨T, HTe⟩ : ∃ T, Hid (Sp.trim (Sp.hexN (Sp.fman f) 13) = T) := ⟨_, rfl⟩
  have HF : Hid (Sp.fracT (Sp.fman f) = 46 :: T) := by show _ = _; unfold Sp.fracT; rw [if_neg h3, HTe.out]
  have HTn : Hid (T ≠ []) := by show _ ≠ _; rw [← HTe.out]; exact Sp.trim_ne h3 hmlt
  clear h3
  generalize Sp.fman f = m at *
  obtain ⟨D, hD, HDe⟩ : ∃ D : ByteArray, D.size = 13 ∧ Hid (D = ⟨(Sp.hexN m 13).toArray⟩) := ⟨_, by show (Sp.hexN m 13).toArray.size = 13; rw [List.size_toArray, Sp.hexN_len], rfl⟩
  have HDT : Hid (Sp.trim D.data.toList = T) := by show _ = _; rw [HDe.out, ofL, HTe.out]
  have HDg : Hid (∀ W, Calls Tryz.prog 28 #[.int .u64 (m : Int), .int .i64 13] W fun e w' => e = .returned (.string D) ∧ Below W.heap.size W w') := fun W => by rw [HDe.out]; exact digits_any m 13 W (by omega) (by omega)
  have hG1 : (f : Int) / 9223372036854775808 = 0 := hG
  have HS : Hid (Sp.signT f = []) := by show _ = _; rw [Sp.signT, hn]; rfl
  clear hG hn
  go_enter Tryz.func13, Tryz.ntmps13
  go_wp2_with fail
  refine (HDg.out _).mono ?_
  rintro e w1 ⟨rfl, hb1⟩
  have HB1 : Hid (Below w.heap.size w w1) := hb1
  clear hb1
  go_wp2_with fail
  go_loopw [8] (fun v wr => ∃ d : ByteArray, v = .string d ∧ 1 ≤ d.size ∧ d.size ≤ 13 ∧ Hid (Sp.trim d.data.toList = T) ∧ w1 = wr) (fun v _ => vsz v)
  case atStart => exact ⟨D, rfl, by omega, by omega, HDT, rfl⟩
  case round =>
    obtain ⟨d, rfl, hd1, hd2, HT, rfl⟩ := hrel
    have HLS : Hid (d.data.toList = (d.extract 0 (d.size - 1)).data.toList ++ [d[d.size - 1]'(by omega)]) := Sp.last_split d hd1
    obtain ⟨c, HC⟩ : ∃ c : UInt8, Hid (d[d.size - 1]'(by omega) = c) := ⟨_, show _ = _ from rfl⟩
    have hx : ∀ W, (Instr.index 9 (.string d) (.int .i64 ((d.size : Int) - 1))).run Tryz.prog W = .ok (.int .u8 (c.toNat : Int)) W := fun W => by
      have := run_index_string (P := Tryz.prog) W 9 d .i64 ((d.size : Int) - 1) Tryz.undSd
      rw [dif_pos ⟨by omega, by omega⟩] at this
      refine this.trans ?_
      rw [← HC.out]
      congr 5
      omega
    by_cases c48 : c = 48
    · have HT2 : Hid (Sp.trim (d.extract 0 (d.size - 1)).data.toList = T) := by
        show _ = _
        rw [← HT.out, HLS.out, HC.out, c48, Sp.trim_snoc0]
      have HZ2 : Hid ((d.extract 0 (d.size - 1)).size = d.size - 1) := by show _ = _; rw [ByteArray.size_extract]; omega
      have HM2 : Hid (1 ≤ d.size - 1) := by
        show _ ≤ _
        by_cases c1 : 1 ≤ d.size - 1
        · exact c1
        · exfalso
          apply HTn.out
          rw [← HT2.out]
          have e0 : (d.extract 0 (d.size - 1)).data.toList = [] := List.eq_nil_of_length_eq_zero (by rw [Array.length_toList]; exact HZ2.out.trans (by omega))
          rw [e0]; rfl
      have e48 : ((c.toNat : Int) == 48) = true := by rw [c48]; rfl
      clear c48
      go_wp2_with fail
      refine ⟨⟨_, rfl, ?_, ?_, HT2, trivial⟩, ?_⟩
      · rw [HZ2.out]; exact HM2.out
      · rw [HZ2.out]; omega
      · show (d.extract 0 (d.size - 1)).size < d.size
        rw [HZ2.out]; omega
    · have HTd : Hid (d.data.toList = T) := by
        show _ = _
        rw [← HT.out, HLS.out, HC.out, Sp.trim_snoc _ _ c48]
      have n48 : ((c.toNat : Int) == 48) = false := by simpa using u8_ne c48
      have HF' : Hid (Sp.fracT m = 46 :: d.data.toList) := by show _ = _; rw [HF.out, HTd.out]
      clear c48
      by_cases c1 : ((n : Int) - 1023) < 0
      · by_cases c2 : -((n : Int) - 1023) < 10
        · have HXT : Hid (Sp.expT ((n : Int) - 1023) = 45 :: 48 :: Lib.decDigits u) := by show _ = _; unfold Sp.expT; rw [if_pos c1, if_pos (by omega), HU.out]; rfl
          have hu := HU.out
          go_wp2_with fail
          refine (HDec.out _ _ (by omega)).mono ?_
          rintro e w3 ⟨rfl, hb3⟩
          have HB3 : Hid (Below w.heap.size w w3) := below_to HB1.out hb3
          clear hb3
          go_wp2_with fail
          go_ret
          refine ⟨ret_str ?_, HB3.out⟩
          rw [HX.out, HXT.out, HS.out, HF'.out, HA.out]
          apply ByteArray.ext
          simp
        · have HXT : Hid (Sp.expT ((n : Int) - 1023) = 45 :: Lib.decDigits u) := by show _ = _; unfold Sp.expT; rw [if_pos c1, if_neg (by omega), HU.out]; rfl
          have hu := HU.out
          go_wp2_with fail
          refine (HDec.out _ _ (by omega)).mono ?_
          rintro e w3 ⟨rfl, hb3⟩
          have HB3 : Hid (Below w.heap.size w w3) := below_to HB1.out hb3
          clear hb3
          go_wp2_with fail
          go_ret
          refine ⟨ret_str ?_, HB3.out⟩
          rw [HX.out, HXT.out, HS.out, HF'.out, HA.out]
          apply ByteArray.ext
          simp
      · by_cases c2 : ((n : Int) - 1023) < 10
        · have HXT : Hid (Sp.expT ((n : Int) - 1023) = 43 :: 48 :: Lib.decDigits u) := by show _ = _; unfold Sp.expT; rw [if_neg c1, if_pos (by omega), HU.out]; rfl
          have hu := HU.out
          go_wp2_with fail
          refine (HDec.out _ _ (by omega)).mono ?_
          rintro e w3 ⟨rfl, hb3⟩
          have HB3 : Hid (Below w.heap.size w w3) := below_to HB1.out hb3
          clear hb3
          go_wp2_with fail
          go_ret
          refine ⟨ret_str ?_, HB3.out⟩
          rw [HX.out, HXT.out, HS.out, HF'.out, HA.out]
          apply ByteArray.ext
          simp
        · have HXT : Hid (Sp.expT ((n : Int) - 1023) = 43 :: Lib.decDigits u) := by show _ = _; unfold Sp.expT; rw [if_neg c1, if_neg (by omega), HU.out]; rfl
          have hu := HU.out
          go_wp2_with fail
          refine (HDec.out _ _ (by omega)).mono ?_
          rintro e w3 ⟨rfl, hb3⟩
          have HB3 : Hid (Below w.heap.size w w3) := below_to HB1.out hb3
          clear hb3
          go_wp2_with fail
          go_ret
          refine ⟨ret_str ?_, HB3.out⟩
          rw [HX.out, HXT.out, HS.out, HF'.out, HA.out]
          apply ByteArray.ext
          simp


set_option maxRecDepth 100000 in
set_option maxHeartbeats 2000000 in
theorem rFloat_fracm (f : Nat) (w : World) (hf : f < 18446744073709551616) (h1 : Sp.fexp f ≠ 2047) (h2 : Sp.fexp f ≠ 0) (h3 : Sp.fman f ≠ 0) (hn : Sp.fneg f = true) :
    Calls Tryz.prog 13 #[.float .f64 f] w (FltE f w) := by
  obtain ⟨hE, hM, hG⟩ := Sp.fparts f hf
  have hb := fbits_run f
  have HX : Hid (Sp.floatT f = Sp.signT f ++ [48, 120, 49] ++ Sp.fracT (Sp.fman f) ++ [112] ++ Sp.expT ((Sp.fexp f : Int) - 1023)) := by show _ = _; unfold Sp.floatT; rw [if_neg h1, if_neg h2]
  have hlt := Sp.fexp_lt f
  have d1 : ((Sp.fexp f : Int) == 2047) = false := by simp; omega
  have d2 : ((Sp.fexp f : Int) == 0) = false := by simp; omega
  rw [hn] at hG
  clear h1 h2
  generalize Sp.fexp f = n at *
  obtain ⟨u, HU⟩ : ∃ u : Nat, Hid (((n : Int) - 1023).natAbs = u) := ⟨_, rfl⟩
  obtain ⟨A, hA, HA⟩ : ∃ A : ByteArray, A.size ≤ 20 ∧ Hid (A = ⟨(Lib.decDigits u).toArray⟩) := ⟨_, by
    show (Lib.decDigits u).toArray.size ≤ 20
    rw [List.size_toArray, Lib.decDigits_length]; exact Lib.nDigits_le20 _ (by have := HU.out; omega), rfl⟩
  have HDec : Hid (∀ (z : Int) (W : World), z = (u : Int) → Calls Tryz.prog 29 #[.int .u64 z] W fun e w' => e = .returned (.string A) ∧ Below W.heap.size W w') := fun z W hz => by rw [HA.out, hz]; exact Dec_any (u + 1) u W (by omega) (by have := HU.out; omega)
  have hmlt := Sp.fman_lt f
  have hm0 : (0 : Int) < (Sp.fman f : Int) := by omega
  obtain ⟨T, HTe⟩ : ∃ T, Hid (Sp.trim (Sp.hexN (Sp.fman f) 13) = T) := ⟨_, rfl⟩
  have HF : Hid (Sp.fracT (Sp.fman f) = 46 :: T) := by show _ = _; unfold Sp.fracT; rw [if_neg h3, HTe.out]
  have HTn : Hid (T ≠ []) := by show _ ≠ _; rw [← HTe.out]; exact Sp.trim_ne h3 hmlt
  clear h3
  generalize Sp.fman f = m at *
  obtain ⟨D, hD, HDe⟩ : ∃ D : ByteArray, D.size = 13 ∧ Hid (D = ⟨(Sp.hexN m 13).toArray⟩) := ⟨_, by show (Sp.hexN m 13).toArray.size = 13; rw [List.size_toArray, Sp.hexN_len], rfl⟩
  have HDT : Hid (Sp.trim D.data.toList = T) := by show _ = _; rw [HDe.out, ofL, HTe.out]
  have HDg : Hid (∀ W, Calls Tryz.prog 28 #[.int .u64 (m : Int), .int .i64 13] W fun e w' => e = .returned (.string D) ∧ Below W.heap.size W w') := fun W => by rw [HDe.out]; exact digits_any m 13 W (by omega) (by omega)
  have hG1 : (f : Int) / 9223372036854775808 = 1 := hG
  have HS : Hid (Sp.signT f = [45]) := by show _ = _; rw [Sp.signT, hn]; rfl
  clear hG hn
  go_enter Tryz.func13, Tryz.ntmps13
  go_wp2_with fail
  refine (HDg.out _).mono ?_
  rintro e w1 ⟨rfl, hb1⟩
  have HB1 : Hid (Below w.heap.size w w1) := hb1
  clear hb1
  go_wp2_with fail
  go_loopw [8] (fun v wr => ∃ d : ByteArray, v = .string d ∧ 1 ≤ d.size ∧ d.size ≤ 13 ∧ Hid (Sp.trim d.data.toList = T) ∧ w1 = wr) (fun v _ => vsz v)
  case atStart => exact ⟨D, rfl, by omega, by omega, HDT, rfl⟩
  case round =>
    obtain ⟨d, rfl, hd1, hd2, HT, rfl⟩ := hrel
    have HLS : Hid (d.data.toList = (d.extract 0 (d.size - 1)).data.toList ++ [d[d.size - 1]'(by omega)]) := Sp.last_split d hd1
    obtain ⟨c, HC⟩ : ∃ c : UInt8, Hid (d[d.size - 1]'(by omega) = c) := ⟨_, show _ = _ from rfl⟩
    have hx : ∀ W, (Instr.index 9 (.string d) (.int .i64 ((d.size : Int) - 1))).run Tryz.prog W = .ok (.int .u8 (c.toNat : Int)) W := fun W => by
      have := run_index_string (P := Tryz.prog) W 9 d .i64 ((d.size : Int) - 1) Tryz.undSd
      rw [dif_pos ⟨by omega, by omega⟩] at this
      refine this.trans ?_
      rw [← HC.out]
      congr 5
      omega
    by_cases c48 : c = 48
    · have HT2 : Hid (Sp.trim (d.extract 0 (d.size - 1)).data.toList = T) := by
        show _ = _
        rw [← HT.out, HLS.out, HC.out, c48, Sp.trim_snoc0]
      have HZ2 : Hid ((d.extract 0 (d.size - 1)).size = d.size - 1) := by show _ = _; rw [ByteArray.size_extract]; omega
      have HM2 : Hid (1 ≤ d.size - 1) := by
        show _ ≤ _
        by_cases c1 : 1 ≤ d.size - 1
        · exact c1
        · exfalso
          apply HTn.out
          rw [← HT2.out]
          have e0 : (d.extract 0 (d.size - 1)).data.toList = [] := List.eq_nil_of_length_eq_zero (by rw [Array.length_toList]; exact HZ2.out.trans (by omega))
          rw [e0]; rfl
      have e48 : ((c.toNat : Int) == 48) = true := by rw [c48]; rfl
      clear c48
      go_wp2_with fail
      refine ⟨⟨_, rfl, ?_, ?_, HT2, trivial⟩, ?_⟩
      · rw [HZ2.out]; exact HM2.out
      · rw [HZ2.out]; omega
      · show (d.extract 0 (d.size - 1)).size < d.size
        rw [HZ2.out]; omega
    · have HTd : Hid (d.data.toList = T) := by
        show _ = _
        rw [← HT.out, HLS.out, HC.out, Sp.trim_snoc _ _ c48]
      have n48 : ((c.toNat : Int) == 48) = false := by simpa using u8_ne c48
      have HF' : Hid (Sp.fracT m = 46 :: d.data.toList) := by show _ = _; rw [HF.out, HTd.out]
      clear c48
      by_cases c1 : ((n : Int) - 1023) < 0
      · by_cases c2 : -((n : Int) - 1023) < 10
        · have HXT : Hid (Sp.expT ((n : Int) - 1023) = 45 :: 48 :: Lib.decDigits u) := by show _ = _; unfold Sp.expT; rw [if_pos c1, if_pos (by omega), HU.out]; rfl
          have hu := HU.out
          go_wp2_with fail
          refine (HDec.out _ _ (by omega)).mono ?_
          rintro e w3 ⟨rfl, hb3⟩
          have HB3 : Hid (Below w.heap.size w w3) := below_to HB1.out hb3
          clear hb3
          go_wp2_with fail
          go_ret
          refine ⟨ret_str ?_, HB3.out⟩
          rw [HX.out, HXT.out, HS.out, HF'.out, HA.out]
          apply ByteArray.ext
          simp
        · have HXT : Hid (Sp.expT ((n : Int) - 1023) = 45 :: Lib.decDigits u) := by show _ = _; unfold Sp.expT; rw [if_pos c1, if_neg (by omega), HU.out]; rfl
          have hu := HU.out
          go_wp2_with fail
          refine (HDec.out _ _ (by omega)).mono ?_
          rintro e w3 ⟨rfl, hb3⟩
          have HB3 : Hid (Below w.heap.size w w3) := below_to HB1.out hb3
          clear hb3
          go_wp2_with fail
          go_ret
          refine ⟨ret_str ?_, HB3.out⟩
          rw [HX.out, HXT.out, HS.out, HF'.out, HA.out]
          apply ByteArray.ext
          simp
      · by_cases c2 : ((n : Int) - 1023) < 10
        · have HXT : Hid (Sp.expT ((n : Int) - 1023) = 43 :: 48 :: Lib.decDigits u) := by show _ = _; unfold Sp.expT; rw [if_neg c1, if_pos (by omega), HU.out]; rfl
          have hu := HU.out
          go_wp2_with fail
          refine (HDec.out _ _ (by omega)).mono ?_
          rintro e w3 ⟨rfl, hb3⟩
          have HB3 : Hid (Below w.heap.size w w3) := below_to HB1.out hb3
          clear hb3
          go_wp2_with fail
          go_ret
          refine ⟨ret_str ?_, HB3.out⟩
          rw [HX.out, HXT.out, HS.out, HF'.out, HA.out]
          apply ByteArray.ext
          simp
        · have HXT : Hid (Sp.expT ((n : Int) - 1023) = 43 :: Lib.decDigits u) := by show _ = _; unfold Sp.expT; rw [if_neg c1, if_neg (by omega), HU.out]; rfl
          have hu := HU.out
          go_wp2_with fail
          refine (HDec.out _ _ (by omega)).mono ?_
          rintro e w3 ⟨rfl, hb3⟩
          have HB3 : Hid (Below w.heap.size w w3) := below_to HB1.out hb3
          clear hb3
          go_wp2_with fail
          go_ret
          refine ⟨ret_str ?_, HB3.out⟩
          rw [HX.out, HXT.out, HS.out, HF'.out, HA.out]
          apply ByteArray.ext
          simp

end Go.Proofs.YtnndlffidifddaaGreatDoor

/- tenonref02.Float: of floats below the least whose first digit is 1; and of every float. -/
namespace Go.Proofs.YtnndlffidifddaaGreatDoor
open Go.RowKit

set_option maxRecDepth 100000 in
set_option maxHeartbeats 2000000 in
theorem rFloat_lowp (f : Nat) (w : World) (hf : f < 18446744073709551616) (h1 : Sp.fexp f = 0) (h2 : Sp.fman f ≠ 0) (hn : Sp.fneg f = false) :
    Calls Tryz.prog 13 #[.float .f64 f] w (FltE f w) := by
  obtain ⟨hE, hM, hG⟩ := Sp.fparts f hf
  have hb := fbits_run f
  have hmlt := Sp.fman_lt f
  have hup := Sp.up_bd h2 hmlt
  obtain ⟨p, HP⟩ : ∃ p, Hid (Sp.up (Sp.fman f) = p) := ⟨_, show _ = _ from rfl⟩
  rw [HP.out] at hup
  obtain ⟨hu1, hu2, hu3, hu4⟩ := hup
  obtain ⟨m, HR⟩ : ∃ m : Nat, Hid (Sp.fman f * 2 ^ p = 4503599627370496 + m) := ⟨Sp.fman f * 2 ^ p - 4503599627370496, by show _ = _; omega⟩
  have hr1 : m < 4503599627370496 := by have := HR.out; omega
  have HX : Hid (Sp.floatT f = Sp.signT f ++ [48, 120, 49] ++ Sp.fracT m ++ [112] ++ Sp.expT (-1022 - (p : Int))) := by
    show _ = _
    unfold Sp.floatT
    rw [if_neg (by omega), if_pos h1, if_neg h2, HP.out, HR.out, show 4503599627370496 + m - 2 ^ 52 = m by omega]
  have HU4 : Hid (∀ c, c < p → Sp.fman f * 2 ^ c < 4503599627370496) := hu4
  have d3 : ((Sp.fman f : Int) == 0) = false := by simp; omega
  have HPW : Hid (∀ c, Sp.fman f * 2 ^ (c + 1) = Sp.fman f * 2 ^ c * 2) := fun c => by rw [Nat.pow_succ, Nat.mul_assoc]
  rw [h1] at hE
  rw [hn] at hG
  clear h1 h2 hu4 hu1 hu2 HP
  obtain ⟨m0, HM0⟩ : ∃ m0 : Nat, Hid (Sp.fman f = m0) := ⟨_, show _ = _ from rfl⟩
  rw [HM0.out] at hM hmlt HR HU4 d3 HPW
  clear HM0
  obtain ⟨u, HU⟩ : ∃ u : Nat, Hid (1022 + p = u) := ⟨_, show _ = _ from rfl⟩
  obtain ⟨A, hA, HA⟩ : ∃ A : ByteArray, A.size ≤ 20 ∧ Hid (A = ⟨(Lib.decDigits u).toArray⟩) := ⟨_, by
    show (Lib.decDigits u).toArray.size ≤ 20
    rw [List.size_toArray, Lib.decDigits_length]; exact Lib.nDigits_le20 _ (by have := HU.out; omega), rfl⟩
  have HDec : Hid (∀ (z : Int) (W : World), z = (u : Int) → Calls Tryz.prog 29 #[.int .u64 z] W fun e w' => e = .returned (.string A) ∧ Below W.heap.size W w') := fun z W hz => by rw [HA.out, hz]; exact Dec_any (u + 1) u W (by omega) (by have := HU.out; omega)
  have HXT : Hid (Sp.expT (-1022 - (p : Int)) = 45 :: Lib.decDigits u) := by
    show _ = _
    unfold Sp.expT
    rw [if_pos (by omega), if_neg (by omega), show (-1022 - (p : Int)).natAbs = u by have := HU.out; omega]; rfl
  have hu := HU.out
  have hG1 : (f : Int) / 9223372036854775808 = 0 := hG
  have HS : Hid (Sp.signT f = []) := by show _ = _; rw [Sp.signT, hn]; rfl
  clear hG hn
  by_cases h3 : m = 0
  · have HF : Hid (Sp.fracT m = []) := by show _ = _; rw [h3]; rfl
    have hm0 : ¬ (0 : Int) < (m : Int) := by omega
    clear h3
    go_enter Tryz.func13, Tryz.ntmps13
    go_wp2_with fail
    go_loopw [5, 6] (fun ev mv wr => ∃ c : Nat, c ≤ p ∧ ev = .int .i64 (1 - (c : Int)) ∧ mv = .int .u64 ((m0 * 2 ^ c : Nat) : Int) ∧ w = wr) (fun ev _ _ => (intOf ev + 60).toNat)
    case atStart => exact ⟨0, by omega, rfl, (by rw [Nat.pow_zero, Nat.mul_one]; first | done | rw [hM]), rfl⟩
    case round =>
      obtain ⟨c, hc, rfl, rfl, rfl⟩ := hrel
      by_cases hlt : c < p
      · have hq := HU4.out c hlt
        have HLT : Hid (c + 1 ≤ p) := hlt
        have hnx := HPW.out c
        generalize m0 * 2 ^ c = q at hq hnx ⊢
        have HNX : Hid (m0 * 2 ^ (c + 1) = q * 2) := hnx
        have hqI : (q : Int) < 4503599627370496 := by omega
        have hq0 : (0 : Int) ≤ (q : Int) := by omega
        have HC : Hid (c ≤ p) := hc
        have hc52 : (c : Int) ≤ 52 := by omega
        clear hnx hq hmlt hr1 hu3 hlt hc
        go_wp2_with fail
        refine ⟨⟨c + 1, HLT.out, ?_, ?_, trivial⟩, ?_⟩
        · exact congrArg (Value.int .i64) (by omega)
        · rw [HNX.out]; exact congrArg (Value.int .u64) (by omega)
        · simp [intOf]; omega
      · obtain rfl : c = p := by omega
        have hq := HR.out
        generalize m0 * 2 ^ c = q0 at hq ⊢
        obtain ⟨q, hqq⟩ : ∃ q : Int, (q0 : Int) = q := ⟨_, rfl⟩
        rw [hqq]
        have hq1 : ¬ q < 4503599627370496 := by omega
        have hq2 : q - 4503599627370496 = (m : Int) := by omega
        have hq3 : q < 9007199254740992 := by omega
        have hq4 : 4503599627370496 ≤ q := by omega
        clear hqq
        have hc52 : (c : Int) ≤ 52 := by omega
        have hmI : (m : Int) < 4503599627370496 := by omega
        clear hlt hq hmlt hr1 hc hu3
        iterate 44 (first | go_step | go_simp)
        clear hq1 hq2 hq3 hq4 hmI
        go_wp2_with fail
        refine (HDec.out _ _ (by omega)).mono ?_
        rintro e w3 ⟨rfl, hb3⟩
        have HB3 : Hid (Below w.heap.size w w3) := hb3
        clear hb3
        go_wp2_with fail
        go_ret
        refine ⟨ret_str ?_, HB3.out⟩
        rw [HX.out, HXT.out, HS.out, HF.out, HA.out]
        apply ByteArray.ext
        simp
  · have hm0 : (0 : Int) < (m : Int) := by omega
    obtain ⟨T, HTe⟩ : ∃ T, Hid (Sp.trim (Sp.hexN m 13) = T) := ⟨_, rfl⟩
    have HF : Hid (Sp.fracT m = 46 :: T) := by show _ = _; unfold Sp.fracT; rw [if_neg h3, HTe.out]
    have HTn : Hid (T ≠ []) := by show _ ≠ _; rw [← HTe.out]; exact Sp.trim_ne h3 hr1
    clear h3
    obtain ⟨D, hD, HDe⟩ : ∃ D : ByteArray, D.size = 13 ∧ Hid (D = ⟨(Sp.hexN m 13).toArray⟩) := ⟨_, by show (Sp.hexN m 13).toArray.size = 13; rw [List.size_toArray, Sp.hexN_len], rfl⟩
    have HDT : Hid (Sp.trim D.data.toList = T) := by show _ = _; rw [HDe.out, ofL, HTe.out]
    have HDg : Hid (∀ W, Calls Tryz.prog 28 #[.int .u64 (m : Int), .int .i64 13] W fun e w' => e = .returned (.string D) ∧ Below W.heap.size W w') := fun W => by rw [HDe.out]; exact digits_any m 13 W (by omega) (by omega)
    go_enter Tryz.func13, Tryz.ntmps13
    go_wp2_with fail
    go_loopw [5, 6] (fun ev mv wr => ∃ c : Nat, c ≤ p ∧ ev = .int .i64 (1 - (c : Int)) ∧ mv = .int .u64 ((m0 * 2 ^ c : Nat) : Int) ∧ w = wr) (fun ev _ _ => (intOf ev + 60).toNat)
    case atStart => exact ⟨0, by omega, rfl, (by rw [Nat.pow_zero, Nat.mul_one]; first | done | rw [hM]), rfl⟩
    case round =>
      obtain ⟨c, hc, rfl, rfl, rfl⟩ := hrel
      by_cases hlt : c < p
      · have hq := HU4.out c hlt
        have HLT : Hid (c + 1 ≤ p) := hlt
        have hnx := HPW.out c
        generalize m0 * 2 ^ c = q at hq hnx ⊢
        have HNX : Hid (m0 * 2 ^ (c + 1) = q * 2) := hnx
        have hqI : (q : Int) < 4503599627370496 := by omega
        have hq0 : (0 : Int) ≤ (q : Int) := by omega
        have HC : Hid (c ≤ p) := hc
        have hc52 : (c : Int) ≤ 52 := by omega
        clear hnx hq hmlt hr1 hu3 hlt hc
        go_wp2_with fail
        refine ⟨⟨c + 1, HLT.out, ?_, ?_, trivial⟩, ?_⟩
        · exact congrArg (Value.int .i64) (by omega)
        · rw [HNX.out]; exact congrArg (Value.int .u64) (by omega)
        · simp [intOf]; omega
      · obtain rfl : c = p := by omega
        have hq := HR.out
        generalize m0 * 2 ^ c = q0 at hq ⊢
        obtain ⟨q, hqq⟩ : ∃ q : Int, (q0 : Int) = q := ⟨_, rfl⟩
        rw [hqq]
        have hq1 : ¬ q < 4503599627370496 := by omega
        have hq2 : q - 4503599627370496 = (m : Int) := by omega
        have hq3 : q < 9007199254740992 := by omega
        have hq4 : 4503599627370496 ≤ q := by omega
        clear hqq
        have hc52 : (c : Int) ≤ 52 := by omega
        have hmI : (m : Int) < 4503599627370496 := by omega
        clear hlt hq hmlt hr1 hc hu3
        iterate 44 (first | go_step | go_simp)
        clear hq1 hq2 hq3 hq4 hmI
        go_wp2_with fail
        refine (HDg.out _).mono ?_
        rintro e w1 ⟨rfl, hb1⟩
        have HB1 : Hid (Below w.heap.size w w1) := hb1
        clear hb1
        go_wp2_with fail
        go_loopw [8] (fun v wr => ∃ d : ByteArray, v = .string d ∧ 1 ≤ d.size ∧ d.size ≤ 13 ∧ Hid (Sp.trim d.data.toList = T) ∧ w1 = wr) (fun v _ => vsz v)
        case atStart => exact ⟨D, rfl, by omega, by omega, HDT, rfl⟩
        case round =>
          obtain ⟨d, rfl, hd1, hd2, HT, rfl⟩ := hrel
          have HLS : Hid (d.data.toList = (d.extract 0 (d.size - 1)).data.toList ++ [d[d.size - 1]'(by omega)]) := Sp.last_split d hd1
          obtain ⟨c, HC⟩ : ∃ c : UInt8, Hid (d[d.size - 1]'(by omega) = c) := ⟨_, show _ = _ from rfl⟩
          have hx : ∀ W, (Instr.index 9 (.string d) (.int .i64 ((d.size : Int) - 1))).run Tryz.prog W = .ok (.int .u8 (c.toNat : Int)) W := fun W => by
            have := run_index_string (P := Tryz.prog) W 9 d .i64 ((d.size : Int) - 1) Tryz.undSd
            rw [dif_pos ⟨by omega, by omega⟩] at this
            refine this.trans ?_
            rw [← HC.out]
            congr 5
            omega
          by_cases c48 : c = 48
          · have HT2 : Hid (Sp.trim (d.extract 0 (d.size - 1)).data.toList = T) := by
              show _ = _
              rw [← HT.out, HLS.out, HC.out, c48, Sp.trim_snoc0]
            have HZ2 : Hid ((d.extract 0 (d.size - 1)).size = d.size - 1) := by show _ = _; rw [ByteArray.size_extract]; omega
            have HM2 : Hid (1 ≤ d.size - 1) := by
              show _ ≤ _
              by_cases c1 : 1 ≤ d.size - 1
              · exact c1
              · exfalso
                apply HTn.out
                rw [← HT2.out]
                have e0 : (d.extract 0 (d.size - 1)).data.toList = [] := List.eq_nil_of_length_eq_zero (by rw [Array.length_toList]; exact HZ2.out.trans (by omega))
                rw [e0]; rfl
            have e48 : ((c.toNat : Int) == 48) = true := by rw [c48]; rfl
            clear c48
            go_wp2_with fail
            refine ⟨⟨_, rfl, ?_, ?_, HT2, trivial⟩, ?_⟩
            · rw [HZ2.out]; exact HM2.out
            · rw [HZ2.out]; omega
            · show (d.extract 0 (d.size - 1)).size < d.size
              rw [HZ2.out]; omega
          · have HTd : Hid (d.data.toList = T) := by
              show _ = _
              rw [← HT.out, HLS.out, HC.out, Sp.trim_snoc _ _ c48]
            have n48 : ((c.toNat : Int) == 48) = false := by simpa using u8_ne c48
            have HF' : Hid (Sp.fracT m = 46 :: d.data.toList) := by show _ = _; rw [HF.out, HTd.out]
            clear c48
            go_wp2_with fail
            refine (HDec.out _ _ (by omega)).mono ?_
            rintro e w3 ⟨rfl, hb3⟩
            have HB3 : Hid (Below w.heap.size w w3) := below_to HB1.out hb3
            clear hb3
            go_wp2_with fail
            go_ret
            refine ⟨ret_str ?_, HB3.out⟩
            rw [HX.out, HXT.out, HS.out, HF'.out, HA.out]
            apply ByteArray.ext
            simp


set_option maxRecDepth 100000 in
set_option maxHeartbeats 2000000 in
theorem rFloat_lowm (f : Nat) (w : World) (hf : f < 18446744073709551616) (h1 : Sp.fexp f = 0) (h2 : Sp.fman f ≠ 0) (hn : Sp.fneg f = true) :
    Calls Tryz.prog 13 #[.float .f64 f] w (FltE f w) := by
  obtain ⟨hE, hM, hG⟩ := Sp.fparts f hf
  have hb := fbits_run f
  have hmlt := Sp.fman_lt f
  have hup := Sp.up_bd h2 hmlt
  obtain ⟨p, HP⟩ : ∃ p, Hid (Sp.up (Sp.fman f) = p) := ⟨_, show _ = _ from rfl⟩
  rw [HP.out] at hup
  obtain ⟨hu1, hu2, hu3, hu4⟩ := hup
  obtain ⟨m, HR⟩ : ∃ m : Nat, Hid (Sp.fman f * 2 ^ p = 4503599627370496 + m) := ⟨Sp.fman f * 2 ^ p - 4503599627370496, by show _ = _; omega⟩
  have hr1 : m < 4503599627370496 := by have := HR.out; omega
  have HX : Hid (Sp.floatT f = Sp.signT f ++ [48, 120, 49] ++ Sp.fracT m ++ [112] ++ Sp.expT (-1022 - (p : Int))) := by
    show _ = _
    unfold Sp.floatT
    rw [if_neg (by omega), if_pos h1, if_neg h2, HP.out, HR.out, show 4503599627370496 + m - 2 ^ 52 = m by omega]
  have HU4 : Hid (∀ c, c < p → Sp.fman f * 2 ^ c < 4503599627370496) := hu4
  have d3 : ((Sp.fman f : Int) == 0) = false := by simp; omega
  have HPW : Hid (∀ c, Sp.fman f * 2 ^ (c + 1) = Sp.fman f * 2 ^ c * 2) := fun c => by rw [Nat.pow_succ, Nat.mul_assoc]
  rw [h1] at hE
  rw [hn] at hG
  clear h1 h2 hu4 hu1 hu2 HP
  obtain ⟨m0, HM0⟩ : ∃ m0 : Nat, Hid (Sp.fman f = m0) := ⟨_, show _ = _ from rfl⟩
  rw [HM0.out] at hM hmlt HR HU4 d3 HPW
  clear HM0
  obtain ⟨u, HU⟩ : ∃ u : Nat, Hid (1022 + p = u) := ⟨_, show _ = _ from rfl⟩
  obtain ⟨A, hA, HA⟩ : ∃ A : ByteArray, A.size ≤ 20 ∧ Hid (A = ⟨(Lib.decDigits u).toArray⟩) := ⟨_, by
    show (Lib.decDigits u).toArray.size ≤ 20
    rw [List.size_toArray, Lib.decDigits_length]; exact Lib.nDigits_le20 _ (by have := HU.out; omega), rfl⟩
  have HDec : Hid (∀ (z : Int) (W : World), z = (u : Int) → Calls Tryz.prog 29 #[.int .u64 z] W fun e w' => e = .returned (.string A) ∧ Below W.heap.size W w') := fun z W hz => by rw [HA.out, hz]; exact Dec_any (u + 1) u W (by omega) (by have := HU.out; omega)
  have HXT : Hid (Sp.expT (-1022 - (p : Int)) = 45 :: Lib.decDigits u) := by
    show _ = _
    unfold Sp.expT
    rw [if_pos (by omega), if_neg (by omega), show (-1022 - (p : Int)).natAbs = u by have := HU.out; omega]; rfl
  have hu := HU.out
  have hG1 : (f : Int) / 9223372036854775808 = 1 := hG
  have HS : Hid (Sp.signT f = [45]) := by show _ = _; rw [Sp.signT, hn]; rfl
  clear hG hn
  by_cases h3 : m = 0
  · have HF : Hid (Sp.fracT m = []) := by show _ = _; rw [h3]; rfl
    have hm0 : ¬ (0 : Int) < (m : Int) := by omega
    clear h3
    go_enter Tryz.func13, Tryz.ntmps13
    go_wp2_with fail
    go_loopw [5, 6] (fun ev mv wr => ∃ c : Nat, c ≤ p ∧ ev = .int .i64 (1 - (c : Int)) ∧ mv = .int .u64 ((m0 * 2 ^ c : Nat) : Int) ∧ w = wr) (fun ev _ _ => (intOf ev + 60).toNat)
    case atStart => exact ⟨0, by omega, rfl, (by rw [Nat.pow_zero, Nat.mul_one]; first | done | rw [hM]), rfl⟩
    case round =>
      obtain ⟨c, hc, rfl, rfl, rfl⟩ := hrel
      by_cases hlt : c < p
      · have hq := HU4.out c hlt
        have HLT : Hid (c + 1 ≤ p) := hlt
        have hnx := HPW.out c
        generalize m0 * 2 ^ c = q at hq hnx ⊢
        have HNX : Hid (m0 * 2 ^ (c + 1) = q * 2) := hnx
        have hqI : (q : Int) < 4503599627370496 := by omega
        have hq0 : (0 : Int) ≤ (q : Int) := by omega
        have HC : Hid (c ≤ p) := hc
        have hc52 : (c : Int) ≤ 52 := by omega
        clear hnx hq hmlt hr1 hu3 hlt hc
        go_wp2_with fail
        refine ⟨⟨c + 1, HLT.out, ?_, ?_, trivial⟩, ?_⟩
        · exact congrArg (Value.int .i64) (by omega)
        · rw [HNX.out]; exact congrArg (Value.int .u64) (by omega)
        · simp [intOf]; omega
      · obtain rfl : c = p := by omega
        have hq := HR.out
        generalize m0 * 2 ^ c = q0 at hq ⊢
        obtain ⟨q, hqq⟩ : ∃ q : Int, (q0 : Int) = q := ⟨_, rfl⟩
        rw [hqq]
        have hq1 : ¬ q < 4503599627370496 := by omega
        have hq2 : q - 4503599627370496 = (m : Int) := by omega
        have hq3 : q < 9007199254740992 := by omega
        have hq4 : 4503599627370496 ≤ q := by omega
        clear hqq
        have hc52 : (c : Int) ≤ 52 := by omega
        have hmI : (m : Int) < 4503599627370496 := by omega
        clear hlt hq hmlt hr1 hc hu3
        iterate 44 (first | go_step | go_simp)
        clear hq1 hq2 hq3 hq4 hmI
        go_wp2_with fail
        refine (HDec.out _ _ (by omega)).mono ?_
        rintro e w3 ⟨rfl, hb3⟩
        have HB3 : Hid (Below w.heap.size w w3) := hb3
        clear hb3
        go_wp2_with fail
        go_ret
        refine ⟨ret_str ?_, HB3.out⟩
        rw [HX.out, HXT.out, HS.out, HF.out, HA.out]
        apply ByteArray.ext
        simp
  · have hm0 : (0 : Int) < (m : Int) := by omega
    obtain ⟨T, HTe⟩ : ∃ T, Hid (Sp.trim (Sp.hexN m 13) = T) := ⟨_, rfl⟩
    have HF : Hid (Sp.fracT m = 46 :: T) := by show _ = _; unfold Sp.fracT; rw [if_neg h3, HTe.out]
    have HTn : Hid (T ≠ []) := by show _ ≠ _; rw [← HTe.out]; exact Sp.trim_ne h3 hr1
    clear h3
    obtain ⟨D, hD, HDe⟩ : ∃ D : ByteArray, D.size = 13 ∧ Hid (D = ⟨(Sp.hexN m 13).toArray⟩) := ⟨_, by show (Sp.hexN m 13).toArray.size = 13; rw [List.size_toArray, Sp.hexN_len], rfl⟩
    have HDT : Hid (Sp.trim D.data.toList = T) := by show _ = _; rw [HDe.out, ofL, HTe.out]
    have HDg : Hid (∀ W, Calls Tryz.prog 28 #[.int .u64 (m : Int), .int .i64 13] W fun e w' => e = .returned (.string D) ∧ Below W.heap.size W w') := fun W => by rw [HDe.out]; exact digits_any m 13 W (by omega) (by omega)
    go_enter Tryz.func13, Tryz.ntmps13
    go_wp2_with fail
    go_loopw [5, 6] (fun ev mv wr => ∃ c : Nat, c ≤ p ∧ ev = .int .i64 (1 - (c : Int)) ∧ mv = .int .u64 ((m0 * 2 ^ c : Nat) : Int) ∧ w = wr) (fun ev _ _ => (intOf ev + 60).toNat)
    case atStart => exact ⟨0, by omega, rfl, (by rw [Nat.pow_zero, Nat.mul_one]; first | done | rw [hM]), rfl⟩
    case round =>
      obtain ⟨c, hc, rfl, rfl, rfl⟩ := hrel
      by_cases hlt : c < p
      · have hq := HU4.out c hlt
        have HLT : Hid (c + 1 ≤ p) := hlt
        have hnx := HPW.out c
        generalize m0 * 2 ^ c = q at hq hnx ⊢
        have HNX : Hid (m0 * 2 ^ (c + 1) = q * 2) := hnx
        have hqI : (q : Int) < 4503599627370496 := by omega
        have hq0 : (0 : Int) ≤ (q : Int) := by omega
        have HC : Hid (c ≤ p) := hc
        have hc52 : (c : Int) ≤ 52 := by omega
        clear hnx hq hmlt hr1 hu3 hlt hc
        go_wp2_with fail
        refine ⟨⟨c + 1, HLT.out, ?_, ?_, trivial⟩, ?_⟩
        · exact congrArg (Value.int .i64) (by omega)
        · rw [HNX.out]; exact congrArg (Value.int .u64) (by omega)
        · simp [intOf]; omega
      · obtain rfl : c = p := by omega
        have hq := HR.out
        generalize m0 * 2 ^ c = q0 at hq ⊢
        obtain ⟨q, hqq⟩ : ∃ q : Int, (q0 : Int) = q := ⟨_, rfl⟩
        rw [hqq]
        have hq1 : ¬ q < 4503599627370496 := by omega
        have hq2 : q - 4503599627370496 = (m : Int) := by omega
        have hq3 : q < 9007199254740992 := by omega
        have hq4 : 4503599627370496 ≤ q := by omega
        clear hqq
        have hc52 : (c : Int) ≤ 52 := by omega
        have hmI : (m : Int) < 4503599627370496 := by omega
        clear hlt hq hmlt hr1 hc hu3
        iterate 44 (first | go_step | go_simp)
        clear hq1 hq2 hq3 hq4 hmI
        go_wp2_with fail
        refine (HDg.out _).mono ?_
        rintro e w1 ⟨rfl, hb1⟩
        have HB1 : Hid (Below w.heap.size w w1) := hb1
        clear hb1
        go_wp2_with fail
        go_loopw [8] (fun v wr => ∃ d : ByteArray, v = .string d ∧ 1 ≤ d.size ∧ d.size ≤ 13 ∧ Hid (Sp.trim d.data.toList = T) ∧ w1 = wr) (fun v _ => vsz v)
        case atStart => exact ⟨D, rfl, by omega, by omega, HDT, rfl⟩
        case round =>
          obtain ⟨d, rfl, hd1, hd2, HT, rfl⟩ := hrel
          have HLS : Hid (d.data.toList = (d.extract 0 (d.size - 1)).data.toList ++ [d[d.size - 1]'(by omega)]) := Sp.last_split d hd1
          obtain ⟨c, HC⟩ : ∃ c : UInt8, Hid (d[d.size - 1]'(by omega) = c) := ⟨_, show _ = _ from rfl⟩
          have hx : ∀ W, (Instr.index 9 (.string d) (.int .i64 ((d.size : Int) - 1))).run Tryz.prog W = .ok (.int .u8 (c.toNat : Int)) W := fun W => by
            have := run_index_string (P := Tryz.prog) W 9 d .i64 ((d.size : Int) - 1) Tryz.undSd
            rw [dif_pos ⟨by omega, by omega⟩] at this
            refine this.trans ?_
            rw [← HC.out]
            congr 5
            omega
          by_cases c48 : c = 48
          · have HT2 : Hid (Sp.trim (d.extract 0 (d.size - 1)).data.toList = T) := by
              show _ = _
              rw [← HT.out, HLS.out, HC.out, c48, Sp.trim_snoc0]
            have HZ2 : Hid ((d.extract 0 (d.size - 1)).size = d.size - 1) := by show _ = _; rw [ByteArray.size_extract]; omega
            have HM2 : Hid (1 ≤ d.size - 1) := by
              show _ ≤ _
              by_cases c1 : 1 ≤ d.size - 1
              · exact c1
              · exfalso
                apply HTn.out
                rw [← HT2.out]
                have e0 : (d.extract 0 (d.size - 1)).data.toList = [] := List.eq_nil_of_length_eq_zero (by rw [Array.length_toList]; exact HZ2.out.trans (by omega))
                rw [e0]; rfl
            have e48 : ((c.toNat : Int) == 48) = true := by rw [c48]; rfl
            clear c48
            go_wp2_with fail
            refine ⟨⟨_, rfl, ?_, ?_, HT2, trivial⟩, ?_⟩
            · rw [HZ2.out]; exact HM2.out
            · rw [HZ2.out]; omega
            · show (d.extract 0 (d.size - 1)).size < d.size
              rw [HZ2.out]; omega
          · have HTd : Hid (d.data.toList = T) := by
              show _ = _
              rw [← HT.out, HLS.out, HC.out, Sp.trim_snoc _ _ c48]
            have n48 : ((c.toNat : Int) == 48) = false := by simpa using u8_ne c48
            have HF' : Hid (Sp.fracT m = 46 :: d.data.toList) := by show _ = _; rw [HF.out, HTd.out]
            clear c48
            go_wp2_with fail
            refine (HDec.out _ _ (by omega)).mono ?_
            rintro e w3 ⟨rfl, hb3⟩
            have HB3 : Hid (Below w.heap.size w w3) := below_to HB1.out hb3
            clear hb3
            go_wp2_with fail
            go_ret
            refine ⟨ret_str ?_, HB3.out⟩
            rw [HX.out, HXT.out, HS.out, HF'.out, HA.out]
            apply ByteArray.ext
            simp


/-- a float's text, as the document has it -/
theorem rFloat_any (f : Nat) (w : World) (hf : f < 18446744073709551616) : Calls Tryz.prog 13 #[.float .f64 f] w (FltE f w) := by
  by_cases h1 : Sp.fexp f = 2047
  · by_cases h2 : Sp.fman f = 0
    · exact rFloat_inf f w hf h1 h2
    · exact rFloat_nan f w hf h1 h2
  · by_cases h2 : Sp.fexp f = 0
    · by_cases h3 : Sp.fman f = 0
      · exact rFloat_zero f w hf h2 h3
      · cases hn : Sp.fneg f with
        | true => exact rFloat_lowm f w hf h2 h3 hn
        | false => exact rFloat_lowp f w hf h2 h3 hn
    · by_cases h3 : Sp.fman f = 0
      · cases hn : Sp.fneg f with
        | true => exact rFloat_intm f w hf h1 h2 h3 hn
        | false => exact rFloat_intp f w hf h1 h2 h3 hn
      · cases hn : Sp.fneg f with
        | true => exact rFloat_fracm f w hf h1 h2 h3 hn
        | false => exact rFloat_fracp f w hf h1 h2 h3 hn
end Go.Proofs.YtnndlffidifddaaGreatDoor


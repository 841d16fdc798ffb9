/- text.isPlain and appendEscaped. -/
import Derived.Test.YtnndlffidifddaaGreatDoorK7
import Derived.Test.YtnndlffidifddaaGreatDoorK8
namespace Go.Proofs.YtnndlffidifddaaGreatDoor
open Go.RowKit

def Sp.plain (c : Int) : Bool := decide (32 ≤ c ∧ c ≤ 126)
set_option maxHeartbeats 400000 in
theorem isPlain_any (c : Int) (w : World) (_h0 : 0 ≤ c) (_h1 : c ≤ 255) :
    Calls Tryz.prog 57 #[.int .u8 c] w fun e w' => e = .returned (.bool (Sp.plain c)) ∧ w = w' := by
  by_cases ha : 32 ≤ c
  · by_cases hb : c ≤ 126
    · go_enter Tryz.func57, Tryz.ntmps57
      go_wp2
      go_ret
      exact ⟨by simp [Sp.plain, ha, hb], rfl⟩
    · go_enter Tryz.func57, Tryz.ntmps57
      go_wp2
      go_ret
      exact ⟨by simp [Sp.plain]; omega, rfl⟩
  · go_enter Tryz.func57, Tryz.ntmps57
    go_wp2
    go_ret
    exact ⟨by simp [Sp.plain]; omega, rfl⟩

theorem u8_ne {c d : UInt8} (h : c ≠ d) : (c.toNat : Int) ≠ (d.toNat : Int) := fun e => h (UInt8.toNat_inj.1 (by omega))

set_option maxRecDepth 100000 in
set_option maxHeartbeats 2000000 in
theorem appendEscaped_any (c : UInt8) (xs : List UInt8) (a : Option Addr) (cap base : Nat) (w : World) (h : Byts w base a xs.length cap xs) (hb : base ≤ w.heap.size) (hl : xs.length ≤ 35184372088832) :
    Calls Tryz.prog 39 #[.slice a xs.length cap, .int .u8 (c.toNat : Int)] w (AppK base xs (Sp.esc c) w) := by
  obtain ⟨i0, hi, hz0, hz1, hz2⟩ := info_parts Tryz.infoB
  have HO : Hid (w.ownsRow base 5 1 (.slice a xs.length cap) xs.length (Sp.u8c xs)) := h.2
  have hc := c.toNat_lt
  by_cases c1 : c = 34
  · subst c1
    rw [show Sp.esc 34 = [92, 34] from rfl, show ((34 : UInt8).toNat : Int) = 34 from rfl]
    go_enter Tryz.func39, Tryz.ntmps39
    go_wp2_with (at_builtin; refine wpList_app _ rfl _ _ 23 rfl base 5 i0 (.int .u8 0) 1 1 Tryz.undB hi hz0 hz1 hz2 rfl (by decide) _ xs.length (Sp.u8c xs) rfl (HO.out.alloc _) ⟨w.heap.size, 0, none⟩ 2 2 (Sp.u8c [92, 34]) rfl rfl (bytes_new w [92, 34] rfl rfl) (u8c_one _) (by decide) (by unfold maxLen; omega) (by omega) (by simp; omega) ?_; intro g' cap' w3 hown hgrow hor; have HB3 : Hid (Kp base w w3) := ((Kp.refl base w).alloc hb _).grown hgrow (by simp; omega) (HO.out.alloc _); have HN3 : Hid (Byts w3 base (some ⟨g', 0, none⟩) (xs.length + 2) cap' (xs ++ [92, 34])) := ⟨by simp, by rw [u8c_app]; exact hown⟩; clear hown hgrow hor)
    go_ret
    exact ⟨_, cap', rfl, HN3.out, HB3.out⟩
  · by_cases c2 : c = 92
    · subst c2
      rw [show Sp.esc 92 = [92, 92] from rfl, show ((92 : UInt8).toNat : Int) = 92 from rfl]
      go_enter Tryz.func39, Tryz.ntmps39
      go_wp2_with (at_builtin; refine wpList_app _ rfl _ _ 23 rfl base 5 i0 (.int .u8 0) 1 1 Tryz.undB hi hz0 hz1 hz2 rfl (by decide) _ xs.length (Sp.u8c xs) rfl (HO.out.alloc _) ⟨w.heap.size, 0, none⟩ 2 2 (Sp.u8c [92, 92]) rfl rfl (bytes_new w [92, 92] rfl rfl) (u8c_one _) (by decide) (by unfold maxLen; omega) (by omega) (by simp; omega) ?_; intro g' cap' w3 hown hgrow hor; have HB3 : Hid (Kp base w w3) := ((Kp.refl base w).alloc hb _).grown hgrow (by simp; omega) (HO.out.alloc _); have HN3 : Hid (Byts w3 base (some ⟨g', 0, none⟩) (xs.length + 2) cap' (xs ++ [92, 92])) := ⟨by simp, by rw [u8c_app]; exact hown⟩; clear hown hgrow hor)
      go_ret
      exact ⟨_, cap', rfl, HN3.out, HB3.out⟩
    · by_cases c3 : c = 10
      · subst c3
        rw [show Sp.esc 10 = [92, 110] from rfl, show ((10 : UInt8).toNat : Int) = 10 from rfl]
        go_enter Tryz.func39, Tryz.ntmps39
        go_wp2_with (at_builtin; refine Lib.wpList_append_own_string _ rfl _ _ 23 9 rfl base 5 i0 Tryz.undB Tryz.undSd hi hz0 hz1 hz2 _ _ _ rfl HO.out ⟨#[92, 110]⟩ rfl (by unfold maxLen; show xs.length + 2 ≤ _; omega) (by show xs.length + 2 ≤ _; omega) hb ?_; intro v3 w3 hown hgrow hor; obtain ⟨a3, cap', rfl⟩ := own_slice_n hown; have HB3 : Hid (Kp base w w3) := (Kp.refl base w).grown hgrow hb HO.out; have HN3 : Hid (Byts w3 base a3 (xs.length + 2) cap' (xs ++ [92, 110])) := ⟨by simp, by rw [u8c_app]; exact hown⟩; clear hown hgrow hor)
        go_ret
        exact ⟨_, cap', rfl, HN3.out, HB3.out⟩
      · by_cases c4 : c = 9
        · subst c4
          rw [show Sp.esc 9 = [92, 116] from rfl, show ((9 : UInt8).toNat : Int) = 9 from rfl]
          go_enter Tryz.func39, Tryz.ntmps39
          go_wp2_with (at_builtin; refine Lib.wpList_append_own_string _ rfl _ _ 23 9 rfl base 5 i0 Tryz.undB Tryz.undSd hi hz0 hz1 hz2 _ _ _ rfl HO.out ⟨#[92, 116]⟩ rfl (by unfold maxLen; show xs.length + 2 ≤ _; omega) (by show xs.length + 2 ≤ _; omega) hb ?_; intro v3 w3 hown hgrow hor; obtain ⟨a3, cap', rfl⟩ := own_slice_n hown; have HB3 : Hid (Kp base w w3) := (Kp.refl base w).grown hgrow hb HO.out; have HN3 : Hid (Byts w3 base a3 (xs.length + 2) cap' (xs ++ [92, 116])) := ⟨by simp, by rw [u8c_app]; exact hown⟩; clear hown hgrow hor)
          go_ret
          exact ⟨_, cap', rfl, HN3.out, HB3.out⟩
        · by_cases c5 : c = 13
          · subst c5
            rw [show Sp.esc 13 = [92, 114] from rfl, show ((13 : UInt8).toNat : Int) = 13 from rfl]
            go_enter Tryz.func39, Tryz.ntmps39
            go_wp2_with (at_builtin; refine Lib.wpList_append_own_string _ rfl _ _ 23 9 rfl base 5 i0 Tryz.undB Tryz.undSd hi hz0 hz1 hz2 _ _ _ rfl HO.out ⟨#[92, 114]⟩ rfl (by unfold maxLen; show xs.length + 2 ≤ _; omega) (by show xs.length + 2 ≤ _; omega) hb ?_; intro v3 w3 hown hgrow hor; obtain ⟨a3, cap', rfl⟩ := own_slice_n hown; have HB3 : Hid (Kp base w w3) := (Kp.refl base w).grown hgrow hb HO.out; have HN3 : Hid (Byts w3 base a3 (xs.length + 2) cap' (xs ++ [92, 114])) := ⟨by simp, by rw [u8c_app]; exact hown⟩; clear hown hgrow hor)
            go_ret
            exact ⟨_, cap', rfl, HN3.out, HB3.out⟩
          · have d1 : ((c.toNat : Int) == 34) = false := by simpa using u8_ne c1
            have d2 : ((c.toNat : Int) == 92) = false := by simpa using u8_ne c2
            have d3 : ((c.toNat : Int) == 10) = false := by simpa using u8_ne c3
            have d4 : ((c.toNat : Int) == 9) = false := by simpa using u8_ne c4
            have d5 : ((c.toNat : Int) == 13) = false := by simpa using u8_ne c5
            by_cases c6 : c.toNat < 32 ∨ 126 < c.toNat
            · have HE : Hid (Sp.esc c = [92, 120] ++ [Sp.hexd (c.toNat / 16), Sp.hexd (c.toNat % 16)]) := by
                show _ = _
                rw [Sp.esc, if_neg (by simp [c1, c2]), if_neg c3, if_neg c4, if_neg c5, if_pos c6]; rfl
              have hp : Sp.plain (c.toNat : Int) = false := by simp [Sp.plain]; omega
              have HAB : Hid (∀ (a1 : Option Addr) (p1 : Nat) (W : World), Byts W base a1 (xs.length + 2) p1 (xs ++ [92, 120]) → base ≤ W.heap.size → Calls Tryz.prog 58 #[.slice a1 (xs.length + 2) p1, .int .u8 (c.toNat : Int)] W (AppK base (xs ++ [92, 120]) [Sp.hexd (c.toNat / 16), Sp.hexd (c.toNat % 16)] W)) := fun a1 p1 W hW hBW => by
                have := appendByte_any c.toNat (by omega) (xs ++ [92, 120]) a1 p1 base W (by simpa using hW) hBW (by simp; omega)
                simpa using this
              clear c1 c2 c3 c4 c5 c6
              go_enter Tryz.func39, Tryz.ntmps39
              go_wp2_with (first | (go_at_call 57; refine (isPlain_any _ _ (by omega) (by omega)).mono ?_; rintro e w' ⟨rfl, rfl⟩) | (at_builtin; refine Lib.wpList_append_own_string _ rfl _ _ 23 9 rfl base 5 i0 Tryz.undB Tryz.undSd hi hz0 hz1 hz2 _ _ _ rfl HO.out ⟨#[92, 120]⟩ rfl (by unfold maxLen; show xs.length + 2 ≤ _; omega) (by show xs.length + 2 ≤ _; omega) hb ?_; intro v3 w3 hown hgrow hor; obtain ⟨a3, cap', rfl⟩ := own_slice_n hown; have HB3 : Hid (Kp base w w3) := (Kp.refl base w).grown hgrow hb HO.out; have HN3 : Hid (Byts w3 base a3 (xs.length + 2) cap' (xs ++ [92, 120])) := ⟨by simp, by rw [u8c_app]; exact hown⟩; clear hown hgrow hor))
              refine (HAB.out _ _ _ HN3.out (Nat.le_trans hb HB3.out.size)).mono ?_
              rintro e w4 ⟨a4, p4, rfl, hn4, hb4⟩
              have HN4 : Hid (Byts w4 base a4 (xs.length + 4) p4 (xs ++ [92, 120] ++ [Sp.hexd (c.toNat / 16), Sp.hexd (c.toNat % 16)])) := by
                show Byts _ _ _ _ _ _
                have e4 : (xs ++ [92, 120]).length + [Sp.hexd (c.toNat / 16), Sp.hexd (c.toNat % 16)].length = xs.length + 4 := by simp
                rw [e4] at hn4; exact hn4
              have HB4 : Hid (Kp base w w4) := HB3.out.trans hb4
              clear hn4 hb4
              go_wp2_with fail
              go_ret
              refine ⟨a4, p4, ?_, ?_, HB4.out⟩
              · rw [HE.out]; simp
              · rw [HE.out]
                have e4 : xs.length + ([92, 120] ++ [Sp.hexd (c.toNat / 16), Sp.hexd (c.toNat % 16)]).length = xs.length + 4 := by simp
                rw [e4, ← List.append_assoc]; exact HN4.out
            · have HE : Hid (Sp.esc c = [c]) := by
                show _ = _
                rw [Sp.esc, if_neg (by simp [c1, c2]), if_neg c3, if_neg c4, if_neg c5, if_neg c6]
              have hp : Sp.plain (c.toNat : Int) = true := by simp [Sp.plain]; omega
              clear c1 c2 c3 c4 c5 c6
              rw [HE.out]
              go_enter Tryz.func39, Tryz.ntmps39
              go_wp2_with (first | (go_at_call 57; refine (isPlain_any _ _ (by omega) (by omega)).mono ?_; rintro e w' ⟨rfl, rfl⟩) | (at_builtin; refine wpList_app _ rfl _ _ 23 rfl base 5 i0 (.int .u8 0) 1 1 Tryz.undB hi hz0 hz1 hz2 rfl (by decide) _ xs.length (Sp.u8c xs) rfl (HO.out.alloc _) ⟨w.heap.size, 0, none⟩ 1 1 (Sp.u8c [c]) rfl rfl (bytes_new w [c] rfl rfl) (u8c_one _) (by decide) (by unfold maxLen; omega) (by omega) (by simp; omega) ?_; intro g' cap' w3 hown hgrow hor; have HB3 : Hid (Kp base w w3) := ((Kp.refl base w).alloc hb _).grown hgrow (by simp; omega) (HO.out.alloc _); have HN3 : Hid (Byts w3 base (some ⟨g', 0, none⟩) (xs.length + 1) cap' (xs ++ [c])) := ⟨by simp, by rw [u8c_app]; exact hown⟩; clear hown hgrow hor))
              go_ret
              exact ⟨_, cap', rfl, HN3.out, HB3.out⟩
end Go.Proofs.YtnndlffidifddaaGreatDoor

/- tenonref02.Float: of floats with a fraction. -/
namespace Go.Proofs.YtnndlffidifddaaGreatDoor
open Go.RowKit

theorem Sp.dropW {p : UInt8 → Bool} : ∀ (l : List UInt8), l.dropWhile p = [] → ∀ x ∈ l, p x = true
  | [], _, x, hx => by simp at hx
  | y :: l, h, x, hx => by
    by_cases c : p y = true
    · rw [List.dropWhile_cons_of_pos c] at h
      rcases List.mem_cons.1 hx with rfl | hx
      · exact c
      · exact Sp.dropW l h x hx
    · rw [List.dropWhile_cons_of_neg c] at h
      simp at h
theorem Sp.nought : ∀ (c n : Nat), n < 16 ^ c → (∀ i, i < c → n / 16 ^ i % 16 = 0) → n = 0
  | 0, n, h, _ => by simp at h; omega
  | c + 1, n, h, hz => by
    have h1 := hz c (by omega)
    have h2 : n / 16 ^ c < 16 := by rw [Nat.div_lt_iff_lt_mul (Nat.pow_pos (by decide)), Nat.mul_comm]; rw [Nat.pow_succ] at h; exact h
    have h3 : n / 16 ^ c = 0 := by generalize n / 16 ^ c = q at h1 h2; omega
    have h4 : n < 16 ^ c := by
      rcases Nat.div_eq_zero_iff.1 h3 with h5 | h5
      · exact absurd h5 (Nat.ne_of_gt (Nat.pow_pos (by decide)))
      · exact h5
    exact Sp.nought c n h4 (fun i hi => hz i (by omega))
/-- a fraction that is none has a digit that is none -/
theorem Sp.trim_ne {m : Nat} (h0 : m ≠ 0) (h : m < 4503599627370496) : Sp.trim (Sp.hexN m 13) ≠ [] := by
  intro e
  apply h0
  refine Sp.nought 13 m (by omega) (fun i hi => ?_)
  have e' : (Sp.hexN m 13).reverse.dropWhile (· == 48) = [] := by
    have := congrArg List.reverse e
    simpa [Sp.trim] using this
  have hall := Sp.dropW _ e'
  have hat := Sp.hexN_at m 13 (12 - i) (by omega)
  have hmem := List.mem_of_getElem? hat
  have h48 := hall _ (List.mem_reverse.2 hmem)
  have := (Sp.hexd_zero (Nat.mod_lt _ (by decide))).1 (by simpa using h48)
  rw [show 13 - 1 - (12 - i) = i by omega] at this
  exact this
/-- a text's last byte -/
theorem Sp.last_split (d : ByteArray) (h : 1 ≤ d.size) : d.data.toList = (d.extract 0 (d.size - 1)).data.toList ++ [d[d.size - 1]'(by omega)] := by
  have hl : d.data.toList.length = d.size := by rw [Array.length_toList]; rfl
  have e1 : (d.extract 0 (d.size - 1)).data.toList = d.data.toList.take (d.size - 1) := by
    rw [ByteArray.data_extract]
    simp [List.dropLast_eq_take]
  rw [e1]
  have e2 : d.data.toList = d.data.toList.take (d.size - 1 + 1) := by rw [List.take_of_length_le (by omega)]
  conv => lhs; rw [e2, List.take_succ_eq_append_getElem (by omega)]
  congr 2
def vsz : Value → Nat | .string d => d.size | _ => 0

set_option maxRecDepth 100000 in
set_option maxHeartbeats 2000000 in
theorem rFloat_fracp (f : Nat) (w : World) (hf : f < 18446744073709551616) (h1 : Sp.fexp f ≠ 2047) (h2 : Sp.fexp f ≠ 0) (h3 : Sp.fman f ≠ 0) (hn : Sp.fneg f = false) :
    Calls Tryz.prog 13 #[.float .f64 f] w (FltE f w) := by
  obtain ⟨hE, hM, hG⟩ := Sp.fparts f hf
  have hb := bits_run f
  have HX : Hid (Sp.floatT f = Sp.signT f ++ [48, 120, 49] ++ Sp.fracT (Sp.fman f) ++ [112] ++ Sp.expT ((Sp.fexp f : Int) - 1023)) := by show _ = _; unfold Sp.floatT; rw [if_neg h1, if_neg h2]
  have hlt := Sp.fexp_lt f
  have d1 : ((Sp.fexp f : Int) == 2047) = false := by simp; omega
  have d2 : ((Sp.fexp f : Int) == 0) = false := by simp; omega
  rw [hn] at hG
  clear h1 h2
  generalize Sp.fexp f = n at *
  obtain ⟨u, HU⟩ : ∃ u : Nat, Hid (((n : Int) - 1023).natAbs = u) := ⟨_, rfl⟩
  obtain ⟨A, hA, HA⟩ : ∃ A : ByteArray, A.size ≤ 20 ∧ Hid (A = ⟨(Lib.decDigits u).toArray⟩) := ⟨_, by
    show (Lib.decDigits u).toArray.size ≤ 20
    rw [List.size_toArray, Lib.decDigits_length]; exact Lib.nDigits_le20 _ (by have := HU.out; omega), rfl⟩
  have HDec : Hid (∀ (z : Int) (W : World), z = (u : Int) → Calls Tryz.prog 29 #[.int .u64 z] W fun e w' => e = .returned (.string A) ∧ Below W.heap.size W w') := fun z W hz => by rw [HA.out, hz]; exact Dec_any (u + 1) u W (by omega) (by have := HU.out; omega)
  have hmlt := Sp.fman_lt f
  have hm0 : (0 : Int) < (Sp.fman f : Int) := by omega
  obtain ⟨T, HTe⟩ : ∃ T, Hid (Sp.trim (Sp.hexN (Sp.fman f) 13) = T) := ⟨_, rfl⟩
  have HF : Hid (Sp.fracT (Sp.fman f) = 46 :: T) := by show _ = _; unfold Sp.fracT; rw [if_neg h3, HTe.out]
  have HTn : Hid (T ≠ []) := by show _ ≠ _; rw [← HTe.out]; exact Sp.trim_ne h3 hmlt
  clear h3
  generalize Sp.fman f = m at *
  obtain ⟨D, hD, HDe⟩ : ∃ D : ByteArray, D.size = 13 ∧ Hid (D = ⟨(Sp.hexN m 13).toArray⟩) := ⟨_, by show (Sp.hexN m 13).toArray.size = 13; rw [List.size_toArray, Sp.hexN_len], rfl⟩
  have HDT : Hid (Sp.trim D.data.toList = T) := by show _ = _; rw [HDe.out, ofL, HTe.out]
  have HDg : Hid (∀ W, Calls Tryz.prog 28 #[.int .u64 (m : Int), .int .i64 13] W fun e w' => e = .returned (.string D) ∧ Below W.heap.size W w') := fun W => by rw [HDe.out]; exact digits_any m 13 W (by omega) (by omega)
  have hG1 : (f : Int) / 9223372036854775808 = 0 := hG
  have HS : Hid (Sp.signT f = []) := by show _ = _; rw [Sp.signT, hn]; rfl
  clear hG hn
  go_enter Tryz.func13, Tryz.ntmps13
  go_wp2_with fail
  refine (HDg.out _).mono ?_
  rintro e w1 ⟨rfl, hb1⟩
  have HB1 : Hid (Below w.heap.size w w1) := hb1
  clear hb1
  go_wp2_with fail
  go_loopw [8] (fun v wr => ∃ d : ByteArray, v = .string d ∧ 1 ≤ d.size ∧ d.size ≤ 13 ∧ Hid (Sp.trim d.data.toList = T) ∧ w1 = wr) (fun v _ => vsz v)
  case atStart => exact ⟨D, rfl, by omega, by omega, HDT, rfl⟩
  case round =>
    obtain ⟨d, rfl, hd1, hd2, HT, rfl⟩ := hrel
    have HLS : Hid (d.data.toList = (d.extract 0 (d.size - 1)).data.toList ++ [d[d.size - 1]'(by omega)]) := Sp.last_split d hd1
    obtain ⟨c, HC⟩ : ∃ c : UInt8, Hid (d[d.size - 1]'(by omega) = c) := ⟨_, show _ = _ from rfl⟩
    have hx : ∀ W, (Instr.index 9 (.string d) (.int .i64 ((d.size : Int) - 1))).run Tryz.prog W = .ok (.int .u8 (c.toNat : Int)) W := fun W => by
      have := run_index_string (P := Tryz.prog) W 9 d .i64 ((d.size : Int) - 1) Tryz.undSd
      rw [dif_pos ⟨by omega, by omega⟩] at this
      refine this.trans ?_
      rw [← HC.out]
      congr 5
      omega
    by_cases c48 : c = 48
    · have HT2 : Hid (Sp.trim (d.extract 0 (d.size - 1)).data.toList = T) := by
        show _ = _
        rw [← HT.out, HLS.out, HC.out, c48, Sp.trim_snoc0]
      have HZ2 : Hid ((d.extract 0 (d.size - 1)).size = d.size - 1) := by show _ = _; rw [ByteArray.size_extract]; omega
      have HM2 : Hid (1 ≤ d.size - 1) := by
        show _ ≤ _
        by_cases c1 : 1 ≤ d.size - 1
        · exact c1
        · exfalso
          apply HTn.out
          rw [← HT2.out]
          have e0 : (d.extract 0 (d.size - 1)).data.toList = [] := List.eq_nil_of_length_eq_zero (by rw [Array.length_toList]; exact HZ2.out.trans (by omega))
          rw [e0]; rfl
      have e48 : ((c.toNat : Int) == 48) = true := by rw [c48]; rfl
      clear c48
      go_wp2_with fail
      refine ⟨⟨_, rfl, ?_, ?_, HT2, trivial⟩, ?_⟩
      · rw [HZ2.out]; exact HM2.out
      · rw [HZ2.out]; omega
      · show (d.extract 0 (d.size - 1)).size < d.size
        rw [HZ2.out]; omega
    · have HTd : Hid (d.data.toList = T) := by
        show _ = _
        rw [← HT.out, HLS.out, HC.out, Sp.trim_snoc _ _ c48]
      have n48 : ((c.toNat : Int) == 48) = false := by simpa using u8_ne c48
      have HF' : Hid (Sp.fracT m = 46 :: d.data.toList) := by show _ = _; rw [HF.out, HTd.out]
      clear c48
      by_cases c1 : ((n : Int) - 1023) < 0
      · by_cases c2 : -((n : Int) - 1023) < 10
        · have HXT : Hid (Sp.expT ((n : Int) - 1023) = 45 :: 48 :: Lib.decDigits u) := by show _ = _; unfold Sp.expT; rw [if_pos c1, if_pos (by omega), HU.out]; rfl
          have hu := HU.out
          go_wp2_with fail
          refine (HDec.out _ _ (by omega)).mono ?_
          rintro e w3 ⟨rfl, hb3⟩
          have HB3 : Hid (Below w.heap.size w w3) := below_to HB1.out hb3
          clear hb3
          go_wp2_with fail
          go_ret
          refine ⟨ret_str ?_, HB3.out⟩
          rw [HX.out, HXT.out, HS.out, HF'.out, HA.out]
          apply ByteArray.ext
          simp
        · have HXT : Hid (Sp.expT ((n : Int) - 1023) = 45 :: Lib.decDigits u) := by show _ = _; unfold Sp.expT; rw [if_pos c1, if_neg (by omega), HU.out]; rfl
          have hu := HU.out
          go_wp2_with fail
          refine (HDec.out _ _ (by omega)).mono ?_
          rintro e w3 ⟨rfl, hb3⟩
          have HB3 : Hid (Below w.heap.size w w3) := below_to HB1.out hb3
          clear hb3
          go_wp2_with fail
          go_ret
          refine ⟨ret_str ?_, HB3.out⟩
          rw [HX.out, HXT.out, HS.out, HF'.out, HA.out]
          apply ByteArray.ext
          simp
      · by_cases c2 : ((n : Int) - 1023) < 10
        · have HXT : Hid (Sp.expT ((n : Int) - 1023) = 43 :: 48 :: Lib.decDigits u) := by show _ = _; unfold Sp.expT; rw [if_neg c1, if_pos (by omega), HU.out]; rfl
          have hu := HU.out
          go_wp2_with fail
          refine (HDec.out _ _ (by omega)).mono ?_
          rintro e w3 ⟨rfl, hb3⟩
          have HB3 : Hid (Below w.heap.size w w3) := below_to HB1.out hb3
          clear hb3
          go_wp2_with fail
          go_ret
          refine ⟨ret_str ?_, HB3.out⟩
          rw [HX.out, HXT.out, HS.out, HF'.out, HA.out]
          apply ByteArray.ext
          simp
        · have HXT : Hid (Sp.expT ((n : Int) - 1023) = 43 :: Lib.decDigits u) := by show _ = _; unfold Sp.expT; rw [if_neg c1, if_neg (by omega), HU.out]; rfl
          have hu := HU.out
          go_wp2_with fail
          refine (HDec.out _ _ (by omega)).mono ?_
          rintro e w3 ⟨rfl, hb3⟩
          have HB3 : Hid (Below w.heap.size w w3) := below_to HB1.out hb3
          clear hb3
          go_wp2_with fail
          go_ret
          refine ⟨ret_str ?_, HB3.out⟩
          rw [HX.out, HXT.out, HS.out, HF'.out, HA.out]
          apply ByteArray.ext
          simp


set_option maxRecDepth 100000 in
set_option maxHeartbeats 2000000 in
theorem rFloat_fracm (f : Nat) (w : World) (hf : f < 18446744073709551616) (h1 : Sp.fexp f ≠ 2047) (h2 : Sp.fexp f ≠ 0) (h3 : Sp.fman f ≠ 0) (hn : Sp.fneg f = true) :
    Calls Tryz.prog 13 #[.float .f64 f] w (FltE f w) := by
  obtain ⟨hE, hM, hG⟩ := Sp.fparts f hf
  have hb := bits_run f
  have HX : Hid (Sp.floatT f = Sp.signT f ++ [48, 120, 49] ++ Sp.fracT (Sp.fman f) ++ [112] ++ Sp.expT ((Sp.fexp f : Int) - 1023)) := by show _ = _; unfold Sp.floatT; rw [if_neg h1, if_neg h2]
  have hlt := Sp.fexp_lt f
  have d1 : ((Sp.fexp f : Int) == 2047) = false := by simp; omega
  have d2 : ((Sp.fexp f : Int) == 0) = false := by simp; omega
  rw [hn] at hG
  clear h1 h2
  generalize Sp.fexp f = n at *
  obtain ⟨u, HU⟩ : ∃ u : Nat, Hid (((n : Int) - 1023).natAbs = u) := ⟨_, rfl⟩
  obtain ⟨A, hA, HA⟩ : ∃ A : ByteArray, A.size ≤ 20 ∧ Hid (A = ⟨(Lib.decDigits u).toArray⟩) := ⟨_, by
    show (Lib.decDigits u).toArray.size ≤ 20
    rw [List.size_toArray, Lib.decDigits_length]; exact Lib.nDigits_le20 _ (by have := HU.out; omega), rfl⟩
  have HDec : Hid (∀ (z : Int) (W : World), z = (u : Int) → Calls Tryz.prog 29 #[.int .u64 z] W fun e w' => e = .returned (.string A) ∧ Below W.heap.size W w') := fun z W hz => by rw [HA.out, hz]; exact Dec_any (u + 1) u W (by omega) (by have := HU.out; omega)
  have hmlt := Sp.fman_lt f
  have hm0 : (0 : Int) < (Sp.fman f : Int) := by omega
  obtain ⟨T, HTe⟩ : ∃ T, Hid (Sp.trim (Sp.hexN (Sp.fman f) 13) = T) := ⟨_, rfl⟩
  have HF : Hid (Sp.fracT (Sp.fman f) = 46 :: T) := by show _ = _; unfold Sp.fracT; rw [if_neg h3, HTe.out]
  have HTn : Hid (T ≠ []) := by show _ ≠ _; rw [← HTe.out]; exact Sp.trim_ne h3 hmlt
  clear h3
  generalize Sp.fman f = m at *
  obtain ⟨D, hD, HDe⟩ : ∃ D : ByteArray, D.size = 13 ∧ Hid (D = ⟨(Sp.hexN m 13).toArray⟩) := ⟨_, by show (Sp.hexN m 13).toArray.size = 13; rw [List.size_toArray, Sp.hexN_len], rfl⟩
  have HDT : Hid (Sp.trim D.data.toList = T) := by show _ = _; rw [HDe.out, ofL, HTe.out]
  have HDg : Hid (∀ W, Calls Tryz.prog 28 #[.int .u64 (m : Int), .int .i64 13] W fun e w' => e = .returned (.string D) ∧ Below W.heap.size W w') := fun W => by rw [HDe.out]; exact digits_any m 13 W (by omega) (by omega)
  have hG1 : (f : Int) / 9223372036854775808 = 1 := hG
  have HS : Hid (Sp.signT f = [45]) := by show _ = _; rw [Sp.signT, hn]; rfl
  clear hG hn
  go_enter Tryz.func13, Tryz.ntmps13
  go_wp2_with fail
  refine (HDg.out _).mono ?_
  rintro e w1 ⟨rfl, hb1⟩
  have HB1 : Hid (Below w.heap.size w w1) := hb1
  clear hb1
  go_wp2_with fail
  go_loopw [8] (fun v wr => ∃ d : ByteArray, v = .string d ∧ 1 ≤ d.size ∧ d.size ≤ 13 ∧ Hid (Sp.trim d.data.toList = T) ∧ w1 = wr) (fun v _ => vsz v)
  case atStart => exact ⟨D, rfl, by omega, by omega, HDT, rfl⟩
  case round =>
    obtain ⟨d, rfl, hd1, hd2, HT, rfl⟩ := hrel
    have HLS : Hid (d.data.toList = (d.extract 0 (d.size - 1)).data.toList ++ [d[d.size - 1]'(by omega)]) := Sp.last_split d hd1
    obtain ⟨c, HC⟩ : ∃ c : UInt8, Hid (d[d.size - 1]'(by omega) = c) := ⟨_, show _ = _ from rfl⟩
    have hx : ∀ W, (Instr.index 9 (.string d) (.int .i64 ((d.size : Int) - 1))).run Tryz.prog W = .ok (.int .u8 (c.toNat : Int)) W := fun W => by
      have := run_index_string (P := Tryz.prog) W 9 d .i64 ((d.size : Int) - 1) Tryz.undSd
      rw [dif_pos ⟨by omega, by omega⟩] at this
      refine this.trans ?_
      rw [← HC.out]
      congr 5
      omega
    by_cases c48 : c = 48
    · have HT2 : Hid (Sp.trim (d.extract 0 (d.size - 1)).data.toList = T) := by
        show _ = _
        rw [← HT.out, HLS.out, HC.out, c48, Sp.trim_snoc0]
      have HZ2 : Hid ((d.extract 0 (d.size - 1)).size = d.size - 1) := by show _ = _; rw [ByteArray.size_extract]; omega
      have HM2 : Hid (1 ≤ d.size - 1) := by
        show _ ≤ _
        by_cases c1 : 1 ≤ d.size - 1
        · exact c1
        · exfalso
          apply HTn.out
          rw [← HT2.out]
          have e0 : (d.extract 0 (d.size - 1)).data.toList = [] := List.eq_nil_of_length_eq_zero (by rw [Array.length_toList]; exact HZ2.out.trans (by omega))
          rw [e0]; rfl
      have e48 : ((c.toNat : Int) == 48) = true := by rw [c48]; rfl
      clear c48
      go_wp2_with fail
      refine ⟨⟨_, rfl, ?_, ?_, HT2, trivial⟩, ?_⟩
      · rw [HZ2.out]; exact HM2.out
      · rw [HZ2.out]; omega
      · show (d.extract 0 (d.size - 1)).size < d.size
        rw [HZ2.out]; omega
    · have HTd : Hid (d.data.toList = T) := by
        show _ = _
        rw [← HT.out, HLS.out, HC.out, Sp.trim_snoc _ _ c48]
      have n48 : ((c.toNat : Int) == 48) = false := by simpa using u8_ne c48
      have HF' : Hid (Sp.fracT m = 46 :: d.data.toList) := by show _ = _; rw [HF.out, HTd.out]
      clear c48
      by_cases c1 : ((n : Int) - 1023) < 0
      · by_cases c2 : -((n : Int) - 1023) < 10
        · have HXT : Hid (Sp.expT ((n : Int) - 1023) = 45 :: 48 :: Lib.decDigits u) := by show _ = _; unfold Sp.expT; rw [if_pos c1, if_pos (by omega), HU.out]; rfl
          have hu := HU.out
          go_wp2_with fail
          refine (HDec.out _ _ (by omega)).mono ?_
          rintro e w3 ⟨rfl, hb3⟩
          have HB3 : Hid (Below w.heap.size w w3) := below_to HB1.out hb3
          clear hb3
          go_wp2_with fail
          go_ret
          refine ⟨ret_str ?_, HB3.out⟩
          rw [HX.out, HXT.out, HS.out, HF'.out, HA.out]
          apply ByteArray.ext
          simp
        · have HXT : Hid (Sp.expT ((n : Int) - 1023) = 45 :: Lib.decDigits u) := by show _ = _; unfold Sp.expT; rw [if_pos c1, if_neg (by omega), HU.out]; rfl
          have hu := HU.out
          go_wp2_with fail
          refine (HDec.out _ _ (by omega)).mono ?_
          rintro e w3 ⟨rfl, hb3⟩
          have HB3 : Hid (Below w.heap.size w w3) := below_to HB1.out hb3
          clear hb3
          go_wp2_with fail
          go_ret
          refine ⟨ret_str ?_, HB3.out⟩
          rw [HX.out, HXT.out, HS.out, HF'.out, HA.out]
          apply ByteArray.ext
          simp
      · by_cases c2 : ((n : Int) - 1023) < 10
        · have HXT : Hid (Sp.expT ((n : Int) - 1023) = 43 :: 48 :: Lib.decDigits u) := by show _ = _; unfold Sp.expT; rw [if_neg c1, if_pos (by omega), HU.out]; rfl
          have hu := HU.out
          go_wp2_with fail
          refine (HDec.out _ _ (by omega)).mono ?_
          rintro e w3 ⟨rfl, hb3⟩
          have HB3 : Hid (Below w.heap.size w w3) := below_to HB1.out hb3
          clear hb3
          go_wp2_with fail
          go_ret
          refine ⟨ret_str ?_, HB3.out⟩
          rw [HX.out, HXT.out, HS.out, HF'.out, HA.out]
          apply ByteArray.ext
          simp
        · have HXT : Hid (Sp.expT ((n : Int) - 1023) = 43 :: Lib.decDigits u) := by show _ = _; unfold Sp.expT; rw [if_neg c1, if_neg (by omega), HU.out]; rfl
          have hu := HU.out
          go_wp2_with fail
          refine (HDec.out _ _ (by omega)).mono ?_
          rintro e w3 ⟨rfl, hb3⟩
          have HB3 : Hid (Below w.heap.size w w3) := below_to HB1.out hb3
          clear hb3
          go_wp2_with fail
          go_ret
          refine ⟨ret_str ?_, HB3.out⟩
          rw [HX.out, HXT.out, HS.out, HF'.out, HA.out]
          apply ByteArray.ext
          simp

end Go.Proofs.YtnndlffidifddaaGreatDoor


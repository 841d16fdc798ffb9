/- The rule of names: names.Is, names.Byte and tenonref01.Name; path.isDigit, tenonref02.Figure and Letter. -/
import Derived.Test.YtghnipbcbbphbaaDoorProg
import Derived.Test.YtghnipbcbbphbaaDoorPathM
import Derived.WalkKit
import Derived.WalkSpells
import Derived.WalkLawsBesides
import Derived.Deep.QuietTactic
import Derived.BigQuiet
namespace Go.Proofs.YtghnipbcbbphbaaDoor
open Go.RowKit

theorem ret_int {k : IntKind} {a b : Int} (h : a = b) : Ending.returned (.int k a) = .returned (.int k b) := by rw [h]
set_option maxHeartbeats 400000 in
theorem isLetter_any (c : Int) (w : World) (_h0 : 0 ≤ c) (_h1 : c ≤ 255) :
    Calls Tryd.prog 12 #[.int .u8 c] w fun e w' => e = .returned (.bool (Sp.letter c)) ∧ w = w' := by
  by_cases ha : 97 ≤ c
  · by_cases hb : c ≤ 122
    · go_enter Tryd.func12, Tryd.ntmps12
      go_wp2
      go_ret
      exact ⟨by simp [Sp.letter, ha, hb], rfl⟩
    · go_enter Tryd.func12, Tryd.ntmps12
      go_wp2
      go_ret
      exact ⟨by simp [Sp.letter]; omega, rfl⟩
  · go_enter Tryd.func12, Tryd.ntmps12
    go_wp2
    go_ret
    exact ⟨by simp [Sp.letter]; omega, rfl⟩

set_option maxHeartbeats 400000 in
theorem isDigit_any (c : Int) (w : World) (_h0 : 0 ≤ c) (_h1 : c ≤ 255) :
    Calls Tryd.prog 17 #[.int .u8 c] w fun e w' => e = .returned (.bool (Sp.digit c)) ∧ w = w' := by
  by_cases ha : 48 ≤ c
  · by_cases hb : c ≤ 57
    · go_enter Tryd.func17, Tryd.ntmps17
      go_wp2
      go_ret
      exact ⟨by simp [Sp.digit, ha, hb], rfl⟩
    · go_enter Tryd.func17, Tryd.ntmps17
      go_wp2
      go_ret
      exact ⟨by simp [Sp.digit]; omega, rfl⟩
  · go_enter Tryd.func17, Tryd.ntmps17
    go_wp2
    go_ret
    exact ⟨by simp [Sp.digit]; omega, rfl⟩

theorem byte_at (s : ByteArray) (k : Nat) (h : k < s.size) : (s[k].toNat : Int) = Sp.byte s k := by
  unfold Sp.byte
  have h' : k < s.data.size := h
  rw [Array.getD, dif_pos h']; rfl
theorem byte_bd (s : ByteArray) (k : Nat) : 0 ≤ Sp.byte s k ∧ Sp.byte s k ≤ 255 := by
  unfold Sp.byte
  have := (s.data.getD k 0).toNat_lt
  omega
theorem toList_ne {s : ByteArray} (h : ¬ s.size = 0) : s.toList.isEmpty = false := by
  cases he : s.toList.isEmpty with
  | false => rfl
  | true =>
    rw [List.isEmpty_iff, ByteArray.toList_eq] at he
    exact absurd (by cases s with | mk d => simpa [ByteArray.size] using he) h
theorem nmTo_first (s : ByteArray) (h : Sp.letter (Sp.byte s 0) = true) : Sp.nmTo s 1 = true := by
  simp [Sp.nmTo, Sp.ch, h]
theorem nmTo_bad (s : ByteArray) (k : Nat) (h : Sp.ch k (Sp.byte s k) = false) : ∀ n, k < n → Sp.nmTo s n = false
  | 0, hn => by omega
  | n + 1, hn => by
    rw [Sp.nmTo]
    by_cases e : k = n
    · subst e; simp [h]
    · rw [nmTo_bad s k h n (by omega)]; rfl
theorem isNm_bad (s : ByteArray) (k : Nat) (hk : k < s.size) (h : Sp.ch k (Sp.byte s k) = false) : Sp.isNm s = false := by
  simp [Sp.isNm, nmTo_bad s k h s.size hk]
theorem isNm_of (s : ByteArray) (h1 : 1 ≤ s.size) (h2 : s.size ≤ 32) : Sp.isNm s = Sp.nmTo s s.size := by simp [Sp.isNm, h1, h2]
theorem nmTo_l {s : ByteArray} {k : Nat} (h : Sp.nmTo s k = true) (hl : Sp.letter (Sp.byte s k) = true) : Sp.nmTo s (k + 1) = true := by
  rw [Sp.nmTo, h]; simp [Sp.ch, hl]
theorem nmTo_d {s : ByteArray} {k : Nat} (h : Sp.nmTo s k = true) (hk : 1 ≤ k) (hd : Sp.digit (Sp.byte s k) = true) : Sp.nmTo s (k + 1) = true := by
  rw [Sp.nmTo, h]; have : k ≠ 0 := by omega
  simp [Sp.ch, hd, this]
theorem nmTo_u {s : ByteArray} {k : Nat} (h : Sp.nmTo s k = true) (hk : 1 ≤ k) (hd : Sp.byte s k = 95) : Sp.nmTo s (k + 1) = true := by
  rw [Sp.nmTo, h]; have : k ≠ 0 := by omega
  simp [Sp.ch, hd, this]
theorem ret_bool {a b : Bool} (h : a = b) : Ending.returned (.bool a) = .returned (.bool b) := by rw [h]

theorem Sp.ch_nb {k : Nat} (c : Int) (hk : 1 ≤ k) : Sp.ch k c = Sp.nb c := by
  have : (k != 0) = true := by simp; omega
  rw [Sp.ch, Sp.nb, this, Bool.true_and, Bool.or_assoc]

set_option maxHeartbeats 400000 in
theorem nByte_any (c : Int) (w : World) (h0 : 0 ≤ c) (h1 : c ≤ 255) :
    Calls Tryd.prog 13 #[.int .u8 c] w fun e w' => e = .returned (.bool (Sp.nb c)) ∧ w = w' := by
  cases hl : Sp.letter c with
  | true =>
    have H : Hid (Sp.nb c = true) := by show _ = _; simp [Sp.nb, hl]
    go_enter Tryd.func13, Tryd.ntmps13
    go_wp2_with (go_at_call 12; refine (isLetter_any _ _ h0 h1).mono ?_; rintro e w' ⟨rfl, rfl⟩)
    go_ret
    exact ⟨ret_bool H.out.symm, rfl⟩
  | false =>
    cases hd : Sp.digit c with
    | true =>
      have H : Hid (Sp.nb c = true) := by show _ = _; simp [Sp.nb, hl, hd]
      go_enter Tryd.func13, Tryd.ntmps13
      go_wp2_with (first | (go_at_call 12; refine (isLetter_any _ _ h0 h1).mono ?_; rintro e w' ⟨rfl, rfl⟩) | (go_at_call 17; refine (isDigit_any _ _ h0 h1).mono ?_; rintro e w' ⟨rfl, rfl⟩))
      go_ret
      exact ⟨ret_bool H.out.symm, rfl⟩
    | false =>
      have H : Hid (Sp.nb c = (c == 95)) := by show _ = _; simp [Sp.nb, hl, hd]
      go_enter Tryd.func13, Tryd.ntmps13
      go_wp2_with (first | (go_at_call 12; refine (isLetter_any _ _ h0 h1).mono ?_; rintro e w' ⟨rfl, rfl⟩) | (go_at_call 17; refine (isDigit_any _ _ h0 h1).mono ?_; rintro e w' ⟨rfl, rfl⟩))
      go_ret
      exact ⟨ret_bool H.out.symm, rfl⟩

set_option maxRecDepth 100000 in
set_option maxHeartbeats 400000 in
theorem isName_any (s : ByteArray) (w : World) (hs : s.size ≤ maxLen) :
    Calls Tryd.prog 8 #[.string s] w fun e w' => e = .returned (.bool (Sp.isNm s)) ∧ w = w' := by
  unfold maxLen at hs
  by_cases h0 : s.size = 0
  · have he : s = ByteArray.empty := by
      cases s with | mk d => simp [ByteArray.size] at h0; subst h0; rfl
    subst he
    go_enter Tryd.func8, Tryd.ntmps8
    go_wp2_with fail
    go_ret
    exact ⟨rfl, rfl⟩
  · have hne := toList_ne h0
    by_cases h32 : 32 < s.size
    · have H : Hid (Sp.isNm s = false) := by show _ = _; simp [Sp.isNm]; omega
      go_enter Tryd.func8, Tryd.ntmps8
      go_wp2_with fail
      go_ret
      exact ⟨ret_bool H.out.symm, rfl⟩
    · have hz : 0 < s.size := by omega
      have hb := byte_bd s 0
      have e0 := byte_at s 0 hz
      cases hl : Sp.letter (Sp.byte s 0) with
      | false =>
        have H : Hid (Sp.isNm s = false) := isNm_bad s 0 hz (by simp [Sp.ch, hl])
        go_enter Tryd.func8, Tryd.ntmps8
        go_wp2_with (go_at_call 12; refine (isLetter_any _ _ (by omega) (by omega)).mono ?_; rintro e w' ⟨rfl, rfl⟩)
        go_ret
        exact ⟨ret_bool H.out.symm, rfl⟩
      | true =>
        have H1 : Hid (Sp.nmTo s 1 = true) := nmTo_first s hl
        go_enter Tryd.func8, Tryd.ntmps8
        go_wp2_with (go_at_call 12; refine (isLetter_any _ _ (by omega) (by omega)).mono ?_; rintro e w' ⟨rfl, rfl⟩)
        go_loop [3] (fun i => ∃ k : Nat, 1 ≤ k ∧ k ≤ s.size ∧ i = .int .i64 k ∧ Hid (Sp.nmTo s k = true)) (fun i => s.size - (intOf i).toNat)
        case atStart => exact ⟨1, by omega, by omega, rfl, H1⟩
        case round =>
          obtain ⟨k, hk1, hk, rfl, HK⟩ := hrel
          by_cases hlt : k < s.size
          · have hbk := byte_bd s k
            have ek := byte_at s k hlt
            cases hnk : Sp.nb (Sp.byte s k) with
            | true =>
              have HK' : Hid (Sp.nmTo s (k + 1) = true) := by show _ = _; rw [Sp.nmTo, HK.out, Sp.ch_nb _ hk1, hnk]; rfl
              go_wp2_with (go_at_call 13; refine (nByte_any _ _ (by omega) (by omega)).mono ?_; rintro e w' ⟨rfl, rfl⟩)
              go_round
              case rel => exact ⟨k + 1, by omega, by omega, by go_num, HK'⟩
              case measure => simp [intOf]; omega
            | false =>
              have H : Hid (Sp.isNm s = false) := isNm_bad s k hlt (by rw [Sp.ch_nb _ hk1, hnk])
              go_wp2_with (go_at_call 13; refine (nByte_any _ _ (by omega) (by omega)).mono ?_; rintro e w' ⟨rfl, rfl⟩)
              go_ret
              exact ⟨ret_bool H.out.symm, rfl⟩
          · go_wp2_with fail
            go_ret
            exact ⟨ret_bool (by rw [isNm_of s (by omega) (by omega), show s.size = k by omega]; exact HK.out.symm), rfl⟩

theorem ch_eq (k : Nat) (c : Int) : Sp.ch k c = decide ((97 ≤ c ∧ c ≤ 122) ∨ (k ≠ 0 ∧ ((48 ≤ c ∧ c ≤ 57) ∨ c = 95))) := by
  rw [Bool.eq_iff_iff]; simp [Sp.ch, Sp.letter, Sp.digit]
theorem nmTo_c {s : ByteArray} {k : Nat} (h : Sp.nmTo s k = true) (hc : (97 ≤ Sp.byte s k ∧ Sp.byte s k ≤ 122) ∨ (k ≠ 0 ∧ ((48 ≤ Sp.byte s k ∧ Sp.byte s k ≤ 57) ∨ Sp.byte s k = 95))) : Sp.nmTo s (k + 1) = true := by
  rw [Sp.nmTo, h, ch_eq]; simp only [hc, decide_true, Bool.and_self]
theorem isNm_no {s : ByteArray} {k : Nat} (hk : k < s.size) (hc : ¬ ((97 ≤ Sp.byte s k ∧ Sp.byte s k ≤ 122) ∨ (k ≠ 0 ∧ ((48 ≤ Sp.byte s k ∧ Sp.byte s k ≤ 57) ∨ Sp.byte s k = 95)))) : Sp.isNm s = false :=
  isNm_bad s k hk (by rw [ch_eq]; simp only [hc, decide_false])

set_option maxRecDepth 100000 in
set_option maxHeartbeats 1000000 in
theorem Name_any (s : ByteArray) (w : World) (hs : s.size ≤ maxLen) :
    Calls Tryd.prog 10 #[.string s] w fun e w' => e = .returned (.bool (Sp.isNm s)) ∧ w = w' := by
  unfold maxLen at hs
  by_cases h0 : s.size = 0
  · have H : Hid (Sp.isNm s = false) := by show _ = _; simp [Sp.isNm]; omega
    go_enter Tryd.func10, Tryd.ntmps10
    go_wp2_with fail
    go_ret
    exact ⟨ret_bool H.out.symm, rfl⟩
  · by_cases h32 : 32 < s.size
    · have H : Hid (Sp.isNm s = false) := by show _ = _; simp [Sp.isNm]; omega
      go_enter Tryd.func10, Tryd.ntmps10
      go_wp2_with fail
      go_ret
      exact ⟨ret_bool H.out.symm, rfl⟩
    · go_enter Tryd.func10, Tryd.ntmps10
      go_wp2_with fail
      go_loop [3] (fun i => ∃ k : Nat, k ≤ s.size ∧ i = .int .i64 k ∧ Hid (Sp.nmTo s k = true)) (fun i => s.size - (intOf i).toNat)
      case atStart => exact ⟨0, by omega, rfl, rfl⟩
      case round =>
        obtain ⟨k, hk, rfl, HK⟩ := hrel
        by_cases hlt : k < s.size
        · have hbk := byte_bd s k
          have ek := byte_at s k hlt
          by_cases hgood : (97 ≤ Sp.byte s k ∧ Sp.byte s k ≤ 122) ∨ (k ≠ 0 ∧ ((48 ≤ Sp.byte s k ∧ Sp.byte s k ≤ 57) ∨ Sp.byte s k = 95))
          · have HK' : Hid (Sp.nmTo s (k + 1) = true) := nmTo_c HK.out hgood
            rcases hgood with ⟨ha, hb⟩ | ⟨hk0, ⟨ha, hb⟩ | h95⟩
            · go_wp2_with fail
              go_round
              case rel => exact ⟨k + 1, by omega, by go_num, HK'⟩
              case measure => simp [intOf]; omega
            · have h95' : (Sp.byte s k != 95) = true := by simp; omega
              have hk0' : ((k : Int) == 0) = false := by simp; omega
              go_wp2_with fail
              go_round
              case rel => exact ⟨k + 1, by omega, by go_num, HK'⟩
              case measure => simp [intOf]; omega
            · have h95' : (Sp.byte s k != 95) = false := by simp [h95]
              have hk0' : ((k : Int) == 0) = false := by simp; omega
              have h96 : Sp.byte s k < 97 := by omega
              clear h95
              go_wp2_with fail
              go_round
              case rel => exact ⟨k + 1, by omega, by go_num, HK'⟩
              case measure => simp [intOf]; omega
          · have H : Hid (Sp.isNm s = false) := isNm_no hlt hgood
            by_cases hk0 : k = 0
            · subst hk0
              by_cases h97 : Sp.byte s 0 < 97
              · clear hgood
                go_wp2_with fail
                go_ret
                exact ⟨ret_bool H.out.symm, rfl⟩
              · have h122 : decide (Sp.byte s 0 ≤ 122) = false := by simp; omega
                clear hgood
                go_wp2_with fail
                go_ret
                exact ⟨ret_bool H.out.symm, rfl⟩
            · have h95' : (Sp.byte s k != 95) = true := by simp; omega
              have hk0' : ((k : Int) == 0) = false := by simp; omega
              by_cases h48 : Sp.byte s k < 48
              · clear hgood
                go_wp2_with fail
                go_ret
                exact ⟨ret_bool H.out.symm, rfl⟩
              · have h57 : 57 < Sp.byte s k := by omega
                by_cases h97 : Sp.byte s k < 97
                · clear hgood
                  go_wp2_with fail
                  go_ret
                  exact ⟨ret_bool H.out.symm, rfl⟩
                · have h122 : decide (Sp.byte s k ≤ 122) = false := by simp; omega
                  clear hgood
                  go_wp2_with fail
                  go_ret
                  exact ⟨ret_bool H.out.symm, rfl⟩
        · go_wp2_with fail
          go_ret
          exact ⟨ret_bool (by rw [isNm_of s (by omega) (by omega), show s.size = k by omega]; exact HK.out.symm), rfl⟩


set_option maxHeartbeats 400000 in
theorem pDigit_any (c : Int) (w : World) (_h0 : 0 ≤ c) (_h1 : c ≤ 255) :
    Calls Tryd.prog 23 #[.int .u8 c] w fun e w' => e = .returned (.bool (Sp.digit c)) ∧ w = w' := by
  by_cases ha : 48 ≤ c
  · by_cases hb : c ≤ 57
    · go_enter Tryd.func23, Tryd.ntmps23
      go_wp2
      go_ret
      exact ⟨by simp [Sp.digit, ha, hb], rfl⟩
    · go_enter Tryd.func23, Tryd.ntmps23
      go_wp2
      go_ret
      exact ⟨by simp [Sp.digit]; omega, rfl⟩
  · go_enter Tryd.func23, Tryd.ntmps23
    go_wp2
    go_ret
    exact ⟨by simp [Sp.digit]; omega, rfl⟩

set_option maxHeartbeats 400000 in
theorem Figure_any (c : Int) (w : World) (_h0 : 0 ≤ c) (_h1 : c ≤ 255) :
    Calls Tryd.prog 26 #[.int .u8 c] w fun e w' => e = .returned (.bool (Sp.digit c)) ∧ w = w' := by
  by_cases ha : 48 ≤ c
  · by_cases hb : c ≤ 57
    · go_enter Tryd.func26, Tryd.ntmps26
      go_wp2
      go_ret
      exact ⟨by simp [Sp.digit, ha, hb], rfl⟩
    · go_enter Tryd.func26, Tryd.ntmps26
      go_wp2
      go_ret
      exact ⟨by simp [Sp.digit]; omega, rfl⟩
  · go_enter Tryd.func26, Tryd.ntmps26
    go_wp2
    go_ret
    exact ⟨by simp [Sp.digit]; omega, rfl⟩

set_option maxHeartbeats 400000 in
theorem Letter_any (c : Int) (w : World) (_h0 : 0 ≤ c) (_h1 : c ≤ 255) :
    Calls Tryd.prog 27 #[.int .u8 c] w fun e w' => e = .returned (.bool (Sp.letter c)) ∧ w = w' := by
  by_cases ha : 97 ≤ c
  · by_cases hb : c ≤ 122
    · go_enter Tryd.func27, Tryd.ntmps27
      go_wp2
      go_ret
      exact ⟨by simp [Sp.letter, ha, hb], rfl⟩
    · go_enter Tryd.func27, Tryd.ntmps27
      go_wp2
      go_ret
      exact ⟨by simp [Sp.letter]; omega, rfl⟩
  · go_enter Tryd.func27, Tryd.ntmps27
    go_wp2
    go_ret
    exact ⟨by simp [Sp.letter]; omega, rfl⟩
end Go.Proofs.YtghnipbcbbphbaaDoor

/- The Go function tenonref01.Name tells whether a text is a name. -/
import Derived.Test.YtbaadndogikphaaName
namespace Go.Proofs.Ytbaadndogikphaa
open Go.RowKit

theorem ch_eq (k : Nat) (c : Int) : Sp.ch k c = decide ((97 ≤ c ∧ c ≤ 122) ∨ (k ≠ 0 ∧ ((48 ≤ c ∧ c ≤ 57) ∨ c = 95))) := by
  rw [Bool.eq_iff_iff]; simp [Sp.ch, Sp.letter, Sp.digit]
theorem nmTo_c {s : ByteArray} {k : Nat} (h : Sp.nmTo s k = true) (hc : (97 ≤ Sp.byte s k ∧ Sp.byte s k ≤ 122) ∨ (k ≠ 0 ∧ ((48 ≤ Sp.byte s k ∧ Sp.byte s k ≤ 57) ∨ Sp.byte s k = 95))) : Sp.nmTo s (k + 1) = true := by
  rw [Sp.nmTo, h, ch_eq]; simp only [hc, decide_true, Bool.and_self]
theorem isNm_no {s : ByteArray} {k : Nat} (hk : k < s.size) (hc : ¬ ((97 ≤ Sp.byte s k ∧ Sp.byte s k ≤ 122) ∨ (k ≠ 0 ∧ ((48 ≤ Sp.byte s k ∧ Sp.byte s k ≤ 57) ∨ Sp.byte s k = 95)))) : Sp.isNm s = false :=
  isNm_bad s k hk (by rw [ch_eq]; simp only [hc, decide_false])

set_option maxRecDepth 100000 in
set_option maxHeartbeats 1000000 in
theorem Name_any (s : ByteArray) (w : World) (hs : s.size ≤ maxLen) :
    Calls Try.prog 82 #[.string s] w fun e w' => e = .returned (.bool (Sp.isNm s)) ∧ w = w' := by
  unfold maxLen at hs
  by_cases h0 : s.size = 0
  · have H : Hid (Sp.isNm s = false) := by show _ = _; simp [Sp.isNm]; omega
    go_enter Try.func82, Try.ntmps82
    go_wp2_with fail
    go_ret
    exact ⟨ret_bool H.out.symm, rfl⟩
  · by_cases h32 : 32 < s.size
    · have H : Hid (Sp.isNm s = false) := by show _ = _; simp [Sp.isNm]; omega
      go_enter Try.func82, Try.ntmps82
      go_wp2_with fail
      go_ret
      exact ⟨ret_bool H.out.symm, rfl⟩
    · go_enter Try.func82, Try.ntmps82
      go_wp2_with fail
      go_loop [3] (fun i => ∃ k : Nat, k ≤ s.size ∧ i = .int .i64 k ∧ Hid (Sp.nmTo s k = true)) (fun i => s.size - (intOf i).toNat)
      case atStart => exact ⟨0, by omega, rfl, rfl⟩
      case round =>
        obtain ⟨k, hk, rfl, HK⟩ := hrel
        by_cases hlt : k < s.size
        · have hbk := byte_bd s k
          have ek := byte_at s k hlt
          by_cases hgood : (97 ≤ Sp.byte s k ∧ Sp.byte s k ≤ 122) ∨ (k ≠ 0 ∧ ((48 ≤ Sp.byte s k ∧ Sp.byte s k ≤ 57) ∨ Sp.byte s k = 95))
          · have HK' : Hid (Sp.nmTo s (k + 1) = true) := nmTo_c HK.out hgood
            rcases hgood with ⟨ha, hb⟩ | ⟨hk0, ⟨ha, hb⟩ | h95⟩
            · go_wp2_with fail
              go_round
              case rel => exact ⟨k + 1, by omega, by go_num, HK'⟩
              case measure => simp [intOf]; omega
            · have h95' : (Sp.byte s k != 95) = true := by simp; omega
              have hk0' : ((k : Int) == 0) = false := by simp; omega
              go_wp2_with fail
              go_round
              case rel => exact ⟨k + 1, by omega, by go_num, HK'⟩
              case measure => simp [intOf]; omega
            · have h95' : (Sp.byte s k != 95) = false := by simp [h95]
              have hk0' : ((k : Int) == 0) = false := by simp; omega
              have h96 : Sp.byte s k < 97 := by omega
              clear h95
              go_wp2_with fail
              go_round
              case rel => exact ⟨k + 1, by omega, by go_num, HK'⟩
              case measure => simp [intOf]; omega
          · have H : Hid (Sp.isNm s = false) := isNm_no hlt hgood
            by_cases hk0 : k = 0
            · subst hk0
              by_cases h97 : Sp.byte s 0 < 97
              · clear hgood
                go_wp2_with fail
                go_ret
                exact ⟨ret_bool H.out.symm, rfl⟩
              · have h122 : decide (Sp.byte s 0 ≤ 122) = false := by simp; omega
                clear hgood
                go_wp2_with fail
                go_ret
                exact ⟨ret_bool H.out.symm, rfl⟩
            · have h95' : (Sp.byte s k != 95) = true := by simp; omega
              have hk0' : ((k : Int) == 0) = false := by simp; omega
              by_cases h48 : Sp.byte s k < 48
              · clear hgood
                go_wp2_with fail
                go_ret
                exact ⟨ret_bool H.out.symm, rfl⟩
              · have h57 : 57 < Sp.byte s k := by omega
                by_cases h97 : Sp.byte s k < 97
                · clear hgood
                  go_wp2_with fail
                  go_ret
                  exact ⟨ret_bool H.out.symm, rfl⟩
                · have h122 : decide (Sp.byte s k ≤ 122) = false := by simp; omega
                  clear hgood
                  go_wp2_with fail
                  go_ret
                  exact ⟨ret_bool H.out.symm, rfl⟩
        · go_wp2_with fail
          go_ret
          exact ⟨ret_bool (by rw [isNm_of s (by omega) (by omega), show s.size = k by omega]; exact HK.out.symm), rfl⟩
end Go.Proofs.Ytbaadndogikphaa

/- path.run: the longest beginning of a text whose bytes are all of a sort. -/
import Derived.Test.YtghnipbcbbphbaaDoorPName
namespace Go.Proofs.YtghnipbcbbphbaaDoor
open Go.RowKit

set_option maxRecDepth 100000 in
set_option maxHeartbeats 1000000 in
theorem run_dig (s : ByteArray) (w : World) (hs : s.size ≤ maxLen) :
    Calls Tryd.prog 22 #[.string s, .func (.func 23) #[] #[]] w fun e w' => e = .returned (.string (s.extract 0 (Sp.span Sp.digit s 0))) ∧ w = w' := by
  unfold maxLen at hs
  go_enter Tryd.func22, Tryd.ntmps22
  go_wp2_with fail
  go_loop [5] (fun i => ∃ k : Nat, k ≤ s.size ∧ i = .int .i64 k ∧ Hid (Sp.span Sp.digit s k = Sp.span Sp.digit s 0)) (fun i => s.size - (intOf i).toNat)
  case atStart => exact ⟨0, by omega, rfl, rfl⟩
  case round =>
    obtain ⟨k, hk, rfl, HK⟩ := hrel
    by_cases hlt : k < s.size
    · have hbk := byte_bd s k
      have ek := byte_at s k hlt
      cases hnk : Sp.digit (Sp.byte s k) with
      | true =>
        have HK' : Hid (Sp.span Sp.digit s (k + 1) = Sp.span Sp.digit s 0) := by show _ = _; rw [← HK.out, Sp.span_go hlt hnk]
        go_wp2_with (go_at_call 23; refine (pDigit_any _ _ (by omega) (by omega)).mono ?_; rintro e w' ⟨rfl, rfl⟩)
        go_round
        case rel => exact ⟨k + 1, by omega, by go_num, HK'⟩
        case measure => simp [intOf]; omega
      | false =>
        have HE : Hid (Sp.span Sp.digit s 0 = k) := by show _ = _; rw [← HK.out, Sp.span_stop hlt hnk]
        go_wp2_with (go_at_call 23; refine (pDigit_any _ _ (by omega) (by omega)).mono ?_; rintro e w' ⟨rfl, rfl⟩)
        go_ret
        exact ⟨by rw [HE.out]; rfl, rfl⟩
    · have HE : Hid (Sp.span Sp.digit s 0 = k) := by show _ = _; rw [← HK.out, Sp.span_end hlt]
      go_wp2_with fail
      go_ret
      exact ⟨by rw [HE.out]; rfl, rfl⟩

set_option maxRecDepth 100000 in
set_option maxHeartbeats 1000000 in
theorem run_nb (s : ByteArray) (w : World) (hs : s.size ≤ maxLen) :
    Calls Tryd.prog 22 #[.string s, .func (.func 13) #[] #[]] w fun e w' => e = .returned (.string (s.extract 0 (Sp.span Sp.nb s 0))) ∧ w = w' := by
  unfold maxLen at hs
  go_enter Tryd.func22, Tryd.ntmps22
  go_wp2_with fail
  go_loop [5] (fun i => ∃ k : Nat, k ≤ s.size ∧ i = .int .i64 k ∧ Hid (Sp.span Sp.nb s k = Sp.span Sp.nb s 0)) (fun i => s.size - (intOf i).toNat)
  case atStart => exact ⟨0, by omega, rfl, rfl⟩
  case round =>
    obtain ⟨k, hk, rfl, HK⟩ := hrel
    by_cases hlt : k < s.size
    · have hbk := byte_bd s k
      have ek := byte_at s k hlt
      cases hnk : Sp.nb (Sp.byte s k) with
      | true =>
        have HK' : Hid (Sp.span Sp.nb s (k + 1) = Sp.span Sp.nb s 0) := by show _ = _; rw [← HK.out, Sp.span_go hlt hnk]
        go_wp2_with (go_at_call 13; refine (nByte_any _ _ (by omega) (by omega)).mono ?_; rintro e w' ⟨rfl, rfl⟩)
        go_round
        case rel => exact ⟨k + 1, by omega, by go_num, HK'⟩
        case measure => simp [intOf]; omega
      | false =>
        have HE : Hid (Sp.span Sp.nb s 0 = k) := by show _ = _; rw [← HK.out, Sp.span_stop hlt hnk]
        go_wp2_with (go_at_call 13; refine (nByte_any _ _ (by omega) (by omega)).mono ?_; rintro e w' ⟨rfl, rfl⟩)
        go_ret
        exact ⟨by rw [HE.out]; rfl, rfl⟩
    · have HE : Hid (Sp.span Sp.nb s 0 = k) := by show _ = _; rw [← HK.out, Sp.span_end hlt]
      go_wp2_with fail
      go_ret
      exact ⟨by rw [HE.out]; rfl, rfl⟩
end Go.Proofs.YtghnipbcbbphbaaDoor

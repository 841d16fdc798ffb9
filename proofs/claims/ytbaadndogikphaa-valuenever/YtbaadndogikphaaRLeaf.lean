/- The leaves of the document's own order: tenonref01's numbers, texts, flag, place. -/
import Derived.Test.YtbaadndogikphaaRefCheck
import Derived.Test.YtbaadndogikphaaSameV
namespace Go.Proofs.Ytbaadndogikphaa
open Go.RowKit

set_option maxRecDepth 100000 in
set_option maxHeartbeats 400000 in
theorem numbers_any (a b : Int) (w : World) :
    Calls Try.prog 73 #[.int .u64 a, .int .u64 b] w fun e w' => e = .returned (.int .i64 (Sp.cmpI a b)) ∧ w = w' := by
  by_cases h1 : a < b
  · have H : Hid (Sp.cmpI a b = -1) := by show _ = _; simp [Sp.cmpI, h1]
    go_enter Try.func73, Try.ntmps73
    go_wp2
    go_ret
    exact ⟨ret_int H.out.symm, rfl⟩
  · by_cases h2 : b < a
    · have H : Hid (Sp.cmpI a b = 1) := by show _ = _; simp [Sp.cmpI, h1, h2]
      go_enter Try.func73, Try.ntmps73
      go_wp2
      go_ret
      exact ⟨ret_int H.out.symm, rfl⟩
    · have H : Hid (Sp.cmpI a b = 0) := by show _ = _; simp [Sp.cmpI, h1, h2]
      go_enter Try.func73, Try.ntmps73
      go_wp2
      go_ret
      exact ⟨ret_int H.out.symm, rfl⟩

set_option maxRecDepth 100000 in
set_option maxHeartbeats 400000 in
theorem texts_any (a b : ByteArray) (w : World) :
    Calls Try.prog 76 #[.string a, .string b] w fun e w' => e = .returned (.int .i64 (Sp.cmpS a b)) ∧ w = w' := by
  have hl := less_of a b
  have he := same_of a b
  rcases cmp_vals a.data.toList b.data.toList with h | h | h
  · have H : Hid (Sp.cmpS a b = -1) := h
    rw [H.out] at hl he; simp at hl he
    go_enter Try.func76, Try.ntmps76
    go_wp2
    go_ret
    exact ⟨ret_int H.out.symm, rfl⟩
  · have H : Hid (Sp.cmpS a b = 0) := h
    rw [H.out] at hl he; simp at hl he
    have he' : (a.toList == b.toList) = true := by simp [he]
    clear he
    go_enter Try.func76, Try.ntmps76
    go_wp2
    go_ret
    exact ⟨ret_int H.out.symm, rfl⟩
  · have H : Hid (Sp.cmpS a b = 1) := h
    rw [H.out] at hl he; simp at hl he
    have he' : (a.toList == b.toList) = false := by simp [he]
    clear he
    go_enter Try.func76, Try.ntmps76
    go_wp2
    go_ret
    exact ⟨ret_int H.out.symm, rfl⟩

set_option maxRecDepth 100000 in
set_option maxHeartbeats 400000 in
theorem flag_any (b : Bool) (w : World) :
    Calls Try.prog 74 #[.bool b] w fun e w' => e = .returned (.int .u64 (Sp.rank b)) ∧ w = w' := by
  cases b
  · go_enter Try.func74, Try.ntmps74
    go_wp2
    go_ret
    exact ⟨rfl, rfl⟩
  · go_enter Try.func74, Try.ntmps74
    go_wp2
    go_ret
    exact ⟨rfl, rfl⟩

theorem wrapU {n : Int} (h0 : 0 ≤ n) (h1 : n ≤ 18446744073709551615) : IntKind.u64.wrap n = n := by
  rw [IntKind.wrap_u64]; omega

set_option maxRecDepth 100000 in
set_option maxHeartbeats 400000 in
theorem place_any (f : Nat) (w : World) (hf : f < 18446744073709551616) :
    Calls Try.prog 75 #[.float .f64 f] w fun e w' => e = .returned (.int .u64 (Sp.frank f)) ∧ w = w' := by
  have hb := bits_run f
  by_cases h : 9223372036854775808 ≤ f
  · have ha : (9223372036854775808 : Int) ≤ (f : Int) := by omega
    have H : Hid (Sp.frank f = bits BinOp.xor IntKind.u64 IntKind.u64.max (f : Int)) := by show _ = _; rw [fr_xor f hf]; unfold Sp.frank; rw [if_pos h]
    clear h
    go_enter Try.func75, Try.ntmps75
    go_wp2
    go_ret
    exact ⟨ret_int H.out.symm, rfl⟩
  · have ha : ¬ (9223372036854775808 : Int) ≤ (f : Int) := by omega
    have hw : IntKind.u64.wrap ((f : Int) + 9223372036854775808) = (f : Int) + 9223372036854775808 := wrapU (by omega) (by omega)
    have H : Hid (Sp.frank f = (f : Int) + 9223372036854775808) := by show _ = _; unfold Sp.frank; rw [if_neg h]
    clear h
    go_enter Try.func75, Try.ntmps75
    go_wp2
    go_ret
    exact ⟨ret_int H.out.symm, rfl⟩
end Go.Proofs.Ytbaadndogikphaa

/- tenonref01.own: what is wrong with a part by itself, as the plain mathematics says it. -/
import Derived.Test.YtflcchemkbkinaaTerm
import Derived.Test.YtflcchemkbkinaaNameR
namespace Go.Proofs.Ytflcchemkbkinaa
open Go.RowKit

section
variable (k : Int) (b : Bool) (i : Int) (f : Nat) (tx : ByteArray) (ab : Option Addr) (nb cb : Nat) (rf : Int) (al : Option Addr) (nl cl : Nat) (af : Option Addr) (nf cf : Nat) (c : ByteArray) (vr p n : Int) (w : World)
set_option maxRecDepth 100000 in
set_option maxHeartbeats 1000000 in
theorem own_ent (h : Sp.ent k p n ≠ 0) :
    Calls Try.prog 53 #[.agg (tcells k b i f tx (.slice ab nb cb) rf (.slice al nl cl) (.slice af nf cf) c vr), .int .i64 p, .int .i64 n] w fun e w' => e = .returned (.int .i64 (Sp.ent k p n)) ∧ Below w.heap.size w w' := by
  unfold tcells
  by_cases h11 : k = 11
  · have hk : (k == 11) = true := by simp [h11]
    have H : Hid (Sp.ent k p n = 7) := by show _ = _; simp [Sp.ent, h11]
    clear h h11
    go_enter Try.func53, Try.ntmps53
    go_wp2_with fail
    go_ret
    exact ⟨ret_int H.out.symm, (Below.refl _ _).alloc (Nat.le_refl _) _⟩
  · have hk : (k == 11) = false := by simp [h11]
    by_cases h1 : k < 1
    · have H : Hid (Sp.ent k p n = 6) := by show _ = _; simp [Sp.ent, h11, h1]
      clear h h11
      go_enter Try.func53, Try.ntmps53
      go_wp2_with fail
      go_ret
      exact ⟨ret_int H.out.symm, (Below.refl _ _).alloc (Nat.le_refl _) _⟩
    · by_cases h10 : 10 < k
      · have H : Hid (Sp.ent k p n = 6) := by show _ = _; simp [Sp.ent, h11, h10]
        clear h h11
        go_enter Try.func53, Try.ntmps53
        go_wp2_with fail
        go_ret
        exact ⟨ret_int H.out.symm, (Below.refl _ _).alloc (Nat.le_refl _) _⟩
      · by_cases hp : 16384 ≤ p
        · have H : Hid (Sp.ent k p n = 2) := by show _ = _; simp [Sp.ent, h11, h10, h1, hp]
          clear h h11
          go_enter Try.func53, Try.ntmps53
          go_wp2_with fail
          go_ret
          exact ⟨ret_int H.out.symm, (Below.refl _ _).alloc (Nat.le_refl _) _⟩
        · by_cases hn : 64 < n
          · have H : Hid (Sp.ent k p n = 2) := by show _ = _; simp [Sp.ent, h11, h10, h1, hn]
            clear h h11
            go_enter Try.func53, Try.ntmps53
            go_wp2_with fail
            go_ret
            exact ⟨ret_int H.out.symm, (Below.refl _ _).alloc (Nat.le_refl _) _⟩
          · exact absurd (by simp [Sp.ent, h11, h10, h1, hp, hn]) h

set_option maxRecDepth 100000 in
set_option maxHeartbeats 1000000 in
theorem own_plain (h : Sp.ent k p n = 0) (h5 : k ≠ 5) (h6 : k ≠ 6) (h8 : k ≠ 8) (h9 : k ≠ 9) (h10 : k ≠ 10) :
    Calls Try.prog 53 #[.agg (tcells k b i f tx (.slice ab nb cb) rf (.slice al nl cl) (.slice af nf cf) c vr), .int .i64 p, .int .i64 n] w fun e w' => e = .returned (.int .i64 0) ∧ Below w.heap.size w w' := by
  unfold tcells
  obtain ⟨a1, a2, a3, a4⟩ := Sp.ent_zero h
  have b11 : (k == 11) = false := by simp; omega
  have b10 : (k == 10) = false := by simp; omega
  have b5 : (k == 5) = false := by simp; omega
  have b6 : (k == 6) = false := by simp; omega
  have b8 : (k == 8) = false := by simp; omega
  have b9 : (k != 9) = true := by simp; omega
  have b10' : (k != 10) = true := by simp; omega
  clear h h5 h6 h8 h9 h10
  go_enter Try.func53, Try.ntmps53
  go_wp2_with fail
  go_ret
  exact ⟨rfl, (Below.refl _ _).alloc (Nat.le_refl _) _⟩

set_option maxRecDepth 100000 in
set_option maxHeartbeats 1000000 in
theorem own_5 (h : Sp.ent 5 p n = 0) :
    Calls Try.prog 53 #[.agg (tcells 5 b i f tx (.slice ab nb cb) rf (.slice al nl cl) (.slice af nf cf) c vr), .int .i64 p, .int .i64 n] w fun e w' => e = .returned (.int .i64 (Sp.len tx.size 65536)) ∧ Below w.heap.size w w' := by
  unfold tcells
  obtain ⟨a1, a2, a3, a4⟩ := Sp.ent_zero h
  clear h a1 a2
  by_cases hl : 65536 < tx.size
  · have H : Hid (Sp.len tx.size 65536 = 2) := by show _ = _; unfold Sp.len; rw [if_neg (by omega)]
    go_enter Try.func53, Try.ntmps53
    go_wp2_with fail
    go_ret
    exact ⟨ret_int H.out.symm, (Below.refl _ _).alloc (Nat.le_refl _) _⟩
  · have H : Hid (Sp.len tx.size 65536 = 0) := by show _ = _; unfold Sp.len; rw [if_pos (by omega)]
    have hl' : decide (65536 < (tx.size : Int)) = false := by simp; omega
    go_enter Try.func53, Try.ntmps53
    go_wp2_with fail
    go_ret
    exact ⟨ret_int H.out.symm, (Below.refl _ _).alloc (Nat.le_refl _) _⟩

set_option maxRecDepth 100000 in
set_option maxHeartbeats 1000000 in
theorem own_6 (h : Sp.ent 6 p n = 0) :
    Calls Try.prog 53 #[.agg (tcells 6 b i f tx (.slice ab nb cb) rf (.slice al nl cl) (.slice af nf cf) c vr), .int .i64 p, .int .i64 n] w fun e w' => e = .returned (.int .i64 (Sp.len nb 65536)) ∧ Below w.heap.size w w' := by
  unfold tcells
  obtain ⟨a1, a2, a3, a4⟩ := Sp.ent_zero h
  clear h a1 a2
  by_cases hl : 65536 < nb
  · have H : Hid (Sp.len nb 65536 = 2) := by show _ = _; unfold Sp.len; rw [if_neg (by omega)]
    go_enter Try.func53, Try.ntmps53
    go_wp2_with fail
    go_ret
    exact ⟨ret_int H.out.symm, (Below.refl _ _).alloc (Nat.le_refl _) _⟩
  · have H : Hid (Sp.len nb 65536 = 0) := by show _ = _; unfold Sp.len; rw [if_pos (by omega)]
    have hl' : decide (65536 < (nb : Int)) = false := by simp; omega
    go_enter Try.func53, Try.ntmps53
    go_wp2_with fail
    go_ret
    exact ⟨ret_int H.out.symm, (Below.refl _ _).alloc (Nat.le_refl _) _⟩

set_option maxRecDepth 100000 in
set_option maxHeartbeats 1000000 in
theorem own_8 (h : Sp.ent 8 p n = 0) :
    Calls Try.prog 53 #[.agg (tcells 8 b i f tx (.slice ab nb cb) rf (.slice al nl cl) (.slice af nf cf) c vr), .int .i64 p, .int .i64 n] w fun e w' => e = .returned (.int .i64 (Sp.len nl 4096)) ∧ Below w.heap.size w w' := by
  unfold tcells
  obtain ⟨a1, a2, a3, a4⟩ := Sp.ent_zero h
  clear h a1 a2
  by_cases hl : 4096 < nl
  · have H : Hid (Sp.len nl 4096 = 2) := by show _ = _; unfold Sp.len; rw [if_neg (by omega)]
    go_enter Try.func53, Try.ntmps53
    go_wp2_with fail
    go_ret
    exact ⟨ret_int H.out.symm, (Below.refl _ _).alloc (Nat.le_refl _) _⟩
  · have H : Hid (Sp.len nl 4096 = 0) := by show _ = _; unfold Sp.len; rw [if_pos (by omega)]
    have hl' : decide (4096 < (nl : Int)) = false := by simp; omega
    go_enter Try.func53, Try.ntmps53
    go_wp2_with fail
    go_ret
    exact ⟨ret_int H.out.symm, (Below.refl _ _).alloc (Nat.le_refl _) _⟩

set_option maxRecDepth 100000 in
set_option maxHeartbeats 1000000 in
theorem own_10 (h : Sp.ent 10 p n = 0) (hs : c.size ≤ maxLen) (hh : Sp.headR c vr ≠ 0) :
    Calls Try.prog 53 #[.agg (tcells 10 b i f tx (.slice ab nb cb) rf (.slice al nl cl) (.slice af nf cf) c vr), .int .i64 p, .int .i64 n] w fun e w' => e = .returned (.int .i64 (Sp.headR c vr)) ∧ Below w.heap.size w w' := by
  unfold tcells
  obtain ⟨a1, a2, a3, a4⟩ := Sp.ent_zero h
  clear h a1 a2
  cases hn : Sp.isNm c with
  | false =>
    have H : Hid (Sp.headR c vr = 8) := by show _ = _; simp [Sp.headR, hn]
    clear hh
    go_enter Try.func53, Try.ntmps53
    go_wp2_with (go_at_call 79; refine (Name_any _ _ hs).mono ?_; rintro e w' ⟨rfl, rfl⟩)
    go_ret
    exact ⟨ret_int H.out.symm, (Below.refl _ _).alloc (Nat.le_refl _) _⟩
  | true =>
    by_cases h1 : vr < 1
    · have H : Hid (Sp.headR c vr = 1) := by show _ = _; simp [Sp.headR, hn, h1]
      clear hh
      go_enter Try.func53, Try.ntmps53
      go_wp2_with (go_at_call 79; refine (Name_any _ _ hs).mono ?_; rintro e w' ⟨rfl, rfl⟩)
      go_ret
      exact ⟨ret_int H.out.symm, (Below.refl _ _).alloc (Nat.le_refl _) _⟩
    · by_cases h2 : 1000 < vr
      · have H : Hid (Sp.headR c vr = 1) := by show _ = _; simp [Sp.headR, hn, h2]
        clear hh
        go_enter Try.func53, Try.ntmps53
        go_wp2_with (go_at_call 79; refine (Name_any _ _ hs).mono ?_; rintro e w' ⟨rfl, rfl⟩)
        go_ret
        exact ⟨ret_int H.out.symm, (Below.refl _ _).alloc (Nat.le_refl _) _⟩
      · exact absurd (by simp [Sp.headR, hn, h1, h2]) hh
end
end Go.Proofs.Ytflcchemkbkinaa

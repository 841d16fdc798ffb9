/- tenonref02.Dec and Int, of every number. -/
import Derived.Test.YtnndlffidifddaaGreatDoorK9
import Derived.Lib.ItoaLen
namespace Go.Proofs.YtnndlffidifddaaGreatDoor
open Go.RowKit

set_option maxRecDepth 100000 in
set_option maxHeartbeats 1000000 in
theorem Dec_any : ∀ (n u : Nat) (w : World), u < n → u < 18446744073709551616 →
    Calls Tryz.prog 29 #[.int .u64 (u : Int)] w fun e w' => e = .returned (.string ⟨(Lib.decDigits u).toArray⟩) ∧ Below w.heap.size w w'
  | 0, u, w, h, _ => by omega
  | n + 1, u, w, h, h64 => by
    by_cases h10 : u < 10
    · obtain ⟨c, HC, hc⟩ : ∃ c : UInt8, Hid (Lib.decDigits u = [c]) ∧ (c.toNat : Int) = 48 + (u : Int) := ⟨UInt8.ofNat (48 + u), Lib.decDigits_one h10, by
        have : (UInt8.ofNat (48 + u)).toNat = (48 + u) % 256 := rfl
        rw [this]; omega⟩
      have hcv : (convert 23 9 (.slice (some ⟨w.heap.size, 0, none⟩) 1 1)).run Tryz.prog (w.alloc (.cells #[.int .u8 (48 + (u : Int))] 5)) = .ok (.string ⟨#[c]⟩) (w.alloc (.cells #[.int .u8 (48 + (u : Int))] 5)) := by
        refine conv_row [c] w.heap.size 0 1 _ (fun j v hj => ?_)
        match j, hj with
        | 0, hj =>
          simp at hj
          subst hj
          rw [hc]
          simp
      clear hc
      go_enter Tryz.func29, Tryz.ntmps29
      go_wp2_with fail
      go_ret
      exact ⟨by rw [HC.out]; rfl, (Below.refl _ _).alloc (Nat.le_refl _) _⟩
    · obtain ⟨A, hA, HA⟩ : ∃ A : ByteArray, A.size ≤ 20 ∧ Hid (A = ⟨(Lib.decDigits (u / 10)).toArray⟩) := ⟨_, by
        show (Lib.decDigits (u / 10)).toArray.size ≤ 20
        rw [List.size_toArray, Lib.decDigits_length]; exact Lib.nDigits_le20 _ (by omega), rfl⟩
      obtain ⟨B, hB, HB⟩ : ∃ B : ByteArray, B.size ≤ 20 ∧ Hid (B = ⟨(Lib.decDigits (u % 10)).toArray⟩) := ⟨_, by
        show (Lib.decDigits (u % 10)).toArray.size ≤ 20
        rw [List.size_toArray, Lib.decDigits_length]; exact Lib.nDigits_le20 _ (by omega), rfl⟩
      have HCA : Hid (∀ W, Calls Tryz.prog 29 #[.int .u64 ((u : Int) / 10)] W fun e w' => e = .returned (.string A) ∧ Below W.heap.size W w') := fun W => by rw [HA.out]; exact Dec_any n (u / 10) W (by omega) (by omega)
      have HCB : Hid (∀ W, Calls Tryz.prog 29 #[.int .u64 ((u : Int) % 10)] W fun e w' => e = .returned (.string B) ∧ Below W.heap.size W w') := fun W => by rw [HB.out]; exact Dec_any n (u % 10) W (by omega) (by omega)
      have HD : Hid (A ++ B = ⟨(Lib.decDigits u).toArray⟩) := by
        show _ = _
        rw [HA.out, HB.out, ba_app]
        conv => rhs; rw [Lib.decDigits, dif_neg h10]
        rw [Lib.decDigits_one (i := u % 10) (by omega)]
      go_enter Tryz.func29, Tryz.ntmps29
      go_wp2_with fail
      refine (HCA.out _).mono ?_
      rintro e w1 ⟨rfl, hb1⟩
      have HB1 : Hid (Below w.heap.size w w1) := hb1
      clear hb1
      go_wp2_with fail
      refine (HCB.out _).mono ?_
      rintro e w2 ⟨rfl, hb2⟩
      have HB2 : Hid (Below w.heap.size w w2) := below_to HB1.out hb2
      clear hb2
      go_wp2_with fail
      go_ret
      exact ⟨ret_str HD.out, HB2.out⟩


set_option maxRecDepth 100000 in
set_option maxHeartbeats 1000000 in
theorem IntR_any (n : Int) (w : World) (h0 : -9223372036854775808 ≤ n) (h1 : n ≤ 9223372036854775807) :
    Calls Tryz.prog 55 #[.int .i64 n] w fun e w' => e = .returned (.string ⟨(Lib.itoa n).toArray⟩) ∧ Below w.heap.size w w' := by
  obtain ⟨u, hu, HU⟩ : ∃ u : Nat, u < 18446744073709551616 ∧ Hid (u = n.natAbs) := ⟨n.natAbs, by omega, rfl⟩
  obtain ⟨A, hA, HA⟩ : ∃ A : ByteArray, A.size ≤ 20 ∧ Hid (A = ⟨(Lib.decDigits u).toArray⟩) := ⟨_, by
    show (Lib.decDigits u).toArray.size ≤ 20
    rw [List.size_toArray, Lib.decDigits_length]; exact Lib.nDigits_le20 _ (by omega), rfl⟩
  have HD : Hid (∀ W, Calls Tryz.prog 29 #[.int .u64 (u : Int)] W fun e w' => e = .returned (.string A) ∧ Below W.heap.size W w') := fun W => by rw [HA.out]; exact Dec_any (u + 1) u W (by omega) (by omega)
  by_cases hn : n < 0
  · have HI : Hid ((⟨#[45]⟩ : ByteArray) ++ A = ⟨(Lib.itoa n).toArray⟩) := by
      show _ = _
      rw [HA.out, HU.out]; unfold Lib.itoa; rw [if_pos hn]; exact ba_app [45] _
    have hw : IntKind.u64.wrap (-IntKind.u64.wrap n) = (u : Int) := by rw [IntKind.wrap_u64, IntKind.wrap_u64, HU.out]; omega
    go_enter Tryz.func55, Tryz.ntmps55
    go_wp2_with fail
    refine (HD.out _).mono ?_
    rintro e w1 ⟨rfl, hb1⟩
    have HB1 : Hid (Below w.heap.size w w1) := hb1
    clear hb1
    go_wp2_with fail
    go_ret
    exact ⟨ret_str HI.out, HB1.out⟩
  · have HI : Hid (A = ⟨(Lib.itoa n).toArray⟩) := by
      show _ = _
      rw [HA.out, HU.out]; unfold Lib.itoa; rw [if_neg hn, show n.natAbs = n.toNat by omega]
    obtain rfl : n = (u : Int) := by have := HU.out; omega
    go_enter Tryz.func55, Tryz.ntmps55
    go_wp2_with fail
    refine (HD.out _).mono ?_
    rintro e w1 ⟨rfl, hb1⟩
    have HB1 : Hid (Below w.heap.size w w1) := hb1
    clear hb1
    go_wp2_with fail
    go_ret
    exact ⟨by rw [HI.out]; rfl, HB1.out⟩
end Go.Proofs.YtnndlffidifddaaGreatDoor


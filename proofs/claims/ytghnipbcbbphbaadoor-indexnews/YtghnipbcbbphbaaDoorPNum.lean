/- tenonref02.Dec, Int and Natural: decimal numerals; tenonref02.Reader.Run: runs of figures and of words. -/
import Derived.Test.YtghnipbcbbphbaaDoorPBase
import Derived.Lib.ItoaLen
namespace Go.Proofs.YtghnipbcbbphbaaDoor
open Go.RowKit

theorem ret_str {a b : ByteArray} (h : a = b) : Ending.returned (.string a) = .returned (.string b) := by rw [h]

set_option maxRecDepth 100000 in
theorem Dec_any : ∀ (n u : Nat) (w : World), u < n → u < 18446744073709551616 →
    Calls Tryd.prog 28 #[.int .u64 (u : Int)] w fun e w' => e = .returned (.string ⟨(Lib.decDigits u).toArray⟩) ∧ Below w.heap.size w w'
  | 0, u, w, h, _ => by omega
  | n + 1, u, w, h, h64 => by
    by_cases h10 : u < 10
    · obtain ⟨c, HC, hc⟩ : ∃ c : UInt8, Hid (Lib.decDigits u = [c]) ∧ (c.toNat : Int) = 48 + (u : Int) := ⟨UInt8.ofNat (48 + u), Lib.decDigits_one h10, by
        have : (UInt8.ofNat (48 + u)).toNat = (48 + u) % 256 := rfl
        rw [this]; omega⟩
      have hcv : (convert 67 9 (.slice (some ⟨w.heap.size, 0, none⟩) 1 1)).run Tryd.prog (w.alloc (.cells #[.int .u8 (48 + (u : Int))] 5)) = .ok (.string ⟨#[c]⟩) (w.alloc (.cells #[.int .u8 (48 + (u : Int))] 5)) := by
        refine conv_row [c] w.heap.size 0 1 _ (fun j v hj => ?_)
        match j, hj with
        | 0, hj =>
          simp at hj
          subst hj
          rw [hc]
          simp
      clear hc
      go_enter Tryd.func28, Tryd.ntmps28
      go_wp2_with fail
      go_ret
      exact ⟨by rw [HC.out]; rfl, (Below.refl _ _).alloc (Nat.le_refl _) _⟩
    · obtain ⟨A, hA, HA⟩ : ∃ A : ByteArray, A.size ≤ 20 ∧ Hid (A = ⟨(Lib.decDigits (u / 10)).toArray⟩) := ⟨_, by
        show (Lib.decDigits (u / 10)).toArray.size ≤ 20
        rw [List.size_toArray, Lib.decDigits_length]; exact Lib.nDigits_le20 _ (by omega), rfl⟩
      obtain ⟨B, hB, HB⟩ : ∃ B : ByteArray, B.size ≤ 20 ∧ Hid (B = ⟨(Lib.decDigits (u % 10)).toArray⟩) := ⟨_, by
        show (Lib.decDigits (u % 10)).toArray.size ≤ 20
        rw [List.size_toArray, Lib.decDigits_length]; exact Lib.nDigits_le20 _ (by omega), rfl⟩
      have HCA : Hid (∀ W, Calls Tryd.prog 28 #[.int .u64 ((u : Int) / 10)] W fun e w' => e = .returned (.string A) ∧ Below W.heap.size W w') := fun W => by rw [HA.out]; exact Dec_any n (u / 10) W (by omega) (by omega)
      have HCB : Hid (∀ W, Calls Tryd.prog 28 #[.int .u64 ((u : Int) % 10)] W fun e w' => e = .returned (.string B) ∧ Below W.heap.size W w') := fun W => by rw [HB.out]; exact Dec_any n (u % 10) W (by omega) (by omega)
      have HD : Hid (A ++ B = ⟨(Lib.decDigits u).toArray⟩) := by
        show _ = _
        rw [HA.out, HB.out, ba_app]
        conv => rhs; rw [Lib.decDigits, dif_neg h10]
        rw [Lib.decDigits_one (i := u % 10) (by omega)]
      go_enter Tryd.func28, Tryd.ntmps28
      go_wp2_with fail
      refine (HCA.out _).mono ?_
      rintro e w1 ⟨rfl, hb1⟩
      have HB1 : Hid (Below w.heap.size w w1) := hb1
      clear hb1
      go_wp2_with fail
      refine (HCB.out _).mono ?_
      rintro e w2 ⟨rfl, hb2⟩
      have HB2 : Hid (Below w.heap.size w w2) := below_to HB1.out hb2
      clear hb2
      go_wp2_with fail
      go_ret
      exact ⟨ret_str HD.out, HB2.out⟩

/-- the number of figures: told if it is below 2^64 and the figures have no zero ahead -/
theorem num_step (s : ByteArray) (k : Nat) (hk : k < s.size) : Sp.num (s.data.toList.take (k + 1)) = 10 * Sp.num (s.data.toList.take k) + (s[k].toNat - 48) := by
  have hk' : k < s.data.toList.length := by rw [Array.length_toList]; exact hk
  rw [List.take_succ_eq_append_getElem hk', Sp.num_snoc]
  rfl

/-- what Natural tells of figures without a zero ahead -/
def NatE (s : ByteArray) (e : Ending) : Prop := ∃ (n : Int) (ok : Bool), e = .returned (.tuple #[.int .u64 n, .bool ok]) ∧ (ok = true → n = (Sp.num s.data.toList : Int)) ∧ (ok = false → 4096 ≤ Sp.num s.data.toList)

set_option maxRecDepth 100000 in
set_option maxHeartbeats 1000000 in
theorem Natural_any (s : ByteArray) (w : World) (hs : s.size ≤ maxLen) (h1 : 1 ≤ s.size) (hd : Sp.digs s.data.toList) (hz : 1 < s.size → s.data.toList.head? ≠ some 48) :
    Calls Tryd.prog 21 #[.string s] w fun e w' => NatE s e ∧ Below w.heap.size w w' := by
  unfold maxLen at hs
  have HL : Hid (s.data.toList.length = s.size) := by show _ = _; rw [Array.length_toList]; rfl
  have HZ : Hid (Lib.decDigits (Sp.num s.data.toList) = s.data.toList) := Sp.dec_num (s.size - 1) _ (by rw [HL.out]; omega) hd (by rw [HL.out]; exact hz)
  have HDG : Hid (∀ k (h : k < s.size), 48 ≤ s[k].toNat ∧ s[k].toNat ≤ 57) := fun k h => hd s[k] (by
    have hk' : k < s.data.toList.length := by rw [Array.length_toList]; exact h
    have : s[k] = s.data.toList[k] := rfl
    rw [this]; exact List.getElem_mem hk')
  clear hd hz
  go_enter Tryd.func21, Tryd.ntmps21
  go_wp2_with fail
  go_loop [4, 5] (fun m i => ∃ k n : Nat, k ≤ s.size ∧ i = .int .i64 k ∧ m = .int .u64 (n : Int) ∧ n < 18446744073709551616 ∧ Hid (n = Sp.num (s.data.toList.take k))) (fun _ i => s.size - (intOf i).toNat)
  case atStart => exact ⟨0, 0, by omega, rfl, rfl, by omega, rfl⟩
  case round =>
    obtain ⟨k, n, hk, rfl, rfl, hn, HN⟩ := hrel
    by_cases hlt : k < s.size
    · have HS : Hid (Sp.num (s.data.toList.take (k + 1)) = 10 * n + (s[k].toNat - 48)) := by show _ = _; rw [HN.out]; exact num_step s k hlt
      have HT : Hid (Sp.num (s.data.toList.take (k + 1)) ≤ Sp.num s.data.toList) := Sp.num_take_le _ _
      have hbd := HDG.out k hlt
      obtain ⟨c0, c1⟩ := hbd
      go_wp2_with fail
      · go_ret2
        refine ⟨⟨0, false, rfl, fun h => (by cases h), fun _ => ?_⟩, Below.refl _ _⟩
        have a1 := HS.out
        have a2 := HT.out
        omega
      · go_round
        case rel => exact ⟨k + 1, 10 * n + (s[k].toNat - 48), by omega, by go_num, by congr 1; omega, by omega, HS.out.symm⟩
        case measure => simp [intOf]; omega
    · have HE : Hid (n = Sp.num s.data.toList) := by show _ = _; rw [HN.out, List.take_of_length_le (by rw [HL.out]; omega)]
      have HC : Hid (∀ W, Calls Tryd.prog 28 #[.int .u64 (n : Int)] W fun e w' => e = .returned (.string s) ∧ Below W.heap.size W w') := fun W => by
        have := Dec_any (n + 1) n W (by omega) hn
        rw [HE.out, HZ.out, ba_eta] at this
        rw [HE.out]; exact this
      go_wp2_with fail
      refine (HC.out _).mono ?_
      rintro e w1 ⟨rfl, hb1⟩
      have HB1 : Hid (Below w.heap.size w w1) := hb1
      clear hb1
      go_wp2_with fail
      go_ret2
      exact ⟨⟨n, true, rfl, fun _ => by rw [HE.out], fun h => by cases h⟩, HB1.out⟩

end Go.Proofs.YtghnipbcbbphbaaDoor

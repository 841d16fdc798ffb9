/- tenonref02.digits. -/
import Derived.Test.YtnndlffidifddaaGreatDoorK10
import Derived.Laws.ShiftsVar
namespace Go.Proofs.YtnndlffidifddaaGreatDoor
open Go.RowKit

theorem Sp.hexN_takeC {n c j : Nat} (hj : j < c) : (Sp.hexN n c).take (j + 1) = (Sp.hexN n c).take j ++ [Sp.hexd (n / 16 ^ (c - 1 - j) % 16)] := by
  have hjl : j < (Sp.hexN n c).length := by rw [Sp.hexN_len]; exact hj
  rw [List.take_succ_eq_append_getElem hjl]
  have hat := Sp.hexN_at n c j hj
  rw [List.getElem?_eq_getElem hjl] at hat
  injection hat with hat
  rw [hat]

set_option maxRecDepth 100000 in
set_option maxHeartbeats 2000000 in
theorem digits_any (n c : Nat) (w : World) (_hn : n < 18446744073709551616) (hc : c ≤ 16) :
    Calls Tryz.prog 28 #[.int .u64 (n : Int), .int .i64 (c : Int)] w fun e w' => e = .returned (.string ⟨(Sp.hexN n c).toArray⟩) ∧ Below w.heap.size w w' := by
  obtain ⟨i0, hi, hz0, hz1, hz2⟩ := info_parts Tryz.infoB
  go_enter Tryz.func28, Tryz.ntmps28
  go_wp2_with fail
  go_loopw [5, 6] (fun u i wr => ∃ (j : Nat) (a' : Option Addr) (p' : Nat), j ≤ c ∧ i = .int .i64 ((c : Int) - 1 - j) ∧ u = .slice a' j p' ∧ Hid (Byts wr w.heap.size a' j p' ((Sp.hexN n c).take j)) ∧ Hid (Below w.heap.size w wr)) (fun _ i _ => (intOf i + 1).toNat)
  case atStart => exact ⟨0, none, 0, by omega, by simp, rfl, ⟨by simp, rfl, .inl ⟨rfl, rfl⟩⟩, Below.refl _ _⟩
  case round =>
    obtain ⟨j, a', p', hj, rfl, rfl, HN, HB⟩ := hrel
    by_cases hlt : j < c
    · have HX : Hid ((Sp.hexN n c).take (j + 1) = (Sp.hexN n c).take j ++ [Sp.hexd (n / 16 ^ (c - 1 - j) % 16)]) := Sp.hexN_takeC hlt
      obtain ⟨d, HD⟩ : ∃ d : Nat, Hid (c = j + 1 + d) := ⟨c - j - 1, by show _ = _; omega⟩
      have hd16 : d ≤ 15 := by have := HD.out; omega
      have e1 : (c : Int) - 1 - (j : Int) = (d : Int) := by have := HD.out; omega
      simp only [e1]
      have hx : ∀ W, (Instr.index 9 (.string ⟨#[48, 49, 50, 51, 52, 53, 54, 55, 56, 57, 97, 98, 99, 100, 101, 102]⟩) (.int .u64 (Int.tmod ((n : Int) / 2 ^ (4 * d)) 16))).run Tryz.prog W = .ok (.int .u8 ((Sp.hexd (n / 16 ^ (c - 1 - j) % 16)).toNat : Int)) W := by
        refine idx_hex .u64 _ _ ?_ (Nat.mod_lt _ (by decide))
        rw [show c - 1 - j = d by have := HD.out; omega, show (16 : Nat) = 2 ^ 4 by decide, ← Nat.pow_mul]
        generalize 4 * d = q
        have e2 : ((n : Int) / 2 ^ q) = ((n / 2 ^ q : Nat) : Int) := by push_cast; rfl
        rw [e2, Int.tmod_eq_emod_of_nonneg (Int.natCast_nonneg _)]
        push_cast; rfl
      generalize Sp.hexd (n / 16 ^ (c - 1 - j) % 16) = v at hx HX
      go_wp2_with (at_builtin; refine wpList_app _ rfl _ _ 23 rfl w.heap.size 5 i0 (.int .u8 0) 1 1 Tryz.undB hi hz0 hz1 hz2 rfl (by decide) _ j (Sp.u8c ((Sp.hexN n c).take j)) rfl (HN.out.2.alloc _) ⟨wr.heap.size, 0, none⟩ 1 1 (Sp.u8c [v]) rfl rfl (bytes_new wr [v] rfl rfl) (u8c_one _) (by decide) (by unfold maxLen; omega) (by omega) (by have := HB.out.size; simp; omega) ?_; intro g5 p5 w5 hown hgrow hor; have HB5 : Hid (Below w.heap.size w w5) := (HB.out.alloc HB.out.size _).grown hgrow (by have := HB.out.size; simp; omega) (fun q hq => own_ge HN.out.2 hq); have HN5 : Hid (Byts w5 w.heap.size (some ⟨g5, 0, none⟩) (j + 1) p5 ((Sp.hexN n c).take j ++ [v])) := ⟨by rw [List.length_append, ← HN.out.1]; rfl, by rw [u8c_app]; exact hown⟩; clear hown hgrow hor)
      go_roundw
      case rel => exact ⟨j + 1, _, p5, by omega, (by congr 1; have := HD.out; omega), rfl, (by show Byts _ _ _ _ _ _; rw [HX.out]; exact HN5.out), HB5⟩
      case measure => simp [intOf]
    · obtain rfl : j = c := by omega
      have e1 : (j : Int) - 1 - (j : Int) = -1 := by omega
      simp only [e1]
      have HE : Hid ((Sp.hexN n j).take j = Sp.hexN n j) := by show _ = _; rw [List.take_of_length_le (by rw [Sp.hexN_len]; omega)]
      have hcv := HN.out.conv (Below.refl _ _)
      rw [HE.out] at hcv
      go_wp2_with fail
      go_ret
      exact ⟨rfl, HB.out⟩
end Go.Proofs.YtnndlffidifddaaGreatDoor


/- internal/strconv.fmtX: one of its cases. -/
import Derived.Test.YtnndlffidifddaaGreatDoorK19
namespace Go.Proofs.YtnndlffidifddaaGreatDoor
open Go.RowKit

set_option maxRecDepth 100000 in
set_option maxHeartbeats 2000000 in
theorem fmtX_im (m p fr : Nat) (e : Int) (a : Option Addr) (cap base : Nat) (w : World) (h : Byts w base a 0 cap []) (hb : base ≤ w.heap.size) (hm : m < 9007199254740992) (hm0 : m ≠ 0) (he0 : -1100 ≤ e) (he1 : e ≤ 1100)
    (hp : p ≤ 52) (hr : m * 2 ^ p = 4503599627370496 + fr) (hfr : fr < 4503599627370496) (hfr0 : fr = 0) (hlow : ∀ c, c < p → m * 2 ^ c < 4503599627370496) (RES : List UInt8) (hres : RES = [45, 48, 120, 49] ++ Sp.fracT fr ++ [112] ++ Sp.expT (e - (p : Int))) :
    Calls Tryz.prog 87 #[.slice a 0 cap, .int .i64 (-1), .int .u8 120, .bool true, .int .u64 (m : Int), .int .i64 e, .int .i64 52] w (AppE base [] RES w) := by
  obtain ⟨i0, hi, hz0, hz1, hz2⟩ := info_parts Tryz.infoB
  have HO : Hid (Byts w base a 0 cap []) := h
  have HR : Hid (m * 2 ^ p = 4503599627370496 + fr ∧ fr < 4503599627370496) := ⟨hr, hfr⟩
  have HLW : Hid (∀ c, c < p → m * 2 ^ c < 4503599627370496) := hlow
  have HPW : Hid (∀ c, m * 2 ^ (c + 1) = m * 2 ^ c * 2) := fun c => by rw [Nat.pow_succ, Nat.mul_assoc]
  have HRS : Hid (RES = [45, 48, 120, 49] ++ Sp.fracT fr ++ [112] ++ Sp.expT (e - (p : Int))) := hres
  clear h hr hfr hlow hres
  have d0 : ((m : Int) == 0) = false := by simp; omega
  have HMM : Hid (0 < m) := by show 0 < m; omega
  clear hm0
  go_enter Tryz.func87, Tryz.ntmps87
  go_wp2_with fail
  clear hm d0
  go_loopw [4, 5] (fun mv ev wr => ∃ c : Nat, c ≤ p ∧ ev = .int .i64 (e - (c : Int)) ∧ mv = .int .u64 ((m * 2 ^ c : Nat) * 256 : Int) ∧ w = wr) (fun _ ev _ => (intOf ev + 2000).toNat)
  case atStart => exact ⟨0, by omega, (by rw [show e - ((0 : Nat) : Int) = e by omega]), (by rw [Nat.pow_zero, Nat.mul_one]), rfl⟩
  case round =>
    obtain ⟨c, hc, rfl, rfl, rfl⟩ := hrel
    have hq0 : 0 < m * 2 ^ c := Nat.mul_pos HMM.out (Nat.two_pow_pos _)
    by_cases hlt : c < p
    · have hq := HLW.out c hlt
      have hnx := HPW.out c
      have HLT : Hid (c + 1 ≤ p) := hlt
      generalize m * 2 ^ c = q0 at hq hnx hq0 ⊢
      have hand := and60 (q0 * 256) (by omega)
      rw [if_neg (by omega)] at hand
      obtain ⟨q, hqq⟩ : ∃ q : Int, (q0 : Int) * 256 = q := ⟨_, rfl⟩
      have hand' : bits BinOp.and IntKind.u64 q 1152921504606846976 = 0 := by rw [← hqq, ← hand]; congr 1
      rw [hqq]
      have HNX : Hid (((m * 2 ^ (c + 1) : Nat) : Int) * 256 = q * 2) := by show _ = _; rw [hnx]; omega
      have hn0 : (q != 0) = true := by simp; omega
      have hqI : q < 1152921504606846976 := by omega
      have hqJ : 0 ≤ q := by omega
      have hc52 : (c : Int) ≤ 52 := by omega
      clear hand hnx hq hlt hc hqq hq0 hp
      go_wp2_with fail
      refine ⟨⟨c + 1, HLT.out, ?_, ?_, trivial⟩, ?_⟩
      · exact congrArg (Value.int .i64) (by omega)
      · rw [HNX.out]
      · simp [intOf]; omega
    · obtain rfl : c = p := by omega
      have hq := HR.out.1
      have hfr := HR.out.2
      generalize m * 2 ^ c = q0 at hq hq0 ⊢
      have hand := and60 (q0 * 256) (by omega)
      rw [if_pos (by omega)] at hand
      obtain ⟨q, hqq⟩ : ∃ q : Int, (q0 : Int) * 256 = q := ⟨_, rfl⟩
      have hand' : bits BinOp.and IntKind.u64 q 1152921504606846976 = 1152921504606846976 := by rw [← hqq, ← hand]; congr 1
      rw [hqq]
      have hn0 : (q != 0) = true := by simp; omega
      have h60 : q / 1152921504606846976 = 1 := by omega
      have hsh : IntKind.u64.wrap (q * 16) = ((Sp.rest fr 0 : Nat) : Int) := by rw [IntKind.wrap_u64, Sp.rest_0 fr hfr]; omega
      have hc52 : (c : Int) ≤ 52 := by omega
      clear hand hq hlt hc hqq hq0 hp hfr
      have ha1 : bits BinOp.and IntKind.u64 1 1 = 1 := by decide +kernel
      have hr0 : ((Sp.rest fr 0 : Nat) : Int) = 0 := by have := Sp.rest_0 fr HR.out.2; omega
      obtain ⟨L, HLE⟩ : ∃ L, Hid (L = [45, 48, 120, 49] ++ Sp.fracT fr) := ⟨_, show _ = _ from rfl⟩
      have HLE0 : Hid (L = [] ++ [45] ++ [48, 120, 49]) := by show _ = _; rw [HLE.out, Sp.fracT, if_pos hfr0]; simp
      clear hfr0
      obtain ⟨X, HXE⟩ : ∃ X : Int, Hid (X = e - (c : Int)) := ⟨_, show _ = _ from rfl⟩
      have HRE : Hid (RES = L ++ [112] ++ Sp.expT X) := by show _ = _; rw [HRS.out, HLE.out, HXE.out]
      clear HLE
      by_cases hsg : e - (c : Int) < 0
      · obtain ⟨n, hn⟩ : ∃ n : Nat, e - (c : Int) = -(n : Int) := ⟨(e - (c : Int)).natAbs, by omega⟩
        have HNX : Hid (X.natAbs = n) := by show _ = _; have := HXE.out; omega
        have hn0 : 0 < n := by omega
        have hnI : -(n : Int) < 0 := by omega
        have hnM : n ≤ 1200 := by omega
        have HXE : Hid (X < 0) := by show _ < _; have := HXE.out; omega
        rw [hn]
        clear hn hsg
        by_cases hn100 : n < 100
        · obtain ⟨b0, HD0, hd0'⟩ := fig (n / 10) (by omega)
          have hd0 : (n : Int) / 10 + 48 = (b0.toNat : Int) := by omega
          clear hd0'
          obtain ⟨b1, HD1, hd1'⟩ := fig (n % 10) (by omega)
          have hd1 : (n : Int) % 10 + 48 = (b1.toNat : Int) := by omega
          clear hd1'
          have HE : Hid (Sp.expT X = 45 :: [b0, b1]) := by
            show _ = _
            unfold Sp.expT
            rw [HNX.out, if_pos (by have := HXE.out; omega), Sp.dec2 hn100, HD0.out, HD1.out]
          clear HNX HXE
          go_wp2_with (first | (at_builtin; refine wpList_app _ rfl _ _ 23 rfl base 5 i0 (.int .u8 0) 1 1 Tryz.undB hi hz0 hz1 hz2 rfl (by decide) _ (0) (Sp.u8c ([])) rfl (HO.out.2.alloc _) ⟨w.heap.size, 0, none⟩ 1 1 (Sp.u8c [45]) rfl rfl (bytes_new w [45] rfl rfl) (u8c_one _) (by decide) (by unfold maxLen; omega) (by omega) (by have := hb; simp; omega) ?_; intro g3 p3 w3 hown hgrow hor; have HB3 : Hid (Below base w w3) := ((Below.refl base w).alloc hb _).grown hgrow (by have := hb; simp; omega) (fun q hq => own_ge HO.out.2 hq); have HN3 : Hid (Byts w3 base (some ⟨g3, 0, none⟩) (0 + 1) p3 ([] ++ [45])) := ⟨by rw [List.length_append, ← HO.out.1]; rfl, by rw [u8c_app]; exact hown⟩; have HZ3 : Hid (base ≤ w3.heap.size) := Nat.le_trans hb HB3.out.size; clear hown hgrow hor) | (at_builtin; refine wpList_app _ rfl _ _ 23 rfl base 5 i0 (.int .u8 0) 1 1 Tryz.undB hi hz0 hz1 hz2 rfl (by decide) _ (0 + 1) (Sp.u8c ([] ++ [45])) rfl (HN3.out.2.alloc _) ⟨w3.heap.size, 0, none⟩ 3 3 (Sp.u8c [48, 120, 49]) rfl rfl (bytes_new w3 [48, 120, 49] rfl rfl) (u8c_one _) (by decide) (by unfold maxLen; omega) (by omega) (by have := HZ3.out; simp; omega) ?_; intro g1 p1 w1 hown hgrow hor; have HB1 : Hid (Below base w w1) := (HB3.out.alloc HZ3.out _).grown hgrow (by have := HZ3.out; simp; omega) (fun q hq => own_ge HN3.out.2 hq); have HN1 : Hid (Byts w1 base (some ⟨g1, 0, none⟩) (0 + 1 + 3) p1 ([] ++ [45] ++ [48, 120, 49])) := ⟨by rw [List.length_append, ← HN3.out.1]; rfl, by rw [u8c_app]; exact hown⟩; have HZ1 : Hid (base ≤ w1.heap.size) := Nat.le_trans hb HB1.out.size; clear hown hgrow hor; have HN0 : Hid (Byts w1 base (some ⟨g1, 0, none⟩) (0 + 1 + 3) p1 L) := (by show Byts _ _ _ _ _ _; rw [HLE0.out]; exact HN1.out); have HB0 := HB1; have HZ0 := HZ1) | (go_at_call 102; refine (lower_x _).mono ?_; rintro e9 w9 ⟨rfl, rfl⟩) | (at_builtin; refine wpList_app _ rfl _ _ 23 rfl base 5 i0 (.int .u8 0) 1 1 Tryz.undB hi hz0 hz1 hz2 rfl (by decide) _ (0 + 1 + 3) (Sp.u8c (L)) rfl (HN0.out.2.alloc _) ⟨w1.heap.size, 0, none⟩ 1 1 (Sp.u8c [112]) rfl rfl (bytes_new w1 [112] rfl rfl) (u8c_one _) (by decide) (by unfold maxLen; omega) (by omega) (by have := HZ0.out; simp; omega) ?_; intro g6 p6 w6 hown hgrow hor; have HB6 : Hid (Below base w w6) := (HB0.out.alloc HZ0.out _).grown hgrow (by have := HZ0.out; simp; omega) (fun q hq => own_ge HN0.out.2 hq); have HN6 : Hid (Byts w6 base (some ⟨g6, 0, none⟩) (0 + 1 + 3 + 1) p6 (L ++ [112])) := ⟨by rw [List.length_append, ← HN0.out.1]; rfl, by rw [u8c_app]; exact hown⟩; have HZ6 : Hid (base ≤ w6.heap.size) := Nat.le_trans hb HB6.out.size; clear hown hgrow hor) | (at_builtin; refine wpList_app _ rfl _ _ 23 rfl base 5 i0 (.int .u8 0) 1 1 Tryz.undB hi hz0 hz1 hz2 rfl (by decide) _ (0 + 1 + 3 + 1) (Sp.u8c (L ++ [112])) rfl (HN6.out.2.alloc _) ⟨w6.heap.size, 0, none⟩ 1 1 (Sp.u8c [45]) rfl rfl (bytes_new w6 [45] rfl rfl) (u8c_one _) (by decide) (by unfold maxLen; omega) (by omega) (by have := HZ6.out; simp; omega) ?_; intro g7 p7 w7 hown hgrow hor; have HB7 : Hid (Below base w w7) := (HB6.out.alloc HZ6.out _).grown hgrow (by have := HZ6.out; simp; omega) (fun q hq => own_ge HN6.out.2 hq); have HN7 : Hid (Byts w7 base (some ⟨g7, 0, none⟩) (0 + 1 + 3 + 1 + 1) p7 (L ++ [112] ++ [45])) := ⟨by rw [List.length_append, ← HN6.out.1]; rfl, by rw [u8c_app]; exact hown⟩; have HZ7 : Hid (base ≤ w7.heap.size) := Nat.le_trans hb HB7.out.size; clear hown hgrow hor) | (at_builtin; refine wpList_app _ rfl _ _ 23 rfl base 5 i0 (.int .u8 0) 1 1 Tryz.undB hi hz0 hz1 hz2 rfl (by decide) _ (0 + 1 + 3 + 1 + 1) (Sp.u8c (L ++ [112] ++ [45])) rfl (HN7.out.2.alloc _) ⟨w7.heap.size, 0, none⟩ 2 2 (Sp.u8c [b0, b1]) rfl rfl (bytes_new w7 [b0, b1] rfl rfl) (u8c_one _) (by decide) (by unfold maxLen; omega) (by omega) (by have := HZ7.out; simp; omega) ?_; intro g8 p8 w8 hown hgrow hor; have HB8 : Hid (Below base w w8) := (HB7.out.alloc HZ7.out _).grown hgrow (by have := HZ7.out; simp; omega) (fun q hq => own_ge HN7.out.2 hq); have HN8 : Hid (Byts w8 base (some ⟨g8, 0, none⟩) (0 + 1 + 3 + 1 + 1 + 2) p8 (L ++ [112] ++ [45] ++ [b0, b1])) := ⟨by rw [List.length_append, ← HN7.out.1]; rfl, by rw [u8c_app]; exact hown⟩; have HZ8 : Hid (base ≤ w8.heap.size) := Nat.le_trans hb HB8.out.size; clear hown hgrow hor))
          go_ret
          have HR8 : Hid (L ++ [112] ++ [45] ++ [b0, b1] = RES) := by show _ = _; rw [HRE.out, HE.out]; simp
          have e8 : 0 + 1 + 3 + 1 + 1 + 2 = ([] : List UInt8).length + RES.length := by
            have := HN8.out.1
            rw [HR8.out] at this
            rw [this]; simp
          refine ⟨some ⟨g8, 0, none⟩, p8, ?_, ?_, HB8.out⟩
          · rw [← e8]; rfl
          · rw [← e8, List.nil_append, ← HR8.out]; exact HN8.out
        · by_cases hn1000 : n < 1000
          · obtain ⟨b0, HD0, hd0'⟩ := fig (n / 100) (by omega)
            have hd0 : (n : Int) / 100 + 48 = (b0.toNat : Int) := by omega
            clear hd0'
            obtain ⟨b1, HD1, hd1'⟩ := fig (n / 10 % 10) (by omega)
            have hd1 : (n : Int) / 10 % 10 + 48 = (b1.toNat : Int) := by omega
            clear hd1'
            obtain ⟨b2, HD2, hd2'⟩ := fig (n % 10) (by omega)
            have hd2 : (n : Int) % 10 + 48 = (b2.toNat : Int) := by omega
            clear hd2'
            have HE : Hid (Sp.expT X = 45 :: [b0, b1, b2]) := by
              show _ = _
              unfold Sp.expT
              rw [HNX.out, if_pos (by have := HXE.out; omega), Sp.dec3 hn100 hn1000, HD0.out, HD1.out, HD2.out]
            clear HNX HXE
            go_wp2_with (first | (at_builtin; refine wpList_app _ rfl _ _ 23 rfl base 5 i0 (.int .u8 0) 1 1 Tryz.undB hi hz0 hz1 hz2 rfl (by decide) _ (0) (Sp.u8c ([])) rfl (HO.out.2.alloc _) ⟨w.heap.size, 0, none⟩ 1 1 (Sp.u8c [45]) rfl rfl (bytes_new w [45] rfl rfl) (u8c_one _) (by decide) (by unfold maxLen; omega) (by omega) (by have := hb; simp; omega) ?_; intro g3 p3 w3 hown hgrow hor; have HB3 : Hid (Below base w w3) := ((Below.refl base w).alloc hb _).grown hgrow (by have := hb; simp; omega) (fun q hq => own_ge HO.out.2 hq); have HN3 : Hid (Byts w3 base (some ⟨g3, 0, none⟩) (0 + 1) p3 ([] ++ [45])) := ⟨by rw [List.length_append, ← HO.out.1]; rfl, by rw [u8c_app]; exact hown⟩; have HZ3 : Hid (base ≤ w3.heap.size) := Nat.le_trans hb HB3.out.size; clear hown hgrow hor) | (at_builtin; refine wpList_app _ rfl _ _ 23 rfl base 5 i0 (.int .u8 0) 1 1 Tryz.undB hi hz0 hz1 hz2 rfl (by decide) _ (0 + 1) (Sp.u8c ([] ++ [45])) rfl (HN3.out.2.alloc _) ⟨w3.heap.size, 0, none⟩ 3 3 (Sp.u8c [48, 120, 49]) rfl rfl (bytes_new w3 [48, 120, 49] rfl rfl) (u8c_one _) (by decide) (by unfold maxLen; omega) (by omega) (by have := HZ3.out; simp; omega) ?_; intro g1 p1 w1 hown hgrow hor; have HB1 : Hid (Below base w w1) := (HB3.out.alloc HZ3.out _).grown hgrow (by have := HZ3.out; simp; omega) (fun q hq => own_ge HN3.out.2 hq); have HN1 : Hid (Byts w1 base (some ⟨g1, 0, none⟩) (0 + 1 + 3) p1 ([] ++ [45] ++ [48, 120, 49])) := ⟨by rw [List.length_append, ← HN3.out.1]; rfl, by rw [u8c_app]; exact hown⟩; have HZ1 : Hid (base ≤ w1.heap.size) := Nat.le_trans hb HB1.out.size; clear hown hgrow hor; have HN0 : Hid (Byts w1 base (some ⟨g1, 0, none⟩) (0 + 1 + 3) p1 L) := (by show Byts _ _ _ _ _ _; rw [HLE0.out]; exact HN1.out); have HB0 := HB1; have HZ0 := HZ1) | (go_at_call 102; refine (lower_x _).mono ?_; rintro e9 w9 ⟨rfl, rfl⟩) | (at_builtin; refine wpList_app _ rfl _ _ 23 rfl base 5 i0 (.int .u8 0) 1 1 Tryz.undB hi hz0 hz1 hz2 rfl (by decide) _ (0 + 1 + 3) (Sp.u8c (L)) rfl (HN0.out.2.alloc _) ⟨w1.heap.size, 0, none⟩ 1 1 (Sp.u8c [112]) rfl rfl (bytes_new w1 [112] rfl rfl) (u8c_one _) (by decide) (by unfold maxLen; omega) (by omega) (by have := HZ0.out; simp; omega) ?_; intro g6 p6 w6 hown hgrow hor; have HB6 : Hid (Below base w w6) := (HB0.out.alloc HZ0.out _).grown hgrow (by have := HZ0.out; simp; omega) (fun q hq => own_ge HN0.out.2 hq); have HN6 : Hid (Byts w6 base (some ⟨g6, 0, none⟩) (0 + 1 + 3 + 1) p6 (L ++ [112])) := ⟨by rw [List.length_append, ← HN0.out.1]; rfl, by rw [u8c_app]; exact hown⟩; have HZ6 : Hid (base ≤ w6.heap.size) := Nat.le_trans hb HB6.out.size; clear hown hgrow hor) | (at_builtin; refine wpList_app _ rfl _ _ 23 rfl base 5 i0 (.int .u8 0) 1 1 Tryz.undB hi hz0 hz1 hz2 rfl (by decide) _ (0 + 1 + 3 + 1) (Sp.u8c (L ++ [112])) rfl (HN6.out.2.alloc _) ⟨w6.heap.size, 0, none⟩ 1 1 (Sp.u8c [45]) rfl rfl (bytes_new w6 [45] rfl rfl) (u8c_one _) (by decide) (by unfold maxLen; omega) (by omega) (by have := HZ6.out; simp; omega) ?_; intro g7 p7 w7 hown hgrow hor; have HB7 : Hid (Below base w w7) := (HB6.out.alloc HZ6.out _).grown hgrow (by have := HZ6.out; simp; omega) (fun q hq => own_ge HN6.out.2 hq); have HN7 : Hid (Byts w7 base (some ⟨g7, 0, none⟩) (0 + 1 + 3 + 1 + 1) p7 (L ++ [112] ++ [45])) := ⟨by rw [List.length_append, ← HN6.out.1]; rfl, by rw [u8c_app]; exact hown⟩; have HZ7 : Hid (base ≤ w7.heap.size) := Nat.le_trans hb HB7.out.size; clear hown hgrow hor) | (at_builtin; refine wpList_app _ rfl _ _ 23 rfl base 5 i0 (.int .u8 0) 1 1 Tryz.undB hi hz0 hz1 hz2 rfl (by decide) _ (0 + 1 + 3 + 1 + 1) (Sp.u8c (L ++ [112] ++ [45])) rfl (HN7.out.2.alloc _) ⟨w7.heap.size, 0, none⟩ 3 3 (Sp.u8c [b0, b1, b2]) rfl rfl (bytes_new w7 [b0, b1, b2] rfl rfl) (u8c_one _) (by decide) (by unfold maxLen; omega) (by omega) (by have := HZ7.out; simp; omega) ?_; intro g8 p8 w8 hown hgrow hor; have HB8 : Hid (Below base w w8) := (HB7.out.alloc HZ7.out _).grown hgrow (by have := HZ7.out; simp; omega) (fun q hq => own_ge HN7.out.2 hq); have HN8 : Hid (Byts w8 base (some ⟨g8, 0, none⟩) (0 + 1 + 3 + 1 + 1 + 3) p8 (L ++ [112] ++ [45] ++ [b0, b1, b2])) := ⟨by rw [List.length_append, ← HN7.out.1]; rfl, by rw [u8c_app]; exact hown⟩; have HZ8 : Hid (base ≤ w8.heap.size) := Nat.le_trans hb HB8.out.size; clear hown hgrow hor))
            go_ret
            have HR8 : Hid (L ++ [112] ++ [45] ++ [b0, b1, b2] = RES) := by show _ = _; rw [HRE.out, HE.out]; simp
            have e8 : 0 + 1 + 3 + 1 + 1 + 3 = ([] : List UInt8).length + RES.length := by
              have := HN8.out.1
              rw [HR8.out] at this
              rw [this]; simp
            refine ⟨some ⟨g8, 0, none⟩, p8, ?_, ?_, HB8.out⟩
            · rw [← e8]; rfl
            · rw [← e8, List.nil_append, ← HR8.out]; exact HN8.out
          · obtain ⟨b0, HD0, hd0'⟩ := fig (n / 1000) (by omega)
            have hd0 : (n : Int) / 1000 + 48 = (b0.toNat : Int) := by omega
            clear hd0'
            obtain ⟨b1, HD1, hd1'⟩ := fig (n / 100 % 10) (by omega)
            have hd1 : (n : Int) / 100 % 10 + 48 = (b1.toNat : Int) := by omega
            clear hd1'
            obtain ⟨b2, HD2, hd2'⟩ := fig (n / 10 % 10) (by omega)
            have hd2 : (n : Int) / 10 % 10 + 48 = (b2.toNat : Int) := by omega
            clear hd2'
            obtain ⟨b3, HD3, hd3'⟩ := fig (n % 10) (by omega)
            have hd3 : (n : Int) % 10 + 48 = (b3.toNat : Int) := by omega
            clear hd3'
            have HE : Hid (Sp.expT X = 45 :: [b0, b1, b2, b3]) := by
              show _ = _
              unfold Sp.expT
              rw [HNX.out, if_pos (by have := HXE.out; omega), Sp.dec4 hn1000 (by omega), HD0.out, HD1.out, HD2.out, HD3.out]
            clear HNX HXE
            go_wp2_with (first | (at_builtin; refine wpList_app _ rfl _ _ 23 rfl base 5 i0 (.int .u8 0) 1 1 Tryz.undB hi hz0 hz1 hz2 rfl (by decide) _ (0) (Sp.u8c ([])) rfl (HO.out.2.alloc _) ⟨w.heap.size, 0, none⟩ 1 1 (Sp.u8c [45]) rfl rfl (bytes_new w [45] rfl rfl) (u8c_one _) (by decide) (by unfold maxLen; omega) (by omega) (by have := hb; simp; omega) ?_; intro g3 p3 w3 hown hgrow hor; have HB3 : Hid (Below base w w3) := ((Below.refl base w).alloc hb _).grown hgrow (by have := hb; simp; omega) (fun q hq => own_ge HO.out.2 hq); have HN3 : Hid (Byts w3 base (some ⟨g3, 0, none⟩) (0 + 1) p3 ([] ++ [45])) := ⟨by rw [List.length_append, ← HO.out.1]; rfl, by rw [u8c_app]; exact hown⟩; have HZ3 : Hid (base ≤ w3.heap.size) := Nat.le_trans hb HB3.out.size; clear hown hgrow hor) | (at_builtin; refine wpList_app _ rfl _ _ 23 rfl base 5 i0 (.int .u8 0) 1 1 Tryz.undB hi hz0 hz1 hz2 rfl (by decide) _ (0 + 1) (Sp.u8c ([] ++ [45])) rfl (HN3.out.2.alloc _) ⟨w3.heap.size, 0, none⟩ 3 3 (Sp.u8c [48, 120, 49]) rfl rfl (bytes_new w3 [48, 120, 49] rfl rfl) (u8c_one _) (by decide) (by unfold maxLen; omega) (by omega) (by have := HZ3.out; simp; omega) ?_; intro g1 p1 w1 hown hgrow hor; have HB1 : Hid (Below base w w1) := (HB3.out.alloc HZ3.out _).grown hgrow (by have := HZ3.out; simp; omega) (fun q hq => own_ge HN3.out.2 hq); have HN1 : Hid (Byts w1 base (some ⟨g1, 0, none⟩) (0 + 1 + 3) p1 ([] ++ [45] ++ [48, 120, 49])) := ⟨by rw [List.length_append, ← HN3.out.1]; rfl, by rw [u8c_app]; exact hown⟩; have HZ1 : Hid (base ≤ w1.heap.size) := Nat.le_trans hb HB1.out.size; clear hown hgrow hor; have HN0 : Hid (Byts w1 base (some ⟨g1, 0, none⟩) (0 + 1 + 3) p1 L) := (by show Byts _ _ _ _ _ _; rw [HLE0.out]; exact HN1.out); have HB0 := HB1; have HZ0 := HZ1) | (go_at_call 102; refine (lower_x _).mono ?_; rintro e9 w9 ⟨rfl, rfl⟩) | (at_builtin; refine wpList_app _ rfl _ _ 23 rfl base 5 i0 (.int .u8 0) 1 1 Tryz.undB hi hz0 hz1 hz2 rfl (by decide) _ (0 + 1 + 3) (Sp.u8c (L)) rfl (HN0.out.2.alloc _) ⟨w1.heap.size, 0, none⟩ 1 1 (Sp.u8c [112]) rfl rfl (bytes_new w1 [112] rfl rfl) (u8c_one _) (by decide) (by unfold maxLen; omega) (by omega) (by have := HZ0.out; simp; omega) ?_; intro g6 p6 w6 hown hgrow hor; have HB6 : Hid (Below base w w6) := (HB0.out.alloc HZ0.out _).grown hgrow (by have := HZ0.out; simp; omega) (fun q hq => own_ge HN0.out.2 hq); have HN6 : Hid (Byts w6 base (some ⟨g6, 0, none⟩) (0 + 1 + 3 + 1) p6 (L ++ [112])) := ⟨by rw [List.length_append, ← HN0.out.1]; rfl, by rw [u8c_app]; exact hown⟩; have HZ6 : Hid (base ≤ w6.heap.size) := Nat.le_trans hb HB6.out.size; clear hown hgrow hor) | (at_builtin; refine wpList_app _ rfl _ _ 23 rfl base 5 i0 (.int .u8 0) 1 1 Tryz.undB hi hz0 hz1 hz2 rfl (by decide) _ (0 + 1 + 3 + 1) (Sp.u8c (L ++ [112])) rfl (HN6.out.2.alloc _) ⟨w6.heap.size, 0, none⟩ 1 1 (Sp.u8c [45]) rfl rfl (bytes_new w6 [45] rfl rfl) (u8c_one _) (by decide) (by unfold maxLen; omega) (by omega) (by have := HZ6.out; simp; omega) ?_; intro g7 p7 w7 hown hgrow hor; have HB7 : Hid (Below base w w7) := (HB6.out.alloc HZ6.out _).grown hgrow (by have := HZ6.out; simp; omega) (fun q hq => own_ge HN6.out.2 hq); have HN7 : Hid (Byts w7 base (some ⟨g7, 0, none⟩) (0 + 1 + 3 + 1 + 1) p7 (L ++ [112] ++ [45])) := ⟨by rw [List.length_append, ← HN6.out.1]; rfl, by rw [u8c_app]; exact hown⟩; have HZ7 : Hid (base ≤ w7.heap.size) := Nat.le_trans hb HB7.out.size; clear hown hgrow hor) | (at_builtin; refine wpList_app _ rfl _ _ 23 rfl base 5 i0 (.int .u8 0) 1 1 Tryz.undB hi hz0 hz1 hz2 rfl (by decide) _ (0 + 1 + 3 + 1 + 1) (Sp.u8c (L ++ [112] ++ [45])) rfl (HN7.out.2.alloc _) ⟨w7.heap.size, 0, none⟩ 4 4 (Sp.u8c [b0, b1, b2, b3]) rfl rfl (bytes_new w7 [b0, b1, b2, b3] rfl rfl) (u8c_one _) (by decide) (by unfold maxLen; omega) (by omega) (by have := HZ7.out; simp; omega) ?_; intro g8 p8 w8 hown hgrow hor; have HB8 : Hid (Below base w w8) := (HB7.out.alloc HZ7.out _).grown hgrow (by have := HZ7.out; simp; omega) (fun q hq => own_ge HN7.out.2 hq); have HN8 : Hid (Byts w8 base (some ⟨g8, 0, none⟩) (0 + 1 + 3 + 1 + 1 + 4) p8 (L ++ [112] ++ [45] ++ [b0, b1, b2, b3])) := ⟨by rw [List.length_append, ← HN7.out.1]; rfl, by rw [u8c_app]; exact hown⟩; have HZ8 : Hid (base ≤ w8.heap.size) := Nat.le_trans hb HB8.out.size; clear hown hgrow hor))
            go_ret
            have HR8 : Hid (L ++ [112] ++ [45] ++ [b0, b1, b2, b3] = RES) := by show _ = _; rw [HRE.out, HE.out]; simp
            have e8 : 0 + 1 + 3 + 1 + 1 + 4 = ([] : List UInt8).length + RES.length := by
              have := HN8.out.1
              rw [HR8.out] at this
              rw [this]; simp
            refine ⟨some ⟨g8, 0, none⟩, p8, ?_, ?_, HB8.out⟩
            · rw [← e8]; rfl
            · rw [← e8, List.nil_append, ← HR8.out]; exact HN8.out
      · obtain ⟨n, hn⟩ : ∃ n : Nat, e - (c : Int) = (n : Int) := ⟨(e - (c : Int)).natAbs, by omega⟩
        have HNX : Hid (X.natAbs = n) := by show _ = _; have := HXE.out; omega
        have hnM : n ≤ 1200 := by omega
        have HXE : Hid (¬ X < 0) := by show ¬ _; have := HXE.out; omega
        rw [hn]
        clear hn hsg
        by_cases hn100 : n < 100
        · obtain ⟨b0, HD0, hd0'⟩ := fig (n / 10) (by omega)
          have hd0 : (n : Int) / 10 + 48 = (b0.toNat : Int) := by omega
          clear hd0'
          obtain ⟨b1, HD1, hd1'⟩ := fig (n % 10) (by omega)
          have hd1 : (n : Int) % 10 + 48 = (b1.toNat : Int) := by omega
          clear hd1'
          have HE : Hid (Sp.expT X = 43 :: [b0, b1]) := by
            show _ = _
            unfold Sp.expT
            rw [HNX.out, if_neg (by have := HXE.out; omega), Sp.dec2 hn100, HD0.out, HD1.out]
          clear HNX HXE
          go_wp2_with (first | (at_builtin; refine wpList_app _ rfl _ _ 23 rfl base 5 i0 (.int .u8 0) 1 1 Tryz.undB hi hz0 hz1 hz2 rfl (by decide) _ (0) (Sp.u8c ([])) rfl (HO.out.2.alloc _) ⟨w.heap.size, 0, none⟩ 1 1 (Sp.u8c [45]) rfl rfl (bytes_new w [45] rfl rfl) (u8c_one _) (by decide) (by unfold maxLen; omega) (by omega) (by have := hb; simp; omega) ?_; intro g3 p3 w3 hown hgrow hor; have HB3 : Hid (Below base w w3) := ((Below.refl base w).alloc hb _).grown hgrow (by have := hb; simp; omega) (fun q hq => own_ge HO.out.2 hq); have HN3 : Hid (Byts w3 base (some ⟨g3, 0, none⟩) (0 + 1) p3 ([] ++ [45])) := ⟨by rw [List.length_append, ← HO.out.1]; rfl, by rw [u8c_app]; exact hown⟩; have HZ3 : Hid (base ≤ w3.heap.size) := Nat.le_trans hb HB3.out.size; clear hown hgrow hor) | (at_builtin; refine wpList_app _ rfl _ _ 23 rfl base 5 i0 (.int .u8 0) 1 1 Tryz.undB hi hz0 hz1 hz2 rfl (by decide) _ (0 + 1) (Sp.u8c ([] ++ [45])) rfl (HN3.out.2.alloc _) ⟨w3.heap.size, 0, none⟩ 3 3 (Sp.u8c [48, 120, 49]) rfl rfl (bytes_new w3 [48, 120, 49] rfl rfl) (u8c_one _) (by decide) (by unfold maxLen; omega) (by omega) (by have := HZ3.out; simp; omega) ?_; intro g1 p1 w1 hown hgrow hor; have HB1 : Hid (Below base w w1) := (HB3.out.alloc HZ3.out _).grown hgrow (by have := HZ3.out; simp; omega) (fun q hq => own_ge HN3.out.2 hq); have HN1 : Hid (Byts w1 base (some ⟨g1, 0, none⟩) (0 + 1 + 3) p1 ([] ++ [45] ++ [48, 120, 49])) := ⟨by rw [List.length_append, ← HN3.out.1]; rfl, by rw [u8c_app]; exact hown⟩; have HZ1 : Hid (base ≤ w1.heap.size) := Nat.le_trans hb HB1.out.size; clear hown hgrow hor; have HN0 : Hid (Byts w1 base (some ⟨g1, 0, none⟩) (0 + 1 + 3) p1 L) := (by show Byts _ _ _ _ _ _; rw [HLE0.out]; exact HN1.out); have HB0 := HB1; have HZ0 := HZ1) | (go_at_call 102; refine (lower_x _).mono ?_; rintro e9 w9 ⟨rfl, rfl⟩) | (at_builtin; refine wpList_app _ rfl _ _ 23 rfl base 5 i0 (.int .u8 0) 1 1 Tryz.undB hi hz0 hz1 hz2 rfl (by decide) _ (0 + 1 + 3) (Sp.u8c (L)) rfl (HN0.out.2.alloc _) ⟨w1.heap.size, 0, none⟩ 1 1 (Sp.u8c [112]) rfl rfl (bytes_new w1 [112] rfl rfl) (u8c_one _) (by decide) (by unfold maxLen; omega) (by omega) (by have := HZ0.out; simp; omega) ?_; intro g6 p6 w6 hown hgrow hor; have HB6 : Hid (Below base w w6) := (HB0.out.alloc HZ0.out _).grown hgrow (by have := HZ0.out; simp; omega) (fun q hq => own_ge HN0.out.2 hq); have HN6 : Hid (Byts w6 base (some ⟨g6, 0, none⟩) (0 + 1 + 3 + 1) p6 (L ++ [112])) := ⟨by rw [List.length_append, ← HN0.out.1]; rfl, by rw [u8c_app]; exact hown⟩; have HZ6 : Hid (base ≤ w6.heap.size) := Nat.le_trans hb HB6.out.size; clear hown hgrow hor) | (at_builtin; refine wpList_app _ rfl _ _ 23 rfl base 5 i0 (.int .u8 0) 1 1 Tryz.undB hi hz0 hz1 hz2 rfl (by decide) _ (0 + 1 + 3 + 1) (Sp.u8c (L ++ [112])) rfl (HN6.out.2.alloc _) ⟨w6.heap.size, 0, none⟩ 1 1 (Sp.u8c [43]) rfl rfl (bytes_new w6 [43] rfl rfl) (u8c_one _) (by decide) (by unfold maxLen; omega) (by omega) (by have := HZ6.out; simp; omega) ?_; intro g7 p7 w7 hown hgrow hor; have HB7 : Hid (Below base w w7) := (HB6.out.alloc HZ6.out _).grown hgrow (by have := HZ6.out; simp; omega) (fun q hq => own_ge HN6.out.2 hq); have HN7 : Hid (Byts w7 base (some ⟨g7, 0, none⟩) (0 + 1 + 3 + 1 + 1) p7 (L ++ [112] ++ [43])) := ⟨by rw [List.length_append, ← HN6.out.1]; rfl, by rw [u8c_app]; exact hown⟩; have HZ7 : Hid (base ≤ w7.heap.size) := Nat.le_trans hb HB7.out.size; clear hown hgrow hor) | (at_builtin; refine wpList_app _ rfl _ _ 23 rfl base 5 i0 (.int .u8 0) 1 1 Tryz.undB hi hz0 hz1 hz2 rfl (by decide) _ (0 + 1 + 3 + 1 + 1) (Sp.u8c (L ++ [112] ++ [43])) rfl (HN7.out.2.alloc _) ⟨w7.heap.size, 0, none⟩ 2 2 (Sp.u8c [b0, b1]) rfl rfl (bytes_new w7 [b0, b1] rfl rfl) (u8c_one _) (by decide) (by unfold maxLen; omega) (by omega) (by have := HZ7.out; simp; omega) ?_; intro g8 p8 w8 hown hgrow hor; have HB8 : Hid (Below base w w8) := (HB7.out.alloc HZ7.out _).grown hgrow (by have := HZ7.out; simp; omega) (fun q hq => own_ge HN7.out.2 hq); have HN8 : Hid (Byts w8 base (some ⟨g8, 0, none⟩) (0 + 1 + 3 + 1 + 1 + 2) p8 (L ++ [112] ++ [43] ++ [b0, b1])) := ⟨by rw [List.length_append, ← HN7.out.1]; rfl, by rw [u8c_app]; exact hown⟩; have HZ8 : Hid (base ≤ w8.heap.size) := Nat.le_trans hb HB8.out.size; clear hown hgrow hor))
          go_ret
          have HR8 : Hid (L ++ [112] ++ [43] ++ [b0, b1] = RES) := by show _ = _; rw [HRE.out, HE.out]; simp
          have e8 : 0 + 1 + 3 + 1 + 1 + 2 = ([] : List UInt8).length + RES.length := by
            have := HN8.out.1
            rw [HR8.out] at this
            rw [this]; simp
          refine ⟨some ⟨g8, 0, none⟩, p8, ?_, ?_, HB8.out⟩
          · rw [← e8]; rfl
          · rw [← e8, List.nil_append, ← HR8.out]; exact HN8.out
        · by_cases hn1000 : n < 1000
          · obtain ⟨b0, HD0, hd0'⟩ := fig (n / 100) (by omega)
            have hd0 : (n : Int) / 100 + 48 = (b0.toNat : Int) := by omega
            clear hd0'
            obtain ⟨b1, HD1, hd1'⟩ := fig (n / 10 % 10) (by omega)
            have hd1 : (n : Int) / 10 % 10 + 48 = (b1.toNat : Int) := by omega
            clear hd1'
            obtain ⟨b2, HD2, hd2'⟩ := fig (n % 10) (by omega)
            have hd2 : (n : Int) % 10 + 48 = (b2.toNat : Int) := by omega
            clear hd2'
            have HE : Hid (Sp.expT X = 43 :: [b0, b1, b2]) := by
              show _ = _
              unfold Sp.expT
              rw [HNX.out, if_neg (by have := HXE.out; omega), Sp.dec3 hn100 hn1000, HD0.out, HD1.out, HD2.out]
            clear HNX HXE
            go_wp2_with (first | (at_builtin; refine wpList_app _ rfl _ _ 23 rfl base 5 i0 (.int .u8 0) 1 1 Tryz.undB hi hz0 hz1 hz2 rfl (by decide) _ (0) (Sp.u8c ([])) rfl (HO.out.2.alloc _) ⟨w.heap.size, 0, none⟩ 1 1 (Sp.u8c [45]) rfl rfl (bytes_new w [45] rfl rfl) (u8c_one _) (by decide) (by unfold maxLen; omega) (by omega) (by have := hb; simp; omega) ?_; intro g3 p3 w3 hown hgrow hor; have HB3 : Hid (Below base w w3) := ((Below.refl base w).alloc hb _).grown hgrow (by have := hb; simp; omega) (fun q hq => own_ge HO.out.2 hq); have HN3 : Hid (Byts w3 base (some ⟨g3, 0, none⟩) (0 + 1) p3 ([] ++ [45])) := ⟨by rw [List.length_append, ← HO.out.1]; rfl, by rw [u8c_app]; exact hown⟩; have HZ3 : Hid (base ≤ w3.heap.size) := Nat.le_trans hb HB3.out.size; clear hown hgrow hor) | (at_builtin; refine wpList_app _ rfl _ _ 23 rfl base 5 i0 (.int .u8 0) 1 1 Tryz.undB hi hz0 hz1 hz2 rfl (by decide) _ (0 + 1) (Sp.u8c ([] ++ [45])) rfl (HN3.out.2.alloc _) ⟨w3.heap.size, 0, none⟩ 3 3 (Sp.u8c [48, 120, 49]) rfl rfl (bytes_new w3 [48, 120, 49] rfl rfl) (u8c_one _) (by decide) (by unfold maxLen; omega) (by omega) (by have := HZ3.out; simp; omega) ?_; intro g1 p1 w1 hown hgrow hor; have HB1 : Hid (Below base w w1) := (HB3.out.alloc HZ3.out _).grown hgrow (by have := HZ3.out; simp; omega) (fun q hq => own_ge HN3.out.2 hq); have HN1 : Hid (Byts w1 base (some ⟨g1, 0, none⟩) (0 + 1 + 3) p1 ([] ++ [45] ++ [48, 120, 49])) := ⟨by rw [List.length_append, ← HN3.out.1]; rfl, by rw [u8c_app]; exact hown⟩; have HZ1 : Hid (base ≤ w1.heap.size) := Nat.le_trans hb HB1.out.size; clear hown hgrow hor; have HN0 : Hid (Byts w1 base (some ⟨g1, 0, none⟩) (0 + 1 + 3) p1 L) := (by show Byts _ _ _ _ _ _; rw [HLE0.out]; exact HN1.out); have HB0 := HB1; have HZ0 := HZ1) | (go_at_call 102; refine (lower_x _).mono ?_; rintro e9 w9 ⟨rfl, rfl⟩) | (at_builtin; refine wpList_app _ rfl _ _ 23 rfl base 5 i0 (.int .u8 0) 1 1 Tryz.undB hi hz0 hz1 hz2 rfl (by decide) _ (0 + 1 + 3) (Sp.u8c (L)) rfl (HN0.out.2.alloc _) ⟨w1.heap.size, 0, none⟩ 1 1 (Sp.u8c [112]) rfl rfl (bytes_new w1 [112] rfl rfl) (u8c_one _) (by decide) (by unfold maxLen; omega) (by omega) (by have := HZ0.out; simp; omega) ?_; intro g6 p6 w6 hown hgrow hor; have HB6 : Hid (Below base w w6) := (HB0.out.alloc HZ0.out _).grown hgrow (by have := HZ0.out; simp; omega) (fun q hq => own_ge HN0.out.2 hq); have HN6 : Hid (Byts w6 base (some ⟨g6, 0, none⟩) (0 + 1 + 3 + 1) p6 (L ++ [112])) := ⟨by rw [List.length_append, ← HN0.out.1]; rfl, by rw [u8c_app]; exact hown⟩; have HZ6 : Hid (base ≤ w6.heap.size) := Nat.le_trans hb HB6.out.size; clear hown hgrow hor) | (at_builtin; refine wpList_app _ rfl _ _ 23 rfl base 5 i0 (.int .u8 0) 1 1 Tryz.undB hi hz0 hz1 hz2 rfl (by decide) _ (0 + 1 + 3 + 1) (Sp.u8c (L ++ [112])) rfl (HN6.out.2.alloc _) ⟨w6.heap.size, 0, none⟩ 1 1 (Sp.u8c [43]) rfl rfl (bytes_new w6 [43] rfl rfl) (u8c_one _) (by decide) (by unfold maxLen; omega) (by omega) (by have := HZ6.out; simp; omega) ?_; intro g7 p7 w7 hown hgrow hor; have HB7 : Hid (Below base w w7) := (HB6.out.alloc HZ6.out _).grown hgrow (by have := HZ6.out; simp; omega) (fun q hq => own_ge HN6.out.2 hq); have HN7 : Hid (Byts w7 base (some ⟨g7, 0, none⟩) (0 + 1 + 3 + 1 + 1) p7 (L ++ [112] ++ [43])) := ⟨by rw [List.length_append, ← HN6.out.1]; rfl, by rw [u8c_app]; exact hown⟩; have HZ7 : Hid (base ≤ w7.heap.size) := Nat.le_trans hb HB7.out.size; clear hown hgrow hor) | (at_builtin; refine wpList_app _ rfl _ _ 23 rfl base 5 i0 (.int .u8 0) 1 1 Tryz.undB hi hz0 hz1 hz2 rfl (by decide) _ (0 + 1 + 3 + 1 + 1) (Sp.u8c (L ++ [112] ++ [43])) rfl (HN7.out.2.alloc _) ⟨w7.heap.size, 0, none⟩ 3 3 (Sp.u8c [b0, b1, b2]) rfl rfl (bytes_new w7 [b0, b1, b2] rfl rfl) (u8c_one _) (by decide) (by unfold maxLen; omega) (by omega) (by have := HZ7.out; simp; omega) ?_; intro g8 p8 w8 hown hgrow hor; have HB8 : Hid (Below base w w8) := (HB7.out.alloc HZ7.out _).grown hgrow (by have := HZ7.out; simp; omega) (fun q hq => own_ge HN7.out.2 hq); have HN8 : Hid (Byts w8 base (some ⟨g8, 0, none⟩) (0 + 1 + 3 + 1 + 1 + 3) p8 (L ++ [112] ++ [43] ++ [b0, b1, b2])) := ⟨by rw [List.length_append, ← HN7.out.1]; rfl, by rw [u8c_app]; exact hown⟩; have HZ8 : Hid (base ≤ w8.heap.size) := Nat.le_trans hb HB8.out.size; clear hown hgrow hor))
            go_ret
            have HR8 : Hid (L ++ [112] ++ [43] ++ [b0, b1, b2] = RES) := by show _ = _; rw [HRE.out, HE.out]; simp
            have e8 : 0 + 1 + 3 + 1 + 1 + 3 = ([] : List UInt8).length + RES.length := by
              have := HN8.out.1
              rw [HR8.out] at this
              rw [this]; simp
            refine ⟨some ⟨g8, 0, none⟩, p8, ?_, ?_, HB8.out⟩
            · rw [← e8]; rfl
            · rw [← e8, List.nil_append, ← HR8.out]; exact HN8.out
          · obtain ⟨b0, HD0, hd0'⟩ := fig (n / 1000) (by omega)
            have hd0 : (n : Int) / 1000 + 48 = (b0.toNat : Int) := by omega
            clear hd0'
            obtain ⟨b1, HD1, hd1'⟩ := fig (n / 100 % 10) (by omega)
            have hd1 : (n : Int) / 100 % 10 + 48 = (b1.toNat : Int) := by omega
            clear hd1'
            obtain ⟨b2, HD2, hd2'⟩ := fig (n / 10 % 10) (by omega)
            have hd2 : (n : Int) / 10 % 10 + 48 = (b2.toNat : Int) := by omega
            clear hd2'
            obtain ⟨b3, HD3, hd3'⟩ := fig (n % 10) (by omega)
            have hd3 : (n : Int) % 10 + 48 = (b3.toNat : Int) := by omega
            clear hd3'
            have HE : Hid (Sp.expT X = 43 :: [b0, b1, b2, b3]) := by
              show _ = _
              unfold Sp.expT
              rw [HNX.out, if_neg (by have := HXE.out; omega), Sp.dec4 hn1000 (by omega), HD0.out, HD1.out, HD2.out, HD3.out]
            clear HNX HXE
            go_wp2_with (first | (at_builtin; refine wpList_app _ rfl _ _ 23 rfl base 5 i0 (.int .u8 0) 1 1 Tryz.undB hi hz0 hz1 hz2 rfl (by decide) _ (0) (Sp.u8c ([])) rfl (HO.out.2.alloc _) ⟨w.heap.size, 0, none⟩ 1 1 (Sp.u8c [45]) rfl rfl (bytes_new w [45] rfl rfl) (u8c_one _) (by decide) (by unfold maxLen; omega) (by omega) (by have := hb; simp; omega) ?_; intro g3 p3 w3 hown hgrow hor; have HB3 : Hid (Below base w w3) := ((Below.refl base w).alloc hb _).grown hgrow (by have := hb; simp; omega) (fun q hq => own_ge HO.out.2 hq); have HN3 : Hid (Byts w3 base (some ⟨g3, 0, none⟩) (0 + 1) p3 ([] ++ [45])) := ⟨by rw [List.length_append, ← HO.out.1]; rfl, by rw [u8c_app]; exact hown⟩; have HZ3 : Hid (base ≤ w3.heap.size) := Nat.le_trans hb HB3.out.size; clear hown hgrow hor) | (at_builtin; refine wpList_app _ rfl _ _ 23 rfl base 5 i0 (.int .u8 0) 1 1 Tryz.undB hi hz0 hz1 hz2 rfl (by decide) _ (0 + 1) (Sp.u8c ([] ++ [45])) rfl (HN3.out.2.alloc _) ⟨w3.heap.size, 0, none⟩ 3 3 (Sp.u8c [48, 120, 49]) rfl rfl (bytes_new w3 [48, 120, 49] rfl rfl) (u8c_one _) (by decide) (by unfold maxLen; omega) (by omega) (by have := HZ3.out; simp; omega) ?_; intro g1 p1 w1 hown hgrow hor; have HB1 : Hid (Below base w w1) := (HB3.out.alloc HZ3.out _).grown hgrow (by have := HZ3.out; simp; omega) (fun q hq => own_ge HN3.out.2 hq); have HN1 : Hid (Byts w1 base (some ⟨g1, 0, none⟩) (0 + 1 + 3) p1 ([] ++ [45] ++ [48, 120, 49])) := ⟨by rw [List.length_append, ← HN3.out.1]; rfl, by rw [u8c_app]; exact hown⟩; have HZ1 : Hid (base ≤ w1.heap.size) := Nat.le_trans hb HB1.out.size; clear hown hgrow hor; have HN0 : Hid (Byts w1 base (some ⟨g1, 0, none⟩) (0 + 1 + 3) p1 L) := (by show Byts _ _ _ _ _ _; rw [HLE0.out]; exact HN1.out); have HB0 := HB1; have HZ0 := HZ1) | (go_at_call 102; refine (lower_x _).mono ?_; rintro e9 w9 ⟨rfl, rfl⟩) | (at_builtin; refine wpList_app _ rfl _ _ 23 rfl base 5 i0 (.int .u8 0) 1 1 Tryz.undB hi hz0 hz1 hz2 rfl (by decide) _ (0 + 1 + 3) (Sp.u8c (L)) rfl (HN0.out.2.alloc _) ⟨w1.heap.size, 0, none⟩ 1 1 (Sp.u8c [112]) rfl rfl (bytes_new w1 [112] rfl rfl) (u8c_one _) (by decide) (by unfold maxLen; omega) (by omega) (by have := HZ0.out; simp; omega) ?_; intro g6 p6 w6 hown hgrow hor; have HB6 : Hid (Below base w w6) := (HB0.out.alloc HZ0.out _).grown hgrow (by have := HZ0.out; simp; omega) (fun q hq => own_ge HN0.out.2 hq); have HN6 : Hid (Byts w6 base (some ⟨g6, 0, none⟩) (0 + 1 + 3 + 1) p6 (L ++ [112])) := ⟨by rw [List.length_append, ← HN0.out.1]; rfl, by rw [u8c_app]; exact hown⟩; have HZ6 : Hid (base ≤ w6.heap.size) := Nat.le_trans hb HB6.out.size; clear hown hgrow hor) | (at_builtin; refine wpList_app _ rfl _ _ 23 rfl base 5 i0 (.int .u8 0) 1 1 Tryz.undB hi hz0 hz1 hz2 rfl (by decide) _ (0 + 1 + 3 + 1) (Sp.u8c (L ++ [112])) rfl (HN6.out.2.alloc _) ⟨w6.heap.size, 0, none⟩ 1 1 (Sp.u8c [43]) rfl rfl (bytes_new w6 [43] rfl rfl) (u8c_one _) (by decide) (by unfold maxLen; omega) (by omega) (by have := HZ6.out; simp; omega) ?_; intro g7 p7 w7 hown hgrow hor; have HB7 : Hid (Below base w w7) := (HB6.out.alloc HZ6.out _).grown hgrow (by have := HZ6.out; simp; omega) (fun q hq => own_ge HN6.out.2 hq); have HN7 : Hid (Byts w7 base (some ⟨g7, 0, none⟩) (0 + 1 + 3 + 1 + 1) p7 (L ++ [112] ++ [43])) := ⟨by rw [List.length_append, ← HN6.out.1]; rfl, by rw [u8c_app]; exact hown⟩; have HZ7 : Hid (base ≤ w7.heap.size) := Nat.le_trans hb HB7.out.size; clear hown hgrow hor) | (at_builtin; refine wpList_app _ rfl _ _ 23 rfl base 5 i0 (.int .u8 0) 1 1 Tryz.undB hi hz0 hz1 hz2 rfl (by decide) _ (0 + 1 + 3 + 1 + 1) (Sp.u8c (L ++ [112] ++ [43])) rfl (HN7.out.2.alloc _) ⟨w7.heap.size, 0, none⟩ 4 4 (Sp.u8c [b0, b1, b2, b3]) rfl rfl (bytes_new w7 [b0, b1, b2, b3] rfl rfl) (u8c_one _) (by decide) (by unfold maxLen; omega) (by omega) (by have := HZ7.out; simp; omega) ?_; intro g8 p8 w8 hown hgrow hor; have HB8 : Hid (Below base w w8) := (HB7.out.alloc HZ7.out _).grown hgrow (by have := HZ7.out; simp; omega) (fun q hq => own_ge HN7.out.2 hq); have HN8 : Hid (Byts w8 base (some ⟨g8, 0, none⟩) (0 + 1 + 3 + 1 + 1 + 4) p8 (L ++ [112] ++ [43] ++ [b0, b1, b2, b3])) := ⟨by rw [List.length_append, ← HN7.out.1]; rfl, by rw [u8c_app]; exact hown⟩; have HZ8 : Hid (base ≤ w8.heap.size) := Nat.le_trans hb HB8.out.size; clear hown hgrow hor))
            go_ret
            have HR8 : Hid (L ++ [112] ++ [43] ++ [b0, b1, b2, b3] = RES) := by show _ = _; rw [HRE.out, HE.out]; simp
            have e8 : 0 + 1 + 3 + 1 + 1 + 4 = ([] : List UInt8).length + RES.length := by
              have := HN8.out.1
              rw [HR8.out] at this
              rw [this]; simp
            refine ⟨some ⟨g8, 0, none⟩, p8, ?_, ?_, HB8.out⟩
            · rw [← e8]; rfl
            · rw [← e8, List.nil_append, ← HR8.out]; exact HN8.out
end Go.Proofs.YtnndlffidifddaaGreatDoor


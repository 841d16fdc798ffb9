/- internal/strconv.fmtX: one of its cases. -/
import Derived.Test.YtnndlffidifddaaGreatDoorK19
import Derived.Test.YtnndlffidifddaaGreatDoorK20
import Derived.Test.YtnndlffidifddaaGreatDoorK21
import Derived.Test.YtnndlffidifddaaGreatDoorK22
import Derived.Test.YtnndlffidifddaaGreatDoorK23
namespace Go.Proofs.YtnndlffidifddaaGreatDoor
open Go.RowKit


set_option maxRecDepth 100000 in
set_option maxHeartbeats 2000000 in
theorem fmtX_zp (e : Int) (a : Option Addr) (cap base : Nat) (w : World) (h : Byts w base a 0 cap []) (hb : base ≤ w.heap.size) :
    Calls Tryz.prog 87 #[.slice a 0 cap, .int .i64 (-1), .int .u8 120, .bool false, .int .u64 0, .int .i64 e, .int .i64 52] w (AppE base [] [48, 120, 48, 112, 43, 48, 48] w) := by
  obtain ⟨i0, hi, hz0, hz1, hz2⟩ := info_parts Tryz.infoB
  have HO : Hid (Byts w base a 0 cap []) := h
  clear h
  have ha0 : bits BinOp.and IntKind.u64 0 1 = 0 := by decide +kernel
  go_enter Tryz.func87, Tryz.ntmps87
  go_wp2_with fail
  go_loopw [4, 5] (fun mv ev wr => mv = .int .u64 0 ∧ ev = .int .i64 0 ∧ w = wr) (fun _ _ _ => 0)
  case atStart => exact ⟨rfl, rfl, rfl⟩
  case round =>
    obtain ⟨rfl, rfl, rfl⟩ := hrel
    go_wp2_with (first | (go_at_call 102; refine (lower_x _).mono ?_; rintro e9 w9 ⟨rfl, rfl⟩) | (at_builtin; refine wpList_app _ rfl _ _ 23 rfl base 5 i0 (.int .u8 0) 1 1 Tryz.undB hi hz0 hz1 hz2 rfl (by decide) _ (0) (Sp.u8c ([])) rfl (HO.out.2.alloc _) ⟨w.heap.size, 0, none⟩ 3 3 (Sp.u8c [48, 120, 48]) rfl rfl (bytes_new w [48, 120, 48] rfl rfl) (u8c_one _) (by decide) (by unfold maxLen; omega) (by omega) (by have := hb; simp; omega) ?_; intro g1 p1 w1 hown hgrow hor; have HB1 : Hid (Below base w w1) := ((Below.refl base w).alloc hb _).grown hgrow (by have := hb; simp; omega) (fun q hq => own_ge HO.out.2 hq); have HN1 : Hid (Byts w1 base (some ⟨g1, 0, none⟩) (0 + 3) p1 ([] ++ [48, 120, 48])) := ⟨by rw [List.length_append, ← HO.out.1]; rfl, by rw [u8c_app]; exact hown⟩; have HZ1 : Hid (base ≤ w1.heap.size) := Nat.le_trans hb HB1.out.size; clear hown hgrow hor) | (at_builtin; refine wpList_app _ rfl _ _ 23 rfl base 5 i0 (.int .u8 0) 1 1 Tryz.undB hi hz0 hz1 hz2 rfl (by decide) _ (0 + 3) (Sp.u8c ([] ++ [48, 120, 48])) rfl (HN1.out.2.alloc _) ⟨w1.heap.size, 0, none⟩ 1 1 (Sp.u8c [112]) rfl rfl (bytes_new w1 [112] rfl rfl) (u8c_one _) (by decide) (by unfold maxLen; omega) (by omega) (by have := HZ1.out; simp; omega) ?_; intro g6 p6 w6 hown hgrow hor; have HB6 : Hid (Below base w w6) := (HB1.out.alloc HZ1.out _).grown hgrow (by have := HZ1.out; simp; omega) (fun q hq => own_ge HN1.out.2 hq); have HN6 : Hid (Byts w6 base (some ⟨g6, 0, none⟩) (0 + 3 + 1) p6 ([] ++ [48, 120, 48] ++ [112])) := ⟨by rw [List.length_append, ← HN1.out.1]; rfl, by rw [u8c_app]; exact hown⟩; have HZ6 : Hid (base ≤ w6.heap.size) := Nat.le_trans hb HB6.out.size; clear hown hgrow hor) | (at_builtin; refine wpList_app _ rfl _ _ 23 rfl base 5 i0 (.int .u8 0) 1 1 Tryz.undB hi hz0 hz1 hz2 rfl (by decide) _ (0 + 3 + 1) (Sp.u8c ([] ++ [48, 120, 48] ++ [112])) rfl (HN6.out.2.alloc _) ⟨w6.heap.size, 0, none⟩ 1 1 (Sp.u8c [43]) rfl rfl (bytes_new w6 [43] rfl rfl) (u8c_one _) (by decide) (by unfold maxLen; omega) (by omega) (by have := HZ6.out; simp; omega) ?_; intro g7 p7 w7 hown hgrow hor; have HB7 : Hid (Below base w w7) := (HB6.out.alloc HZ6.out _).grown hgrow (by have := HZ6.out; simp; omega) (fun q hq => own_ge HN6.out.2 hq); have HN7 : Hid (Byts w7 base (some ⟨g7, 0, none⟩) (0 + 3 + 1 + 1) p7 ([] ++ [48, 120, 48] ++ [112] ++ [43])) := ⟨by rw [List.length_append, ← HN6.out.1]; rfl, by rw [u8c_app]; exact hown⟩; have HZ7 : Hid (base ≤ w7.heap.size) := Nat.le_trans hb HB7.out.size; clear hown hgrow hor) | (at_builtin; refine wpList_app _ rfl _ _ 23 rfl base 5 i0 (.int .u8 0) 1 1 Tryz.undB hi hz0 hz1 hz2 rfl (by decide) _ (0 + 3 + 1 + 1) (Sp.u8c ([] ++ [48, 120, 48] ++ [112] ++ [43])) rfl (HN7.out.2.alloc _) ⟨w7.heap.size, 0, none⟩ 2 2 (Sp.u8c [48, 48]) rfl rfl (bytes_new w7 [48, 48] rfl rfl) (u8c_one _) (by decide) (by unfold maxLen; omega) (by omega) (by have := HZ7.out; simp; omega) ?_; intro g8 p8 w8 hown hgrow hor; have HB8 : Hid (Below base w w8) := (HB7.out.alloc HZ7.out _).grown hgrow (by have := HZ7.out; simp; omega) (fun q hq => own_ge HN7.out.2 hq); have HN8 : Hid (Byts w8 base (some ⟨g8, 0, none⟩) (0 + 3 + 1 + 1 + 2) p8 ([] ++ [48, 120, 48] ++ [112] ++ [43] ++ [48, 48])) := ⟨by rw [List.length_append, ← HN7.out.1]; rfl, by rw [u8c_app]; exact hown⟩; have HZ8 : Hid (base ≤ w8.heap.size) := Nat.le_trans hb HB8.out.size; clear hown hgrow hor))
    go_ret
    exact ⟨_, p8, rfl, HN8.out, HB8.out⟩

set_option maxRecDepth 100000 in
set_option maxHeartbeats 2000000 in
theorem fmtX_zm (e : Int) (a : Option Addr) (cap base : Nat) (w : World) (h : Byts w base a 0 cap []) (hb : base ≤ w.heap.size) :
    Calls Tryz.prog 87 #[.slice a 0 cap, .int .i64 (-1), .int .u8 120, .bool true, .int .u64 0, .int .i64 e, .int .i64 52] w (AppE base [] [45, 48, 120, 48, 112, 43, 48, 48] w) := by
  obtain ⟨i0, hi, hz0, hz1, hz2⟩ := info_parts Tryz.infoB
  have HO : Hid (Byts w base a 0 cap []) := h
  clear h
  have ha0 : bits BinOp.and IntKind.u64 0 1 = 0 := by decide +kernel
  go_enter Tryz.func87, Tryz.ntmps87
  go_wp2_with fail
  go_loopw [4, 5] (fun mv ev wr => mv = .int .u64 0 ∧ ev = .int .i64 0 ∧ w = wr) (fun _ _ _ => 0)
  case atStart => exact ⟨rfl, rfl, rfl⟩
  case round =>
    obtain ⟨rfl, rfl, rfl⟩ := hrel
    go_wp2_with (first | (go_at_call 102; refine (lower_x _).mono ?_; rintro e9 w9 ⟨rfl, rfl⟩) | (at_builtin; refine wpList_app _ rfl _ _ 23 rfl base 5 i0 (.int .u8 0) 1 1 Tryz.undB hi hz0 hz1 hz2 rfl (by decide) _ (0) (Sp.u8c ([])) rfl (HO.out.2.alloc _) ⟨w.heap.size, 0, none⟩ 1 1 (Sp.u8c [45]) rfl rfl (bytes_new w [45] rfl rfl) (u8c_one _) (by decide) (by unfold maxLen; omega) (by omega) (by have := hb; simp; omega) ?_; intro g3 p3 w3 hown hgrow hor; have HB3 : Hid (Below base w w3) := ((Below.refl base w).alloc hb _).grown hgrow (by have := hb; simp; omega) (fun q hq => own_ge HO.out.2 hq); have HN3 : Hid (Byts w3 base (some ⟨g3, 0, none⟩) (0 + 1) p3 ([] ++ [45])) := ⟨by rw [List.length_append, ← HO.out.1]; rfl, by rw [u8c_app]; exact hown⟩; have HZ3 : Hid (base ≤ w3.heap.size) := Nat.le_trans hb HB3.out.size; clear hown hgrow hor) | (at_builtin; refine wpList_app _ rfl _ _ 23 rfl base 5 i0 (.int .u8 0) 1 1 Tryz.undB hi hz0 hz1 hz2 rfl (by decide) _ (0 + 1) (Sp.u8c ([] ++ [45])) rfl (HN3.out.2.alloc _) ⟨w3.heap.size, 0, none⟩ 3 3 (Sp.u8c [48, 120, 48]) rfl rfl (bytes_new w3 [48, 120, 48] rfl rfl) (u8c_one _) (by decide) (by unfold maxLen; omega) (by omega) (by have := HZ3.out; simp; omega) ?_; intro g1 p1 w1 hown hgrow hor; have HB1 : Hid (Below base w w1) := (HB3.out.alloc HZ3.out _).grown hgrow (by have := HZ3.out; simp; omega) (fun q hq => own_ge HN3.out.2 hq); have HN1 : Hid (Byts w1 base (some ⟨g1, 0, none⟩) (0 + 1 + 3) p1 ([] ++ [45] ++ [48, 120, 48])) := ⟨by rw [List.length_append, ← HN3.out.1]; rfl, by rw [u8c_app]; exact hown⟩; have HZ1 : Hid (base ≤ w1.heap.size) := Nat.le_trans hb HB1.out.size; clear hown hgrow hor) | (at_builtin; refine wpList_app _ rfl _ _ 23 rfl base 5 i0 (.int .u8 0) 1 1 Tryz.undB hi hz0 hz1 hz2 rfl (by decide) _ (0 + 1 + 3) (Sp.u8c ([] ++ [45] ++ [48, 120, 48])) rfl (HN1.out.2.alloc _) ⟨w1.heap.size, 0, none⟩ 1 1 (Sp.u8c [112]) rfl rfl (bytes_new w1 [112] rfl rfl) (u8c_one _) (by decide) (by unfold maxLen; omega) (by omega) (by have := HZ1.out; simp; omega) ?_; intro g6 p6 w6 hown hgrow hor; have HB6 : Hid (Below base w w6) := (HB1.out.alloc HZ1.out _).grown hgrow (by have := HZ1.out; simp; omega) (fun q hq => own_ge HN1.out.2 hq); have HN6 : Hid (Byts w6 base (some ⟨g6, 0, none⟩) (0 + 1 + 3 + 1) p6 ([] ++ [45] ++ [48, 120, 48] ++ [112])) := ⟨by rw [List.length_append, ← HN1.out.1]; rfl, by rw [u8c_app]; exact hown⟩; have HZ6 : Hid (base ≤ w6.heap.size) := Nat.le_trans hb HB6.out.size; clear hown hgrow hor) | (at_builtin; refine wpList_app _ rfl _ _ 23 rfl base 5 i0 (.int .u8 0) 1 1 Tryz.undB hi hz0 hz1 hz2 rfl (by decide) _ (0 + 1 + 3 + 1) (Sp.u8c ([] ++ [45] ++ [48, 120, 48] ++ [112])) rfl (HN6.out.2.alloc _) ⟨w6.heap.size, 0, none⟩ 1 1 (Sp.u8c [43]) rfl rfl (bytes_new w6 [43] rfl rfl) (u8c_one _) (by decide) (by unfold maxLen; omega) (by omega) (by have := HZ6.out; simp; omega) ?_; intro g7 p7 w7 hown hgrow hor; have HB7 : Hid (Below base w w7) := (HB6.out.alloc HZ6.out _).grown hgrow (by have := HZ6.out; simp; omega) (fun q hq => own_ge HN6.out.2 hq); have HN7 : Hid (Byts w7 base (some ⟨g7, 0, none⟩) (0 + 1 + 3 + 1 + 1) p7 ([] ++ [45] ++ [48, 120, 48] ++ [112] ++ [43])) := ⟨by rw [List.length_append, ← HN6.out.1]; rfl, by rw [u8c_app]; exact hown⟩; have HZ7 : Hid (base ≤ w7.heap.size) := Nat.le_trans hb HB7.out.size; clear hown hgrow hor) | (at_builtin; refine wpList_app _ rfl _ _ 23 rfl base 5 i0 (.int .u8 0) 1 1 Tryz.undB hi hz0 hz1 hz2 rfl (by decide) _ (0 + 1 + 3 + 1 + 1) (Sp.u8c ([] ++ [45] ++ [48, 120, 48] ++ [112] ++ [43])) rfl (HN7.out.2.alloc _) ⟨w7.heap.size, 0, none⟩ 2 2 (Sp.u8c [48, 48]) rfl rfl (bytes_new w7 [48, 48] rfl rfl) (u8c_one _) (by decide) (by unfold maxLen; omega) (by omega) (by have := HZ7.out; simp; omega) ?_; intro g8 p8 w8 hown hgrow hor; have HB8 : Hid (Below base w w8) := (HB7.out.alloc HZ7.out _).grown hgrow (by have := HZ7.out; simp; omega) (fun q hq => own_ge HN7.out.2 hq); have HN8 : Hid (Byts w8 base (some ⟨g8, 0, none⟩) (0 + 1 + 3 + 1 + 1 + 2) p8 ([] ++ [45] ++ [48, 120, 48] ++ [112] ++ [43] ++ [48, 48])) := ⟨by rw [List.length_append, ← HN7.out.1]; rfl, by rw [u8c_app]; exact hown⟩; have HZ8 : Hid (base ≤ w8.heap.size) := Nat.le_trans hb HB8.out.size; clear hown hgrow hor))
    go_ret
    exact ⟨_, p8, rfl, HN8.out, HB8.out⟩
end Go.Proofs.YtnndlffidifddaaGreatDoor

/- internal/strconv.ftoa64, at 'x', -1, 64. -/
namespace Go.Proofs.YtnndlffidifddaaGreatDoor
open Go.RowKit

theorem bitsI_run (f : Nat) (w : World) : (callFunc 85 #[.float .f64 f]).run Tryz.prog w = .ok (.value (.int .u64 f)) w := by
  rw [run_callFunc_extern Tryz.func85 (by kernel_rfl) (by kernel_rfl) (by kernel_rfl) (e := Extern.MathFloatBits.float64bits) (by kernel_rfl)]
  rfl
theorem i64_and2047 (n : Int) : bits .and .i64 n 2047 = n % 2048 := by
  have h1 : (BitVec.ofInt 64 2047).toNat = 2 ^ 11 - 1 := by decide
  have key : (BitVec.ofInt 64 n &&& BitVec.ofInt 64 2047).toNat = (n % ((2 ^ 64 : Nat) : Int)).toNat % 2 ^ 11 := by
    rw [BitVec.toNat_and, BitVec.toNat_ofInt, h1, Nat.and_two_pow_sub_one_eq_mod]
  show IntKind.i64.wrap ((BitVec.ofInt 64 n &&& BitVec.ofInt 64 2047).toNat : Nat) = n % 2048
  rw [key, IntKind.wrap_i64]
  omega
theorem u64_and52 (f : Nat) (hf : f < 18446744073709551616) : bits .and .u64 (f : Int) 4503599627370495 = (f : Int) % 4503599627370496 := by
  have h := bits_and_u64_nat f 4503599627370495 hf (by decide)
  have h' : bits BinOp.and IntKind.u64 (f : Int) 4503599627370495 = ((f &&& 4503599627370495 : Nat) : Int) := h
  have e := Nat.and_two_pow_sub_one_eq_mod f 52
  rw [show (2 : Nat) ^ 52 - 1 = 4503599627370495 by decide, show (2 : Nat) ^ 52 = 4503599627370496 by decide] at e
  rw [h', e]; omega
theorem u64_or52 (m : Nat) (hm : m < 4503599627370496) : bits .or .u64 (m : Int) 4503599627370496 = ((m + 4503599627370496 : Nat) : Int) := by
  have h := bits_or_u64_nat m 4503599627370496 (by omega) (by decide)
  have h' : bits BinOp.or IntKind.u64 (m : Int) 4503599627370496 = ((m ||| 4503599627370496 : Nat) : Int) := h
  rw [h', nat_join52' 4503599627370496 m (by decide) hm, Nat.add_comm]

/-- fmtX, of numbers that are not nought -/
theorem fmtX_nz (neg : Bool) (m p fr : Nat) (e : Int) (a : Option Addr) (cap base : Nat) (w : World) (h : Byts w base a 0 cap []) (hb : base ≤ w.heap.size) (hm : m < 9007199254740992) (hm0 : m ≠ 0) (he0 : -1100 ≤ e) (he1 : e ≤ 1100)
    (hp : p ≤ 52) (hr : m * 2 ^ p = 4503599627370496 + fr) (hfr : fr < 4503599627370496) (hlow : ∀ c, c < p → m * 2 ^ c < 4503599627370496) :
    Calls Tryz.prog 87 #[.slice a 0 cap, .int .i64 (-1), .int .u8 120, .bool neg, .int .u64 (m : Int), .int .i64 e, .int .i64 52] w (AppE base [] ((if neg then [45] else []) ++ [48, 120, 49] ++ Sp.fracT fr ++ [112] ++ Sp.expT (e - (p : Int))) w) := by
  cases neg with
  | true =>
    by_cases h0 : fr = 0
    · exact fmtX_im m p fr e a cap base w h hb hm hm0 he0 he1 hp hr hfr h0 hlow _ rfl
    · exact fmtX_fm m p fr e a cap base w h hb hm hm0 he0 he1 hp hr hfr h0 hlow _ rfl
  | false =>
    by_cases h0 : fr = 0
    · exact fmtX_ip m p fr e a cap base w h hb hm hm0 he0 he1 hp hr hfr h0 hlow _ rfl
    · exact fmtX_fp m p fr e a cap base w h hb hm hm0 he0 he1 hp hr hfr h0 hlow _ rfl

set_option maxRecDepth 100000 in
set_option maxHeartbeats 2000000 in
theorem ftoa_norm (f : Nat) (a : Option Addr) (cap base : Nat) (w : World) (h : Byts w base a 0 cap []) (hb : base ≤ w.heap.size) (hf : f < 18446744073709551616) (h1 : Sp.fexp f ≠ 2047) (h2 : Sp.fexp f ≠ 0) (RES : List UInt8) (hres : RES = Sp.floatT f) :
    Calls Tryz.prog 65 #[.slice a 0 cap, .float .f64 f, .int .u8 120, .int .i64 (-1)] w (AppE base [] RES w) := by
  obtain ⟨hE, hM, hG⟩ := Sp.fparts f hf
  have HO : Hid (Byts w base a 0 cap []) := h
  clear h
  have hbi := bitsI_run f
  have ha1 : bits BinOp.and IntKind.i64 ((f : Int) / 4503599627370496) 2047 = (Sp.fexp f : Int) := by rw [i64_and2047, hE]
  have ha2 : bits BinOp.and IntKind.u64 (f : Int) 4503599627370495 = (Sp.fman f : Int) := by rw [u64_and52 f hf, hM]
  have hs : ((f : Int) / 9223372036854775808 != 0) = Sp.fneg f := by rw [hG]; cases Sp.fneg f <;> rfl
  have hmlt := Sp.fman_lt f
  have hlt := Sp.fexp_lt f
  have ho := u64_or52 (Sp.fman f) hmlt
  obtain ⟨M, hMM⟩ : ∃ M : Nat, Sp.fman f + 4503599627370496 = M := ⟨_, rfl⟩
  rw [hMM] at ho
  have HC : Hid (∀ W : World, Byts W base a 0 cap [] → base ≤ W.heap.size → Calls Tryz.prog 87 #[.slice a 0 cap, .int .i64 (-1), .int .u8 120, .bool (Sp.fneg f), .int .u64 (M : Int), .int .i64 ((Sp.fexp f : Int) - 1023), .int .i64 52] W (AppE base [] RES W)) := fun W hW hbW => by
    have := fmtX_nz (Sp.fneg f) M 0 (Sp.fman f) ((Sp.fexp f : Int) - 1023) a cap base W hW hbW (by omega) (by omega) (by omega) (by omega) (by omega) (by omega) hmlt (fun c hc => by omega)
    have eR : RES = (if Sp.fneg f then [45] else []) ++ [48, 120, 49] ++ Sp.fracT (Sp.fman f) ++ [112] ++ Sp.expT ((Sp.fexp f : Int) - 1023 - ((0 : Nat) : Int)) := by
      rw [hres]; unfold Sp.floatT; rw [if_neg h1, if_neg h2, Sp.signT, show (Sp.fexp f : Int) - 1023 - ((0 : Nat) : Int) = (Sp.fexp f : Int) - 1023 by omega]
    rw [eR]; exact this
  have d1 : ((Sp.fexp f : Int) == 2047) = false := by simp; omega
  have d2 : ((Sp.fexp f : Int) == 0) = false := by simp; omega
  clear h1 h2 hres hmlt hMM
  generalize Sp.fexp f = n at *
  generalize Sp.fman f = m at *
  clear hE hM hG
  generalize Sp.fneg f = neg at *
  go_enter Tryz.func65, Tryz.ntmps65
  go_wp2_with fail
  go_region
  all_goals
    go_wp2_with fail
    refine (HC.out _ ⟨rfl, HO.out.2.drew⟩ hb).mono ?_
    rintro e w1 ⟨a1, p1, rfl, hn1, hb1⟩
    have HN1 : Hid (Byts w1 base a1 (([] : List UInt8).length + RES.length) p1 ([] ++ RES)) := hn1
    have HB1 : Hid (Below base w w1) := (Below.refl base w).drew.trans hb1
    clear hn1 hb1
    go_wp2_with fail
    go_ret
    exact ⟨a1, p1, (by rw [show ([] : List UInt8).length + RES.length = RES.length by simp]; rfl), HN1.out, HB1.out⟩

set_option maxRecDepth 100000 in
set_option maxHeartbeats 2000000 in
theorem ftoa_low (f : Nat) (a : Option Addr) (cap base : Nat) (w : World) (h : Byts w base a 0 cap []) (hb : base ≤ w.heap.size) (hf : f < 18446744073709551616) (h1 : Sp.fexp f = 0) (h2 : Sp.fman f ≠ 0) (RES : List UInt8) (hres : RES = Sp.floatT f) :
    Calls Tryz.prog 65 #[.slice a 0 cap, .float .f64 f, .int .u8 120, .int .i64 (-1)] w (AppE base [] RES w) := by
  obtain ⟨hE, hM, hG⟩ := Sp.fparts f hf
  have HO : Hid (Byts w base a 0 cap []) := h
  clear h
  have hbi := bitsI_run f
  have ha1 : bits BinOp.and IntKind.i64 ((f : Int) / 4503599627370496) 2047 = (Sp.fexp f : Int) := by rw [i64_and2047, hE]
  have ha2 : bits BinOp.and IntKind.u64 (f : Int) 4503599627370495 = (Sp.fman f : Int) := by rw [u64_and52 f hf, hM]
  have hs : ((f : Int) / 9223372036854775808 != 0) = Sp.fneg f := by rw [hG]; cases Sp.fneg f <;> rfl
  have hmlt := Sp.fman_lt f
  obtain ⟨u1, u2, u3, u4⟩ := Sp.up_bd h2 hmlt
  have HC : Hid (∀ W : World, Byts W base a 0 cap [] → base ≤ W.heap.size → Calls Tryz.prog 87 #[.slice a 0 cap, .int .i64 (-1), .int .u8 120, .bool (Sp.fneg f), .int .u64 (Sp.fman f : Int), .int .i64 (-1022), .int .i64 52] W (AppE base [] RES W)) := fun W hW hbW => by
    obtain ⟨fr, hfr⟩ : ∃ fr, Sp.fman f * 2 ^ Sp.up (Sp.fman f) = 4503599627370496 + fr := ⟨Sp.fman f * 2 ^ Sp.up (Sp.fman f) - 4503599627370496, by omega⟩
    have := fmtX_nz (Sp.fneg f) (Sp.fman f) (Sp.up (Sp.fman f)) fr (-1022) a cap base W hW hbW (by omega) h2 (by omega) (by omega) u3 hfr (by omega) u4
    have eR : RES = (if Sp.fneg f then [45] else []) ++ [48, 120, 49] ++ Sp.fracT fr ++ [112] ++ Sp.expT (-1022 - ((Sp.up (Sp.fman f) : Nat) : Int)) := by
      rw [hres]; unfold Sp.floatT; rw [if_neg (by omega), if_pos h1, if_neg h2, Sp.signT, hfr, show 4503599627370496 + fr - 2 ^ 52 = fr by omega]
    rw [eR]; exact this
  rw [h1] at ha1
  have ha1' : bits BinOp.and IntKind.i64 ((f : Int) / 4503599627370496) 2047 = 0 := ha1
  clear h1 h2 hres hmlt u1 u2 u3 u4 ha1
  generalize Sp.fman f = m at *
  clear hE hM hG
  generalize Sp.fneg f = neg at *
  go_enter Tryz.func65, Tryz.ntmps65
  go_wp2_with fail
  go_region
  all_goals
    go_wp2_with fail
    refine (HC.out _ ⟨rfl, HO.out.2.drew⟩ hb).mono ?_
    rintro e w1 ⟨a1, p1, rfl, hn1, hb1⟩
    have HN1 : Hid (Byts w1 base a1 (([] : List UInt8).length + RES.length) p1 ([] ++ RES)) := hn1
    have HB1 : Hid (Below base w w1) := (Below.refl base w).drew.trans hb1
    clear hn1 hb1
    go_wp2_with fail
    go_ret
    exact ⟨a1, p1, (by rw [show ([] : List UInt8).length + RES.length = RES.length by simp]; rfl), HN1.out, HB1.out⟩

set_option maxRecDepth 100000 in
set_option maxHeartbeats 2000000 in
theorem ftoa_zero (f : Nat) (a : Option Addr) (cap base : Nat) (w : World) (h : Byts w base a 0 cap []) (hb : base ≤ w.heap.size) (hf : f < 18446744073709551616) (h1 : Sp.fexp f = 0) (h2 : Sp.fman f = 0) (RES : List UInt8) (hres : RES = Sp.floatT f) :
    Calls Tryz.prog 65 #[.slice a 0 cap, .float .f64 f, .int .u8 120, .int .i64 (-1)] w (AppE base [] RES w) := by
  obtain ⟨hE, hM, hG⟩ := Sp.fparts f hf
  have HO : Hid (Byts w base a 0 cap []) := h
  clear h
  have hbi := bitsI_run f
  have ha1 : bits BinOp.and IntKind.i64 ((f : Int) / 4503599627370496) 2047 = (Sp.fexp f : Int) := by rw [i64_and2047, hE]
  have ha2 : bits BinOp.and IntKind.u64 (f : Int) 4503599627370495 = (Sp.fman f : Int) := by rw [u64_and52 f hf, hM]
  have hs : ((f : Int) / 9223372036854775808 != 0) = Sp.fneg f := by rw [hG]; cases Sp.fneg f <;> rfl
  have HC : Hid (∀ W : World, Byts W base a 0 cap [] → base ≤ W.heap.size → Calls Tryz.prog 87 #[.slice a 0 cap, .int .i64 (-1), .int .u8 120, .bool (Sp.fneg f), .int .u64 0, .int .i64 (-1022), .int .i64 52] W (AppE base [] RES W)) := fun W hW hbW => by
    cases hn : Sp.fneg f with
    | true =>
      have eR : RES = [45, 48, 120, 48, 112, 43, 48, 48] := by rw [hres]; unfold Sp.floatT; rw [if_neg (by omega), if_pos h1, if_pos h2, Sp.signT, hn]; rfl
      rw [eR]; exact fmtX_zm (-1022) a cap base W hW hbW
    | false =>
      have eR : RES = [48, 120, 48, 112, 43, 48, 48] := by rw [hres]; unfold Sp.floatT; rw [if_neg (by omega), if_pos h1, if_pos h2, Sp.signT, hn]; rfl
      rw [eR]; exact fmtX_zp (-1022) a cap base W hW hbW
  rw [h1] at ha1
  rw [h2] at ha2
  have ha1' : bits BinOp.and IntKind.i64 ((f : Int) / 4503599627370496) 2047 = 0 := ha1
  have ha2' : bits BinOp.and IntKind.u64 (f : Int) 4503599627370495 = 0 := ha2
  clear h1 h2 hres ha1 ha2
  clear hE hM hG
  generalize Sp.fneg f = neg at *
  go_enter Tryz.func65, Tryz.ntmps65
  go_wp2_with fail
  go_region
  all_goals
    go_wp2_with fail
    refine (HC.out _ ⟨rfl, HO.out.2.drew⟩ hb).mono ?_
    rintro e w1 ⟨a1, p1, rfl, hn1, hb1⟩
    have HN1 : Hid (Byts w1 base a1 (([] : List UInt8).length + RES.length) p1 ([] ++ RES)) := hn1
    have HB1 : Hid (Below base w w1) := (Below.refl base w).drew.trans hb1
    clear hn1 hb1
    go_wp2_with fail
    go_ret
    exact ⟨a1, p1, (by rw [show ([] : List UInt8).length + RES.length = RES.length by simp]; rfl), HN1.out, HB1.out⟩

theorem ftoa_any (f : Nat) (a : Option Addr) (cap base : Nat) (w : World) (h : Byts w base a 0 cap []) (hb : base ≤ w.heap.size) (hf : f < 18446744073709551616) (h1 : Sp.fexp f ≠ 2047) :
    Calls Tryz.prog 65 #[.slice a 0 cap, .float .f64 f, .int .u8 120, .int .i64 (-1)] w (AppE base [] (Sp.floatT f) w) := by
  by_cases h2 : Sp.fexp f = 0
  · by_cases h3 : Sp.fman f = 0
    · exact ftoa_zero f a cap base w h hb hf h2 h3 _ rfl
    · exact ftoa_low f a cap base w h hb hf h2 h3 _ rfl
  · exact ftoa_norm f a cap base w h hb hf h1 h2 _ rfl
end Go.Proofs.YtnndlffidifddaaGreatDoor


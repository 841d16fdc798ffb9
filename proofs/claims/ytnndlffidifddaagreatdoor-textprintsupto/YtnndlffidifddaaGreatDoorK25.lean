/- strconv.FormatUint at the base 16, of numbers of sixteen digits. -/
import Derived.Test.YtnndlffidifddaaGreatDoorK24
import Derived.Test.YtnndlffidifddaaGreatDoorK8
import Derived.Laws.MakeOwn
namespace Go.Proofs.YtnndlffidifddaaGreatDoor
open Go.RowKit

theorem u64_and15 (f : Nat) (hf : f < 18446744073709551616) : bits .and .u64 (f : Int) 15 = ((f % 16 : Nat) : Int) := by
  have h := bits_and_u64_nat f 15 hf (by decide)
  have h' : bits BinOp.and IntKind.u64 (f : Int) 15 = ((f &&& 15 : Nat) : Int) := h
  have e := Nat.and_two_pow_sub_one_eq_mod f 4
  rw [show (2 : Nat) ^ 4 - 1 = 15 by decide, show (2 : Nat) ^ 4 = 16 by decide] at e
  rw [h', e]
def dig36 : ByteArray := ⟨#[48, 49, 50, 51, 52, 53, 54, 55, 56, 57, 97, 98, 99, 100, 101, 102, 103, 104, 105, 106, 107, 108, 109, 110, 111, 112, 113, 114, 115, 116, 117, 118, 119, 120, 121, 122]⟩
theorem dig_fin : ∀ i : Fin 16, dig36.data.toList.getD i.val 0 = Sp.hexd i.val := by decide +kernel
set_option maxRecDepth 100000 in
theorem idx_dig (k : IntKind) (z : Int) (i : Nat) (hz : z = (i : Int)) (hi : i < 16) (W : World) : (Instr.index 9 (.string ⟨#[48, 49, 50, 51, 52, 53, 54, 55, 56, 57, 97, 98, 99, 100, 101, 102, 103, 104, 105, 106, 107, 108, 109, 110, 111, 112, 113, 114, 115, 116, 117, 118, 119, 120, 121, 122]⟩) (.int k z)).run Tryz.prog W = .ok (.int .u8 ((Sp.hexd i).toNat : Int)) W := by
  subst hz
  have hs : dig36.size = 36 := rfl
  have := run_index_string (P := Tryz.prog) W 9 dig36 k (i : Int) Tryz.undSd
  rw [dif_pos ⟨by omega, by rw [hs]; omega⟩] at this
  refine this.trans ?_
  congr 3
  have e : ((i : Int)).toNat = i := by omega
  simp only [e]
  rw [← dig_fin ⟨i, hi⟩]
  have hi' : i < dig36.data.toList.length := by show i < 36; omega
  simp only [List.getD, List.getElem?_eq_getElem hi', Option.getD_some]
  rfl

set_option maxHeartbeats 400000 in
theorem isPow_16 (w : World) : Calls Tryz.prog 82 #[.int .i64 16] w fun e w' => e = .returned (.bool true) ∧ w = w' := by
  have h : bits .and .i64 16 15 = 0 := by decide
  go_enter Tryz.func82, Tryz.ntmps82
  go_wp2
  go_ret
  exact ⟨rfl, rfl⟩
set_option maxRecDepth 100000 in
set_option maxHeartbeats 400000 in
theorem tz64_16 (w : World) (h : w.cell? ⟨4, 15, none⟩ = some (.int .u8 4)) : Calls Tryz.prog 101 #[.int .u64 16] w fun e w' => e = .returned (.int .i64 4) ∧ w = w' := by
  have h0 : IntKind.u64.wrap (-16) = 18446744073709551600 := by decide
  have h1 : bits .and .u64 16 18446744073709551600 = 16 := by decide
  have h2 : IntKind.u64.wrap (16 * 285870213051353865) = 4573923408821661840 := by decide
  have h3 : IntKind.u64.wrap 4573923408821661840 = 4573923408821661840 := by decide
  go_enter Tryz.func101, Tryz.ntmps101
  go_wp2
  go_ret
  exact ⟨rfl, rfl⟩
set_option maxRecDepth 100000 in
set_option maxHeartbeats 400000 in
theorem tz_16 (w : World) (h : w.cell? ⟨4, 15, none⟩ = some (.int .u8 4)) : Calls Tryz.prog 83 #[.int .u64 16] w fun e w' => e = .returned (.int .i64 4) ∧ w = w' := by
  have HC : Hid (Calls Tryz.prog 101 #[.int .u64 16] w fun e w' => e = .returned (.int .i64 4) ∧ w = w') := tz64_16 w h
  clear h
  go_enter Tryz.func83, Tryz.ntmps83
  go_wp2_with fail
  refine HC.out.mono ?_
  rintro e w' ⟨rfl, rfl⟩
  go_wp2_with fail
  go_ret
  exact ⟨rfl, rfl⟩

/-- digits at the end of a row of 65 -/
def HexA (w : World) (b u j : Nat) : Prop := ∃ cs : Array Value, w.heap[b]? = some (.cells cs 128 (0, 0)) ∧ cs.size = 65 ∧ ∀ t, t < j → cs[64 - t]? = some (.int .u8 ((Sp.hexd (u / 16 ^ t % 16)).toNat : Int))
theorem HexA.at {w : World} {b u j : Nat} (h : HexA w b u j) (q : Nat) (hq : q < 65) : (∃ v, w.cell? ⟨b, q, none⟩ = some v) ∧ w.frozen? ⟨b, q, none⟩ = false := by
  obtain ⟨cs, h1, h2, _⟩ := h
  refine ⟨⟨cs[q], ?_⟩, Lib.frozen_of_heap h1 q⟩
  rw [Lib.cell_of_heap h1, Array.getElem?_eq_getElem (by omega)]
theorem HexA.put {w : World} {b u j q : Nat} (h : HexA w b u j) (hq : q + j = 64) {v : Int} (hv : v = ((Sp.hexd (u / 16 ^ j % 16)).toNat : Int)) : HexA (w.setCell ⟨b, q, none⟩ (.int .u8 v)) b u (j + 1) := by
  subst hv
  obtain ⟨cs, h1, h2, h3⟩ := h
  refine ⟨cs.setIfInBounds q (.int .u8 ((Sp.hexd (u / 16 ^ j % 16)).toNat : Int)), ?_, by simp [h2], fun t ht => ?_⟩
  · simp [World.setCell, Array.getElem?_modify, h1]
  · rw [Array.getElem?_setIfInBounds]
    by_cases e : t = j
    · subst e
      rw [if_pos (by omega), if_pos (by omega)]
    · rw [if_neg (by omega)]
      exact h3 t (by omega)
theorem zero65 : Tryz.zeroCells128.size = 65 := by kernel_rfl
theorem hexA_new (w : World) (u : Nat) : HexA (w.alloc (.cells Tryz.zeroCells128 128)) w.heap.size u 0 := ⟨_, heap_alloc_new w _, zero65, fun t ht => by omega⟩
theorem HexA.conv {w : World} {b u : Nat} (h : HexA w b u 16) : (convert 23 9 (.slice (some ⟨b, 49, none⟩) 16 16)).run Tryz.prog w = .ok (.string ⟨(Sp.hexN u 16).toArray⟩) w := by
  obtain ⟨cs, h1, h2, h3⟩ := h
  have := conv_row (Sp.hexN u 16) b 49 16 w (fun j v hv => by
    have hj : j < 16 := by
      have := (List.getElem?_eq_some_iff.1 hv).1
      rw [Sp.hexN_len] at this; exact this
    rw [Sp.hexN_at u 16 j hj] at hv
    injection hv with hv
    rw [Lib.cell_of_heap h1, show 49 + j = 64 - (15 - j) by omega, h3 (15 - j) (by omega), ← hv])
  rw [Sp.hexN_len] at this
  exact this
theorem hex_more {u j : Nat} (hu : u < 18446744073709551616) (hj : j ≤ 15) (h : 16 ≤ u / 16 ^ j) : j < 15 := by
  rcases Nat.lt_or_ge j 15 with h' | h'
  · exact h'
  · obtain rfl : j = 15 := by omega
    simp only [Nat.reducePow] at h
    omega
theorem hex_last {u j : Nat} (hu : 1152921504606846976 ≤ u) (hj : j ≤ 15) (h : u / 16 ^ j < 16) : j = 15 := by
  have : j = 0 ∨ j = 1 ∨ j = 2 ∨ j = 3 ∨ j = 4 ∨ j = 5 ∨ j = 6 ∨ j = 7 ∨ j = 8 ∨ j = 9 ∨ j = 10 ∨ j = 11 ∨ j = 12 ∨ j = 13 ∨ j = 14 ∨ j = 15 := by omega
  rcases this with rfl | rfl | rfl | rfl | rfl | rfl | rfl | rfl | rfl | rfl | rfl | rfl | rfl | rfl | rfl | rfl <;> simp only [Nat.reducePow] at h <;> omega

set_option maxRecDepth 100000 in
set_option maxHeartbeats 2000000 in
theorem formatBits_16 (u : Nat) (w : World) (hu : u < 18446744073709551616) (hu1 : 1152921504606846976 ≤ u) (ht : w.cell? ⟨4, 15, none⟩ = some (.int .u8 4)) :
    Calls Tryz.prog 62 #[.slice none 0 0, .int .u64 (u : Int), .int .i64 16, .bool false, .bool false] w fun e w' => e = .returned (.tuple #[.slice none 0 0, .string ⟨(Sp.hexN u 16).toArray⟩]) ∧ Below w.heap.size w w' := by
  have HP : Hid (∀ W, Calls Tryz.prog 82 #[.int .i64 16] W fun e w' => e = .returned (.bool true) ∧ W = w') := isPow_16
  have HT : Hid (∀ W, Below w.heap.size w W → Calls Tryz.prog 83 #[.int .u64 16] W fun e w' => e = .returned (.int .i64 4) ∧ W = w') := fun W hW => tz_16 W (by rw [hW.cell (p := ⟨4, 15, none⟩) (World.block_lt_of_cell? _ _ ht)]; exact ht)
  have HU : Hid (u < 18446744073709551616 ∧ 1152921504606846976 ≤ u) := ⟨hu, hu1⟩
  clear ht hu hu1
  go_enter Tryz.func62, Tryz.ntmps62
  go_wp2_with fail
  refine (HP.out _).mono ?_
  rintro e w1 ⟨rfl, rfl⟩
  go_wp2_with fail
  refine (HT.out _ ((Below.refl _ _).alloc (Nat.le_refl _) _)).mono ?_
  rintro e w1 ⟨rfl, rfl⟩
  go_wp2_with fail
  go_loopw [1, 13] (fun uv iv wr => ∃ (j q x : Nat), j ≤ 15 ∧ q + j = 64 ∧ uv = .int .u64 (x : Int) ∧ iv = .int .i64 ((q : Int) + 1) ∧ Hid (x = u / 16 ^ j) ∧ Hid (HexA wr w.heap.size u j ∧ Below w.heap.size w wr)) (fun uv _ _ => (intOf uv).toNat)
  case atStart => exact ⟨0, 64, u, by omega, by omega, rfl, rfl, (show _ = _ by simp), ⟨hexA_new w u, (Below.refl _ _).alloc (Nat.le_refl _) _⟩⟩
  case round =>
    obtain ⟨j, q, x, hj, hq, rfl, rfl, HX, HK⟩ := hrel
    have hq65 : q < 65 := by omega
    obtain ⟨⟨v0, hc⟩, hfz⟩ := HK.out.1.at q hq65
    by_cases hx : 16 ≤ x
    · have HJ : Hid (j < 15) := hex_more HU.out.1 hj (by rw [← HX.out]; exact hx)
      have hx' : (16 : Int) ≤ (x : Int) := by omega
      have hxl : x < 18446744073709551616 := by rw [HX.out]; exact Nat.lt_of_le_of_lt (Nat.div_le_self _ _) HU.out.1
      have hix := idx_dig .u64 (bits .and .u64 (x : Int) 15) (x % 16) (u64_and15 x hxl) (Nat.mod_lt _ (by decide))
      have HK2 : Hid (HexA (wr.setCell ⟨w.heap.size, q, none⟩ (.int .u8 ((Sp.hexd (x % 16)).toNat : Int))) w.heap.size u (j + 1) ∧ Below w.heap.size w (wr.setCell ⟨w.heap.size, q, none⟩ (.int .u8 ((Sp.hexd (x % 16)).toNat : Int)))) := ⟨HK.out.1.put hq (by rw [HX.out]), HK.out.2.setCell (p := ⟨w.heap.size, q, none⟩) (Nat.le_refl _) _⟩
      have HM : Hid (x / 16 < x) := by show _ < _; omega
      have HX2 : Hid (x / 16 = u / 16 ^ (j + 1)) := by show _ = _; rw [HX.out, Nat.pow_succ, Nat.div_div_eq_div_mul]
      clear hxl hx
      generalize Sp.hexd (x % 16) = g at hix HK2
      go_wp2_with fail
      go_roundw
      case rel => exact ⟨j + 1, q - 1, x / 16, by have := HJ.out; omega, by have := HJ.out; omega, by simp, by have := HJ.out; simp; omega, HX2, HK2⟩
      case measure => have := HM.out; simp [intOf]; omega
    · have hx' : ¬ (16 : Int) ≤ (x : Int) := by omega
      obtain rfl : j = 15 := hex_last HU.out.2 hj (by rw [← HX.out]; omega)
      obtain rfl : q = 49 := by omega
      have hix := idx_dig .u64 (x : Int) x rfl (by omega)
      have HK2 : HexA (wr.setCell ⟨w.heap.size, 49, none⟩ (.int .u8 ((Sp.hexd x).toNat : Int))) w.heap.size u 16 ∧ Below w.heap.size w (wr.setCell ⟨w.heap.size, 49, none⟩ (.int .u8 ((Sp.hexd x).toNat : Int))) := ⟨HK.out.1.put (j := 15) (by omega) (by rw [← HX.out, Nat.mod_eq_of_lt (by omega)]), HK.out.2.setCell (p := ⟨w.heap.size, 49, none⟩) (Nat.le_refl _) _⟩
      have hcv := HK2.1.conv
      have HB2 : Hid _ := HK2.2
      clear HK2 hx
      generalize Sp.hexd x = g at hix hcv HB2
      go_wp2_with fail
      go_ret2
      exact ⟨rfl, HB2.out⟩
end Go.Proofs.YtnndlffidifddaaGreatDoor

/- FormatFloat at 'x', -1, 64. -/
namespace Go.Proofs.YtnndlffidifddaaGreatDoor
open Go.RowKit

set_option maxRecDepth 100000 in
set_option maxHeartbeats 2000000 in
theorem iFormatFloat_any (f : Nat) (w : World) (hf : f < 18446744073709551616) (h1 : Sp.fexp f ≠ 2047) :
    Calls Tryz.prog 42 #[.float .f64 f, .int .u8 120, .int .i64 (-1), .int .i64 64] w fun e w' => e = .returned (.string ⟨(Sp.floatT f).toArray⟩) ∧ Below w.heap.size w w' := by
  obtain ⟨i0, hi, hz0, hz1, hz2⟩ := info_parts Tryz.infoB
  have HC : Hid (∀ (a : Option Addr) (cap : Nat) (W : World), Byts W w.heap.size a 0 cap [] → w.heap.size ≤ W.heap.size → Calls Tryz.prog 65 #[.slice a 0 cap, .float .f64 f, .int .u8 120, .int .i64 (-1)] W (AppE w.heap.size [] (Sp.floatT f) W)) := fun a cap W hW hb => ftoa_any f a cap w.heap.size W hW hb hf h1
  obtain ⟨wm, hmk, hown, hgr⟩ := run_make_own (P := Tryz.prog) w w.heap.size 23 5 i0 (.int .u8 0) 1 Tryz.undB hi hz0 hz1 .i64 .i64 24 (by rw [hz2]; omega) (by unfold maxLen; omega) (Nat.le_refl _)
  have hmk2 : (Instr.makeSlice 23 (.int .i64 0) (.int .i64 24)).run Tryz.prog w = .ok (.slice (some ⟨w.heap.size, 0, none⟩) 0 24) wm := hmk
  have HM : Hid (Byts wm w.heap.size (some ⟨w.heap.size, 0, none⟩) 0 24 []) := ⟨rfl, hown⟩
  have HB : Hid (Below w.heap.size w wm) := (Below.refl _ _).grown hgr (Nat.le_refl _) (fun k e => by cases e)
  obtain ⟨RES, HRES⟩ : ∃ R, Hid (Sp.floatT f = R) := ⟨_, show _ = _ from rfl⟩
  rw [HRES.out] at HC ⊢
  clear h1 hf hmk hown hgr
  go_enter Tryz.func42, Tryz.ntmps42
  go_wp2_with fail
  refine (HC.out _ _ _ HM.out HB.out.size).mono ?_
  rintro e w1 ⟨a1, p1, rfl, hn1, hb1⟩
  have HB1 : Hid (Below w.heap.size w w1) := HB.out.trans hb1
  rw [show ([] : List UInt8).length + RES.length = RES.length by simp, List.nil_append] at hn1
  have hcv := hn1.conv (Below.refl _ _)
  clear hn1 hb1
  rw [show ([] : List UInt8).length + RES.length = RES.length by simp]
  generalize RES.length = q at hcv ⊢
  go_wp2_with fail
  go_ret
  exact ⟨rfl, HB1.out⟩

set_option maxRecDepth 100000 in
set_option maxHeartbeats 1000000 in
theorem FormatFloat_any (f : Nat) (w : World) (hf : f < 18446744073709551616) (h1 : Sp.fexp f ≠ 2047) :
    Calls Tryz.prog 27 #[.float .f64 f, .int .u8 120, .int .i64 (-1), .int .i64 64] w fun e w' => e = .returned (.string ⟨(Sp.floatT f).toArray⟩) ∧ Below w.heap.size w w' := by
  have HC : Hid (Calls Tryz.prog 42 #[.float .f64 f, .int .u8 120, .int .i64 (-1), .int .i64 64] w fun e w' => e = .returned (.string ⟨(Sp.floatT f).toArray⟩) ∧ Below w.heap.size w w') := iFormatFloat_any f w hf h1
  clear h1 hf
  go_enter Tryz.func27, Tryz.ntmps27
  go_wp2_with fail
  refine HC.out.mono ?_
  rintro e w1 ⟨rfl, hb1⟩
  have HB1 : Hid (Below w.heap.size w w1) := hb1
  clear hb1
  go_wp2_with fail
  go_ret
  exact ⟨rfl, HB1.out⟩
end Go.Proofs.YtnndlffidifddaaGreatDoor

/- math.IsNaN. -/
namespace Go.Proofs.YtnndlffidifddaaGreatDoor
open Go.RowKit

theorem nan_iff (f : Nat) : (FloatKind.f64.format.read f).isNaN = decide (Sp.fexp f = 2047 ∧ Sp.fman f ≠ 0) := by
  have e : FloatKind.f64.format = Ieee.double := rfl
  have e1 : Ieee.double.signWeight = 9223372036854775808 := by decide
  have e2 : Ieee.double.binade = 4503599627370496 := by decide
  have e3 : Ieee.double.infRung = 9218868437227405312 := by decide
  rw [e]
  unfold Ieee.Format.read Sp.fexp Sp.fman
  simp only [e1, e2, e3]
  by_cases c1 : f % 9223372036854775808 < 4503599627370496
  · rw [if_pos c1]
    simp [Ieee.Datum.isNaN]; omega
  · rw [if_neg c1]
    by_cases c2 : f % 9223372036854775808 < 9218868437227405312
    · rw [if_pos c2]
      simp [Ieee.Datum.isNaN]; omega
    · rw [if_neg c2]
      by_cases c3 : f % 9223372036854775808 = 9218868437227405312
      · rw [if_pos c3]
        simp [Ieee.Datum.isNaN]; omega
      · rw [if_neg c3]
        simp [Ieee.Datum.isNaN]; omega
theorem order_self (d : Ieee.Datum) : (d.order d != some Ordering.eq) = d.isNaN := by
  cases d with
  | number s m i => simp [Ieee.Datum.order, Ieee.Datum.isNaN]
  | infinity s => cases s <;> rfl
  | nan s t => rfl

set_option maxRecDepth 100000 in
set_option maxHeartbeats 1000000 in
theorem IsNaN_any (f : Nat) (w : World) :
    Calls Tryz.prog 23 #[.float .f64 f] w fun e w' => e = .returned (.bool (decide (Sp.fexp f = 2047 ∧ Sp.fman f ≠ 0))) ∧ w = w' := by
  have ho : (FloatKind.f64.format.order f f != some Ordering.eq) = decide (Sp.fexp f = 2047 ∧ Sp.fman f ≠ 0) := by
    rw [← nan_iff]; exact order_self _
  generalize decide (Sp.fexp f = 2047 ∧ Sp.fman f ≠ 0) = b at ho ⊢
  go_enter Tryz.func23, Tryz.ntmps23
  go_wp2_with fail
  go_ret
  exact ⟨rfl, rfl⟩
end Go.Proofs.YtnndlffidifddaaGreatDoor

/- math.IsInf. -/
namespace Go.Proofs.YtnndlffidifddaaGreatDoor
open Go.RowKit

theorem cmp_gt (a b : Int) (h : a ≤ b) : (some (compare a b) == some Ordering.gt) = false := by
  have : compare a b ≠ Ordering.gt := by
    show compareOfLessAndEq a b ≠ Ordering.gt
    unfold compareOfLessAndEq
    by_cases c1 : a < b
    · rw [if_pos c1]; decide
    · rw [if_neg c1, if_pos (by omega)]; decide
  simpa using this
theorem num_le (s : Bool) (m M : Nat) (i I : Int) (h : m ≤ M) (hi : i ≤ I) : Ieee.signed s m (i - min i I).toNat ≤ Ieee.signed false M (I - min i I).toNat := by
  have e : min i I = i := by omega
  rw [e, show (i - i).toNat = 0 by omega]
  unfold Ieee.signed
  have hM : M ≤ M <<< (I - i).toNat := by rw [Nat.shiftLeft_eq]; exact Nat.le_mul_of_pos_right _ (Nat.two_pow_pos _)
  have h0 : m <<< 0 = m := rfl
  cases s
  · simp only [h0, if_neg Bool.false_ne_true]; omega
  · simp only [h0, if_true, if_neg Bool.false_ne_true]; omega
theorem gt_max (f : Nat) (hf : f < 18446744073709551616) : (FloatKind.f64.format.order f 9218868437227405311 == some Ordering.gt) = decide (f = 9218868437227405312) := by
  have e : FloatKind.f64.format = Ieee.double := rfl
  have e1 : Ieee.double.signWeight = 9223372036854775808 := by decide
  have e2 : Ieee.double.binade = 4503599627370496 := by decide
  have e3 : Ieee.double.infRung = 9218868437227405312 := by decide
  have hM : Ieee.double.read 9218868437227405311 = .number false 9007199254740991 (Ieee.double.leastPlace + 2045) := by decide
  rw [e]
  unfold Ieee.Format.order
  rw [hM]
  clear hM
  obtain ⟨I, hI⟩ : ∃ I : Int, Ieee.double.leastPlace + 2045 = I := ⟨_, rfl⟩
  rw [hI]
  unfold Ieee.Format.read
  simp only [e1, e2, e3]
  by_cases c1 : f % 9223372036854775808 < 4503599627370496
  · rw [if_pos c1, Ieee.Datum.order, cmp_gt _ _ (num_le _ _ _ _ _ (by omega) (by omega))]
    symm; simp; omega
  · rw [if_neg c1]
    by_cases c2 : f % 9223372036854775808 < 9218868437227405312
    · rw [if_pos c2, Ieee.Datum.order, cmp_gt _ _ (num_le _ _ _ _ _ (by omega) (by omega))]
      symm; simp; omega
    · rw [if_neg c2]
      by_cases c3 : f % 9223372036854775808 = 9218868437227405312
      · rw [if_pos c3]
        by_cases c4 : f = 9218868437227405312
        · subst c4; rfl
        · have hs : (f / 9223372036854775808 % 2 == 1) = true := by simp; omega
          rw [hs]
          simp [Ieee.Datum.order, c4]
      · rw [if_neg c3]
        have c4 : f ≠ 9218868437227405312 := by omega
        simp [Ieee.Datum.order, c4]

set_option maxRecDepth 100000 in
set_option maxHeartbeats 1000000 in
theorem IsInf_p (f : Nat) (w : World) (hf : f < 18446744073709551616) :
    Calls Tryz.prog 26 #[.float .f64 f, .int .i64 1] w fun e w' => e = .returned (.bool (decide (f = 9218868437227405312))) ∧ w = w' := by
  have ho := gt_max f hf
  generalize decide (f = 9218868437227405312) = b at ho ⊢
  go_enter Tryz.func26, Tryz.ntmps26
  go_wp2_with fail
  go_ret
  exact ⟨rfl, rfl⟩
set_option maxRecDepth 100000 in
set_option maxHeartbeats 1000000 in
theorem IsInf_m (f : Nat) (w : World) (hf : f < 18446744073709551616) :
    Calls Tryz.prog 26 #[.float .f64 f, .int .i64 (-1)] w fun e w' => e = .returned (.bool (decide (f = 18442240474082181120))) ∧ w = w' := by
  obtain ⟨g, hg⟩ : ∃ g, f ^^^ 9223372036854775808 = g := ⟨_, rfl⟩
  have hneg : ∀ W, (Op.unary .neg (.float .f64 f)).run Tryz.prog W = .ok (.float .f64 g) W := fun W => by rw [← hg]; rfl
  have hgl : g < 18446744073709551616 := by rw [← hg]; exact Nat.xor_lt_two_pow (n := 64) hf (by decide)
  have ho := gt_max g hgl
  have hd : decide (g = 9218868437227405312) = decide (f = 18442240474082181120) := by
    have hff : f = g ^^^ 9223372036854775808 := by rw [← hg, Nat.xor_assoc, Nat.xor_self, Nat.xor_zero]
    by_cases c : g = 9218868437227405312
    · have : f = 18442240474082181120 := by rw [hff, c]; rfl
      simp [c, this]
    · have : f ≠ 18442240474082181120 := by intro e; apply c; rw [← hg, e]; rfl
      simp [c, this]
  rw [hd] at ho
  clear hg hgl hd
  generalize decide (f = 18442240474082181120) = b at ho ⊢
  go_enter Tryz.func26, Tryz.ntmps26
  go_wp2_with fail
  go_ret
  exact ⟨rfl, rfl⟩
end Go.Proofs.YtnndlffidifddaaGreatDoor

/- text.Float, of floats that are no NaN. -/
namespace Go.Proofs.YtnndlffidifddaaGreatDoor
open Go.RowKit

theorem inf_p (f : Nat) (hf : f < 18446744073709551616) (h1 : Sp.fexp f = 2047) (h2 : Sp.fman f = 0) : decide (f = 9218868437227405312) = !Sp.fneg f := by
  unfold Sp.fexp at h1
  unfold Sp.fman at h2
  unfold Sp.fneg
  by_cases c : f / 2 ^ 63 = 1
  · have hn : ¬ f = 9218868437227405312 := by omega
    rw [decide_eq_false hn, decide_eq_true c]; rfl
  · have hn : f = 9218868437227405312 := by omega
    rw [decide_eq_true hn, decide_eq_false c]; rfl
theorem inf_m (f : Nat) (_hf : f < 18446744073709551616) (h1 : Sp.fexp f = 2047) (h2 : Sp.fman f = 0) : decide (f = 18442240474082181120) = Sp.fneg f := by
  unfold Sp.fexp at h1
  unfold Sp.fman at h2
  unfold Sp.fneg
  by_cases c : f / 2 ^ 63 = 1
  · have hn : f = 18442240474082181120 := by omega
    rw [decide_eq_true hn, decide_eq_true c]
  · have hn : ¬ f = 18442240474082181120 := by omega
    rw [decide_eq_false hn, decide_eq_false c]
theorem fin_p (f : Nat) (h1 : Sp.fexp f ≠ 2047) : decide (f = 9218868437227405312) = false := decide_eq_false (by unfold Sp.fexp at h1; omega)
theorem fin_m (f : Nat) (h1 : Sp.fexp f ≠ 2047) : decide (f = 18442240474082181120) = false := decide_eq_false (by unfold Sp.fexp at h1; omega)

set_option maxRecDepth 100000 in
set_option maxHeartbeats 1000000 in
theorem Float_inf (f : Nat) (w : World) (hf : f < 18446744073709551616) (h1 : Sp.fexp f = 2047) (h2 : Sp.fman f = 0) :
    Calls Tryz.prog 12 #[.float .f64 f] w (FltE f w) := by
  have HX : Hid (Sp.floatT f = if Sp.fneg f then [45, 105, 110, 102] else [43, 105, 110, 102]) := by show _ = _; unfold Sp.floatT; rw [if_pos h1, if_pos h2]
  have HA : Hid (Calls Tryz.prog 23 #[.float .f64 f] w fun e w' => e = .returned (.bool false) ∧ w = w') := by
    have := IsNaN_any f w
    rw [show decide (Sp.fexp f = 2047 ∧ Sp.fman f ≠ 0) = false by simp [h2]] at this
    exact this
  have HB : Hid (Calls Tryz.prog 26 #[.float .f64 f, .int .i64 1] w fun e w' => e = .returned (.bool (!Sp.fneg f)) ∧ w = w') := by
    have := IsInf_p f w hf
    rw [inf_p f hf h1 h2] at this
    exact this
  have HC : Hid (Calls Tryz.prog 26 #[.float .f64 f, .int .i64 (-1)] w fun e w' => e = .returned (.bool (Sp.fneg f)) ∧ w = w') := by
    have := IsInf_m f w hf
    rw [inf_m f hf h1 h2] at this
    exact this
  clear h1 h2 hf
  generalize Sp.fneg f = neg at *
  cases neg with
  | true =>
    go_enter Tryz.func12, Tryz.ntmps12
    go_wp2_with fail
    refine HA.out.mono ?_
    rintro e w' ⟨rfl, rfl⟩
    go_wp2_with fail
    refine HB.out.mono ?_
    rintro e w' ⟨rfl, rfl⟩
    go_wp2_with fail
    refine HC.out.mono ?_
    rintro e w' ⟨rfl, rfl⟩
    go_wp2_with fail
    go_ret
    exact ⟨ret_str (by rw [HX.out]; rfl), Below.refl _ _⟩
  | false =>
    go_enter Tryz.func12, Tryz.ntmps12
    go_wp2_with fail
    refine HA.out.mono ?_
    rintro e w' ⟨rfl, rfl⟩
    go_wp2_with fail
    refine HB.out.mono ?_
    rintro e w' ⟨rfl, rfl⟩
    go_wp2_with fail
    go_ret
    exact ⟨ret_str (by rw [HX.out]; rfl), Below.refl _ _⟩

set_option maxRecDepth 100000 in
set_option maxHeartbeats 1000000 in
theorem Float_fin (f : Nat) (w : World) (hf : f < 18446744073709551616) (h1 : Sp.fexp f ≠ 2047) :
    Calls Tryz.prog 12 #[.float .f64 f] w (FltE f w) := by
  have HA : Hid (Calls Tryz.prog 23 #[.float .f64 f] w fun e w' => e = .returned (.bool false) ∧ w = w') := by
    have := IsNaN_any f w
    rw [show decide (Sp.fexp f = 2047 ∧ Sp.fman f ≠ 0) = false by simp [h1]] at this
    exact this
  have HB : Hid (Calls Tryz.prog 26 #[.float .f64 f, .int .i64 1] w fun e w' => e = .returned (.bool false) ∧ w = w') := by
    have := IsInf_p f w hf
    rw [fin_p f h1] at this
    exact this
  have HC : Hid (Calls Tryz.prog 26 #[.float .f64 f, .int .i64 (-1)] w fun e w' => e = .returned (.bool false) ∧ w = w') := by
    have := IsInf_m f w hf
    rw [fin_m f h1] at this
    exact this
  have HF : Hid (Calls Tryz.prog 27 #[.float .f64 f, .int .u8 120, .int .i64 (-1), .int .i64 64] w fun e w' => e = .returned (.string ⟨(Sp.floatT f).toArray⟩) ∧ Below w.heap.size w w') := FormatFloat_any f w hf h1
  clear h1 hf
  go_enter Tryz.func12, Tryz.ntmps12
  go_wp2_with fail
  refine HA.out.mono ?_
  rintro e w' ⟨rfl, rfl⟩
  go_wp2_with fail
  refine HB.out.mono ?_
  rintro e w' ⟨rfl, rfl⟩
  go_wp2_with fail
  refine HC.out.mono ?_
  rintro e w' ⟨rfl, rfl⟩
  go_wp2_with fail
  refine HF.out.mono ?_
  rintro e w1 ⟨rfl, hb1⟩
  have HB1 : Hid (Below w.heap.size w w1) := hb1
  clear hb1
  go_wp2_with fail
  go_ret
  exact ⟨rfl, HB1.out⟩
end Go.Proofs.YtnndlffidifddaaGreatDoor

/- strconv.FormatUint at the base 16, and text.Float of every float. -/
namespace Go.Proofs.YtnndlffidifddaaGreatDoor
open Go.RowKit

/-- the place of the table that the base's bits are looked up in holds what it must -/
def Tz (w : World) : Prop := w.cell? ⟨4, 15, none⟩ = some (.int .u8 4)
theorem Tz.on {w w' : World} (h : Tz w) (hw : Below w.heap.size w w') : Tz w' := by
  unfold Tz at h ⊢
  rw [hw.cell (p := ⟨4, 15, none⟩) (World.block_lt_of_cell? _ _ h)]; exact h

set_option maxRecDepth 100000 in
set_option maxHeartbeats 1000000 in
theorem FormatUintI_16 (u : Nat) (w : World) (hu : u < 18446744073709551616) (hu1 : 1152921504606846976 ≤ u) (ht : Tz w) :
    Calls Tryz.prog 40 #[.int .u64 (u : Int), .int .i64 16] w fun e w' => e = .returned (.string ⟨(Sp.hexN u 16).toArray⟩) ∧ Below w.heap.size w w' := by
  have HC : Hid (Calls Tryz.prog 62 #[.slice none 0 0, .int .u64 (u : Int), .int .i64 16, .bool false, .bool false] w fun e w' => e = .returned (.tuple #[.slice none 0 0, .string ⟨(Sp.hexN u 16).toArray⟩]) ∧ Below w.heap.size w w') := formatBits_16 u w hu hu1 ht
  clear hu hu1 ht
  go_enter Tryz.func40, Tryz.ntmps40
  go_wp2_with fail
  refine HC.out.mono ?_
  rintro e w1 ⟨rfl, hb1⟩
  have HB1 : Hid (Below w.heap.size w w1) := hb1
  clear hb1
  go_wp2_with fail
  go_ret
  exact ⟨rfl, HB1.out⟩
set_option maxRecDepth 100000 in
set_option maxHeartbeats 1000000 in
theorem FormatUint_16 (u : Nat) (w : World) (hu : u < 18446744073709551616) (hu1 : 1152921504606846976 ≤ u) (ht : Tz w) :
    Calls Tryz.prog 24 #[.int .u64 (u : Int), .int .i64 16] w fun e w' => e = .returned (.string ⟨(Sp.hexN u 16).toArray⟩) ∧ Below w.heap.size w w' := by
  have HC : Hid (Calls Tryz.prog 40 #[.int .u64 (u : Int), .int .i64 16] w fun e w' => e = .returned (.string ⟨(Sp.hexN u 16).toArray⟩) ∧ Below w.heap.size w w') := FormatUintI_16 u w hu hu1 ht
  clear hu hu1 ht
  go_enter Tryz.func24, Tryz.ntmps24
  go_wp2_with fail
  refine HC.out.mono ?_
  rintro e w1 ⟨rfl, hb1⟩
  have HB1 : Hid (Below w.heap.size w w1) := hb1
  clear hb1
  go_wp2_with fail
  go_ret
  exact ⟨rfl, HB1.out⟩

theorem nan_big (f : Nat) (h1 : Sp.fexp f = 2047) : 1152921504606846976 ≤ f := by unfold Sp.fexp at h1; omega
set_option maxRecDepth 100000 in
set_option maxHeartbeats 1000000 in
theorem Float_nan (f : Nat) (w : World) (hf : f < 18446744073709551616) (h1 : Sp.fexp f = 2047) (h2 : Sp.fman f ≠ 0) (ht : Tz w) :
    Calls Tryz.prog 12 #[.float .f64 f] w (FltE f w) := by
  have HX : Hid (Sp.floatT f = [110, 97, 110, 40] ++ Sp.hexN f 16 ++ [41]) := by show _ = _; unfold Sp.floatT; rw [if_pos h1, if_neg h2]
  have HA : Hid (Calls Tryz.prog 23 #[.float .f64 f] w fun e w' => e = .returned (.bool true) ∧ w = w') := by
    have := IsNaN_any f w
    rw [show decide (Sp.fexp f = 2047 ∧ Sp.fman f ≠ 0) = true by simp [h1, h2]] at this
    exact this
  obtain ⟨I, hI, HI⟩ : ∃ I : ByteArray, I.size = 16 ∧ Hid (I = ⟨(Sp.hexN f 16).toArray⟩) := ⟨_, by show (Sp.hexN f 16).toArray.size = 16; rw [List.size_toArray, Sp.hexN_len], rfl⟩
  have HC : Hid (Calls Tryz.prog 24 #[.int .u64 (f : Int), .int .i64 16] w fun e w' => e = .returned (.string I) ∧ Below w.heap.size w w') := by
    show Calls _ _ _ _ _
    rw [HI.out]; exact FormatUint_16 f w hf (nan_big f h1) ht
  have hbr := bits_run f w
  clear h1 h2 hf ht
  go_enter Tryz.func12, Tryz.ntmps12
  go_wp2_with fail
  refine HA.out.mono ?_
  rintro e w' ⟨rfl, rfl⟩
  go_wp2_with fail
  refine HC.out.mono ?_
  rintro e w1 ⟨rfl, hb1⟩
  have HB1 : Hid (Below w.heap.size w w1) := hb1
  clear hb1
  go_wp2_with fail
  go_ret
  refine ⟨ret_str ?_, HB1.out⟩
  rw [HX.out, HI.out, show (⟨#[110, 97, 110, 40]⟩ : ByteArray) = ⟨([110, 97, 110, 40] : List UInt8).toArray⟩ from rfl, show (⟨#[41]⟩ : ByteArray) = ⟨([41] : List UInt8).toArray⟩ from rfl, ba_app, ba_app]
theorem Float_any (f : Nat) (w : World) (hf : f < 18446744073709551616) (ht : Tz w) : Calls Tryz.prog 12 #[.float .f64 f] w (FltE f w) := by
  by_cases h1 : Sp.fexp f = 2047
  · by_cases h2 : Sp.fman f = 0
    · exact Float_inf f w hf h1 h2
    · exact Float_nan f w hf h1 h2 ht
  · exact Float_fin f w hf h1
end Go.Proofs.YtnndlffidifddaaGreatDoor


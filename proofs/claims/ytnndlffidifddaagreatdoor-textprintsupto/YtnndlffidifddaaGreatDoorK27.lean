/- strconv.AppendBool, AppendInt, AppendUint onto a row of one's own. -/
import Derived.Test.YtnndlffidifddaaGreatDoorK10
import Derived.Test.YtnndlffidifddaaGreatDoorK26
namespace Go.Proofs.YtnndlffidifddaaGreatDoor
open Go.RowKit

/-- the table of powers of ten, kept by whatever leaves the blocks below base -/
def Tab (base : Nat) (w : World) : Prop := Lib.TabBelow Tryz.prog base w "internal/strconv.uint64pow10" .u64 Lib.pow10Tab
theorem Tab.on {base : Nat} {w w' : World} (h : Tab base w) (hw : Below base w w') : Tab base w' := Lib.TabBelow.on h hw

theorem appK_of {base : Nat} {xs ys : List UInt8} {w w' : World} {v' : Value} {m : Nat} {zs : List Value} (hm : m = xs.length) (hz : zs = Sp.u8c ys) (ho : w'.ownsRow base 5 1 v' (m + ys.length) (Sp.u8c xs ++ zs)) (hk : Kp base w w') : AppK base xs ys w (.returned v') w' := by
  subst hm hz
  obtain ⟨a, c, rfl⟩ := own_slice_n ho
  exact ⟨a, c, rfl, ⟨by rw [List.length_append], by rw [u8c_app]; exact ho⟩, hk⟩

theorem AppendInt_any (i : Int) (h0 : -9223372036854775808 ≤ i) (h1 : i ≤ 9223372036854775807) (xs : List UInt8) (a : Option Addr) (m cap base : Nat) (w : World) (h : Byts w base a m cap xs) (hb : base ≤ w.heap.size) (hl : m ≤ 70368744177664) (ht : Tab base w) :
    Calls Tryz.prog 46 #[.slice a m cap, .int .i64 i, .int .i64 10] w (AppK base xs (Lib.itoa i) w) := by
  refine (Tryz.strconv_AppendInt_10 base m i h0 h1 _ (Sp.u8c xs) w h.2 hb (by omega) ht).mono ?_
  rintro e w' ⟨v', rfl, ho, hbw, hok⟩
  exact appK_of h.1 rfl ho ⟨hbw, hok⟩

theorem AppendUintI_any (u : Nat) (hu : u < 18446744073709551616) (xs : List UInt8) (a : Option Addr) (m cap base : Nat) (w : World) (h : Byts w base a m cap xs) (hb : base ≤ w.heap.size) (hl : m ≤ 70368744177664) (ht : Tab base w) :
    Calls Tryz.prog 74 #[.slice a m cap, .int .u64 (u : Int), .int .i64 10] w (AppK base xs (Lib.decDigits u) w) := by
  refine (Tryz.internal_strconv_AppendUint_10 base m u hu _ (Sp.u8c xs) w h.2 hb (by omega) ht.here).mono ?_
  rintro e w' ⟨v', rfl, ho, hbw, hok⟩
  exact appK_of h.1 rfl ho ⟨hbw, hok⟩
/-- what AppK says, its length hidden -/
def AppH (base : Nat) (xs ys : List UInt8) (w : World) (e : Ending) (w' : World) : Prop := ∃ a' m' cap', e = .returned (.slice a' m' cap') ∧ Hid (Byts w' base a' m' cap' (xs ++ ys) ∧ Kp base w w')
theorem AppK.hid {base : Nat} {xs ys : List UInt8} {w : World} {e : Ending} {w' : World} (h : AppK base xs ys w e w') : AppH base xs ys w e w' := by
  obtain ⟨a', c', rfl, h1, h2⟩ := h
  exact ⟨a', _, c', rfl, h1, h2⟩

set_option maxRecDepth 100000 in
set_option maxHeartbeats 1000000 in
theorem AppendUint_any (u : Nat) (hu : u < 18446744073709551616) (xs : List UInt8) (a : Option Addr) (m cap base : Nat) (w : World) (h : Byts w base a m cap xs) (hb : base ≤ w.heap.size) (hl : m ≤ 70368744177664) (ht : Tab base w) :
    Calls Tryz.prog 48 #[.slice a m cap, .int .u64 (u : Int), .int .i64 10] w (AppH base xs (Lib.decDigits u) w) := by
  have HC : Hid (Calls Tryz.prog 74 #[.slice a m cap, .int .u64 (u : Int), .int .i64 10] w (AppH base xs (Lib.decDigits u) w)) := (AppendUintI_any u hu xs a m cap base w h hb hl ht).mono fun _ _ => AppK.hid
  clear h hb hl ht hu
  go_enter Tryz.func48, Tryz.ntmps48
  go_wp2_with fail
  refine HC.out.mono ?_
  rintro e w1 ⟨a1, m1, p1, rfl, H1⟩
  go_wp2_with fail
  go_ret
  exact ⟨a1, m1, p1, rfl, H1⟩

def Sp.boolT (b : Bool) : List UInt8 := if b then [116, 114, 117, 101] else [102, 97, 108, 115, 101]
set_option maxRecDepth 100000 in
set_option maxHeartbeats 1000000 in
theorem AppendBoolI_any (b : Bool) (xs : List UInt8) (a : Option Addr) (m cap base : Nat) (w : World) (h : Byts w base a m cap xs) (hb : base ≤ w.heap.size) (hl : m ≤ 70368744177664) :
    Calls Tryz.prog 72 #[.slice a m cap, .bool b] w (AppH base xs (Sp.boolT b) w) := by
  obtain ⟨i0, hi, hz0, hz1, hz2⟩ := info_parts Tryz.infoB
  have HO : Hid (Byts w base a m cap xs) := h
  clear h
  cases b with
  | true =>
    go_enter Tryz.func72, Tryz.ntmps72
    go_wp2_with (at_builtin; refine Lib.wpList_append_own_string _ rfl _ _ 23 9 rfl base 5 i0 Tryz.undB Tryz.undSd hi hz0 hz1 hz2 (.slice a m cap) m (Sp.u8c xs) rfl HO.out.2 ⟨#[116, 114, 117, 101]⟩ rfl (by unfold maxLen; show m + 4 ≤ _; omega) (by show m + 4 ≤ _; omega) hb ?_; intro v3 w3 hown hgrow hor; obtain ⟨a3, cap', rfl⟩ := own_slice_n hown; have HN3 : Hid (Byts w3 base a3 (m + (⟨#[116, 114, 117, 101]⟩ : ByteArray).size) cap' (xs ++ Sp.boolT true) ∧ Kp base w w3) := ⟨HO.out.str hown, (Kp.refl base w).grown hgrow hb HO.out.2⟩; clear hown hgrow hor)
    go_ret
    exact ⟨a3, _, cap', rfl, HN3⟩
  | false =>
    go_enter Tryz.func72, Tryz.ntmps72
    go_wp2_with (at_builtin; refine Lib.wpList_append_own_string _ rfl _ _ 23 9 rfl base 5 i0 Tryz.undB Tryz.undSd hi hz0 hz1 hz2 (.slice a m cap) m (Sp.u8c xs) rfl HO.out.2 ⟨#[102, 97, 108, 115, 101]⟩ rfl (by unfold maxLen; show m + 5 ≤ _; omega) (by show m + 5 ≤ _; omega) hb ?_; intro v3 w3 hown hgrow hor; obtain ⟨a3, cap', rfl⟩ := own_slice_n hown; have HN3 : Hid (Byts w3 base a3 (m + (⟨#[102, 97, 108, 115, 101]⟩ : ByteArray).size) cap' (xs ++ Sp.boolT false) ∧ Kp base w w3) := ⟨HO.out.str hown, (Kp.refl base w).grown hgrow hb HO.out.2⟩; clear hown hgrow hor)
    go_ret
    exact ⟨a3, _, cap', rfl, HN3⟩
set_option maxRecDepth 100000 in
set_option maxHeartbeats 1000000 in
theorem AppendBool_any (b : Bool) (xs : List UInt8) (a : Option Addr) (m cap base : Nat) (w : World) (h : Byts w base a m cap xs) (hb : base ≤ w.heap.size) (hl : m ≤ 70368744177664) :
    Calls Tryz.prog 45 #[.slice a m cap, .bool b] w (AppH base xs (Sp.boolT b) w) := by
  have HC : Hid (Calls Tryz.prog 72 #[.slice a m cap, .bool b] w (AppH base xs (Sp.boolT b) w)) := AppendBoolI_any b xs a m cap base w h hb hl
  clear h hb hl
  go_enter Tryz.func45, Tryz.ntmps45
  go_wp2_with fail
  refine HC.out.mono ?_
  rintro e w1 ⟨a1, m1, p1, rfl, H1⟩
  go_wp2_with fail
  go_ret
  exact ⟨a1, m1, p1, rfl, H1⟩
end Go.Proofs.YtnndlffidifddaaGreatDoor


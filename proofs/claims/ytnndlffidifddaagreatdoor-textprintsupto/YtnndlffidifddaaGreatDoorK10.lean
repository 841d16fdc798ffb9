/- text.appendByte, appendEscaped, appendQuoted and Quote. -/
import Derived.Test.YtnndlffidifddaaGreatDoorK9
import Derived.Deep.RegionLaw
import Derived.Deep.AppendLies
import Derived.Lib.OthersKept
namespace Go.Proofs.YtnndlffidifddaaGreatDoor
open Go.RowKit

/-- bytes put behind a row of one's own -/
def AppE (base : Nat) (xs ys : List UInt8) (w : World) (e : Ending) (w' : World) : Prop := ∃ a' cap', e = .returned (.slice a' (xs.length + ys.length) cap') ∧ Byts w' base a' (xs.length + ys.length) cap' (xs ++ ys) ∧ Below base w w'

/-- what lies below base, and what is no row of bytes, stays -/
structure Kp (base : Nat) (w w' : World) : Prop where
  below : Below base w w'
  kept : Lib.OthersKept 5 none w w'
theorem Kp.refl (base : Nat) (w : World) : Kp base w w := ⟨Below.refl _ _, Lib.OthersKept.refl _ _ _⟩
theorem Kp.size {base : Nat} {w w' : World} (h : Kp base w w') : w.heap.size ≤ w'.heap.size := h.below.size
theorem Kp.alloc {base : Nat} {w w' : World} (h : Kp base w w') (hb : base ≤ w'.heap.size) (o : Obj) : Kp base w (w'.alloc o) := ⟨h.below.alloc hb o, h.kept.alloc o⟩
theorem Kp.drew {base : Nat} {w w' : World} (h : Kp base w w') : Kp base w w'.drew := ⟨h.below.drew, h.kept.drew⟩
theorem Kp.trans {base : Nat} {a b c : World} (h : Kp base a b) (k : Kp base b c) : Kp base a c := ⟨h.below.trans k.below, h.kept.trans k.kept⟩
theorem own_at {w : World} {B : Nat} {e : TypeId} {size n : Nat} {v : Value} {xs : List Value} {k : Nat} (h : w.ownsRow B e size v n xs) (hk : v.ownBlock = some k) : ∃ c fz, w.heap[k]? = some (.cells c e fz) := by
  rcases h.2 with ⟨e, _⟩ | ⟨g, c, cur, e, hg, hh, _⟩
  · rw [e] at hk; simp [Value.ownBlock] at hk
  · rw [e] at hk; simp [Value.ownBlock] at hk; subst hk; exact ⟨_, _, hh⟩
theorem Kp.grown {base : Nat} {a w w' : World} {n : Nat} {v : Value} {xs : List Value} (h : Kp base a w) (hg : w.grownBy w' v.ownBlock) (hz : base ≤ w.heap.size) (ho : w.ownsRow base 5 1 v n xs) : Kp base a w' :=
  ⟨h.below.grown hg hz (fun _ hq => own_ge ho hq), h.kept.grown hg (fun _ hk => own_at ho hk)⟩
/-- bytes put behind a row of one's own, and whatever is no row of bytes stays -/
def AppK (base : Nat) (xs ys : List UInt8) (w : World) (e : Ending) (w' : World) : Prop := ∃ a' cap', e = .returned (.slice a' (xs.length + ys.length) cap') ∧ Byts w' base a' (xs.length + ys.length) cap' (xs ++ ys) ∧ Kp base w w'

def hex16 : ByteArray := ⟨#[48, 49, 50, 51, 52, 53, 54, 55, 56, 57, 97, 98, 99, 100, 101, 102]⟩
theorem hex_fin : ∀ i : Fin 16, hex16.data.toList.getD i.val 0 = Sp.hexd i.val := by decide +kernel
theorem and15 : ∀ c : Fin 256, bits .and .u8 (c.val : Int) 15 = ((c.val % 16 : Nat) : Int) := by decide +kernel
set_option maxRecDepth 100000 in
/-- a digit, read out of the sixteen -/
theorem idx_hex (k : IntKind) (z : Int) (i : Nat) (hz : z = (i : Int)) (hi : i < 16) (W : World) : (Instr.index 9 (.string ⟨#[48, 49, 50, 51, 52, 53, 54, 55, 56, 57, 97, 98, 99, 100, 101, 102]⟩) (.int k z)).run Tryz.prog W = .ok (.int .u8 ((Sp.hexd i).toNat : Int)) W := by
  subst hz
  have hs : hex16.size = 16 := rfl
  have := run_index_string (P := Tryz.prog) W 9 hex16 k (i : Int) Tryz.undSd
  rw [dif_pos ⟨by omega, by rw [hs]; omega⟩] at this
  refine this.trans ?_
  congr 3
  have e : ((i : Int)).toNat = i := by omega
  simp only [e]
  rw [← hex_fin ⟨i, hi⟩]
  have hi' : i < hex16.data.toList.length := hi
  simp only [List.getD, List.getElem?_eq_getElem hi', Option.getD_some]
  rfl

set_option maxRecDepth 100000 in
set_option maxHeartbeats 2000000 in
theorem appendByte_any (c : Nat) (hc : c < 256) (xs : List UInt8) (a : Option Addr) (cap base : Nat) (w : World) (h : Byts w base a xs.length cap xs) (hb : base ≤ w.heap.size) (hl : xs.length ≤ 70368744177664) :
    Calls Tryz.prog 58 #[.slice a xs.length cap, .int .u8 (c : Int)] w (AppK base xs [Sp.hexd (c / 16), Sp.hexd (c % 16)] w) := by
  obtain ⟨i0, hi, hz0, hz1, hz2⟩ := info_parts Tryz.infoB
  have hx1 := idx_hex .u8 ((c : Int) / 16) (c / 16) (by omega) (by omega)
  have hx2 := idx_hex .u8 (bits .and .u8 (c : Int) 15) (c % 16) (and15 ⟨c, hc⟩) (by omega)
  generalize Sp.hexd (c / 16) = u at hx1 ⊢
  generalize Sp.hexd (c % 16) = v at hx2 ⊢
  have HO : Hid (w.ownsRow base 5 1 (.slice a xs.length cap) xs.length (Sp.u8c xs)) := h.2
  clear h
  go_enter Tryz.func58, Tryz.ntmps58
  go_wp2_with fail
  go_region_law ((refine step_append_lies _ (by rfl) _ _ 23 (by rfl) base 5 i0 _ 1 1 Tryz.undB hi hz0 hz1 hz2 rfl (by omega) _ xs.length (Sp.u8c xs) (by rfl) (HO.out.alloc _) ⟨w.heap.size, 0, none⟩ 2 2 (Sp.u8c [u, v]) (by rfl) (by rfl) (bytes_new w [u, v] rfl rfl) (u8c_one _) (by omega) (by unfold maxLen; omega) (by omega) (by simp; omega) (w.heap.size + 1) (by simp) ?_; intro g' cap' w3 hown' hgrow hor hlt3; have HB3 : Hid (Kp base w w3) := ((Kp.refl base w).alloc hb _).drew.grown hgrow (by simp; omega) (HO.out.alloc _); have HN3 : Hid (Byts w3 base (some ⟨g', 0, none⟩) (xs.length + 2) cap' (xs ++ [u, v])) := ⟨by simp, by rw [u8c_app]; exact hown'⟩; clear hown' hgrow hor))
  all_goals
    go_wp2_with fail
    go_ret
    exact ⟨_, cap', rfl, HN3.out, HB3.out⟩
end Go.Proofs.YtnndlffidifddaaGreatDoor

/- text.isPlain and appendEscaped. -/
namespace Go.Proofs.YtnndlffidifddaaGreatDoor
open Go.RowKit

def Sp.plain (c : Int) : Bool := decide (32 ≤ c ∧ c ≤ 126)
set_option maxHeartbeats 400000 in
theorem isPlain_any (c : Int) (w : World) (_h0 : 0 ≤ c) (_h1 : c ≤ 255) :
    Calls Tryz.prog 57 #[.int .u8 c] w fun e w' => e = .returned (.bool (Sp.plain c)) ∧ w = w' := by
  by_cases ha : 32 ≤ c
  · by_cases hb : c ≤ 126
    · go_enter Tryz.func57, Tryz.ntmps57
      go_wp2
      go_ret
      exact ⟨by simp [Sp.plain, ha, hb], rfl⟩
    · go_enter Tryz.func57, Tryz.ntmps57
      go_wp2
      go_ret
      exact ⟨by simp [Sp.plain]; omega, rfl⟩
  · go_enter Tryz.func57, Tryz.ntmps57
    go_wp2
    go_ret
    exact ⟨by simp [Sp.plain]; omega, rfl⟩

theorem u8_ne {c d : UInt8} (h : c ≠ d) : (c.toNat : Int) ≠ (d.toNat : Int) := fun e => h (UInt8.toNat_inj.1 (by omega))

set_option maxRecDepth 100000 in
set_option maxHeartbeats 2000000 in
theorem appendEscaped_any (c : UInt8) (xs : List UInt8) (a : Option Addr) (cap base : Nat) (w : World) (h : Byts w base a xs.length cap xs) (hb : base ≤ w.heap.size) (hl : xs.length ≤ 35184372088832) :
    Calls Tryz.prog 39 #[.slice a xs.length cap, .int .u8 (c.toNat : Int)] w (AppK base xs (Sp.esc c) w) := by
  obtain ⟨i0, hi, hz0, hz1, hz2⟩ := info_parts Tryz.infoB
  have HO : Hid (w.ownsRow base 5 1 (.slice a xs.length cap) xs.length (Sp.u8c xs)) := h.2
  have hc := c.toNat_lt
  by_cases c1 : c = 34
  · subst c1
    rw [show Sp.esc 34 = [92, 34] from rfl, show ((34 : UInt8).toNat : Int) = 34 from rfl]
    go_enter Tryz.func39, Tryz.ntmps39
    go_wp2_with (at_builtin; refine wpList_app _ rfl _ _ 23 rfl base 5 i0 (.int .u8 0) 1 1 Tryz.undB hi hz0 hz1 hz2 rfl (by decide) _ xs.length (Sp.u8c xs) rfl (HO.out.alloc _) ⟨w.heap.size, 0, none⟩ 2 2 (Sp.u8c [92, 34]) rfl rfl (bytes_new w [92, 34] rfl rfl) (u8c_one _) (by decide) (by unfold maxLen; omega) (by omega) (by simp; omega) ?_; intro g' cap' w3 hown hgrow hor; have HB3 : Hid (Kp base w w3) := ((Kp.refl base w).alloc hb _).grown hgrow (by simp; omega) (HO.out.alloc _); have HN3 : Hid (Byts w3 base (some ⟨g', 0, none⟩) (xs.length + 2) cap' (xs ++ [92, 34])) := ⟨by simp, by rw [u8c_app]; exact hown⟩; clear hown hgrow hor)
    go_ret
    exact ⟨_, cap', rfl, HN3.out, HB3.out⟩
  · by_cases c2 : c = 92
    · subst c2
      rw [show Sp.esc 92 = [92, 92] from rfl, show ((92 : UInt8).toNat : Int) = 92 from rfl]
      go_enter Tryz.func39, Tryz.ntmps39
      go_wp2_with (at_builtin; refine wpList_app _ rfl _ _ 23 rfl base 5 i0 (.int .u8 0) 1 1 Tryz.undB hi hz0 hz1 hz2 rfl (by decide) _ xs.length (Sp.u8c xs) rfl (HO.out.alloc _) ⟨w.heap.size, 0, none⟩ 2 2 (Sp.u8c [92, 92]) rfl rfl (bytes_new w [92, 92] rfl rfl) (u8c_one _) (by decide) (by unfold maxLen; omega) (by omega) (by simp; omega) ?_; intro g' cap' w3 hown hgrow hor; have HB3 : Hid (Kp base w w3) := ((Kp.refl base w).alloc hb _).grown hgrow (by simp; omega) (HO.out.alloc _); have HN3 : Hid (Byts w3 base (some ⟨g', 0, none⟩) (xs.length + 2) cap' (xs ++ [92, 92])) := ⟨by simp, by rw [u8c_app]; exact hown⟩; clear hown hgrow hor)
      go_ret
      exact ⟨_, cap', rfl, HN3.out, HB3.out⟩
    · by_cases c3 : c = 10
      · subst c3
        rw [show Sp.esc 10 = [92, 110] from rfl, show ((10 : UInt8).toNat : Int) = 10 from rfl]
        go_enter Tryz.func39, Tryz.ntmps39
        go_wp2_with (at_builtin; refine Lib.wpList_append_own_string _ rfl _ _ 23 9 rfl base 5 i0 Tryz.undB Tryz.undSd hi hz0 hz1 hz2 _ _ _ rfl HO.out ⟨#[92, 110]⟩ rfl (by unfold maxLen; show xs.length + 2 ≤ _; omega) (by show xs.length + 2 ≤ _; omega) hb ?_; intro v3 w3 hown hgrow hor; obtain ⟨a3, cap', rfl⟩ := own_slice_n hown; have HB3 : Hid (Kp base w w3) := (Kp.refl base w).grown hgrow hb HO.out; have HN3 : Hid (Byts w3 base a3 (xs.length + 2) cap' (xs ++ [92, 110])) := ⟨by simp, by rw [u8c_app]; exact hown⟩; clear hown hgrow hor)
        go_ret
        exact ⟨_, cap', rfl, HN3.out, HB3.out⟩
      · by_cases c4 : c = 9
        · subst c4
          rw [show Sp.esc 9 = [92, 116] from rfl, show ((9 : UInt8).toNat : Int) = 9 from rfl]
          go_enter Tryz.func39, Tryz.ntmps39
          go_wp2_with (at_builtin; refine Lib.wpList_append_own_string _ rfl _ _ 23 9 rfl base 5 i0 Tryz.undB Tryz.undSd hi hz0 hz1 hz2 _ _ _ rfl HO.out ⟨#[92, 116]⟩ rfl (by unfold maxLen; show xs.length + 2 ≤ _; omega) (by show xs.length + 2 ≤ _; omega) hb ?_; intro v3 w3 hown hgrow hor; obtain ⟨a3, cap', rfl⟩ := own_slice_n hown; have HB3 : Hid (Kp base w w3) := (Kp.refl base w).grown hgrow hb HO.out; have HN3 : Hid (Byts w3 base a3 (xs.length + 2) cap' (xs ++ [92, 116])) := ⟨by simp, by rw [u8c_app]; exact hown⟩; clear hown hgrow hor)
          go_ret
          exact ⟨_, cap', rfl, HN3.out, HB3.out⟩
        · by_cases c5 : c = 13
          · subst c5
            rw [show Sp.esc 13 = [92, 114] from rfl, show ((13 : UInt8).toNat : Int) = 13 from rfl]
            go_enter Tryz.func39, Tryz.ntmps39
            go_wp2_with (at_builtin; refine Lib.wpList_append_own_string _ rfl _ _ 23 9 rfl base 5 i0 Tryz.undB Tryz.undSd hi hz0 hz1 hz2 _ _ _ rfl HO.out ⟨#[92, 114]⟩ rfl (by unfold maxLen; show xs.length + 2 ≤ _; omega) (by show xs.length + 2 ≤ _; omega) hb ?_; intro v3 w3 hown hgrow hor; obtain ⟨a3, cap', rfl⟩ := own_slice_n hown; have HB3 : Hid (Kp base w w3) := (Kp.refl base w).grown hgrow hb HO.out; have HN3 : Hid (Byts w3 base a3 (xs.length + 2) cap' (xs ++ [92, 114])) := ⟨by simp, by rw [u8c_app]; exact hown⟩; clear hown hgrow hor)
            go_ret
            exact ⟨_, cap', rfl, HN3.out, HB3.out⟩
          · have d1 : ((c.toNat : Int) == 34) = false := by simpa using u8_ne c1
            have d2 : ((c.toNat : Int) == 92) = false := by simpa using u8_ne c2
            have d3 : ((c.toNat : Int) == 10) = false := by simpa using u8_ne c3
            have d4 : ((c.toNat : Int) == 9) = false := by simpa using u8_ne c4
            have d5 : ((c.toNat : Int) == 13) = false := by simpa using u8_ne c5
            by_cases c6 : c.toNat < 32 ∨ 126 < c.toNat
            · have HE : Hid (Sp.esc c = [92, 120] ++ [Sp.hexd (c.toNat / 16), Sp.hexd (c.toNat % 16)]) := by
                show _ = _
                rw [Sp.esc, if_neg (by simp [c1, c2]), if_neg c3, if_neg c4, if_neg c5, if_pos c6]; rfl
              have hp : Sp.plain (c.toNat : Int) = false := by simp [Sp.plain]; omega
              have HAB : Hid (∀ (a1 : Option Addr) (p1 : Nat) (W : World), Byts W base a1 (xs.length + 2) p1 (xs ++ [92, 120]) → base ≤ W.heap.size → Calls Tryz.prog 58 #[.slice a1 (xs.length + 2) p1, .int .u8 (c.toNat : Int)] W (AppK base (xs ++ [92, 120]) [Sp.hexd (c.toNat / 16), Sp.hexd (c.toNat % 16)] W)) := fun a1 p1 W hW hBW => by
                have := appendByte_any c.toNat (by omega) (xs ++ [92, 120]) a1 p1 base W (by simpa using hW) hBW (by simp; omega)
                simpa using this
              clear c1 c2 c3 c4 c5 c6
              go_enter Tryz.func39, Tryz.ntmps39
              go_wp2_with (first | (go_at_call 57; refine (isPlain_any _ _ (by omega) (by omega)).mono ?_; rintro e w' ⟨rfl, rfl⟩) | (at_builtin; refine Lib.wpList_append_own_string _ rfl _ _ 23 9 rfl base 5 i0 Tryz.undB Tryz.undSd hi hz0 hz1 hz2 _ _ _ rfl HO.out ⟨#[92, 120]⟩ rfl (by unfold maxLen; show xs.length + 2 ≤ _; omega) (by show xs.length + 2 ≤ _; omega) hb ?_; intro v3 w3 hown hgrow hor; obtain ⟨a3, cap', rfl⟩ := own_slice_n hown; have HB3 : Hid (Kp base w w3) := (Kp.refl base w).grown hgrow hb HO.out; have HN3 : Hid (Byts w3 base a3 (xs.length + 2) cap' (xs ++ [92, 120])) := ⟨by simp, by rw [u8c_app]; exact hown⟩; clear hown hgrow hor))
              refine (HAB.out _ _ _ HN3.out (Nat.le_trans hb HB3.out.size)).mono ?_
              rintro e w4 ⟨a4, p4, rfl, hn4, hb4⟩
              have HN4 : Hid (Byts w4 base a4 (xs.length + 4) p4 (xs ++ [92, 120] ++ [Sp.hexd (c.toNat / 16), Sp.hexd (c.toNat % 16)])) := by
                show Byts _ _ _ _ _ _
                have e4 : (xs ++ [92, 120]).length + [Sp.hexd (c.toNat / 16), Sp.hexd (c.toNat % 16)].length = xs.length + 4 := by simp
                rw [e4] at hn4; exact hn4
              have HB4 : Hid (Kp base w w4) := HB3.out.trans hb4
              clear hn4 hb4
              go_wp2_with fail
              go_ret
              refine ⟨a4, p4, ?_, ?_, HB4.out⟩
              · rw [HE.out]; simp
              · rw [HE.out]
                have e4 : xs.length + ([92, 120] ++ [Sp.hexd (c.toNat / 16), Sp.hexd (c.toNat % 16)]).length = xs.length + 4 := by simp
                rw [e4, ← List.append_assoc]; exact HN4.out
            · have HE : Hid (Sp.esc c = [c]) := by
                show _ = _
                rw [Sp.esc, if_neg (by simp [c1, c2]), if_neg c3, if_neg c4, if_neg c5, if_neg c6]
              have hp : Sp.plain (c.toNat : Int) = true := by simp [Sp.plain]; omega
              clear c1 c2 c3 c4 c5 c6
              rw [HE.out]
              go_enter Tryz.func39, Tryz.ntmps39
              go_wp2_with (first | (go_at_call 57; refine (isPlain_any _ _ (by omega) (by omega)).mono ?_; rintro e w' ⟨rfl, rfl⟩) | (at_builtin; refine wpList_app _ rfl _ _ 23 rfl base 5 i0 (.int .u8 0) 1 1 Tryz.undB hi hz0 hz1 hz2 rfl (by decide) _ xs.length (Sp.u8c xs) rfl (HO.out.alloc _) ⟨w.heap.size, 0, none⟩ 1 1 (Sp.u8c [c]) rfl rfl (bytes_new w [c] rfl rfl) (u8c_one _) (by decide) (by unfold maxLen; omega) (by omega) (by simp; omega) ?_; intro g' cap' w3 hown hgrow hor; have HB3 : Hid (Kp base w w3) := ((Kp.refl base w).alloc hb _).grown hgrow (by simp; omega) (HO.out.alloc _); have HN3 : Hid (Byts w3 base (some ⟨g', 0, none⟩) (xs.length + 1) cap' (xs ++ [c])) := ⟨by simp, by rw [u8c_app]; exact hown⟩; clear hown hgrow hor))
              go_ret
              exact ⟨_, cap', rfl, HN3.out, HB3.out⟩
end Go.Proofs.YtnndlffidifddaaGreatDoor

/- text.appendQuoted and Quote. -/
namespace Go.Proofs.YtnndlffidifddaaGreatDoor
open Go.RowKit

set_option maxRecDepth 100000 in
set_option maxHeartbeats 2000000 in
theorem appendQuoted_any (s : ByteArray) (xs : List UInt8) (a : Option Addr) (m cap base : Nat) (w : World) (h : Byts w base a m cap xs) (hb : base ≤ w.heap.size) (hl : m + 4 * s.size + 2 ≤ 17592186044416) :
    Calls Tryz.prog 22 #[.slice a m cap, .string s] w (AppK base xs (Sp.quote s) w) := by
  obtain ⟨i0, hi, hz0, hz1, hz2⟩ := info_parts Tryz.infoB
  have HO : Hid (Byts w base a m cap xs) := h
  clear h
  go_enter Tryz.func22, Tryz.ntmps22
  go_wp2_with (at_builtin; refine wpList_app _ rfl _ _ 23 rfl base 5 i0 (.int .u8 0) 1 1 Tryz.undB hi hz0 hz1 hz2 rfl (by decide) _ m (Sp.u8c (xs)) rfl (HO.out.2.alloc _) ⟨w.heap.size, 0, none⟩ 1 1 (Sp.u8c [34]) rfl rfl (bytes_new w [34] rfl rfl) (u8c_one _) (by decide) (by unfold maxLen; omega) (by omega) (by have := hb; simp; omega) ?_; intro g1 p1 w1 hown hgrow hor; have HB1 : Hid (Kp base w w1) := ((Kp.refl base w).alloc hb _).grown hgrow (by have := hb; simp; omega) (HO.out.2.alloc _); have HN1 : Hid (Byts w1 base (some ⟨g1, 0, none⟩) (m + 1) p1 (xs ++ [34])) := ⟨by rw [List.length_append, ← HO.out.1]; rfl, by rw [u8c_app]; exact hown⟩; clear hown hgrow hor)
  go_loopw [0, 11] (fun u i wr => ∃ (k m' : Nat) (a' : Option Addr) (p' : Nat), k ≤ s.size ∧ i = .int .i64 (k : Int) ∧ u = .slice a' m' p' ∧ m' ≤ m + 1 + 4 * k ∧ Hid (Byts wr base a' m' p' (xs ++ [34] ++ Sp.escs s k)) ∧ Hid (Kp base w wr)) (fun _ i _ => s.size - (intOf i).toNat)
  case atStart => exact ⟨0, m + 1, _, p1, by omega, rfl, rfl, by omega, (by show Byts _ _ _ _ _ _; simpa [Sp.escs] using HN1.out), HB1⟩
  case round =>
    obtain ⟨k, m', a', p', hk, rfl, rfl, hm, HN, HB⟩ := hrel
    have HZ : Hid (base ≤ wr.heap.size) := Nat.le_trans hb HB.out.size
    by_cases hlt : k < s.size
    · have HC : Hid (Calls Tryz.prog 39 #[.slice a' m' p', .int .u8 (s[k].toNat : Int)] wr (AppK base (xs ++ [34] ++ Sp.escs s k) (Sp.esc s[k]) wr)) := by
        have := appendEscaped_any s[k] (xs ++ [34] ++ Sp.escs s k) a' p' base wr (by rw [← HN.out.1]; exact HN.out) HZ.out (by rw [← HN.out.1]; omega)
        rw [← HN.out.1] at this
        exact this
      have HE : Hid (xs ++ [34] ++ Sp.escs s (k + 1) = xs ++ [34] ++ Sp.escs s k ++ Sp.esc s[k]) := by show _ = _; rw [Sp.escs_succ s k hlt, List.append_assoc]; simp
      have HL : Hid ((Sp.esc s[k]).length ≤ 4) := Sp.esc_len _
      go_wp2_with fail
      refine HC.out.mono ?_
      rintro e w2 ⟨a2, p2, rfl, hn2, hb2⟩
      have HN2 : Hid (Byts w2 base a2 (m' + (Sp.esc s[k]).length) p2 (xs ++ [34] ++ Sp.escs s (k + 1))) := by
        show Byts _ _ _ _ _ _
        rw [← HN.out.1] at hn2
        rw [HE.out]; exact hn2
      have HB2 : Hid (Kp base w w2) := HB.out.trans hb2
      rw [← HN.out.1]
      clear hn2 hb2
      have hl4 := HL.out
      generalize (Sp.esc s[k]).length = q at HN2 hl4 ⊢
      go_wp2_with fail
      go_roundw
      case rel => exact ⟨k + 1, m' + q, a2, p2, by omega, by go_num, rfl, by omega, HN2, HB2⟩
      case measure => simp [intOf]; omega
    · have HE : Hid (xs ++ [34] ++ Sp.escs s k ++ [34] = xs ++ Sp.quote s) := by show _ = _; rw [show k = s.size by omega, Sp.quote]; simp
      go_wp2_with (at_builtin; refine wpList_app _ rfl _ _ 23 rfl base 5 i0 (.int .u8 0) 1 1 Tryz.undB hi hz0 hz1 hz2 rfl (by decide) _ m' (Sp.u8c (xs ++ [34] ++ Sp.escs s k)) rfl (HN.out.2.alloc _) ⟨wr.heap.size, 0, none⟩ 1 1 (Sp.u8c [34]) rfl rfl (bytes_new wr [34] rfl rfl) (u8c_one _) (by decide) (by unfold maxLen; omega) (by omega) (by have := HZ.out; simp; omega) ?_; intro g5 p5 w5 hown hgrow hor; have HB5 : Hid (Kp base w w5) := (HB.out.alloc HZ.out _).grown hgrow (by have := HZ.out; simp; omega) (HN.out.2.alloc _); have HN5 : Hid (Byts w5 base (some ⟨g5, 0, none⟩) (m' + 1) p5 (xs ++ [34] ++ Sp.escs s k ++ [34])) := ⟨by rw [List.length_append, ← HN.out.1]; rfl, by rw [u8c_app]; exact hown⟩; clear hown hgrow hor)
      go_ret
      have e5 : m' + 1 = xs.length + (Sp.quote s).length := by
        have := HN5.out.1
        rw [HE.out, List.length_append] at this
        exact this
      refine ⟨some ⟨g5, 0, none⟩, p5, ?_, ?_, HB5.out⟩
      · rw [← e5]; rfl
      · rw [← e5, ← HE.out]; exact HN5.out

set_option maxRecDepth 100000 in
set_option maxHeartbeats 1000000 in
theorem Quote_any (s : ByteArray) (w : World) (hl : s.size ≤ 1099511627776) :
    Calls Tryz.prog 10 #[.string s] w fun e w' => e = .returned (.string ⟨(Sp.quote s).toArray⟩) ∧ Below w.heap.size w w' := by
  have HC : Hid (Calls Tryz.prog 22 #[.slice none 0 0, .string s] w (AppK w.heap.size [] (Sp.quote s) w)) := appendQuoted_any s [] none 0 0 w.heap.size w ⟨rfl, rfl, .inl ⟨rfl, rfl⟩⟩ (Nat.le_refl _) (by omega)
  go_enter Tryz.func10, Tryz.ntmps10
  go_wp2_with fail
  refine HC.out.mono ?_
  rintro e w1 ⟨a1, p1, rfl, hn, hb1⟩
  have HB1 : Hid (Below w.heap.size w w1) := hb1.below
  have hcv := hn.conv (Below.refl _ _)
  clear hn hb1
  generalize ([] : List UInt8).length + (Sp.quote s).length = q at hcv ⊢
  go_wp2_with fail
  go_ret
  exact ⟨rfl, HB1.out⟩
end Go.Proofs.YtnndlffidifddaaGreatDoor

/- A string's text, as the document has it: tenonref02.Quote. -/
namespace Go.Proofs.YtnndlffidifddaaGreatDoor
open Go.RowKit

set_option maxRecDepth 100000 in
set_option maxHeartbeats 4000000 in
theorem rQuote_any (s : ByteArray) (w : World) (hl : s.size ≤ 1099511627776) :
    Calls Tryz.prog 11 #[.string s] w fun e w' => e = .returned (.string ⟨(Sp.quote s).toArray⟩) ∧ Below w.heap.size w w' := by
  obtain ⟨i0, hi, hz0, hz1, hz2⟩ := info_parts Tryz.infoB
  go_enter Tryz.func11, Tryz.ntmps11
  go_wp2_with fail
  go_loopw [3, 4] (fun u i wr => ∃ (k m' : Nat) (a' : Option Addr) (p' : Nat), k ≤ s.size ∧ i = .int .i64 (k : Int) ∧ u = .slice a' m' p' ∧ m' ≤ 1 + 4 * k ∧ Hid (Byts wr w.heap.size a' m' p' ([34] ++ Sp.escs s k)) ∧ Hid (Below w.heap.size w wr)) (fun _ i _ => s.size - (intOf i).toNat)
  case atStart =>
    refine ⟨0, 1, _, 1, by omega, rfl, rfl, by omega, ?_, (Below.refl _ _).alloc (Nat.le_refl _) _⟩
    exact ⟨rfl, rfl, .inr ⟨w.heap.size, 1, #[.int .u8 34], rfl, Nat.le_refl _, heap_alloc_new w _, Nat.le_refl _, by simp [maxLen], rfl, rfl⟩⟩
  case round =>
    obtain ⟨k, m', a', p', hk, rfl, rfl, hm, HN, HB⟩ := hrel
    by_cases hlt : k < s.size
    · have hc := s[k].toNat_lt
      by_cases c1 : s[k] = 34
      · have HX : Hid ([34] ++ Sp.escs s (k + 1) = [34] ++ Sp.escs s k ++ [92, 34]) := by show _ = _; rw [Sp.escs_succ s k hlt, c1, show Sp.esc 34 = [92, 34] from rfl]; simp
        have e0 : (s[k].toNat : Int) = 34 := by rw [c1]; rfl
        clear c1
        go_wp2_with (at_builtin; refine wpList_app _ rfl _ _ 23 rfl w.heap.size 5 i0 (.int .u8 0) 1 1 Tryz.undB hi hz0 hz1 hz2 rfl (by decide) _ m' (Sp.u8c ([34] ++ Sp.escs s k)) rfl (HN.out.2.alloc _) ⟨wr.heap.size, 0, none⟩ 2 2 (Sp.u8c [92, 34]) rfl rfl (bytes_new wr [92, 34] rfl rfl) (u8c_one _) (by decide) (by unfold maxLen; omega) (by omega) (by have := HB.out.size; simp; omega) ?_; intro g5 p5 w5 hown hgrow hor; have HB5 : Hid (Below w.heap.size w w5) := (HB.out.alloc HB.out.size _).grown hgrow (by have := HB.out.size; simp; omega) (fun q hq => own_ge HN.out.2 hq); have HN5 : Hid (Byts w5 w.heap.size (some ⟨g5, 0, none⟩) (m' + 2) p5 ([34] ++ Sp.escs s k ++ [92, 34])) := ⟨by rw [List.length_append, ← HN.out.1]; rfl, by rw [u8c_app]; exact hown⟩; clear hown hgrow hor)
        go_roundw
        case rel => exact ⟨k + 1, m' + 2, _, p5, by omega, by go_num, rfl, by omega, (by show Byts _ _ _ _ _ _; rw [HX.out]; exact HN5.out), HB5⟩
        case measure => simp [intOf]; omega
      · by_cases c2 : s[k] = 92
        · have HX : Hid ([34] ++ Sp.escs s (k + 1) = [34] ++ Sp.escs s k ++ [92, 92]) := by show _ = _; rw [Sp.escs_succ s k hlt, c2, show Sp.esc 92 = [92, 92] from rfl]; simp
          have e0 : (s[k].toNat : Int) = 92 := by rw [c2]; rfl
          clear c2
          go_wp2_with (at_builtin; refine wpList_app _ rfl _ _ 23 rfl w.heap.size 5 i0 (.int .u8 0) 1 1 Tryz.undB hi hz0 hz1 hz2 rfl (by decide) _ m' (Sp.u8c ([34] ++ Sp.escs s k)) rfl (HN.out.2.alloc _) ⟨wr.heap.size, 0, none⟩ 2 2 (Sp.u8c [92, 92]) rfl rfl (bytes_new wr [92, 92] rfl rfl) (u8c_one _) (by decide) (by unfold maxLen; omega) (by omega) (by have := HB.out.size; simp; omega) ?_; intro g5 p5 w5 hown hgrow hor; have HB5 : Hid (Below w.heap.size w w5) := (HB.out.alloc HB.out.size _).grown hgrow (by have := HB.out.size; simp; omega) (fun q hq => own_ge HN.out.2 hq); have HN5 : Hid (Byts w5 w.heap.size (some ⟨g5, 0, none⟩) (m' + 2) p5 ([34] ++ Sp.escs s k ++ [92, 92])) := ⟨by rw [List.length_append, ← HN.out.1]; rfl, by rw [u8c_app]; exact hown⟩; clear hown hgrow hor)
          go_roundw
          case rel => exact ⟨k + 1, m' + 2, _, p5, by omega, by go_num, rfl, by omega, (by show Byts _ _ _ _ _ _; rw [HX.out]; exact HN5.out), HB5⟩
          case measure => simp [intOf]; omega
        · by_cases c3 : s[k] = 10
          · have HX : Hid ([34] ++ Sp.escs s (k + 1) = [34] ++ Sp.escs s k ++ [92, 110]) := by show _ = _; rw [Sp.escs_succ s k hlt, c3, show Sp.esc 10 = [92, 110] from rfl]; simp
            have e0 : (s[k].toNat : Int) = 10 := by rw [c3]; rfl
            clear c3
            go_wp2_with (at_builtin; refine wpList_app _ rfl _ _ 23 rfl w.heap.size 5 i0 (.int .u8 0) 1 1 Tryz.undB hi hz0 hz1 hz2 rfl (by decide) _ m' (Sp.u8c ([34] ++ Sp.escs s k)) rfl (HN.out.2.alloc _) ⟨wr.heap.size, 0, none⟩ 2 2 (Sp.u8c [92, 110]) rfl rfl (bytes_new wr [92, 110] rfl rfl) (u8c_one _) (by decide) (by unfold maxLen; omega) (by omega) (by have := HB.out.size; simp; omega) ?_; intro g5 p5 w5 hown hgrow hor; have HB5 : Hid (Below w.heap.size w w5) := (HB.out.alloc HB.out.size _).grown hgrow (by have := HB.out.size; simp; omega) (fun q hq => own_ge HN.out.2 hq); have HN5 : Hid (Byts w5 w.heap.size (some ⟨g5, 0, none⟩) (m' + 2) p5 ([34] ++ Sp.escs s k ++ [92, 110])) := ⟨by rw [List.length_append, ← HN.out.1]; rfl, by rw [u8c_app]; exact hown⟩; clear hown hgrow hor)
            go_roundw
            case rel => exact ⟨k + 1, m' + 2, _, p5, by omega, by go_num, rfl, by omega, (by show Byts _ _ _ _ _ _; rw [HX.out]; exact HN5.out), HB5⟩
            case measure => simp [intOf]; omega
          · by_cases c4 : s[k] = 9
            · have HX : Hid ([34] ++ Sp.escs s (k + 1) = [34] ++ Sp.escs s k ++ [92, 116]) := by show _ = _; rw [Sp.escs_succ s k hlt, c4, show Sp.esc 9 = [92, 116] from rfl]; simp
              have e0 : (s[k].toNat : Int) = 9 := by rw [c4]; rfl
              clear c4
              go_wp2_with (at_builtin; refine wpList_app _ rfl _ _ 23 rfl w.heap.size 5 i0 (.int .u8 0) 1 1 Tryz.undB hi hz0 hz1 hz2 rfl (by decide) _ m' (Sp.u8c ([34] ++ Sp.escs s k)) rfl (HN.out.2.alloc _) ⟨wr.heap.size, 0, none⟩ 2 2 (Sp.u8c [92, 116]) rfl rfl (bytes_new wr [92, 116] rfl rfl) (u8c_one _) (by decide) (by unfold maxLen; omega) (by omega) (by have := HB.out.size; simp; omega) ?_; intro g5 p5 w5 hown hgrow hor; have HB5 : Hid (Below w.heap.size w w5) := (HB.out.alloc HB.out.size _).grown hgrow (by have := HB.out.size; simp; omega) (fun q hq => own_ge HN.out.2 hq); have HN5 : Hid (Byts w5 w.heap.size (some ⟨g5, 0, none⟩) (m' + 2) p5 ([34] ++ Sp.escs s k ++ [92, 116])) := ⟨by rw [List.length_append, ← HN.out.1]; rfl, by rw [u8c_app]; exact hown⟩; clear hown hgrow hor)
              go_roundw
              case rel => exact ⟨k + 1, m' + 2, _, p5, by omega, by go_num, rfl, by omega, (by show Byts _ _ _ _ _ _; rw [HX.out]; exact HN5.out), HB5⟩
              case measure => simp [intOf]; omega
            · by_cases c5 : s[k] = 13
              · have HX : Hid ([34] ++ Sp.escs s (k + 1) = [34] ++ Sp.escs s k ++ [92, 114]) := by show _ = _; rw [Sp.escs_succ s k hlt, c5, show Sp.esc 13 = [92, 114] from rfl]; simp
                have e0 : (s[k].toNat : Int) = 13 := by rw [c5]; rfl
                clear c5
                go_wp2_with (at_builtin; refine wpList_app _ rfl _ _ 23 rfl w.heap.size 5 i0 (.int .u8 0) 1 1 Tryz.undB hi hz0 hz1 hz2 rfl (by decide) _ m' (Sp.u8c ([34] ++ Sp.escs s k)) rfl (HN.out.2.alloc _) ⟨wr.heap.size, 0, none⟩ 2 2 (Sp.u8c [92, 114]) rfl rfl (bytes_new wr [92, 114] rfl rfl) (u8c_one _) (by decide) (by unfold maxLen; omega) (by omega) (by have := HB.out.size; simp; omega) ?_; intro g5 p5 w5 hown hgrow hor; have HB5 : Hid (Below w.heap.size w w5) := (HB.out.alloc HB.out.size _).grown hgrow (by have := HB.out.size; simp; omega) (fun q hq => own_ge HN.out.2 hq); have HN5 : Hid (Byts w5 w.heap.size (some ⟨g5, 0, none⟩) (m' + 2) p5 ([34] ++ Sp.escs s k ++ [92, 114])) := ⟨by rw [List.length_append, ← HN.out.1]; rfl, by rw [u8c_app]; exact hown⟩; clear hown hgrow hor)
                go_roundw
                case rel => exact ⟨k + 1, m' + 2, _, p5, by omega, by go_num, rfl, by omega, (by show Byts _ _ _ _ _ _; rw [HX.out]; exact HN5.out), HB5⟩
                case measure => simp [intOf]; omega
              · have d1 : ((s[k].toNat : Int) == 34) = false := by simpa using u8_ne c1
                have d2 : ((s[k].toNat : Int) == 92) = false := by simpa using u8_ne c2
                have d3 : ((s[k].toNat : Int) == 10) = false := by simpa using u8_ne c3
                have d4 : ((s[k].toNat : Int) == 9) = false := by simpa using u8_ne c4
                have d5 : ((s[k].toNat : Int) == 13) = false := by simpa using u8_ne c5
                by_cases c6 : s[k].toNat < 32 ∨ 126 < s[k].toNat
                · have HX : Hid ([34] ++ Sp.escs s (k + 1) = [34] ++ Sp.escs s k ++ [92, 120, Sp.hexd (s[k].toNat / 16), Sp.hexd (s[k].toNat % 16)]) := by
                    show _ = _
                    rw [Sp.escs_succ s k hlt, Sp.esc, if_neg (by simp [c1, c2]), if_neg c3, if_neg c4, if_neg c5, if_pos c6]; simp
                  have hx1 := idx_hex .u8 ((s[k].toNat : Int) / 16) (s[k].toNat / 16) (by omega) (by omega)
                  have hx2 := idx_hex .u8 ((s[k].toNat : Int) % 16) (s[k].toNat % 16) (by omega) (by omega)
                  have hq0 : Int.tdiv (s[k].toNat : Int) 16 = (s[k].toNat : Int) / 16 := Int.tdiv_eq_ediv_of_nonneg (Int.natCast_nonneg _)
                  have hq1 : IntKind.u8.wrap ((s[k].toNat : Int) / 16) = (s[k].toNat : Int) / 16 := by rw [IntKind.wrap_u8]; omega
                  have hq2 : Int.tmod (s[k].toNat : Int) 16 = (s[k].toNat : Int) % 16 := Int.tmod_eq_emod_of_nonneg (Int.natCast_nonneg _)
                  have hq3 : IntKind.u8.wrap ((s[k].toNat : Int) % 16) = (s[k].toNat : Int) % 16 := by rw [IntKind.wrap_u8]; omega
                  generalize Sp.hexd (s[k].toNat / 16) = u at hx1 HX
                  generalize Sp.hexd (s[k].toNat % 16) = v at hx2 HX
                  clear c1 c2 c3 c4 c5
                  by_cases c7 : (s[k].toNat : Int) < 32
                  · clear c6
                    go_wp2_with fail
                    go_region_law ((refine step_append_lies _ (by rfl) _ _ 23 (by rfl) w.heap.size 5 i0 _ 1 1 Tryz.undB hi hz0 hz1 hz2 rfl (by omega) _ m' (Sp.u8c ([34] ++ Sp.escs s k)) (by rfl) (HN.out.2.alloc _) ⟨wr.heap.size, 0, none⟩ 4 4 (Sp.u8c [92, 120, u, v]) (by rfl) (by rfl) (bytes_new wr [92, 120, u, v] rfl rfl) (u8c_one _) (by omega) (by unfold maxLen; omega) (by omega) (by have := HB.out.size; simp; omega) (wr.heap.size + 1) (by simp) ?_; intro g5 p5 w5 hown' hgrow hor hlt3; have HB5 : Hid (Below w.heap.size w w5) := (HB.out.alloc HB.out.size _).drew.grown hgrow (by have := HB.out.size; simp; omega) (fun q hq => own_ge HN.out.2 hq); have HN5 : Hid (Byts w5 w.heap.size (some ⟨g5, 0, none⟩) (m' + 4) p5 ([34] ++ Sp.escs s k ++ [92, 120, u, v])) := ⟨by rw [List.length_append, ← HN.out.1]; rfl, by rw [u8c_app]; exact hown'⟩; clear hown' hgrow hor))
                    all_goals
                      go_wp2_with fail
                      go_roundw
                      case rel => exact ⟨k + 1, m' + 4, _, p5, by omega, by go_num, rfl, by omega, (by show Byts _ _ _ _ _ _; rw [HX.out]; exact HN5.out), HB5⟩
                      case measure => simp [intOf]; omega
                  · have c8 : (126 : Int) < (s[k].toNat : Int) := by omega
                    clear c6
                    go_wp2_with fail
                    go_region_law ((refine step_append_lies _ (by rfl) _ _ 23 (by rfl) w.heap.size 5 i0 _ 1 1 Tryz.undB hi hz0 hz1 hz2 rfl (by omega) _ m' (Sp.u8c ([34] ++ Sp.escs s k)) (by rfl) (HN.out.2.alloc _) ⟨wr.heap.size, 0, none⟩ 4 4 (Sp.u8c [92, 120, u, v]) (by rfl) (by rfl) (bytes_new wr [92, 120, u, v] rfl rfl) (u8c_one _) (by omega) (by unfold maxLen; omega) (by omega) (by have := HB.out.size; simp; omega) (wr.heap.size + 1) (by simp) ?_; intro g5 p5 w5 hown' hgrow hor hlt3; have HB5 : Hid (Below w.heap.size w w5) := (HB.out.alloc HB.out.size _).drew.grown hgrow (by have := HB.out.size; simp; omega) (fun q hq => own_ge HN.out.2 hq); have HN5 : Hid (Byts w5 w.heap.size (some ⟨g5, 0, none⟩) (m' + 4) p5 ([34] ++ Sp.escs s k ++ [92, 120, u, v])) := ⟨by rw [List.length_append, ← HN.out.1]; rfl, by rw [u8c_app]; exact hown'⟩; clear hown' hgrow hor))
                    all_goals
                      go_wp2_with fail
                      go_roundw
                      case rel => exact ⟨k + 1, m' + 4, _, p5, by omega, by go_num, rfl, by omega, (by show Byts _ _ _ _ _ _; rw [HX.out]; exact HN5.out), HB5⟩
                      case measure => simp [intOf]; omega
                · have HX : Hid ([34] ++ Sp.escs s (k + 1) = [34] ++ Sp.escs s k ++ [s[k]]) := by
                    show _ = _
                    rw [Sp.escs_succ s k hlt, Sp.esc, if_neg (by simp [c1, c2]), if_neg c3, if_neg c4, if_neg c5, if_neg c6]; simp
                  have c7 : ¬ (s[k].toNat : Int) < 32 := by omega
                  have c8 : ¬ (126 : Int) < (s[k].toNat : Int) := by omega
                  clear c1 c2 c3 c4 c5 c6
                  go_wp2_with (at_builtin; refine wpList_app _ rfl _ _ 23 rfl w.heap.size 5 i0 (.int .u8 0) 1 1 Tryz.undB hi hz0 hz1 hz2 rfl (by decide) _ m' (Sp.u8c ([34] ++ Sp.escs s k)) rfl (HN.out.2.alloc _) ⟨wr.heap.size, 0, none⟩ 1 1 (Sp.u8c [s[k]]) rfl rfl (bytes_new wr [s[k]] rfl rfl) (u8c_one _) (by decide) (by unfold maxLen; omega) (by omega) (by have := HB.out.size; simp; omega) ?_; intro g5 p5 w5 hown hgrow hor; have HB5 : Hid (Below w.heap.size w w5) := (HB.out.alloc HB.out.size _).grown hgrow (by have := HB.out.size; simp; omega) (fun q hq => own_ge HN.out.2 hq); have HN5 : Hid (Byts w5 w.heap.size (some ⟨g5, 0, none⟩) (m' + 1) p5 ([34] ++ Sp.escs s k ++ [s[k]])) := ⟨by rw [List.length_append, ← HN.out.1]; rfl, by rw [u8c_app]; exact hown⟩; clear hown hgrow hor)
                  go_roundw
                  case rel => exact ⟨k + 1, m' + 1, _, p5, by omega, by go_num, rfl, by omega, (by show Byts _ _ _ _ _ _; rw [HX.out]; exact HN5.out), HB5⟩
                  case measure => simp [intOf]; omega
    · have HE : Hid ([34] ++ Sp.escs s k ++ [34] = Sp.quote s) := by show _ = _; rw [show k = s.size by omega, Sp.quote]; simp
      go_wp2_with (at_builtin; refine wpList_app _ rfl _ _ 23 rfl w.heap.size 5 i0 (.int .u8 0) 1 1 Tryz.undB hi hz0 hz1 hz2 rfl (by decide) _ m' (Sp.u8c ([34] ++ Sp.escs s k)) rfl (HN.out.2.alloc _) ⟨wr.heap.size, 0, none⟩ 1 1 (Sp.u8c [34]) rfl rfl (bytes_new wr [34] rfl rfl) (u8c_one _) (by decide) (by unfold maxLen; omega) (by omega) (by have := HB.out.size; simp; omega) ?_; intro g5 p5 w5 hown hgrow hor; have HB5 : Hid (Below w.heap.size w w5) := (HB.out.alloc HB.out.size _).grown hgrow (by have := HB.out.size; simp; omega) (fun q hq => own_ge HN.out.2 hq); have HN5 : Hid (Byts w5 w.heap.size (some ⟨g5, 0, none⟩) (m' + 1) p5 ([34] ++ Sp.escs s k ++ [34])) := ⟨by rw [List.length_append, ← HN.out.1]; rfl, by rw [u8c_app]; exact hown⟩; have hcv := HN5.out.conv (Below.refl _ _); clear hown hgrow hor)
      go_ret
      exact ⟨by rw [← HE.out]; rfl, HB5.out⟩
end Go.Proofs.YtnndlffidifddaaGreatDoor

/- tenonref02.breaks. -/
namespace Go.Proofs.YtnndlffidifddaaGreatDoor
open Go.RowKit

/-- a line feed and blanks, or nothing -/
def Sp.brk (l : Bool) (d : Nat) : List UInt8 := if l then 10 :: List.replicate (2 * d) 32 else []
theorem Sp.rep2 (d : Nat) : (10 : UInt8) :: List.replicate (2 * (d + 1)) 32 = 10 :: List.replicate (2 * d) 32 ++ [32, 32] := by
  rw [show 2 * (d + 1) = 2 * d + 2 by omega, ← List.replicate_append_replicate]; rfl

set_option maxRecDepth 100000 in
set_option maxHeartbeats 2000000 in
theorem breaks_any (l : Bool) (d : Nat) (w : World) (hd : d ≤ 1000000) :
    Calls Tryz.prog 35 #[.bool l, .int .i64 (d : Int)] w fun e w' => ∃ (a : Option Addr) (m cap : Nat), e = .returned (.slice a m cap) ∧ Byts w' w.heap.size a m cap (Sp.brk l d) ∧ Below w.heap.size w w' := by
  obtain ⟨i0, hi, hz0, hz1, hz2⟩ := info_parts Tryz.infoB
  cases l with
  | false =>
    go_enter Tryz.func35, Tryz.ntmps35
    go_wp2_with fail
    go_ret
    exact ⟨none, 0, 0, rfl, ⟨rfl, rfl, .inl ⟨rfl, rfl⟩⟩, Below.refl _ _⟩
  | true =>
    go_enter Tryz.func35, Tryz.ntmps35
    go_wp2_with fail
    go_loopw [5, 6] (fun u i wr => ∃ (k m' : Nat) (a' : Option Addr) (p' : Nat), k ≤ d ∧ i = .int .i64 (k : Int) ∧ u = .slice a' m' p' ∧ Hid (m' = 1 + 2 * k) ∧ Hid (Byts wr w.heap.size a' m' p' (10 :: List.replicate (2 * k) 32)) ∧ Hid (Below w.heap.size w wr)) (fun _ i _ => d - (intOf i).toNat)
    case atStart =>
      refine ⟨0, 1, _, 1, by omega, rfl, rfl, (show _ = _ by omega), ?_, (Below.refl _ _).alloc (Nat.le_refl _) _⟩
      exact ⟨rfl, rfl, .inr ⟨w.heap.size, 1, #[.int .u8 10], rfl, Nat.le_refl _, heap_alloc_new w _, Nat.le_refl _, by simp [maxLen], rfl, rfl⟩⟩
    case round =>
      obtain ⟨k, m', a', p', hk, rfl, rfl, HM, HN, HB⟩ := hrel
      have hm1 : m' ≤ 2000001 := by have := HM.out; omega
      by_cases hlt : k < d
      · have HX : Hid ((10 : UInt8) :: List.replicate (2 * (k + 1)) 32 = 10 :: List.replicate (2 * k) 32 ++ [32, 32]) := Sp.rep2 k
        go_wp2_with (at_builtin; refine wpList_app _ rfl _ _ 23 rfl w.heap.size 5 i0 (.int .u8 0) 1 1 Tryz.undB hi hz0 hz1 hz2 rfl (by decide) _ m' (Sp.u8c (10 :: List.replicate (2 * k) 32)) rfl (HN.out.2.alloc _) ⟨wr.heap.size, 0, none⟩ 2 2 (Sp.u8c [32, 32]) rfl rfl (bytes_new wr [32, 32] rfl rfl) (u8c_one _) (by decide) (by unfold maxLen; omega) (by omega) (by have := HB.out.size; simp; omega) ?_; intro g5 p5 w5 hown hgrow hor; have HB5 : Hid (Below w.heap.size w w5) := (HB.out.alloc HB.out.size _).grown hgrow (by have := HB.out.size; simp; omega) (fun q hq => own_ge HN.out.2 hq); have HN5 : Hid (Byts w5 w.heap.size (some ⟨g5, 0, none⟩) (m' + 2) p5 (10 :: List.replicate (2 * k) 32 ++ [32, 32])) := ⟨by rw [List.length_append, ← HN.out.1]; rfl, by rw [u8c_app]; exact hown⟩; clear hown hgrow hor)
        go_roundw
        case rel => exact ⟨k + 1, m' + 2, _, p5, by omega, by go_num, rfl, (by have := HM.out; show _ = _; omega), (by show Byts _ _ _ _ _ _; rw [HX.out]; exact HN5.out), HB5⟩
        case measure => simp [intOf]; omega
      · obtain rfl : k = d := by omega
        go_wp2_with fail
        go_ret
        exact ⟨a', m', p', rfl, HN.out, HB.out⟩
end Go.Proofs.YtnndlffidifddaaGreatDoor


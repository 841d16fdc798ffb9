/- wire.Decode and wire.Skip at bytes that begin with a value. -/
import Derived.Test.YtjmhodngmfaboaaLookG
import Derived.Test.YtjmhodngmfaboaaMadeH
namespace Go.Proofs.Ytjmhodngmfaboaa
open Go.RowKit

theorem RdB.take {w : World} {B : Nat → Prop} {a : Option Addr} {xs : List Int} (h : RdB w B a xs) (n : Nat) : RdB w B a (xs.take n) := fun j u hu => by
  rw [List.getElem?_take] at hu
  split at hu
  · exact h j u hu
  · simp at hu
theorem By.take {xs : List Int} (h : By xs) (n : Nat) : By (xs.take n) := fun x hx => h x (List.mem_of_mem_take hx)

set_option maxRecDepth 100000 in
set_option maxHeartbeats 1000000 in
theorem Skip_ok (xs : List Int) (hby : By xs) (t : Tm) (p2 a2 : Nat) (hr : Sp.rdV xs 64 0 0 = .ok (t, p2) a2) (a : Option Addr) (cap : Nat) (w : World) (hrd : RdB w (Lo w.heap.size) a xs) (hcp : xs.length ≤ cap) (hln : xs.length ≤ 281474976710656) :
    Calls Try.prog 26 #[.slice a xs.length cap] w fun e w' => e = .returned (.tuple #[.int .i64 (a2 : Int), .int .i64 0]) ∧ Below w.heap.size w w' := by
  have HL : Hid (Calls Try.prog 44 #[.slice a xs.length cap] w fun e w' => e = .returned (.tuple #[.int .i64 (a2 : Int), .int .i64 0]) ∧ Below w.heap.size w w') := look_ok xs hby t p2 a2 hr a cap w hrd hcp hln
  clear hr hby hrd
  go_enter Try.func26, Try.ntmps26
  go_wp2_with fail
  refine HL.out.mono ?_
  rintro e w1 ⟨rfl, hb1⟩
  go_wp2_with fail
  go_ret2
  exact ⟨rfl, hb1⟩

set_option maxRecDepth 100000 in
set_option maxHeartbeats 1000000 in
theorem Decode_ok (xs : List Int) (hby : By xs) (t : Tm) (p2 p3 a2 : Nat) (hr : Sp.rdV xs 64 0 0 = .ok (t, p2) a2) (hr2 : Sp.rdV (xs.take a2) 64 0 0 = .ok (t, p3) a2) (hle : a2 ≤ xs.length) (g0 o0 : Nat) (cap : Nat) (w : World) (hrd : RdB w (Lo w.heap.size) (some ⟨g0, o0, none⟩) xs) (hcp : xs.length ≤ cap) (hln : xs.length ≤ 281474976710656) :
    Calls Try.prog 25 #[.slice (some ⟨g0, o0, none⟩) xs.length cap] w fun e w' => ∃ v, e = .returned (.tuple #[v, .int .i64 (a2 : Int), .int .i64 0]) ∧ Below w.heap.size w w' ∧ t.V w' (Fr w w') v := by
  have HL : Hid (Calls Try.prog 44 #[.slice (some ⟨g0, o0, none⟩) xs.length cap] w fun e w' => e = .returned (.tuple #[.int .i64 (a2 : Int), .int .i64 0]) ∧ Below w.heap.size w w') := look_ok xs hby t p2 a2 hr _ cap w hrd hcp hln
  have hlt : (xs.take a2).length = a2 := by rw [List.length_take]; omega
  have HX : Hid (By (xs.take a2) ∧ Sp.rdV (xs.take a2) 64 0 0 = .ok (t, p3) a2 ∧ RdB w (Lo w.heap.size) (some ⟨g0, o0, none⟩) (xs.take a2) ∧ (xs.take a2).length = a2) := ⟨hby.take _, hr2, hrd.take _, hlt⟩
  clear hr hby hrd hr2 hlt
  go_enter Try.func25, Try.ntmps25
  go_wp2_with fail
  refine HL.out.mono ?_
  rintro e w1 ⟨rfl, hb1⟩
  have HB1 : Hid (Below w.heap.size w w1) := hb1
  clear hb1 HL
  go_wp2_with fail
  have HN : Hid (Rdr (w1.alloc (.cells #[.slice (some ⟨g0, o0, none⟩) a2 cap, .int .i64 0, .int .i64 0] 86)) w1.heap.size (some ⟨g0, o0, none⟩) (xs.take a2) cap 0 0) := by
    have := newRdr w1 (some ⟨g0, o0, none⟩) (xs.take a2) cap (HX.out.2.2.1.same (Same.of_below HB1.out (Nat.le_refl _)) (Lo.le HB1.out.size)) (by rw [HX.out.2.2.2]; omega) (by rw [HX.out.2.2.2]; omega)
    rw [HX.out.2.2.2] at this
    exact this
  refine (made_ok (xs.take a2) HX.out.1 64 w1.heap.size _ cap 0 0 0 t p3 a2 _ HN.out HX.out.2.1).mono ?_
  rintro e w2 ⟨v, rfl, hr2, hb2, hv⟩
  have hz := HB1.out.size
  have HE : Hid (Below w.heap.size w w2 ∧ t.V w2 (Fr w w2) v) := ⟨(HB1.out.alloc hz _).trans (hb2.below hz), t.V_same (Same.refl _ _) (fun k hk => ⟨by have := hk.1; simp at this; omega, hk.2⟩) v hv⟩
  clear hr2 hb2 hv
  go_wp2_with fail
  go_ret3
  exact ⟨v, rfl, HE.out⟩
end Go.Proofs.Ytjmhodngmfaboaa

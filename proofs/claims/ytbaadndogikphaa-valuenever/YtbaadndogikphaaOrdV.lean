/- value.Order and value.Same at two terms' values. -/
import Derived.Test.YtbaadndogikphaaOrd3
namespace Go.Proofs.Ytbaadndogikphaa
open Go.RowKit

/-- what Order answers: a number and an error -/
def Tm.ordN (s t : Tm) : Int := if s.all.e ≠ 0 ∨ t.all.e ≠ 0 then 0 else s.cmp t
def Tm.ordE (s t : Tm) : Int := if s.all.e ≠ 0 then s.all.e else t.all.e
/-- whether two values can be and are the same -/
def Tm.sameB (s t : Tm) : Bool := decide (s.all.e = 0 ∧ t.all.e = 0 ∧ s.cmp t = 0)

theorem Tm.ok_all {t : Tm} (h : t.all.e = 0) : t.Ok := ⟨1, 0, 0, h⟩

set_option maxRecDepth 100000 in
set_option maxHeartbeats 1000000 in
theorem Order_any (s t : Tm) (va vb : Value) (B : Nat) (w : World) (hB : B ≤ w.heap.size) (hs : s.V w (Lo B) va) (ht : t.V w (Lo B) vb) :
    Calls Try.prog 23 #[va, vb] w fun e w' => e = .returned (.tuple #[.int .i64 (s.ordN t), .int .i64 (s.ordE t)]) ∧ Below w.heap.size w w' := by
  have HS : Hid (∀ W, Below w.heap.size w W → s.V W (Lo B) va ∧ t.V W (Lo B) vb ∧ B ≤ W.heap.size) := fun W hW =>
    ⟨s.V_same (Same.of_below hW hB) (fun _ h => h) va hs, t.V_same (Same.of_below hW hB) (fun _ h => h) vb ht, by have := hW.size; omega⟩
  clear hs ht
  by_cases h1 : s.all.e ≠ 0
  · have h1' := ne_bool h1
    have H : Hid (s.ordN t = 0 ∧ s.ordE t = s.all.e) := by show _ ∧ _; unfold Tm.ordN Tm.ordE; rw [if_pos (.inl h1), if_pos h1]; exact ⟨rfl, rfl⟩
    clear h1
    go_enter Try.func23, Try.ntmps23
    go_wp2_with fail
    refine (Check_any s va B _ hB (HS.out _ (Below.refl _ _)).1).mono ?_
    rintro e w1 ⟨rfl, hb1⟩
    go_wp2_with fail
    go_ret2
    rw [H.out.1, H.out.2]
    exact ⟨rfl, hb1⟩
  · have h10 : s.all.e = 0 := Decidable.not_not.1 h1
    by_cases h2 : t.all.e ≠ 0
    · have h2' := ne_bool h2
      have H : Hid (s.ordN t = 0 ∧ s.ordE t = t.all.e) := by show _ ∧ _; unfold Tm.ordN Tm.ordE; rw [if_pos (.inr h2), if_neg h1]; exact ⟨rfl, rfl⟩
      clear h1 h2
      go_enter Try.func23, Try.ntmps23
      go_wp2_with fail
      refine (Check_any s va B _ hB (HS.out _ (Below.refl _ _)).1).mono ?_
      rintro e w1 ⟨rfl, hb1⟩
      have HB1 : Hid (Below w.heap.size w w1) := hb1
      clear hb1
      go_wp2_with fail
      refine (Check_any t vb B _ (HS.out _ HB1.out).2.2 (HS.out _ HB1.out).2.1).mono ?_
      rintro e w2 ⟨rfl, hb2⟩
      have HB2 : Hid (Below w1.heap.size w1 w2) := hb2
      clear hb2
      go_wp2_with fail
      go_ret2
      rw [H.out.1, H.out.2]
      exact ⟨rfl, below_to HB1.out HB2.out⟩
    · have h20 : t.all.e = 0 := Decidable.not_not.1 h2
      have H : Hid (s.ordN t = s.cmp t ∧ s.ordE t = 0) := by show _ ∧ _; unfold Tm.ordN Tm.ordE; rw [if_neg (by omega), if_neg h1]; exact ⟨rfl, h20⟩
      clear h1 h2
      go_enter Try.func23, Try.ntmps23
      go_wp2_with fail
      refine (Check_any s va B _ hB (HS.out _ (Below.refl _ _)).1).mono ?_
      rintro e w1 ⟨rfl, hb1⟩
      have HB1 : Hid (Below w.heap.size w w1) := hb1
      clear hb1
      go_wp2_with fail
      refine (Check_any t vb B _ (HS.out _ HB1.out).2.2 (HS.out _ HB1.out).2.1).mono ?_
      rintro e w2 ⟨rfl, hb2⟩
      have HB2 : Hid (Below w.heap.size w w2) := below_to HB1.out hb2
      clear hb2
      go_wp2_with fail
      refine (order_any s.sz s t (Nat.le_refl _) va vb (Lo B) _ (HS.out _ HB2.out).1 (HS.out _ HB2.out).2.1 (Tm.ok_all h10) (Tm.ok_all h20)).mono ?_
      rintro e w3 ⟨rfl, m, rfl⟩
      go_wp2_with fail
      go_ret2
      rw [H.out.1, H.out.2]
      exact ⟨rfl, HB2.out.trans (below_drewN' _ _ _)⟩
end Go.Proofs.Ytbaadndogikphaa

/- value.Size at a term's value: what the plain walk through the term says. -/
import Derived.Test.YtbaadndogikphaaCheck
namespace Go.Proofs.Ytbaadndogikphaa
open Go.RowKit

set_option maxRecDepth 100000 in
set_option maxHeartbeats 400000 in
theorem Size_any (t : Tm) (v : Value) (B : Nat) (w : World) (hB : B ≤ w.heap.size) (h : t.V w (Lo B) v) :
    Calls Try.prog 12 #[v] w fun e w' => e = .returned (.tuple #[.int .i64 t.szN, .int .i64 t.szD, .int .i64 t.all.e]) ∧ Below w.heap.size w w' := by
  have HC := fun W a b => walk_all t v B w hB h W a b
  have HC : Hid _ := HC
  by_cases he : t.all.e ≠ 0
  · have he' := ne_bool he
    have H : Hid (t.szN = 0 ∧ t.szD = 0) := by show _ ∧ _; unfold Tm.szN Tm.szD; rw [if_pos he, if_pos he]; exact ⟨rfl, rfl⟩
    clear h he
    go_enter Try.func12, Try.ntmps12
    go_wp2_with (go_at_call 32; refine (HC.out _ ((Below.refl _ _).alloc (Nat.le_refl _) _) (Wk_new w)).mono ?_; rintro e w1 ⟨rfl, hk1, hb1⟩; obtain ⟨c0, c1, f0, f1⟩ := hk1)
    go_ret3
    rw [H.out.1, H.out.2]
    exact ⟨rfl, ((Below.refl _ _).alloc (Nat.le_refl _) _).trans hb1⟩
  · have he0 : t.all.e = 0 := Decidable.not_not.1 he
    have H : Hid (t.szN = t.all.p ∧ t.szD = t.all.d) := by show _ ∧ _; unfold Tm.szN Tm.szD; rw [if_neg he, if_neg he]; exact ⟨rfl, rfl⟩
    clear h he
    go_enter Try.func12, Try.ntmps12
    go_wp2_with (go_at_call 32; refine (HC.out _ ((Below.refl _ _).alloc (Nat.le_refl _) _) (Wk_new w)).mono ?_; rintro e w1 ⟨rfl, hk1, hb1⟩; obtain ⟨c0, c1, f0, f1⟩ := hk1)
    go_quiet (fail)
    go_wp2_with fail
    go_ret3
    rw [H.out.1, H.out.2, he0]
    exact ⟨rfl, (((Below.refl _ _).alloc (Nat.le_refl _) _).trans hb1).trans (below_drewN' _ _ _)⟩
end Go.Proofs.Ytbaadndogikphaa

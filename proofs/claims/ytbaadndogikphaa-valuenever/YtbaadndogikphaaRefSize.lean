/- tenonref01.Size at a term: what the plain walk through it says. -/
import Derived.Test.YtbaadndogikphaaRefCheck
import Derived.Test.YtbaadndogikphaaCheckS
namespace Go.Proofs.Ytbaadndogikphaa
open Go.RowKit

set_option maxRecDepth 100000 in
set_option maxHeartbeats 400000 in
theorem refSize_any (t : Tm) (cs : Array Value) (B : Nat → Prop) (w : World) (h : t.In w B cs) (hB : Sub B w) :
    Calls Try.prog 13 #[.agg cs] w fun e w' => e = .returned (.tuple #[.int .i64 t.szN, .int .i64 t.szD, .int .i64 t.all.e]) ∧ Below w.heap.size w w' := by
  have HP := part_top t cs B w h hB
  obtain ⟨k, b, i, f, tx, vb, rf, vl, vf, c, vr, rfl⟩ : ∃ k b i f tx vb rf vl vf c vr, cs = tcells k b i f tx vb rf vl vf c vr := by
    cases t; simp only [Tm.In] at h; obtain ⟨_, _, _, _, _, _, rfl, _⟩ := h; exact ⟨_, _, _, _, _, _, _, _, _, _, _, rfl⟩
  clear h
  unfold tcells at HP ⊢
  have HP : Hid _ := HP
  by_cases he : t.all.e ≠ 0
  · have he' := ne_bool he
    have H : Hid (t.szN = 0 ∧ t.szD = 0) := by show _ ∧ _; unfold Tm.szN Tm.szD; rw [if_pos he, if_pos he]; exact ⟨rfl, rfl⟩
    clear he
    go_enter Try.func13, Try.ntmps13
    go_wp2_with (go_at_call 33; refine (HP.out _ ?_).mono ?_; exact (Below.refl _ _).alloc (Nat.le_refl _) _; rintro e w1 ⟨n, d, a, rfl, hb1, hs⟩)
    go_quiet (fail)
    go_wp2_with fail
    go_ret3
    have hz : w.heap.size ≤ w1.heap.size := by have := hb1.size; simp at this; omega
    rw [H.out.1, H.out.2]
    exact ⟨rfl, ((((Below.refl _ _).alloc (Nat.le_refl _) _).trans (hb1.mono (by simp))).alloc hz _).trans (below_drewN' _ _ _)⟩
  · have he0 : t.all.e = 0 := Decidable.not_not.1 he
    have HS : Hid (∀ n d a, Seen 0 t.all n d a → n = t.szN ∧ d = t.szD) := fun n d a hs => by
      unfold Tm.szN Tm.szD; rw [if_neg he, if_neg he]; exact ⟨(hs.1 he0).1, (hs.1 he0).2.1⟩
    clear he
    go_enter Try.func13, Try.ntmps13
    go_wp2_with (go_at_call 33; refine (HP.out _ ?_).mono ?_; exact (Below.refl _ _).alloc (Nat.le_refl _) _; rintro e w1 ⟨n, d, a, rfl, hb1, hs⟩; obtain ⟨rfl, rfl⟩ := HS.out n d a hs)
    go_quiet (fail)
    go_wp2_with fail
    go_ret3
    have hz : w.heap.size ≤ w1.heap.size := by have := hb1.size; simp at this; omega
    rw [he0]
    exact ⟨rfl, ((((Below.refl _ _).alloc (Nat.le_refl _) _).trans (hb1.mono (by simp))).alloc hz _).trans (below_drewN' _ _ _)⟩
end Go.Proofs.Ytbaadndogikphaa

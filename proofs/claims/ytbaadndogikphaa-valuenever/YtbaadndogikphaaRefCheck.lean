/- tenonref01.Check at a term: what the plain walk through it says. -/
import Derived.Test.YtbaadndogikphaaPart
namespace Go.Proofs.Ytbaadndogikphaa
open Go.RowKit

theorem part_all (N : Nat) : PartC N := by
  induction N with
  | zero => intro t ht; cases t; simp [Tm.sz] at ht
  | succ N ih => intro t hN cs B p d a n w h hB h1 h2 h3 h4; exact part_any N ih t hN cs B p d a n w h hB h1 h2 h3 h4

theorem part_top (t : Tm) (cs : Array Value) (B : Nat → Prop) (w : World) (h : t.In w B cs) (hB : Sub B w) : ∀ W, Below w.heap.size w W →
    Calls Try.prog 33 #[.agg #[.int .i64 0, .int .i64 0, .int .i64 0, .int .i64 0], .agg cs, .int .i64 1] W fun e w' => ∃ n d a, e = .returned (.agg #[.int .i64 n, .int .i64 d, .int .i64 a, .int .i64 t.all.e]) ∧ Below W.heap.size W w' ∧ Seen 0 t.all n d a :=
  fun W hW => part_all t.sz t (Nat.le_refl _) cs B 0 0 0 1 W (t.In_same (hB.same hW) (fun _ h => h) cs h) (hB.later hW) (by decide) (by decide) (by decide) (by decide)

set_option maxRecDepth 100000 in
set_option maxHeartbeats 400000 in
theorem refCheck_any (t : Tm) (cs : Array Value) (B : Nat → Prop) (w : World) (h : t.In w B cs) (hB : Sub B w) :
    Calls Try.prog 11 #[.agg cs] w fun e w' => e = .returned (.tuple #[.int .i64 t.cAt, .int .i64 t.all.e]) ∧ Below w.heap.size w w' := by
  have HP := part_top t cs B w h hB
  obtain ⟨k, b, i, f, tx, vb, rf, vl, vf, c, vr, rfl⟩ : ∃ k b i f tx vb rf vl vf c vr, cs = tcells k b i f tx vb rf vl vf c vr := by
    cases t; simp only [Tm.In] at h; obtain ⟨_, _, _, _, _, _, rfl, _⟩ := h; exact ⟨_, _, _, _, _, _, _, _, _, _, _, rfl⟩
  clear h
  unfold tcells at HP ⊢
  have HP : Hid _ := HP
  have HS : Hid (∀ n d a, Seen 0 t.all n d a → a = t.cAt) := fun n d a hs => by
    unfold Tm.cAt
    by_cases he : t.all.e ≠ 0
    · rw [if_pos he]; exact hs.2 he
    · rw [if_neg he]; exact (hs.1 (Decidable.not_not.1 he)).2.2
  go_enter Try.func11, Try.ntmps11
  go_wp2_with (go_at_call 33; refine (HP.out _ ?_).mono ?_; exact (Below.refl _ _).alloc (Nat.le_refl _) _; rintro e w1 ⟨n, d, a, rfl, hb1, hs⟩; obtain rfl := HS.out n d a hs)
  go_quiet (fail)
  go_wp2_with fail
  go_ret2
  have hz : w.heap.size ≤ w1.heap.size := by have := hb1.size; simp at this; omega
  exact ⟨rfl, ((((Below.refl _ _).alloc (Nat.le_refl _) _).trans (hb1.mono (by simp))).alloc hz _).trans (below_drewN' _ _ _)⟩
end Go.Proofs.Ytbaadndogikphaa

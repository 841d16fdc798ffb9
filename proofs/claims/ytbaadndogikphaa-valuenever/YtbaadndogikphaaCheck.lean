/- value.Check at a term's value: what the plain walk through the term says. -/
import Derived.Test.YtbaadndogikphaaWalkG
namespace Go.Proofs.Ytbaadndogikphaa
open Go.RowKit

/-- the walk of a whole term -/
def Tm.all (t : Tm) : Wr := t.wk 1 0 0
/-- the number of the first part that is wrong (0: none is), how many parts it has, how deep the deepest lies (0: it can't be) -/
def Tm.cAt (t : Tm) : Int := if t.all.e ≠ 0 then t.all.p - 1 else 0
def Tm.szN (t : Tm) : Int := if t.all.e ≠ 0 then 0 else t.all.p
def Tm.szD (t : Tm) : Int := if t.all.e ≠ 0 then 0 else t.all.d
/-- a term's kind as the document counts it -/
def Tm.kindK (t : Tm) : Int := if t.kind < 1 ∨ 11 < t.kind then 0 else t.kind
theorem Wk_new (w : World) : Wk (w.alloc (.cells #[.int .i64 0, .int .i64 0] 71)) w.heap.size 0 0 := by
  refine ⟨?_, ?_, ?_, ?_⟩ <;> simp

theorem walk_all (t : Tm) (v : Value) (B : Nat) (w : World) (hB : B ≤ w.heap.size) (h : t.V w (Lo B) v) :
    ∀ W, Below w.heap.size w W → Wk W w.heap.size 0 0 → Calls Try.prog 32 #[.pointer (some ⟨w.heap.size, 0, none⟩), v, .int .i64 1] W fun e w' => e = .returned (.int .i64 t.all.e) ∧ Wk w' w.heap.size t.all.p t.all.d ∧ Below w.heap.size W w' :=
  fun W hW hk => value_any t.sz t (Nat.le_refl _) w.heap.size v 0 0 1 W hk (t.V_same (Same.of_below hW hB) (Lo.le hB) v h) (by decide) (by decide) (by decide) (by decide)

set_option maxRecDepth 100000 in
set_option maxHeartbeats 400000 in
theorem Check_any (t : Tm) (v : Value) (B : Nat) (w : World) (hB : B ≤ w.heap.size) (h : t.V w (Lo B) v) :
    Calls Try.prog 10 #[v] w fun e w' => e = .returned (.tuple #[.int .i64 t.cAt, .int .i64 t.all.e]) ∧ Below w.heap.size w w' := by
  have HC := fun W a b => walk_all t v B w hB h W a b
  have HC : Hid _ := HC
  have hbd := t.wk_bd 1 0 0 (by decide) (by decide)
  by_cases he : t.all.e ≠ 0
  · have he' := ne_bool he
    have H : Hid (t.cAt = t.all.p - 1) := by show _ = _; unfold Tm.cAt; rw [if_pos he]
    have hp : 0 ≤ t.all.p ∧ t.all.p ≤ 16385 := ⟨hbd.1, hbd.2.1⟩
    clear h hbd he
    go_enter Try.func10, Try.ntmps10
    go_wp2_with (go_at_call 32; refine (HC.out _ ((Below.refl _ _).alloc (Nat.le_refl _) _) (Wk_new w)).mono ?_; rintro e w1 ⟨rfl, hk1, hb1⟩; obtain ⟨c0, c1, f0, f1⟩ := hk1)
    go_ret2
    rw [H.out]
    exact ⟨rfl, ((Below.refl _ _).alloc (Nat.le_refl _) _).trans hb1⟩
  · have he0 : t.all.e = 0 := Decidable.not_not.1 he
    have H : Hid (t.cAt = 0) := by show _ = _; unfold Tm.cAt; rw [if_neg he]
    clear h hbd he
    go_enter Try.func10, Try.ntmps10
    go_wp2_with (go_at_call 32; refine (HC.out _ ((Below.refl _ _).alloc (Nat.le_refl _) _) (Wk_new w)).mono ?_; rintro e w1 ⟨rfl, hk1, hb1⟩)
    go_ret2
    rw [H.out, he0]
    exact ⟨rfl, ((Below.refl _ _).alloc (Nat.le_refl _) _).trans hb1⟩

/-- what kindOf answers at a term's value -/
theorem kindOf_any (t : Tm) (v : Value) (B : Nat → Prop) (w : World) (h : t.V w B v) : KindC v t.kindK := by
  cases t with
  | mk k b i f tx by' rf l fs c vr =>
    simp only [Tm.V] at h
    obtain ⟨h1, h2, h3, h4, h5, h6, h7, h8, h9, h10, h11, h12⟩ := h
    have hk : (Tm.mk k b i f tx by' rf l fs c vr).kindK = if k < 1 ∨ 11 < k then 0 else k := rfl
    rw [hk]
    clear hk
    by_cases k1 : k = 1
    · subst k1; rw [h1 rfl]; exact kindOf_nil
    by_cases k2 : k = 2
    · subst k2; rw [h2 rfl]; exact kindOf_bool _
    by_cases k3 : k = 3
    · subst k3; rw [h3 rfl]; exact kindOf_int _
    by_cases k4 : k = 4
    · subst k4; rw [(h4 rfl).1]; exact kindOf_float _
    by_cases k5 : k = 5
    · subst k5; rw [(h5 rfl).1]; exact kindOf_text _
    by_cases k6 : k = 6
    · subst k6; obtain ⟨a, cap, rfl, _⟩ := h6 rfl; exact kindOf_bytes _
    by_cases k7 : k = 7
    · subst k7; rw [h7 rfl]; exact kindOf_ref _
    by_cases k8 : k = 8
    · subst k8; obtain ⟨a, cap, rfl, _⟩ := h8 rfl; exact kindOf_list _
    by_cases k9 : k = 9
    · subst k9; obtain ⟨a, cap, rfl, _⟩ := h9 rfl; exact kindOf_dict _
    by_cases k10 : k = 10
    · subst k10; obtain ⟨g, a, cap, rfl, _⟩ := h10 rfl; exact kindOf_rec _
    by_cases k11 : k = 11
    · subst k11; rw [h11 rfl]; exact kindOf_nothing
    have hk := k_alien k1 k2 k3 k4 k5 k6 k7 k8 k9 k10 k11
    obtain ⟨T, x, rfl, hT⟩ := h12 hk
    rw [if_pos hk]
    exact fun w => kindOf_alien T x w hT

end Go.Proofs.Ytbaadndogikphaa

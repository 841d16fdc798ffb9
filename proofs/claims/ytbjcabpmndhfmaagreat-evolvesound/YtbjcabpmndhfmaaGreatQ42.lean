/- evolve.isOf, evolve.defaultOf, tenonref08.of. -/
import Derived.Test.YtbjcabpmndhfmaaGreatQ30
import Derived.Test.YtbjcabpmndhfmaaGreatQ19
import Derived.Test.YtbjcabpmndhfmaaGreatQ34
import Derived.Test.YtbjcabpmndhfmaaGreatQ41
namespace Go.Proofs.YtbjcabpmndhfmaaGreat
open Go.RowKit

theorem Sp.isA_yes {v : Tm} {t : Ty} (h : (Sp.isA v t).1 = true) : (Sp.isA v t).2.2 = 0 := by
  unfold Sp.isA at h ⊢
  split
  · rename_i h1; rw [if_pos h1] at h; cases h
  · rename_i h1; rw [if_neg h1] at h
    split
    · rename_i h2; rw [if_pos h2] at h; cases h
    · rfl
set_option maxRecDepth 100000 in
set_option maxHeartbeats 2000000 in
theorem isOf_any (v : Tm) (x : Value) (t : Ty) (cs : Array Value) (w : World) (hv : v.V w (Lo w.heap.size) x) (ht : t.In w (Lo w.heap.size) cs) :
    Calls Tryz.prog 7 #[x, .agg cs] w fun e w' => e = .returned (.bool (Sp.isA v t).1) ∧ Below w.heap.size w w' := by
  obtain ⟨hsz, -⟩ := Ty.In_cells ht
  have hbx : Below w.heap.size w (w.alloc (.cells cs 43)) := (Below.refl _ _).alloc (Nat.le_refl _) _
  have HB : Hid (Below w.heap.size w (w.alloc (.cells cs 43))) := hbx
  have HL : Hid ((loadVar 43 ⟨w.heap.size, 0, none⟩).run Tryz.prog (w.alloc (.cells cs 43)) = .ok (.agg cs) (w.alloc (.cells cs 43))) := yld hsz (heap_alloc_new w _)
  have hs : Same (Lo w.heap.size) w (w.alloc (.cells cs 43)) := Same.of_below hbx (Nat.le_refl _)
  have HI : Hid (Calls Tryz.prog 15 #[x, .agg cs] (w.alloc (.cells cs 43)) fun e w' => e = .returned (.tuple #[.bool (Sp.isA v t).1, .int .i64 (Sp.isA v t).2.1, .int .i64 (Sp.isA v t).2.2]) ∧ Below (w.alloc (.cells cs 43)).heap.size (w.alloc (.cells cs 43)) w') :=
    Is_all v x t cs w.heap.size _ hbx.size (v.V_same hs (fun _ h => h) x hv) (t.In_same hs (fun _ h => h) cs ht)
  have hxs := v.V_shape x hv
  clear hv ht hsz hbx hs
  generalize Sp.isA v t = r at *
  obtain ⟨r1, r2, r3⟩ := r
  rcases hxs with rfl | ⟨T0, y0, rfl⟩
  all_goals
    go_enter Tryz.func7, Tryz.ntmps7
    go_wp2_with ((with_reducible refine ld_row ?_ ?_ HL.out ?_); rfl; rfl)
    refine HI.out.mono ?_
    rintro e w1 ⟨rfl, hb1⟩
    have H1 : Hid (Below w.heap.size w w1) := below_to HB.out hb1
    clear hb1
    go_wp2_with fail
    go_ret
    exact ⟨rfl, H1.out⟩
set_option maxRecDepth 100000 in
set_option maxHeartbeats 2000000 in
theorem defaultOf_any (f : Fo) (cy ct : Array Value) (g q : Nat) (B : Nat → Prop) (w : World) (h : f.At w B cy ct) (hB : Sub B w) (c20 : w.cell? ⟨g, q + 20, none⟩ = some (.bool true)) (hd : (loadVar 38 ⟨g, q + 21, none⟩).run Tryz.prog w = .ok (.agg ct) w) (he : f.df.all.e = 0) :
    Calls Tryz.prog 8 #[.pointer (some ⟨g, q, none⟩)] w fun e w' => ∃ v, e = .returned v ∧ Below w.heap.size w w' ∧ f.df.V w' (Fr w w') v := by
  have HO : Hid (Calls Tryz.prog 16 #[.agg ct] w fun e w' => ∃ v, e = .returned (.tuple #[v, .int .i64 0]) ∧ Below w.heap.size w w' ∧ f.df.V w' (Fr w w') v) := Of_ok f.df ct B w h.df hB he
  have HD : Hid ((loadVar 38 ⟨g, q + 21, none⟩).run Tryz.prog w = .ok (.agg ct) w) := hd
  clear h hB he hd
  go_enter Tryz.func8, Tryz.ntmps8
  go_wp2_with ((with_reducible refine ld_row ?_ ?_ HD.out ?_); rfl; rfl)
  refine HO.out.mono ?_
  rintro e w1 ⟨v, rfl, hb1, hv⟩
  have H1 : Hid (Below w.heap.size w w1 ∧ f.df.V w1 (Fr w w1) v) := ⟨hb1, hv⟩
  have hxs := f.df.V_shape v hv
  clear hb1 hv
  rcases hxs with rfl | ⟨T0, y0, rfl⟩
  all_goals
    go_wp2_with fail
    go_ret
    exact ⟨_, rfl, H1.out⟩
set_option maxRecDepth 100000 in
set_option maxHeartbeats 2000000 in
theorem of_any (v : Tm) (t : Ty) (ct cs : Array Value) (B : Nat → Prop) (w : World) (hv : v.In w B ct) (ht : t.In w B cs) (hB : Sub B w) :
    Calls Tryz.prog 10 #[.agg ct, .agg cs] w fun e w' => e = .returned (.bool (Sp.isA v t).1) ∧ Below w.heap.size w w' := by
  obtain ⟨W2, hW2, hb, hz2, b0, b1⟩ := is_boxes w ct cs
  have HB : Hid (Below w.heap.size w W2) := hb
  have HT : Hid ((loadVar 38 ⟨w.heap.size, 0, none⟩).run Tryz.prog W2 = .ok (.agg ct) W2) := yldT (Tm.In_size hv) (fun x hx => by rw [Nat.zero_add, cell_of_row _ _ _ _ _ _ b0])
  have HS : Hid ((loadVar 43 ⟨w.heap.size + 1, 0, none⟩).run Tryz.prog W2 = .ok (.agg cs) W2) := yld (Ty.In_cells ht).1 b1
  have HI : Hid (Calls Tryz.prog 22 #[.agg ct, .agg cs] W2 fun e w' => e = .returned (.tuple #[.bool (Sp.isA v t).1, .int .i64 (Sp.isA v t).2.1, .int .i64 (Sp.isA v t).2.2]) ∧ Below W2.heap.size W2 w') := refIs_any v t ct cs B W2 (v.In_same (hB.same hb) (fun _ h => h) ct hv) (t.In_same (hB.same hb) (fun _ h => h) cs ht) (hB.later hb)
  have hy : (Sp.isA v t).1 = true → (Sp.isA v t).2.2 = 0 := Sp.isA_yes
  clear hv ht hB hb hz2 b0 b1
  generalize Sp.isA v t = r at *
  obtain ⟨r1, r2, r3⟩ := r
  cases r1 with
  | false =>
    clear hy
    go_enter Tryz.func10, Tryz.ntmps10
    go_wp2_with (first | ((with_reducible refine ld_row ?_ ?_ HT.out ?_); rfl; rfl) | ((with_reducible refine ld_row ?_ ?_ HS.out ?_); rfl; rfl))
    refine HI.out.mono ?_
    rintro e w1 ⟨rfl, hb1⟩
    have H1 : Hid (Below w.heap.size w w1) := below_to HB.out hb1
    clear hb1
    go_wp2_with fail
    go_ret
    exact ⟨rfl, H1.out⟩
  | true =>
    have h3 : r3 = 0 := hy rfl
    subst h3
    clear hy
    go_enter Tryz.func10, Tryz.ntmps10
    go_wp2_with (first | ((with_reducible refine ld_row ?_ ?_ HT.out ?_); rfl; rfl) | ((with_reducible refine ld_row ?_ ?_ HS.out ?_); rfl; rfl))
    refine HI.out.mono ?_
    rintro e w1 ⟨rfl, hb1⟩
    have H1 : Hid (Below w.heap.size w w1) := below_to HB.out hb1
    clear hb1
    go_wp2_with fail
    go_ret
    exact ⟨rfl, H1.out⟩
/-- what is known of each field of a class with which nothing is wrong -/
theorem Sp.fsR_zero : (l : List Fo) → ∀ ah, Sp.fsR ah l = 0 → ∀ f ∈ l, f.ty.can = true ∧ (f.has = true → f.df.all.e = 0)
  | [], _, _, f, h => by cases h
  | x :: l, ah, h, f, hf => by
    simp only [Sp.fsR] at h
    by_cases h0 : Sp.fR x ah ≠ 0
    · rw [if_pos h0] at h; exact absurd h h0
    rw [if_neg h0] at h
    have h0 := Decidable.not_not.1 h0
    rcases List.mem_cons.1 hf with rfl | hf
    · unfold Sp.fR at h0
      split at h0
      · cases h0
      · split at h0
        · cases h0
        · rename_i hc
          refine ⟨by simpa using hc, fun hh => ?_⟩
          rw [if_neg (by rw [hh]; decide)] at h0; exact h0
    · exact Sp.fsR_zero l _ h f hf
theorem Sp.clR_zero {c : Cl} (h : Sp.clR c = 0) : ∀ f ∈ c.fs, f.ty.can = true ∧ (f.has = true → f.df.all.e = 0) := by
  unfold Sp.clR at h
  by_cases h0 : Sp.hdR c ≠ 0
  · rw [if_pos h0] at h; exact absurd h h0
  · rw [if_neg h0] at h; exact Sp.fsR_zero _ _ h
end Go.Proofs.YtbjcabpmndhfmaaGreat


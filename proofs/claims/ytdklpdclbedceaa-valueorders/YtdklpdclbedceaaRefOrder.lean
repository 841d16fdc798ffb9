/- The document's own Order and Same of two terms (tenonref01.Order, tenonref01.Same). -/
import Derived.Test.YtdklpdclbedceaaRCmp3
import Derived.Test.YtdklpdclbedceaaTwo
namespace Go.Proofs.Ytdklpdclbedceaa
open Go.RowKit

set_option maxRecDepth 100000 in
set_option maxHeartbeats 2000000 in
theorem refOrder_any (s t : Tm) (cs ct : Array Value) (B : Nat → Prop) (w : World) (hs : s.In w B cs) (ht : t.In w B ct) (hB : Sub B w) :
    Calls Try.prog 19 #[.agg cs, .agg ct] w fun e w' => e = .returned (.tuple #[.int .i64 (s.ordN t), .int .i64 (s.ordE t)]) ∧ Below w.heap.size w w' := by
  have HRs : Hid (∀ W, Below w.heap.size w W → Calls Try.prog 12 #[.agg cs] W fun e w' => e = .returned (.tuple #[.int .i64 s.cAt, .int .i64 s.all.e]) ∧ Below W.heap.size W w') := fun W hW =>
    refCheck_any s cs B W (s.In_same (hB.same hW) (fun _ h => h) cs hs) (hB.later hW)
  have HRt : Hid (∀ W, Below w.heap.size w W → Calls Try.prog 12 #[.agg ct] W fun e w' => e = .returned (.tuple #[.int .i64 t.cAt, .int .i64 t.all.e]) ∧ Below W.heap.size W w') := fun W hW =>
    refCheck_any t ct B W (t.In_same (hB.same hW) (fun _ h => h) ct ht) (hB.later hW)
  have HCm : Hid (s.Ok → t.Ok → ∀ W, Below w.heap.size w W → Calls Try.prog 43 #[.agg cs, .agg ct] W fun e w' => e = .returned (.int .i64 (s.cmp t)) ∧ Below W.heap.size W w') := fun os ot W hW =>
    compare_any s.sz s t (Nat.le_refl _) cs ct B W (s.In_same (hB.same hW) (fun _ h => h) cs hs) (t.In_same (hB.same hW) (fun _ h => h) ct ht) (hB.later hW) os ot
  obtain ⟨b1, i1, f1, tx1, vb1, rf1, vl1, vf1, c1, vr1, rfl⟩ := Tm.In_box hs
  obtain ⟨b2, i2, f2, tx2, vb2, rf2, vl2, vf2, c2, vr2, rfl⟩ := Tm.In_box ht
  clear hs ht
  have H0 : Hid (Below w.heap.size w (two w (tcells s.kind b1 i1 f1 tx1 vb1 rf1 vl1 vf1 c1 vr1) (tcells t.kind b2 i2 f2 tx2 vb2 rf2 vl2 vf2 c2 vr2))) := two_bel _ _ _
  have HS : Hid (∀ W, Below (two w (tcells s.kind b1 i1 f1 tx1 vb1 rf1 vl1 vf1 c1 vr1) (tcells t.kind b2 i2 f2 tx2 vb2 rf2 vl2 vf2 c2 vr2)).heap.size (two w (tcells s.kind b1 i1 f1 tx1 vb1 rf1 vl1 vf1 c1 vr1) (tcells t.kind b2 i2 f2 tx2 vb2 rf2 vl2 vf2 c2 vr2)) W → W.cell? ⟨w.heap.size, 0, none⟩ = some (.int .i64 s.kind) ∧ W.cell? ⟨w.heap.size, 1, none⟩ = some (.bool b1) ∧ W.cell? ⟨w.heap.size, 2, none⟩ = some (.int .i64 i1) ∧ W.cell? ⟨w.heap.size, 3, none⟩ = some (.float .f64 f1) ∧ W.cell? ⟨w.heap.size, 4, none⟩ = some (.string tx1) ∧ W.cell? ⟨w.heap.size, 5, none⟩ = some (vb1) ∧ W.cell? ⟨w.heap.size, 6, none⟩ = some (.int .u64 rf1) ∧ W.cell? ⟨w.heap.size, 7, none⟩ = some (vl1) ∧ W.cell? ⟨w.heap.size, 8, none⟩ = some (vf1) ∧ W.cell? ⟨w.heap.size, 9, none⟩ = some (.string c1) ∧ W.cell? ⟨w.heap.size, 10, none⟩ = some (.int .i64 vr1) ∧ W.cell? ⟨w.heap.size + 1, 0, none⟩ = some (.int .i64 t.kind) ∧ W.cell? ⟨w.heap.size + 1, 1, none⟩ = some (.bool b2) ∧ W.cell? ⟨w.heap.size + 1, 2, none⟩ = some (.int .i64 i2) ∧ W.cell? ⟨w.heap.size + 1, 3, none⟩ = some (.float .f64 f2) ∧ W.cell? ⟨w.heap.size + 1, 4, none⟩ = some (.string tx2) ∧ W.cell? ⟨w.heap.size + 1, 5, none⟩ = some (vb2) ∧ W.cell? ⟨w.heap.size + 1, 6, none⟩ = some (.int .u64 rf2) ∧ W.cell? ⟨w.heap.size + 1, 7, none⟩ = some (vl2) ∧ W.cell? ⟨w.heap.size + 1, 8, none⟩ = some (vf2) ∧ W.cell? ⟨w.heap.size + 1, 9, none⟩ = some (.string c2) ∧ W.cell? ⟨w.heap.size + 1, 10, none⟩ = some (.int .i64 vr2)) := fun W hW => by
    have h : Tbx W w.heap.size s.kind b1 i1 f1 tx1 vb1 rf1 vl1 vf1 c1 vr1 ∧ Tbx W (w.heap.size + 1) t.kind b2 i2 f2 tx2 vb2 rf2 vl2 vf2 c2 vr2 := ⟨bx_of (two_a hW), bx_of (two_b hW)⟩
    simp only [Tbx, and_assoc] at h
    exact h
  unfold tcells at HRs HRt HCm ⊢
  by_cases h1 : s.all.e ≠ 0
  · have h1' := ne_bool h1
    have H : Hid (s.ordN t = 0 ∧ s.ordE t = s.all.e) := by show _ ∧ _; unfold Tm.ordN Tm.ordE; rw [if_pos (.inl h1), if_pos h1]; exact ⟨rfl, rfl⟩
    clear h1
    go_enter Try.func19, Try.ntmps19
    go_wp2_with fail
    refine (HRs.out _ H0.out).mono ?_
    rintro e w1 ⟨rfl, hb1⟩
    go_wp2_with fail
    go_ret2
    rw [H.out.1, H.out.2]
    exact ⟨rfl, below_to H0.out hb1⟩
  · have h10 : s.all.e = 0 := Decidable.not_not.1 h1
    by_cases h2 : t.all.e ≠ 0
    · have h2' := ne_bool h2
      have H : Hid (s.ordN t = 0 ∧ s.ordE t = t.all.e) := by show _ ∧ _; unfold Tm.ordN Tm.ordE; rw [if_pos (.inr h2), if_neg h1]; exact ⟨rfl, rfl⟩
      clear h1 h2
      go_enter Try.func19, Try.ntmps19
      go_wp2_with fail
      refine (HRs.out _ H0.out).mono ?_
      rintro e w1 ⟨rfl, hb1⟩
      have HB1 : Hid (Below (two w (tcells s.kind b1 i1 f1 tx1 vb1 rf1 vl1 vf1 c1 vr1) (tcells t.kind b2 i2 f2 tx2 vb2 rf2 vl2 vf2 c2 vr2)).heap.size (two w (tcells s.kind b1 i1 f1 tx1 vb1 rf1 vl1 vf1 c1 vr1) (tcells t.kind b2 i2 f2 tx2 vb2 rf2 vl2 vf2 c2 vr2)) w1) := hb1
      obtain ⟨z0, z1, z2, z3, z4, z5, z6, z7, z8, z9, z10, z11, z12, z13, z14, z15, z16, z17, z18, z19, z20, z21⟩ := HS.out _ hb1
      clear hb1
      go_wp2_with fail
      refine (HRt.out _ (below_to H0.out HB1.out)).mono ?_
      rintro e w2 ⟨rfl, hb2⟩
      have HB2 : Hid (Below w1.heap.size w1 w2) := hb2
      clear hb2 z0 z1 z2 z3 z4 z5 z6 z7 z8 z9 z10 z11 z12 z13 z14 z15 z16 z17 z18 z19 z20 z21
      go_wp2_with fail
      go_ret2
      rw [H.out.1, H.out.2]
      exact ⟨rfl, below_to H0.out (below_to HB1.out HB2.out)⟩
    · have h20 : t.all.e = 0 := Decidable.not_not.1 h2
      have H : Hid (s.ordN t = s.cmp t ∧ s.ordE t = 0) := by show _ ∧ _; unfold Tm.ordN Tm.ordE; rw [if_neg (by omega), if_neg h1]; exact ⟨rfl, h20⟩
      have HOk : Hid (s.Ok ∧ t.Ok) := ⟨Tm.ok_all h10, Tm.ok_all h20⟩
      clear h1 h2
      go_enter Try.func19, Try.ntmps19
      go_wp2_with fail
      refine (HRs.out _ H0.out).mono ?_
      rintro e w1 ⟨rfl, hb1⟩
      have HB1 : Hid (Below (two w (tcells s.kind b1 i1 f1 tx1 vb1 rf1 vl1 vf1 c1 vr1) (tcells t.kind b2 i2 f2 tx2 vb2 rf2 vl2 vf2 c2 vr2)).heap.size (two w (tcells s.kind b1 i1 f1 tx1 vb1 rf1 vl1 vf1 c1 vr1) (tcells t.kind b2 i2 f2 tx2 vb2 rf2 vl2 vf2 c2 vr2)) w1) := hb1
      obtain ⟨z0, z1, z2, z3, z4, z5, z6, z7, z8, z9, z10, z11, z12, z13, z14, z15, z16, z17, z18, z19, z20, z21⟩ := HS.out _ hb1
      clear hb1
      go_wp2_with fail
      refine (HRt.out _ (below_to H0.out HB1.out)).mono ?_
      rintro e w2 ⟨rfl, hb2⟩
      have HB2 : Hid (Below (two w (tcells s.kind b1 i1 f1 tx1 vb1 rf1 vl1 vf1 c1 vr1) (tcells t.kind b2 i2 f2 tx2 vb2 rf2 vl2 vf2 c2 vr2)).heap.size (two w (tcells s.kind b1 i1 f1 tx1 vb1 rf1 vl1 vf1 c1 vr1) (tcells t.kind b2 i2 f2 tx2 vb2 rf2 vl2 vf2 c2 vr2)) w2) := below_to HB1.out hb2
      clear z0 z1 z2 z3 z4 z5 z6 z7 z8 z9 z10 z11 z12 z13 z14 z15 z16 z17 z18 z19 z20 z21
      obtain ⟨z0, z1, z2, z3, z4, z5, z6, z7, z8, z9, z10, z11, z12, z13, z14, z15, z16, z17, z18, z19, z20, z21⟩ := HS.out _ HB2.out
      clear hb2
      go_wp2_with fail
      refine (HCm.out HOk.out.1 HOk.out.2 _ (below_to H0.out HB2.out)).mono ?_
      rintro e w3 ⟨rfl, hb3⟩
      have HB3 : Hid (Below (two w (tcells s.kind b1 i1 f1 tx1 vb1 rf1 vl1 vf1 c1 vr1) (tcells t.kind b2 i2 f2 tx2 vb2 rf2 vl2 vf2 c2 vr2)).heap.size (two w (tcells s.kind b1 i1 f1 tx1 vb1 rf1 vl1 vf1 c1 vr1) (tcells t.kind b2 i2 f2 tx2 vb2 rf2 vl2 vf2 c2 vr2)) w3) := below_to HB2.out hb3
      clear hb3 z0 z1 z2 z3 z4 z5 z6 z7 z8 z9 z10 z11 z12 z13 z14 z15 z16 z17 z18 z19 z20 z21
      go_wp2_with fail
      go_ret2
      rw [H.out.1, H.out.2]
      exact ⟨rfl, below_to H0.out HB3.out⟩

theorem sameB_ord (s t : Tm) : (s.ordE t ≠ 0 ∧ s.sameB t = false) ∨ (s.ordE t = 0 ∧ s.sameB t = decide (s.ordN t = 0)) := by
  by_cases h : s.ordE t = 0
  · right
    have g := ok_both h
    refine ⟨h, ?_⟩
    rw [(same_ok g).2]; unfold Tm.sameB; simp [g.1, g.2]
  · left
    refine ⟨h, ?_⟩
    have := same_err h
    unfold Tm.sameB; simp only [decide_eq_false_iff_not]; intro g; exact this ⟨g.1, g.2.1⟩

set_option maxRecDepth 100000 in
set_option maxHeartbeats 2000000 in
theorem refSame_any (s t : Tm) (cs ct : Array Value) (B : Nat → Prop) (w : World) (hs : s.In w B cs) (ht : t.In w B ct) (hB : Sub B w) :
    Calls Try.prog 21 #[.agg cs, .agg ct] w fun e w' => e = .returned (.bool (s.sameB t)) ∧ Below w.heap.size w w' := by
  have HO : Hid (∀ W, Below w.heap.size w W → Calls Try.prog 19 #[.agg cs, .agg ct] W fun e w' => e = .returned (.tuple #[.int .i64 (s.ordN t), .int .i64 (s.ordE t)]) ∧ Below W.heap.size W w') := fun W hW =>
    refOrder_any s t cs ct B W (s.In_same (hB.same hW) (fun _ h => h) cs hs) (t.In_same (hB.same hW) (fun _ h => h) ct ht) (hB.later hW)
  obtain ⟨b1, i1, f1, tx1, vb1, rf1, vl1, vf1, c1, vr1, rfl⟩ := Tm.In_box hs
  obtain ⟨b2, i2, f2, tx2, vb2, rf2, vl2, vf2, c2, vr2, rfl⟩ := Tm.In_box ht
  clear hs ht
  have H0 : Hid (Below w.heap.size w (two w (tcells s.kind b1 i1 f1 tx1 vb1 rf1 vl1 vf1 c1 vr1) (tcells t.kind b2 i2 f2 tx2 vb2 rf2 vl2 vf2 c2 vr2))) := two_bel _ _ _
  unfold tcells at HO ⊢
  rcases sameB_ord s t with ⟨h, H⟩ | ⟨h, H⟩
  · have h' : (s.ordE t == 0) = false := by simp [h]
    have H : Hid _ := H
    clear h
    go_enter Try.func21, Try.ntmps21
    go_wp2_with fail
    refine (HO.out _ H0.out).mono ?_
    rintro e w1 ⟨rfl, hb1⟩
    go_wp2_with fail
    go_ret
    exact ⟨by rw [H.out]; rfl, below_to H0.out hb1⟩
  · have H : Hid _ := H
    go_enter Try.func21, Try.ntmps21
    go_wp2_with fail
    refine (HO.out _ H0.out).mono ?_
    rintro e w1 ⟨rfl, hb1⟩
    go_wp2_with fail
    go_ret
    exact ⟨by rw [H.out]; rfl, below_to H0.out hb1⟩
end Go.Proofs.Ytdklpdclbedceaa

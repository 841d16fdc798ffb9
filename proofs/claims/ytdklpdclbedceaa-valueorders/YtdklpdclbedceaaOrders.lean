/- tenonlaw01.ValueOrders answers true at every two terms that lie in memory. -/
import Derived.Test.YtdklpdclbedceaaRefOrder
import Derived.Test.YtdklpdclbedceaaBuilt2
import Derived.Deep.RegionHeld3
namespace Go.Proofs.Ytdklpdclbedceaa
open Go.RowKit

def one1 : Tm := .mk 3 false 1 0 ByteArray.empty ByteArray.empty 0 .nil .nil ByteArray.empty 0
theorem one1_V (w : World) (B : Nat → Prop) : one1.V w B (.iface 2 (.int .i64 1)) := by simp [one1, Tm.V]
theorem one1_same : one1.sameB one1 = true := by
  have h : one1.all.e = 0 := by rfl
  have h2 : one1.cmp one1 = 0 := by rfl
  unfold Tm.sameB; simp [h, h2]

set_option maxRecDepth 100000 in
set_option maxHeartbeats 4000000 in
theorem ValueOrders_any (s t : Tm) (cs ct : Array Value) (B : Nat → Prop) (w : World) (hs : s.In w B cs) (ht : t.In w B ct) (hB : Sub B w) :
    Calls Try.prog 4 #[.agg cs, .agg ct] w fun e w' => e = .returned (.bool true) ∧ Below w.heap.size w w' := by
  have HBs : Hid (∀ W, Below w.heap.size w W → Calls Try.prog 11 #[.agg cs] W fun e w' => ∃ v, e = .returned v ∧ Below W.heap.size W w' ∧ s.V w' (Fr W w') v) := fun W hW =>
    built_any s.sz s (Nat.le_refl _) cs B W (s.In_same (hB.same hW) (fun _ h => h) cs hs) (hB.later hW)
  have HBt : Hid (∀ W, Below w.heap.size w W → Calls Try.prog 11 #[.agg ct] W fun e w' => ∃ v, e = .returned v ∧ Below W.heap.size W w' ∧ t.V w' (Fr W w') v) := fun W hW =>
    built_any t.sz t (Nat.le_refl _) ct B W (t.In_same (hB.same hW) (fun _ h => h) ct ht) (hB.later hW)
  have HRst : Hid (∀ W, Below w.heap.size w W → Calls Try.prog 19 #[.agg cs, .agg ct] W fun e w' => e = .returned (.tuple #[.int .i64 (s.ordN t), .int .i64 (s.ordE t)]) ∧ Below W.heap.size W w') := fun W hW =>
    refOrder_any s t cs ct B W (s.In_same (hB.same hW) (fun _ h => h) cs hs) (t.In_same (hB.same hW) (fun _ h => h) ct ht) (hB.later hW)
  have HRts : Hid (∀ W, Below w.heap.size w W → Calls Try.prog 19 #[.agg ct, .agg cs] W fun e w' => e = .returned (.tuple #[.int .i64 (t.ordN s), .int .i64 (t.ordE s)]) ∧ Below W.heap.size W w') := fun W hW =>
    refOrder_any t s ct cs B W (t.In_same (hB.same hW) (fun _ h => h) ct ht) (s.In_same (hB.same hW) (fun _ h => h) cs hs) (hB.later hW)
  have HSst : Hid (∀ W, Below w.heap.size w W → Calls Try.prog 21 #[.agg cs, .agg ct] W fun e w' => e = .returned (.bool (s.sameB t)) ∧ Below W.heap.size W w') := fun W hW =>
    refSame_any s t cs ct B W (s.In_same (hB.same hW) (fun _ h => h) cs hs) (t.In_same (hB.same hW) (fun _ h => h) ct ht) (hB.later hW)
  have HSss : Hid (∀ W, Below w.heap.size w W → Calls Try.prog 21 #[.agg cs, .agg cs] W fun e w' => e = .returned (.bool (s.sameB s)) ∧ Below W.heap.size W w') := fun W hW =>
    refSame_any s s cs cs B W (s.In_same (hB.same hW) (fun _ h => h) cs hs) (s.In_same (hB.same hW) (fun _ h => h) cs hs) (hB.later hW)
  obtain ⟨b1, i1, f1, tx1, vb1, rf1, vl1, vf1, c1, vr1, rfl⟩ := Tm.In_box hs
  obtain ⟨b2, i2, f2, tx2, vb2, rf2, vl2, vf2, c2, vr2, rfl⟩ := Tm.In_box ht
  clear hs ht
  have H0 : Hid (Below w.heap.size w (two w (tcells s.kind b1 i1 f1 tx1 vb1 rf1 vl1 vf1 c1 vr1) (tcells t.kind b2 i2 f2 tx2 vb2 rf2 vl2 vf2 c2 vr2))) := two_bel _ _ _
  have HS : Hid (∀ W, Below (two w (tcells s.kind b1 i1 f1 tx1 vb1 rf1 vl1 vf1 c1 vr1) (tcells t.kind b2 i2 f2 tx2 vb2 rf2 vl2 vf2 c2 vr2)).heap.size (two w (tcells s.kind b1 i1 f1 tx1 vb1 rf1 vl1 vf1 c1 vr1) (tcells t.kind b2 i2 f2 tx2 vb2 rf2 vl2 vf2 c2 vr2)) W → W.cell? ⟨w.heap.size, 0, none⟩ = some (.int .i64 s.kind) ∧ W.cell? ⟨w.heap.size, 1, none⟩ = some (.bool b1) ∧ W.cell? ⟨w.heap.size, 2, none⟩ = some (.int .i64 i1) ∧ W.cell? ⟨w.heap.size, 3, none⟩ = some (.float .f64 f1) ∧ W.cell? ⟨w.heap.size, 4, none⟩ = some (.string tx1) ∧ W.cell? ⟨w.heap.size, 5, none⟩ = some (vb1) ∧ W.cell? ⟨w.heap.size, 6, none⟩ = some (.int .u64 rf1) ∧ W.cell? ⟨w.heap.size, 7, none⟩ = some (vl1) ∧ W.cell? ⟨w.heap.size, 8, none⟩ = some (vf1) ∧ W.cell? ⟨w.heap.size, 9, none⟩ = some (.string c1) ∧ W.cell? ⟨w.heap.size, 10, none⟩ = some (.int .i64 vr1) ∧ W.cell? ⟨w.heap.size + 1, 0, none⟩ = some (.int .i64 t.kind) ∧ W.cell? ⟨w.heap.size + 1, 1, none⟩ = some (.bool b2) ∧ W.cell? ⟨w.heap.size + 1, 2, none⟩ = some (.int .i64 i2) ∧ W.cell? ⟨w.heap.size + 1, 3, none⟩ = some (.float .f64 f2) ∧ W.cell? ⟨w.heap.size + 1, 4, none⟩ = some (.string tx2) ∧ W.cell? ⟨w.heap.size + 1, 5, none⟩ = some (vb2) ∧ W.cell? ⟨w.heap.size + 1, 6, none⟩ = some (.int .u64 rf2) ∧ W.cell? ⟨w.heap.size + 1, 7, none⟩ = some (vl2) ∧ W.cell? ⟨w.heap.size + 1, 8, none⟩ = some (vf2) ∧ W.cell? ⟨w.heap.size + 1, 9, none⟩ = some (.string c2) ∧ W.cell? ⟨w.heap.size + 1, 10, none⟩ = some (.int .i64 vr2)) := fun W hW => by
    have h : Tbx W w.heap.size s.kind b1 i1 f1 tx1 vb1 rf1 vl1 vf1 c1 vr1 ∧ Tbx W (w.heap.size + 1) t.kind b2 i2 f2 tx2 vb2 rf2 vl2 vf2 c2 vr2 := ⟨bx_of (two_a hW), bx_of (two_b hW)⟩
    simp only [Tbx, and_assoc] at h
    exact h
  unfold tcells at HBs HBt HRst HRts HSst HSss ⊢
  go_enter Try.func4, Try.ntmps4
  go_wp2_with fail
  go_region_held3 (fun W => W.cell? ⟨w.heap.size, 0, none⟩ = some (.int .i64 s.kind) ∧ W.cell? ⟨w.heap.size, 1, none⟩ = some (.bool b1) ∧ W.cell? ⟨w.heap.size, 2, none⟩ = some (.int .i64 i1) ∧ W.cell? ⟨w.heap.size, 3, none⟩ = some (.float .f64 f1) ∧ W.cell? ⟨w.heap.size, 4, none⟩ = some (.string tx1) ∧ W.cell? ⟨w.heap.size, 5, none⟩ = some (vb1) ∧ W.cell? ⟨w.heap.size, 6, none⟩ = some (.int .u64 rf1) ∧ W.cell? ⟨w.heap.size, 7, none⟩ = some (vl1) ∧ W.cell? ⟨w.heap.size, 8, none⟩ = some (vf1) ∧ W.cell? ⟨w.heap.size, 9, none⟩ = some (.string c1) ∧ W.cell? ⟨w.heap.size, 10, none⟩ = some (.int .i64 vr1) ∧ W.cell? ⟨w.heap.size + 1, 0, none⟩ = some (.int .i64 t.kind) ∧ W.cell? ⟨w.heap.size + 1, 1, none⟩ = some (.bool b2) ∧ W.cell? ⟨w.heap.size + 1, 2, none⟩ = some (.int .i64 i2) ∧ W.cell? ⟨w.heap.size + 1, 3, none⟩ = some (.float .f64 f2) ∧ W.cell? ⟨w.heap.size + 1, 4, none⟩ = some (.string tx2) ∧ W.cell? ⟨w.heap.size + 1, 5, none⟩ = some (vb2) ∧ W.cell? ⟨w.heap.size + 1, 6, none⟩ = some (.int .u64 rf2) ∧ W.cell? ⟨w.heap.size + 1, 7, none⟩ = some (vl2) ∧ W.cell? ⟨w.heap.size + 1, 8, none⟩ = some (vf2) ∧ W.cell? ⟨w.heap.size + 1, 9, none⟩ = some (.string c2) ∧ W.cell? ⟨w.heap.size + 1, 10, none⟩ = some (.int .i64 vr2))
    (first | exact HS.out _ (Below.refl _ _) | exact HS.out _ (Below.refl _ _).drew | exact HS.out _ HB1.out | exact HS.out _ HB2.out)
    ((first
      | (go_at_call_of 11 vl1; refine (HBs.out _ ?_).mono ?_; exact H0.out.drew; rintro e w1 ⟨v1, rfl, hb1, hv1⟩; have HB1 : Hid (Below (two w (tcells s.kind b1 i1 f1 tx1 vb1 rf1 vl1 vf1 c1 vr1) (tcells t.kind b2 i2 f2 tx2 vb2 rf2 vl2 vf2 c2 vr2)).heap.size (two w (tcells s.kind b1 i1 f1 tx1 vb1 rf1 vl1 vf1 c1 vr1) (tcells t.kind b2 i2 f2 tx2 vb2 rf2 vl2 vf2 c2 vr2)) w1) := below_to (Below.refl _ _).drew hb1; have HV1 : Hid (∀ W, Below w1.heap.size w1 W → s.V W (Lo w1.heap.size) v1) := fun W hW => s.V_same (fun k hk => hW.block k hk.2) (fun k hk => hk.2) v1 hv1; clear hb1 hv1)
      | (go_at_call_of 11 vl2; refine (HBt.out _ ?_).mono ?_; exact below_to H0.out HB1.out; rintro e w2 ⟨v2, rfl, hb2, hv2⟩; have HC2 : Hid (Below w1.heap.size w1 w2) := hb2; have HB2 : Hid (Below (two w (tcells s.kind b1 i1 f1 tx1 vb1 rf1 vl1 vf1 c1 vr1) (tcells t.kind b2 i2 f2 tx2 vb2 rf2 vl2 vf2 c2 vr2)).heap.size (two w (tcells s.kind b1 i1 f1 tx1 vb1 rf1 vl1 vf1 c1 vr1) (tcells t.kind b2 i2 f2 tx2 vb2 rf2 vl2 vf2 c2 vr2)) w2) := below_to HB1.out hb2; have HV2 : Hid (∀ W, Below w2.heap.size w2 W → t.V W (Lo w2.heap.size) v2) := fun W hW => t.V_same (fun k hk => hW.block k hk.2) (fun k hk => hk.2) v2 hv2; clear hb2 hv2)))
  have HV : Hid (∀ W, Below w2.heap.size w2 W → s.V W (Lo w2.heap.size) v1 ∧ t.V W (Lo w2.heap.size) v2 ∧ w2.heap.size ≤ W.heap.size) := fun W hW =>
    ⟨s.V_same (Same.refl _ W) (Lo.le HC2.out.size) v1 (HV1.out W (below_to HC2.out hW)), HV2.out W hW, hW.size⟩
  have HG : Hid (∀ W, Below w2.heap.size w2 W → Below w.heap.size w W ∧ (Below (two w (tcells s.kind b1 i1 f1 tx1 vb1 rf1 vl1 vf1 c1 vr1) (tcells t.kind b2 i2 f2 tx2 vb2 rf2 vl2 vf2 c2 vr2)).heap.size (two w (tcells s.kind b1 i1 f1 tx1 vb1 rf1 vl1 vf1 c1 vr1) (tcells t.kind b2 i2 f2 tx2 vb2 rf2 vl2 vf2 c2 vr2)) W)) := fun W hW => ⟨below_to H0.out (below_to HB2.out hW), below_to HB2.out hW⟩
  clear HV1 HV2 HC2 HB1 HBs HBt hB H0
  have HST : Hid (∀ W, Below w2.heap.size w2 W → Calls Try.prog 18 #[v1, v2] W fun e w' => e = .returned (.tuple #[.int .i64 (s.ordN t), .int .i64 (s.ordE t)]) ∧ Below W.heap.size W w') := fun W hW =>
    Order_any s t v1 v2 w2.heap.size W (HV.out W hW).2.2 (HV.out W hW).1 (HV.out W hW).2.1
  have HTS : Hid (∀ W, Below w2.heap.size w2 W → Calls Try.prog 18 #[v2, v1] W fun e w' => e = .returned (.tuple #[.int .i64 (t.ordN s), .int .i64 (t.ordE s)]) ∧ Below W.heap.size W w') := fun W hW =>
    Order_any t s v2 v1 w2.heap.size W (HV.out W hW).2.2 (HV.out W hW).2.1 (HV.out W hW).1
  have HSA : Hid (∀ W, Below w2.heap.size w2 W → Calls Try.prog 20 #[v1, v2] W fun e w' => e = .returned (.bool (s.sameB t)) ∧ Below W.heap.size W w') := fun W hW =>
    Same_any s t v1 v2 w2.heap.size W (HV.out W hW).2.2 (HV.out W hW).1 (HV.out W hW).2.1
  have HSS : Hid (∀ W, Below w2.heap.size w2 W → Calls Try.prog 20 #[v1, v1] W fun e w' => e = .returned (.bool (s.sameB s)) ∧ Below W.heap.size W w') := fun W hW =>
    Same_any s s v1 v1 w2.heap.size W (HV.out W hW).2.2 (HV.out W hW).1 (HV.out W hW).1
  have H11 : Hid (∀ W, Calls Try.prog 20 #[.iface 2 (.int .i64 1), .iface 2 (.int .i64 1)] W fun e w' => e = .returned (.bool true) ∧ Below W.heap.size W w') := fun W => by
    have := Same_any one1 one1 _ _ 0 W (Nat.zero_le _) (one1_V W _) (one1_V W _)
    rw [one1_same] at this; exact this
  clear HV
  generalize s.ordN t = ab at HST HRst
  generalize s.ordE t = e1 at HST HRst
  generalize t.ordN s = ba at HTS HRts
  generalize t.ordE s = e2 at HTS HRts
  generalize s.sameB t = same at HSA HSst
  generalize s.sameB s = self at HSS HSss
  go_wp2_with fail
  refine (HST.out _ (Below.refl _ _)).mono ?_
  rintro e w3 ⟨rfl, hb3⟩
  have HB3 : Hid (Below w2.heap.size w2 w3) := hb3
  clear hb3
  obtain ⟨z0, z1, z2, z3, z4, z5, z6, z7, z8, z9, z10, z11, z12, z13, z14, z15, z16, z17, z18, z19, z20, z21⟩ := HS.out _ (HG.out _ HB3.out).2
  go_wp2_with fail
  refine (HRst.out _ (HG.out _ HB3.out).1).mono ?_
  rintro e w4 ⟨rfl, hb4⟩
  have HB4 : Hid (Below w2.heap.size w2 w4) := below_to HB3.out hb4
  clear hb4 z0 z1 z2 z3 z4 z5 z6 z7 z8 z9 z10 z11 z12 z13 z14 z15 z16 z17 z18 z19 z20 z21
  go_wp2_with fail
  refine (HTS.out _ HB4.out).mono ?_
  rintro e w5 ⟨rfl, hb5⟩
  have HB5 : Hid (Below w2.heap.size w2 w5) := below_to HB4.out hb5
  clear hb5
  obtain ⟨z0, z1, z2, z3, z4, z5, z6, z7, z8, z9, z10, z11, z12, z13, z14, z15, z16, z17, z18, z19, z20, z21⟩ := HS.out _ (HG.out _ HB5.out).2
  go_wp2_with fail
  refine (HRts.out _ (HG.out _ HB5.out).1).mono ?_
  rintro e w6 ⟨rfl, hb6⟩
  have HB6 : Hid (Below w2.heap.size w2 w6) := below_to HB5.out hb6
  clear hb6 z0 z1 z2 z3 z4 z5 z6 z7 z8 z9 z10 z11 z12 z13 z14 z15 z16 z17 z18 z19 z20 z21
  go_wp2_with fail
  go_region_held3 (fun W => W.cell? ⟨w.heap.size, 0, none⟩ = some (.int .i64 s.kind) ∧ W.cell? ⟨w.heap.size, 1, none⟩ = some (.bool b1) ∧ W.cell? ⟨w.heap.size, 2, none⟩ = some (.int .i64 i1) ∧ W.cell? ⟨w.heap.size, 3, none⟩ = some (.float .f64 f1) ∧ W.cell? ⟨w.heap.size, 4, none⟩ = some (.string tx1) ∧ W.cell? ⟨w.heap.size, 5, none⟩ = some (vb1) ∧ W.cell? ⟨w.heap.size, 6, none⟩ = some (.int .u64 rf1) ∧ W.cell? ⟨w.heap.size, 7, none⟩ = some (vl1) ∧ W.cell? ⟨w.heap.size, 8, none⟩ = some (vf1) ∧ W.cell? ⟨w.heap.size, 9, none⟩ = some (.string c1) ∧ W.cell? ⟨w.heap.size, 10, none⟩ = some (.int .i64 vr1) ∧ W.cell? ⟨w.heap.size + 1, 0, none⟩ = some (.int .i64 t.kind) ∧ W.cell? ⟨w.heap.size + 1, 1, none⟩ = some (.bool b2) ∧ W.cell? ⟨w.heap.size + 1, 2, none⟩ = some (.int .i64 i2) ∧ W.cell? ⟨w.heap.size + 1, 3, none⟩ = some (.float .f64 f2) ∧ W.cell? ⟨w.heap.size + 1, 4, none⟩ = some (.string tx2) ∧ W.cell? ⟨w.heap.size + 1, 5, none⟩ = some (vb2) ∧ W.cell? ⟨w.heap.size + 1, 6, none⟩ = some (.int .u64 rf2) ∧ W.cell? ⟨w.heap.size + 1, 7, none⟩ = some (vl2) ∧ W.cell? ⟨w.heap.size + 1, 8, none⟩ = some (vf2) ∧ W.cell? ⟨w.heap.size + 1, 9, none⟩ = some (.string c2) ∧ W.cell? ⟨w.heap.size + 1, 10, none⟩ = some (.int .i64 vr2))
    (first | exact HS.out _ (HG.out _ HB6.out).2 | exact HS.out _ (HG.out _ HB6.out.drew).2 | exact HS.out _ (HG.out _ HB7.out).2 | exact HS.out _ (HG.out _ HB8.out).2 | exact HS.out _ (HG.out _ HB9.out).2 | exact HS.out _ (HG.out _ HB10.out).2 | exact HS.out _ (HG.out _ HB11.out).2)
    ((first
      | (go_at_call_of 20 v2; refine (HSA.out _ ?_).mono ?_; exact HB6.out.drew; rintro e w7 ⟨rfl, hb7⟩; have HB7 : Hid (Below w2.heap.size w2 w7) := below_to HB6.out.drew hb7; clear hb7)
      | (go_at_call_of 21 vl2; refine (HSst.out _ ?_).mono ?_; exact (HG.out _ HB7.out).1; rintro e w8 ⟨rfl, hb8⟩; have HB8 : Hid (Below w2.heap.size w2 w8) := below_to HB7.out hb8; clear hb8)
      | (go_at_call_of 20 v1; refine (HSS.out _ ?_).mono ?_; exact HB8.out; rintro e w9 ⟨rfl, hb9⟩; have HB9 : Hid (Below w2.heap.size w2 w9) := below_to HB8.out hb9; clear hb9)
      | (go_at_call_of 21 vl1; refine (HSss.out _ ?_).mono ?_; exact (HG.out _ HB9.out).1; rintro e w10 ⟨rfl, hb10⟩; have HB10 : Hid (Below w2.heap.size w2 w10) := below_to HB9.out hb10; clear hb10)
      | (go_at_call 20; refine (H11.out _).mono ?_; rintro e w11 ⟨rfl, hb11⟩; have HB11 : Hid (Below w2.heap.size w2 w11) := below_to HB10.out hb11; clear hb11)))
  go_wp2_with fail
  go_ret
  exact ⟨by simp, (HG.out _ HB11.out).1⟩
end Go.Proofs.Ytdklpdclbedceaa

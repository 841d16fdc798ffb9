/- tenonlaw01.ValueSizes answers true at every two terms that lie in memory. -/
import Derived.Test.YtgebdaafpmggeaaSzM
import Derived.Test.YtgebdaafpmggeaaCheckS
import Derived.Test.YtgebdaafpmggeaaTwo
import Derived.Test.YtgebdaafpmggeaaBuilt2
import Derived.Deep.RegionHeld3
import Derived.Test.YtgebdaafpmggeaaLit
namespace Go.Proofs.Ytgebdaafpmggeaa
open Go.RowKit

/-- the world with a dict's field and a list of two behind it -/
def pairW (W : World) (v1 v2 : Value) : World := (W.alloc (.cells #[.string ⟨#[97]⟩, v2] 51)).alloc (.cells #[v1, .iface 53 (.slice (some ⟨W.heap.size, 0, none⟩) 1 1)] 20)
theorem pairW_bel (W : World) (v1 v2 : Value) : Below W.heap.size W (pairW W v1 v2) := ((Below.refl _ _).alloc (Nat.le_refl _) _).alloc (by simp) _
theorem pair_V {s t : Tm} {v1 v2 : Value} (W : World) (h1 : s.V (pairW W v1 v2) (Lo (pairW W v1 v2).heap.size) v1) (h2 : t.V (pairW W v1 v2) (Lo (pairW W v1 v2).heap.size) v2) :
    (pairT s t).V (pairW W v1 v2) (Lo (pairW W v1 v2).heap.size) (.iface 54 (.slice (some ⟨W.heap.size + 1, 0, none⟩) 2 2)) := by
  have hz : (pairW W v1 v2).heap.size = W.heap.size + 2 := by simp [pairW]
  have a0 : (pairW W v1 v2).cell? ⟨W.heap.size + 1, 0, none⟩ = some v1 := by simp [pairW]
  have a1 : (pairW W v1 v2).cell? ⟨W.heap.size + 1, 1, none⟩ = some (.iface 53 (.slice (some ⟨W.heap.size, 0, none⟩) 1 1)) := by simp [pairW]
  have a2 : (pairW W v1 v2).cell? ⟨W.heap.size, 0, none⟩ = some (.string ⟨#[97]⟩) := by simp [pairW]
  have a3 : (pairW W v1 v2).cell? ⟨W.heap.size, 1, none⟩ = some v2 := by simp [pairW]
  have b1 : Lo (pairW W v1 v2).heap.size (W.heap.size + 1) := by unfold Lo; omega
  have b0 : Lo (pairW W v1 v2).heap.size W.heap.size := by unfold Lo; omega
  have q0 : Rowed (pairW W v1 v2) W.heap.size 51 2 := (rowed_two W _ _ _ _).1
  have q1 : Rowed (pairW W v1 v2) (W.heap.size + 1) 20 2 := (rowed_two W _ _ _ _).2
  generalize pairW W v1 v2 = X at *
  have hd : (mkD (.cons nmA t .nil)).V X (Lo X.heap.size) (.iface 53 (.slice (some ⟨W.heap.size, 0, none⟩) 1 1)) := by
    refine V9r rfl (by decide) b0 q0 ?_
    simp only [TmF.V]
    exact ⟨W.heap.size, 0, v2, rfl, b0, a2, a3, by decide, h2, trivial⟩
  refine V8r rfl (by decide) b1 q1 ?_
  simp only [TmL.V]
  exact ⟨W.heap.size + 1, 0, v1, rfl, b1, a0, h1, W.heap.size + 1, 0, _, rfl, b1, a1, hd, trivial⟩
def nilW (W : World) : World := W.alloc (.cells #[.nilIface] 20)
theorem nilW_bel (W : World) : Below W.heap.size W (nilW W) := (Below.refl _ _).alloc (Nat.le_refl _) _
theorem nil_V (W : World) : (mkL (.cons none1 .nil)).V (nilW W) (Lo (nilW W).heap.size) (.iface 54 (.slice (some ⟨W.heap.size, 0, none⟩) 1 1)) := by
  have hz : (nilW W).heap.size = W.heap.size + 1 := by simp [nilW]
  have a0 : (nilW W).cell? ⟨W.heap.size, 0, none⟩ = some .nilIface := by simp [nilW]
  have b0 : Lo (nilW W).heap.size W.heap.size := by unfold Lo; omega
  have q0 : Rowed (nilW W) W.heap.size 20 1 := rowed_new W _ _
  generalize nilW W = X at *
  refine V8r rfl (by decide) b0 q0 ?_
  simp only [TmL.V]
  exact ⟨W.heap.size, 0, _, rfl, b0, a0, by simp [none1, Tm.V], trivial⟩
def ttW (W : World) (v1 v2 : Value) : World := (W.alloc (.cells #[.iface 4 (.bool true), v1] 20)).alloc (.cells #[.iface 4 (.bool true), v2] 20)
theorem ttW_bel (W : World) (v1 v2 : Value) : Below W.heap.size W (ttW W v1 v2) := ((Below.refl _ _).alloc (Nat.le_refl _) _).alloc (by simp) _
theorem tt_V (X : World) (B : Nat → Prop) : tt.V X B (.iface 4 (.bool true)) := by simp [tt, Tm.V]
theorem ttT_V {t : Tm} {v : Value} {X : World} {g b : Nat} (hg : g < b) (q : Rowed X g 20 2) (a0 : X.cell? ⟨g, 0, none⟩ = some (.iface 4 (.bool true))) (a1 : X.cell? ⟨g, 1, none⟩ = some v) (h : t.V X (Lo b) v) :
    (ttT t).V X (Lo b) (.iface 54 (.slice (some ⟨g, 0, none⟩) 2 2)) := by
  refine V8r rfl (by decide) hg q ?_
  simp only [TmL.V]
  exact ⟨g, 0, _, rfl, hg, a0, tt_V _ _, g, 0, v, rfl, hg, a1, h, trivial⟩
theorem tt_1 {t : Tm} {v1 v2 : Value} (W : World) (h : t.V (ttW W v1 v2) (Lo (ttW W v1 v2).heap.size) v1) : (ttT t).V (ttW W v1 v2) (Lo (ttW W v1 v2).heap.size) (.iface 54 (.slice (some ⟨W.heap.size, 0, none⟩) 2 2)) :=
  ttT_V (by simp [ttW]; omega) (rowed_two W _ _ _ _).1 (by simp [ttW]) (by simp [ttW]) h
theorem tt_2 {t : Tm} {v1 v2 : Value} (W : World) (h : t.V (ttW W v1 v2) (Lo (ttW W v1 v2).heap.size) v2) : (ttT t).V (ttW W v1 v2) (Lo (ttW W v1 v2).heap.size) (.iface 54 (.slice (some ⟨W.heap.size + 1, 0, none⟩) 2 2)) :=
  ttT_V (by simp [ttW]) (rowed_two W _ _ _ _).2 (by simp [ttW]) (by simp [ttW]) h

set_option maxRecDepth 100000 in
set_option maxHeartbeats 4000000 in
theorem ValueSizes_any (s t : Tm) (cs ct : Array Value) (B : Nat → Prop) (w : World) (hs : s.In w B cs) (ht : t.In w B ct) (hB : Sub B w) :
    Calls Try.prog 8 #[.agg cs, .agg ct] w fun e w' => e = .returned (.bool true) ∧ Below w.heap.size w w' := by
  have HBs : Hid (∀ W, Below w.heap.size w W → Calls Try.prog 9 #[.agg cs] W fun e w' => ∃ v, e = .returned v ∧ Below W.heap.size W w' ∧ s.V w' (Fr W w') v) := fun W hW =>
    built_any s.sz s (Nat.le_refl _) cs B W (s.In_same (hB.same hW) (fun _ h => h) cs hs) (hB.later hW)
  have HBt : Hid (∀ W, Below w.heap.size w W → Calls Try.prog 9 #[.agg ct] W fun e w' => ∃ v, e = .returned v ∧ Below W.heap.size W w' ∧ t.V w' (Fr W w') v) := fun W hW =>
    built_any t.sz t (Nat.le_refl _) ct B W (t.In_same (hB.same hW) (fun _ h => h) ct ht) (hB.later hW)
  obtain ⟨b1, i1, f1, tx1, vb1, rf1, vl1, vf1, c1, vr1, rfl⟩ := Tm.In_box hs
  obtain ⟨b2, i2, f2, tx2, vb2, rf2, vl2, vf2, c2, vr2, rfl⟩ := Tm.In_box ht
  clear hs ht
  have H0 : Hid (Below w.heap.size w (two w (tcells s.kind b1 i1 f1 tx1 vb1 rf1 vl1 vf1 c1 vr1) (tcells t.kind b2 i2 f2 tx2 vb2 rf2 vl2 vf2 c2 vr2))) := two_bel _ _ _
  have HS : Hid (∀ W, Below (two w (tcells s.kind b1 i1 f1 tx1 vb1 rf1 vl1 vf1 c1 vr1) (tcells t.kind b2 i2 f2 tx2 vb2 rf2 vl2 vf2 c2 vr2)).heap.size (two w (tcells s.kind b1 i1 f1 tx1 vb1 rf1 vl1 vf1 c1 vr1) (tcells t.kind b2 i2 f2 tx2 vb2 rf2 vl2 vf2 c2 vr2)) W → W.cell? ⟨w.heap.size, 0, none⟩ = some (.int .i64 s.kind) ∧ W.cell? ⟨w.heap.size, 1, none⟩ = some (.bool b1) ∧ W.cell? ⟨w.heap.size, 2, none⟩ = some (.int .i64 i1) ∧ W.cell? ⟨w.heap.size, 3, none⟩ = some (.float .f64 f1) ∧ W.cell? ⟨w.heap.size, 4, none⟩ = some (.string tx1) ∧ W.cell? ⟨w.heap.size, 5, none⟩ = some (vb1) ∧ W.cell? ⟨w.heap.size, 6, none⟩ = some (.int .u64 rf1) ∧ W.cell? ⟨w.heap.size, 7, none⟩ = some (vl1) ∧ W.cell? ⟨w.heap.size, 8, none⟩ = some (vf1) ∧ W.cell? ⟨w.heap.size, 9, none⟩ = some (.string c1) ∧ W.cell? ⟨w.heap.size, 10, none⟩ = some (.int .i64 vr1) ∧ W.cell? ⟨w.heap.size + 1, 0, none⟩ = some (.int .i64 t.kind) ∧ W.cell? ⟨w.heap.size + 1, 1, none⟩ = some (.bool b2) ∧ W.cell? ⟨w.heap.size + 1, 2, none⟩ = some (.int .i64 i2) ∧ W.cell? ⟨w.heap.size + 1, 3, none⟩ = some (.float .f64 f2) ∧ W.cell? ⟨w.heap.size + 1, 4, none⟩ = some (.string tx2) ∧ W.cell? ⟨w.heap.size + 1, 5, none⟩ = some (vb2) ∧ W.cell? ⟨w.heap.size + 1, 6, none⟩ = some (.int .u64 rf2) ∧ W.cell? ⟨w.heap.size + 1, 7, none⟩ = some (vl2) ∧ W.cell? ⟨w.heap.size + 1, 8, none⟩ = some (vf2) ∧ W.cell? ⟨w.heap.size + 1, 9, none⟩ = some (.string c2) ∧ W.cell? ⟨w.heap.size + 1, 10, none⟩ = some (.int .i64 vr2)) := fun W hW => by
    have h : Tbx W w.heap.size s.kind b1 i1 f1 tx1 vb1 rf1 vl1 vf1 c1 vr1 ∧ Tbx W (w.heap.size + 1) t.kind b2 i2 f2 tx2 vb2 rf2 vl2 vf2 c2 vr2 := ⟨bx_of (two_a hW), bx_of (two_b hW)⟩
    simp only [Tbx, and_assoc] at h
    exact h
  unfold tcells at HBs HBt ⊢
  go_enter Try.func8, Try.ntmps8
  go_wp2_with fail
  go_region_held3 (fun W => W.cell? ⟨w.heap.size, 0, none⟩ = some (.int .i64 s.kind) ∧ W.cell? ⟨w.heap.size, 1, none⟩ = some (.bool b1) ∧ W.cell? ⟨w.heap.size, 2, none⟩ = some (.int .i64 i1) ∧ W.cell? ⟨w.heap.size, 3, none⟩ = some (.float .f64 f1) ∧ W.cell? ⟨w.heap.size, 4, none⟩ = some (.string tx1) ∧ W.cell? ⟨w.heap.size, 5, none⟩ = some (vb1) ∧ W.cell? ⟨w.heap.size, 6, none⟩ = some (.int .u64 rf1) ∧ W.cell? ⟨w.heap.size, 7, none⟩ = some (vl1) ∧ W.cell? ⟨w.heap.size, 8, none⟩ = some (vf1) ∧ W.cell? ⟨w.heap.size, 9, none⟩ = some (.string c1) ∧ W.cell? ⟨w.heap.size, 10, none⟩ = some (.int .i64 vr1) ∧ W.cell? ⟨w.heap.size + 1, 0, none⟩ = some (.int .i64 t.kind) ∧ W.cell? ⟨w.heap.size + 1, 1, none⟩ = some (.bool b2) ∧ W.cell? ⟨w.heap.size + 1, 2, none⟩ = some (.int .i64 i2) ∧ W.cell? ⟨w.heap.size + 1, 3, none⟩ = some (.float .f64 f2) ∧ W.cell? ⟨w.heap.size + 1, 4, none⟩ = some (.string tx2) ∧ W.cell? ⟨w.heap.size + 1, 5, none⟩ = some (vb2) ∧ W.cell? ⟨w.heap.size + 1, 6, none⟩ = some (.int .u64 rf2) ∧ W.cell? ⟨w.heap.size + 1, 7, none⟩ = some (vl2) ∧ W.cell? ⟨w.heap.size + 1, 8, none⟩ = some (vf2) ∧ W.cell? ⟨w.heap.size + 1, 9, none⟩ = some (.string c2) ∧ W.cell? ⟨w.heap.size + 1, 10, none⟩ = some (.int .i64 vr2))
    (first | exact HS.out _ (Below.refl _ _) | exact HS.out _ (Below.refl _ _).drew | exact HS.out _ HB1.out | exact HS.out _ HB2.out)
    ((first
      | (go_at_call_of 9 vl1; refine (HBs.out _ ?_).mono ?_; exact H0.out.drew; rintro e w1 ⟨v1, rfl, hb1, hv1⟩; have HB1 : Hid (Below (two w (tcells s.kind b1 i1 f1 tx1 vb1 rf1 vl1 vf1 c1 vr1) (tcells t.kind b2 i2 f2 tx2 vb2 rf2 vl2 vf2 c2 vr2)).heap.size (two w (tcells s.kind b1 i1 f1 tx1 vb1 rf1 vl1 vf1 c1 vr1) (tcells t.kind b2 i2 f2 tx2 vb2 rf2 vl2 vf2 c2 vr2)) w1) := below_to (Below.refl _ _).drew hb1; have HV1 : Hid (∀ W, Below w1.heap.size w1 W → s.V W (Lo w1.heap.size) v1) := fun W hW => s.V_same (fun k hk => hW.block k hk.2) (fun k hk => hk.2) v1 hv1; clear hb1 hv1)
      | (go_at_call_of 9 vl2; refine (HBt.out _ ?_).mono ?_; exact below_to H0.out HB1.out; rintro e w2 ⟨v2, rfl, hb2, hv2⟩; have HC2 : Hid (Below w1.heap.size w1 w2) := hb2; have HB2 : Hid (Below (two w (tcells s.kind b1 i1 f1 tx1 vb1 rf1 vl1 vf1 c1 vr1) (tcells t.kind b2 i2 f2 tx2 vb2 rf2 vl2 vf2 c2 vr2)).heap.size (two w (tcells s.kind b1 i1 f1 tx1 vb1 rf1 vl1 vf1 c1 vr1) (tcells t.kind b2 i2 f2 tx2 vb2 rf2 vl2 vf2 c2 vr2)) w2) := below_to HB1.out hb2; have HV2 : Hid (∀ W, Below w2.heap.size w2 W → t.V W (Lo w2.heap.size) v2) := fun W hW => t.V_same (fun k hk => hW.block k hk.2) (fun k hk => hk.2) v2 hv2; clear hb2 hv2)))
  have HV : Hid (∀ W, Below w2.heap.size w2 W → s.V W (Lo w2.heap.size) v1 ∧ t.V W (Lo w2.heap.size) v2 ∧ w2.heap.size ≤ W.heap.size) := fun W hW =>
    ⟨s.V_same (Same.refl _ W) (Lo.le HC2.out.size) v1 (HV1.out W (below_to HC2.out hW)), HV2.out W hW, hW.size⟩
  have HG : Hid (∀ W, Below w2.heap.size w2 W → Below w.heap.size w W ∧ (Below (two w (tcells s.kind b1 i1 f1 tx1 vb1 rf1 vl1 vf1 c1 vr1) (tcells t.kind b2 i2 f2 tx2 vb2 rf2 vl2 vf2 c2 vr2)).heap.size (two w (tcells s.kind b1 i1 f1 tx1 vb1 rf1 vl1 vf1 c1 vr1) (tcells t.kind b2 i2 f2 tx2 vb2 rf2 vl2 vf2 c2 vr2)) W)) := fun W hW => ⟨below_to H0.out (below_to HB2.out hW), below_to HB2.out hW⟩
  clear HV1 HV2 HC2 HB1 HBs HBt hB H0
  have HZ1 : Hid (∀ W, Below w2.heap.size w2 W → Calls Try.prog 12 #[v1] W fun e w' => e = .returned (.tuple #[.int .i64 s.szN, .int .i64 s.szD, .int .i64 s.all.e]) ∧ Below W.heap.size W w') := fun W hW =>
    Size_any s v1 w2.heap.size W (HV.out W hW).2.2 (HV.out W hW).1
  have HZ2 : Hid (∀ W, Below w2.heap.size w2 W → Calls Try.prog 12 #[v2] W fun e w' => e = .returned (.tuple #[.int .i64 t.szN, .int .i64 t.szD, .int .i64 t.all.e]) ∧ Below W.heap.size W w') := fun W hW =>
    Size_any t v2 w2.heap.size W (HV.out W hW).2.2 (HV.out W hW).2.1
  have HST : Hid (∀ W, Below w2.heap.size w2 W → Calls Try.prog 21 #[v1, v2] W fun e w' => e = .returned (.tuple #[.int .i64 (s.ordN t), .int .i64 (s.ordE t)]) ∧ Below W.heap.size W w') := fun W hW =>
    Order_any s t v1 v2 w2.heap.size W (HV.out W hW).2.2 (HV.out W hW).1 (HV.out W hW).2.1
  have HX : Hid (∀ W X, Below w2.heap.size w2 W → Below W.heap.size W X → s.V X (Lo X.heap.size) v1 ∧ t.V X (Lo X.heap.size) v2) := fun W X hW hX => by
    have h := HV.out X (below_to hW hX)
    exact ⟨s.V_same (Same.refl _ X) (Lo.le h.2.2) v1 h.1, t.V_same (Same.refl _ X) (Lo.le h.2.2) v2 h.2.1⟩
  have HZ3 : Hid (∀ W, Below w2.heap.size w2 W → Calls Try.prog 12 #[.iface 54 (.slice (some ⟨W.heap.size + 1, 0, none⟩) 2 2)] (pairW W v1 v2) fun e w' => e = .returned (.tuple #[.int .i64 (pairT s t).szN, .int .i64 (pairT s t).szD, .int .i64 (pairT s t).all.e]) ∧ Below w2.heap.size w2 w') := fun W hW =>
    (Size_any (pairT s t) _ (pairW W v1 v2).heap.size (pairW W v1 v2) (Nat.le_refl _) (pair_V W (HX.out W _ hW (pairW_bel W v1 v2)).1 (HX.out W _ hW (pairW_bel W v1 v2)).2)).mono fun e w' h => ⟨h.1, below_to hW (below_to (pairW_bel W v1 v2) h.2)⟩
  have HZ4 : Hid (∀ W, Below w2.heap.size w2 W → Calls Try.prog 12 #[.iface 54 (.slice (some ⟨W.heap.size, 0, none⟩) 1 1)] (nilW W) fun e w' => e = .returned (.tuple #[.int .i64 2, .int .i64 2, .int .i64 0]) ∧ Below w2.heap.size w2 w') := fun W hW => by
    have h := Size_any (mkL (.cons none1 .nil)) _ (nilW W).heap.size (nilW W) (Nat.le_refl _) (nil_V W)
    have e0 : (mkL (.cons none1 .nil)).all.e = 0 := by rw [nil_all]
    have e1 : (mkL (.cons none1 .nil)).szN = 2 := by unfold Tm.szN; rw [if_neg (by rw [e0]; decide), nil_all]
    have e2 : (mkL (.cons none1 .nil)).szD = 2 := by unfold Tm.szD; rw [if_neg (by rw [e0]; decide), nil_all]
    rw [e0, e1, e2] at h
    exact h.mono fun e w' h => ⟨h.1, below_to hW (below_to (nilW_bel W) h.2)⟩
  have HO2 : Hid (∀ W, Below w2.heap.size w2 W → Calls Try.prog 21 #[.iface 54 (.slice (some ⟨W.heap.size, 0, none⟩) 2 2), .iface 54 (.slice (some ⟨W.heap.size + 1, 0, none⟩) 2 2)] (ttW W v1 v2) fun e w' => e = .returned (.tuple #[.int .i64 ((ttT s).ordN (ttT t)), .int .i64 ((ttT s).ordE (ttT t))]) ∧ Below w2.heap.size w2 w') := fun W hW =>
    (Order_any (ttT s) (ttT t) _ _ (ttW W v1 v2).heap.size (ttW W v1 v2) (Nat.le_refl _) (tt_1 W (HX.out W _ hW (ttW_bel W v1 v2)).1) (tt_2 W (HX.out W _ hW (ttW_bel W v1 v2)).2)).mono fun e w' h => ⟨h.1, below_to hW (below_to (ttW_bel W v1 v2) h.2)⟩
  have HK := sz_good s t
  have hsh1 := s.V_shape v1 (HV.out _ (Below.refl _ _)).1
  have hsh2 := t.V_shape v2 (HV.out _ (Below.refl _ _)).2.1
  clear HV HX
  revert HK
  unfold SzGood
  generalize s.szN = n at HZ1 ⊢
  generalize s.szD = deep at HZ1 ⊢
  generalize s.all.e = e1 at HZ1 ⊢
  generalize t.szN = m at HZ2 ⊢
  generalize t.szD = far at HZ2 ⊢
  generalize t.all.e = e2 at HZ2 ⊢
  generalize (pairT s t).szN = all at HZ3 ⊢
  generalize (pairT s t).szD = most at HZ3 ⊢
  generalize (pairT s t).all.e = g at HZ3 ⊢
  generalize s.ordN t = o at HST ⊢
  generalize s.ordE t = h at HST ⊢
  generalize (ttT s).ordN (ttT t) = p at HO2 ⊢
  generalize (ttT s).ordE (ttT t) = i at HO2 ⊢
  intro HK
  rcases hsh1 with rfl | ⟨T1, x1, rfl⟩ <;> rcases hsh2 with rfl | ⟨T2, x2, rfl⟩
  rotate_left 3
  all_goals
    go_wp2_with fail
    refine (HZ1.out _ (Below.refl _ _)).mono ?_
    rintro e w3 ⟨rfl, hb3⟩
    have HB3 : Hid (Below w2.heap.size w2 w3) := hb3
    clear hb3
    go_wp2_with fail
    refine (HZ2.out _ HB3.out).mono ?_
    rintro e w4 ⟨rfl, hb4⟩
    have HB4 : Hid (Below w2.heap.size w2 w4) := below_to HB3.out hb4
    clear hb4
    go_wp2_with fail
    refine (HZ3.out _ HB4.out).mono ?_
    rintro e w5 ⟨rfl, hb5⟩
    have HB5 : Hid (Below w2.heap.size w2 w5) := hb5
    clear hb5
    rcases HK with ⟨h1, h2, rfl, rfl⟩ | ⟨rfl, rfl, h1, h2, h3, h4, h5, rfl⟩ | ⟨rfl, rfl, h1, h2, h3, h4, h5, h6, rfl, rfl, rfl, rfl, rfl, rfl⟩
    · by_cases h3 : e1 = 0
      · have h4 := ne_bool (h1.resolve_left (fun h => h h3))
        have h2' := ne_bool h2
        subst h3
        clear h1 h2
        go_wp2_with fail
        refine (HZ4.out _ HB5.out).mono ?_
        rintro e w6 ⟨rfl, hb6⟩
        go_wp2_with fail
        go_ret
        exact ⟨rfl, (HG.out _ hb6).1⟩
      · have h3' := ne_bool h3
        have h2' := ne_bool h2
        clear h1 h2 h3
        go_wp2_with fail
        refine (HZ4.out _ HB5.out).mono ?_
        rintro e w6 ⟨rfl, hb6⟩
        go_wp2_with fail
        go_ret
        exact ⟨rfl, (HG.out _ hb6).1⟩
    · by_cases hd : deep < far + 1
      all_goals
        by_cases hn : 16384 < n + m + 2
        all_goals
          go_wp2_with fail
          go_ret
          exact ⟨rfl, (HG.out _ HB5.out).1⟩
    · by_cases hd : deep < far + 1
      all_goals
        go_wp2_with fail
        refine (HST.out _ HB5.out).mono ?_
        rintro e w6 ⟨rfl, hb6⟩
        have HB6 : Hid (Below w2.heap.size w2 w6) := below_to HB5.out hb6
        clear hb6
        go_wp2_with fail
        refine (HO2.out _ HB6.out).mono ?_
        rintro e w7 ⟨rfl, hb7⟩
        have HB7 : Hid (Below w2.heap.size w2 w7) := hb7
        clear hb7
        go_wp2_with fail
        go_ret
        exact ⟨by simp, (HG.out _ HB7.out).1⟩
end Go.Proofs.Ytgebdaafpmggeaa

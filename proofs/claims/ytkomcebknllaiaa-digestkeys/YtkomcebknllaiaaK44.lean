/- The document's own Order and Same of two terms (tenonref01.Order, tenonref01.Same). -/
import Derived.Test.YtkomcebknllaiaaK43
import Derived.Deep.RegionHeld3
namespace Go.Proofs.Ytkomcebknllaiaa
open Go.RowKit

set_option maxRecDepth 100000 in
set_option maxHeartbeats 2000000 in
theorem refOrder_any (s t : Tm) (cs ct : Array Value) (B : Nat → Prop) (w : World) (hs : s.In w B cs) (ht : t.In w B ct) (hB : Sub B w) :
    Calls Try.prog 19 #[.agg cs, .agg ct] w fun e w' => e = .returned (.tuple #[.int .i64 (s.ordN t), .int .i64 (s.ordE t)]) ∧ Below w.heap.size w w' := by
  have HRs : Hid (∀ W, Below w.heap.size w W → Calls Try.prog 12 #[.agg cs] W fun e w' => e = .returned (.tuple #[.int .i64 s.cAt, .int .i64 s.all.e]) ∧ Below W.heap.size W w') := fun W hW =>
    refCheck_any s cs B W (s.In_same (hB.same hW) (fun _ h => h) cs hs) (hB.later hW)
  have HRt : Hid (∀ W, Below w.heap.size w W → Calls Try.prog 12 #[.agg ct] W fun e w' => e = .returned (.tuple #[.int .i64 t.cAt, .int .i64 t.all.e]) ∧ Below W.heap.size W w') := fun W hW =>
    refCheck_any t ct B W (t.In_same (hB.same hW) (fun _ h => h) ct ht) (hB.later hW)
  have HCm : Hid (s.Ok → t.Ok → ∀ W, Below w.heap.size w W → Calls Try.prog 46 #[.agg cs, .agg ct] W fun e w' => e = .returned (.int .i64 (s.cmp t)) ∧ Below W.heap.size W w') := fun os ot W hW =>
    compare_any s.sz s t (Nat.le_refl _) cs ct B W (s.In_same (hB.same hW) (fun _ h => h) cs hs) (t.In_same (hB.same hW) (fun _ h => h) ct ht) (hB.later hW) os ot
  obtain ⟨b1, i1, f1, tx1, vb1, rf1, vl1, vf1, c1, vr1, rfl⟩ := Tm.In_box hs
  obtain ⟨b2, i2, f2, tx2, vb2, rf2, vl2, vf2, c2, vr2, rfl⟩ := Tm.In_box ht
  clear hs ht
  have H0 : Hid (Below w.heap.size w (two w (tcells s.kind b1 i1 f1 tx1 vb1 rf1 vl1 vf1 c1 vr1) (tcells t.kind b2 i2 f2 tx2 vb2 rf2 vl2 vf2 c2 vr2))) := two_bel _ _ _
  have HS : Hid (∀ W, Below (two w (tcells s.kind b1 i1 f1 tx1 vb1 rf1 vl1 vf1 c1 vr1) (tcells t.kind b2 i2 f2 tx2 vb2 rf2 vl2 vf2 c2 vr2)).heap.size (two w (tcells s.kind b1 i1 f1 tx1 vb1 rf1 vl1 vf1 c1 vr1) (tcells t.kind b2 i2 f2 tx2 vb2 rf2 vl2 vf2 c2 vr2)) W → W.cell? ⟨w.heap.size, 0, none⟩ = some (.int .i64 s.kind) ∧ W.cell? ⟨w.heap.size, 1, none⟩ = some (.bool b1) ∧ W.cell? ⟨w.heap.size, 2, none⟩ = some (.int .i64 i1) ∧ W.cell? ⟨w.heap.size, 3, none⟩ = some (.float .f64 f1) ∧ W.cell? ⟨w.heap.size, 4, none⟩ = some (.string tx1) ∧ W.cell? ⟨w.heap.size, 5, none⟩ = some (vb1) ∧ W.cell? ⟨w.heap.size, 6, none⟩ = some (.int .u64 rf1) ∧ W.cell? ⟨w.heap.size, 7, none⟩ = some (vl1) ∧ W.cell? ⟨w.heap.size, 8, none⟩ = some (vf1) ∧ W.cell? ⟨w.heap.size, 9, none⟩ = some (.string c1) ∧ W.cell? ⟨w.heap.size, 10, none⟩ = some (.int .i64 vr1) ∧ W.cell? ⟨w.heap.size + 1, 0, none⟩ = some (.int .i64 t.kind) ∧ W.cell? ⟨w.heap.size + 1, 1, none⟩ = some (.bool b2) ∧ W.cell? ⟨w.heap.size + 1, 2, none⟩ = some (.int .i64 i2) ∧ W.cell? ⟨w.heap.size + 1, 3, none⟩ = some (.float .f64 f2) ∧ W.cell? ⟨w.heap.size + 1, 4, none⟩ = some (.string tx2) ∧ W.cell? ⟨w.heap.size + 1, 5, none⟩ = some (vb2) ∧ W.cell? ⟨w.heap.size + 1, 6, none⟩ = some (.int .u64 rf2) ∧ W.cell? ⟨w.heap.size + 1, 7, none⟩ = some (vl2) ∧ W.cell? ⟨w.heap.size + 1, 8, none⟩ = some (vf2) ∧ W.cell? ⟨w.heap.size + 1, 9, none⟩ = some (.string c2) ∧ W.cell? ⟨w.heap.size + 1, 10, none⟩ = some (.int .i64 vr2)) := fun W hW => by
    have h : Tbx W w.heap.size s.kind b1 i1 f1 tx1 vb1 rf1 vl1 vf1 c1 vr1 ∧ Tbx W (w.heap.size + 1) t.kind b2 i2 f2 tx2 vb2 rf2 vl2 vf2 c2 vr2 := ⟨bx_of (two_a hW), bx_of (two_b hW)⟩
    simp only [Tbx, and_assoc] at h
    exact h
  unfold tcells at HRs HRt HCm ⊢
  by_cases h1 : s.all.e ≠ 0
  · have h1' := ne_bool h1
    have H : Hid (s.ordN t = 0 ∧ s.ordE t = s.all.e) := by show _ ∧ _; unfold Tm.ordN Tm.ordE; rw [if_pos (.inl h1), if_pos h1]; exact ⟨rfl, rfl⟩
    clear h1
    go_enter Try.func19, Try.ntmps19
    go_wp2_with fail
    refine (HRs.out _ H0.out).mono ?_
    rintro e w1 ⟨rfl, hb1⟩
    go_wp2_with fail
    go_ret2
    rw [H.out.1, H.out.2]
    exact ⟨rfl, below_to H0.out hb1⟩
  · have h10 : s.all.e = 0 := Decidable.not_not.1 h1
    by_cases h2 : t.all.e ≠ 0
    · have h2' := ne_bool h2
      have H : Hid (s.ordN t = 0 ∧ s.ordE t = t.all.e) := by show _ ∧ _; unfold Tm.ordN Tm.ordE; rw [if_pos (.inr h2), if_neg h1]; exact ⟨rfl, rfl⟩
      clear h1 h2
      go_enter Try.func19, Try.ntmps19
      go_wp2_with fail
      refine (HRs.out _ H0.out).mono ?_
      rintro e w1 ⟨rfl, hb1⟩
      have HB1 : Hid (Below (two w (tcells s.kind b1 i1 f1 tx1 vb1 rf1 vl1 vf1 c1 vr1) (tcells t.kind b2 i2 f2 tx2 vb2 rf2 vl2 vf2 c2 vr2)).heap.size (two w (tcells s.kind b1 i1 f1 tx1 vb1 rf1 vl1 vf1 c1 vr1) (tcells t.kind b2 i2 f2 tx2 vb2 rf2 vl2 vf2 c2 vr2)) w1) := hb1
      obtain ⟨z0, z1, z2, z3, z4, z5, z6, z7, z8, z9, z10, z11, z12, z13, z14, z15, z16, z17, z18, z19, z20, z21⟩ := HS.out _ hb1
      clear hb1
      go_wp2_with fail
      refine (HRt.out _ (below_to H0.out HB1.out)).mono ?_
      rintro e w2 ⟨rfl, hb2⟩
      have HB2 : Hid (Below w1.heap.size w1 w2) := hb2
      clear hb2 z0 z1 z2 z3 z4 z5 z6 z7 z8 z9 z10 z11 z12 z13 z14 z15 z16 z17 z18 z19 z20 z21
      go_wp2_with fail
      go_ret2
      rw [H.out.1, H.out.2]
      exact ⟨rfl, below_to H0.out (below_to HB1.out HB2.out)⟩
    · have h20 : t.all.e = 0 := Decidable.not_not.1 h2
      have H : Hid (s.ordN t = s.cmp t ∧ s.ordE t = 0) := by show _ ∧ _; unfold Tm.ordN Tm.ordE; rw [if_neg (by omega), if_neg h1]; exact ⟨rfl, h20⟩
      have HOk : Hid (s.Ok ∧ t.Ok) := ⟨Tm.ok_all h10, Tm.ok_all h20⟩
      clear h1 h2
      go_enter Try.func19, Try.ntmps19
      go_wp2_with fail
      refine (HRs.out _ H0.out).mono ?_
      rintro e w1 ⟨rfl, hb1⟩
      have HB1 : Hid (Below (two w (tcells s.kind b1 i1 f1 tx1 vb1 rf1 vl1 vf1 c1 vr1) (tcells t.kind b2 i2 f2 tx2 vb2 rf2 vl2 vf2 c2 vr2)).heap.size (two w (tcells s.kind b1 i1 f1 tx1 vb1 rf1 vl1 vf1 c1 vr1) (tcells t.kind b2 i2 f2 tx2 vb2 rf2 vl2 vf2 c2 vr2)) w1) := hb1
      obtain ⟨z0, z1, z2, z3, z4, z5, z6, z7, z8, z9, z10, z11, z12, z13, z14, z15, z16, z17, z18, z19, z20, z21⟩ := HS.out _ hb1
      clear hb1
      go_wp2_with fail
      refine (HRt.out _ (below_to H0.out HB1.out)).mono ?_
      rintro e w2 ⟨rfl, hb2⟩
      have HB2 : Hid (Below (two w (tcells s.kind b1 i1 f1 tx1 vb1 rf1 vl1 vf1 c1 vr1) (tcells t.kind b2 i2 f2 tx2 vb2 rf2 vl2 vf2 c2 vr2)).heap.size (two w (tcells s.kind b1 i1 f1 tx1 vb1 rf1 vl1 vf1 c1 vr1) (tcells t.kind b2 i2 f2 tx2 vb2 rf2 vl2 vf2 c2 vr2)) w2) := below_to HB1.out hb2
      clear z0 z1 z2 z3 z4 z5 z6 z7 z8 z9 z10 z11 z12 z13 z14 z15 z16 z17 z18 z19 z20 z21
      obtain ⟨z0, z1, z2, z3, z4, z5, z6, z7, z8, z9, z10, z11, z12, z13, z14, z15, z16, z17, z18, z19, z20, z21⟩ := HS.out _ HB2.out
      clear hb2
      go_wp2_with fail
      refine (HCm.out HOk.out.1 HOk.out.2 _ (below_to H0.out HB2.out)).mono ?_
      rintro e w3 ⟨rfl, hb3⟩
      have HB3 : Hid (Below (two w (tcells s.kind b1 i1 f1 tx1 vb1 rf1 vl1 vf1 c1 vr1) (tcells t.kind b2 i2 f2 tx2 vb2 rf2 vl2 vf2 c2 vr2)).heap.size (two w (tcells s.kind b1 i1 f1 tx1 vb1 rf1 vl1 vf1 c1 vr1) (tcells t.kind b2 i2 f2 tx2 vb2 rf2 vl2 vf2 c2 vr2)) w3) := below_to HB2.out hb3
      clear hb3 z0 z1 z2 z3 z4 z5 z6 z7 z8 z9 z10 z11 z12 z13 z14 z15 z16 z17 z18 z19 z20 z21
      go_wp2_with fail
      go_ret2
      rw [H.out.1, H.out.2]
      exact ⟨rfl, below_to H0.out HB3.out⟩

theorem sameB_ord (s t : Tm) : (s.ordE t ≠ 0 ∧ s.sameB t = false) ∨ (s.ordE t = 0 ∧ s.sameB t = decide (s.ordN t = 0)) := by
  by_cases h : s.ordE t = 0
  · right
    have g := ok_both h
    refine ⟨h, ?_⟩
    rw [(same_ok g).2]; unfold Tm.sameB; simp [g.1, g.2]
  · left
    refine ⟨h, ?_⟩
    have := same_err h
    unfold Tm.sameB; simp only [decide_eq_false_iff_not]; intro g; exact this ⟨g.1, g.2.1⟩

set_option maxRecDepth 100000 in
set_option maxHeartbeats 2000000 in
theorem refSame_any (s t : Tm) (cs ct : Array Value) (B : Nat → Prop) (w : World) (hs : s.In w B cs) (ht : t.In w B ct) (hB : Sub B w) :
    Calls Try.prog 21 #[.agg cs, .agg ct] w fun e w' => e = .returned (.bool (s.sameB t)) ∧ Below w.heap.size w w' := by
  have HO : Hid (∀ W, Below w.heap.size w W → Calls Try.prog 19 #[.agg cs, .agg ct] W fun e w' => e = .returned (.tuple #[.int .i64 (s.ordN t), .int .i64 (s.ordE t)]) ∧ Below W.heap.size W w') := fun W hW =>
    refOrder_any s t cs ct B W (s.In_same (hB.same hW) (fun _ h => h) cs hs) (t.In_same (hB.same hW) (fun _ h => h) ct ht) (hB.later hW)
  obtain ⟨b1, i1, f1, tx1, vb1, rf1, vl1, vf1, c1, vr1, rfl⟩ := Tm.In_box hs
  obtain ⟨b2, i2, f2, tx2, vb2, rf2, vl2, vf2, c2, vr2, rfl⟩ := Tm.In_box ht
  clear hs ht
  have H0 : Hid (Below w.heap.size w (two w (tcells s.kind b1 i1 f1 tx1 vb1 rf1 vl1 vf1 c1 vr1) (tcells t.kind b2 i2 f2 tx2 vb2 rf2 vl2 vf2 c2 vr2))) := two_bel _ _ _
  unfold tcells at HO ⊢
  rcases sameB_ord s t with ⟨h, H⟩ | ⟨h, H⟩
  · have h' : (s.ordE t == 0) = false := by simp [h]
    have H : Hid _ := H
    clear h
    go_enter Try.func21, Try.ntmps21
    go_wp2_with fail
    refine (HO.out _ H0.out).mono ?_
    rintro e w1 ⟨rfl, hb1⟩
    go_wp2_with fail
    go_ret
    exact ⟨by rw [H.out]; rfl, below_to H0.out hb1⟩
  · have H : Hid _ := H
    go_enter Try.func21, Try.ntmps21
    go_wp2_with fail
    refine (HO.out _ H0.out).mono ?_
    rintro e w1 ⟨rfl, hb1⟩
    go_wp2_with fail
    go_ret
    exact ⟨by rw [H.out]; rfl, below_to H0.out hb1⟩
end Go.Proofs.Ytkomcebknllaiaa

/- The Go function tenonlaw05.DigestKeys returns true. -/
namespace Go.Proofs.Ytkomcebknllaiaa
open Go.RowKit

def tNil : Tm := .mk 1 false 0 0 ByteArray.empty ByteArray.empty 0 .nil .nil ByteArray.empty 0
theorem key_nil (W : World) : Calls Try.prog 33 #[.nilIface] W fun e w' => e = .returned (.tuple #[.string ⟨#[1]⟩, .int .i64 0]) ∧ Below W.heap.size W w' := by
  have h1 : tNil.key = ⟨#[1]⟩ := by decide +kernel
  have h2 : tNil.all.e = 0 := by decide +kernel
  have := Key_any tNil .nilIface W.heap.size W (Nat.le_refl _) (by simp [tNil, Tm.V]) (by simp [tNil, Tm.Bdd, TmL.Bdd, TmF.Bdd])
  rw [h1, h2] at this
  exact this

set_option maxRecDepth 100000 in
set_option maxHeartbeats 4000000 in
theorem DigestKeys_any (s t : Tm) (cs ct : Array Value) (B : Nat → Prop) (w : World) (hs : s.In w B cs) (ht : t.In w B ct) (hB : Sub B w) :
    Calls Try.prog 8 #[.agg cs, .agg ct] w fun e w' => e = .returned (.bool true) ∧ Below w.heap.size w w' := by
  have HBD : Hid (s.Bdd ∧ t.Bdd) := ⟨s.In_bdd cs hs, t.In_bdd ct ht⟩
  have HBs : Hid (∀ W, Below w.heap.size w W → Calls Try.prog 11 #[.agg cs] W fun e w' => ∃ v, e = .returned v ∧ Below W.heap.size W w' ∧ s.V w' (Fr W w') v) := fun W hW =>
    built_any s.sz s (Nat.le_refl _) cs B W (s.In_same (hB.same hW) (fun _ h => h) cs hs) (hB.later hW)
  have HBt : Hid (∀ W, Below w.heap.size w W → Calls Try.prog 11 #[.agg ct] W fun e w' => ∃ v, e = .returned v ∧ Below W.heap.size W w' ∧ t.V w' (Fr W w') v) := fun W hW =>
    built_any t.sz t (Nat.le_refl _) ct B W (t.In_same (hB.same hW) (fun _ h => h) ct ht) (hB.later hW)
  have HSst : Hid (∀ W, Below w.heap.size w W → Calls Try.prog 21 #[.agg cs, .agg ct] W fun e w' => e = .returned (.bool (s.sameB t)) ∧ Below W.heap.size W w') := fun W hW =>
    refSame_any s t cs ct B W (s.In_same (hB.same hW) (fun _ h => h) cs hs) (t.In_same (hB.same hW) (fun _ h => h) ct ht) (hB.later hW)
  have HRE : Hid (∀ W, Below w.heap.size w W → Calls Try.prog 24 #[.agg cs] W (EncE s W)) := fun W hW =>
    refEncode_all s cs B W (s.In_same (hB.same hW) (fun _ h => h) cs hs) (hB.later hW)
  have HRS : Hid (∀ W, Below w.heap.size w W → Calls Try.prog 35 #[.agg cs] W fun e w' => e = .returned (.tuple #[.int .u64 s.sum, .int .i64 s.all.e]) ∧ Below W.heap.size W w') := fun W hW =>
    refSum_any s cs B W (s.In_same (hB.same hW) (fun _ h => h) cs hs) (hB.later hW)
  have HK : Hid (∀ (x : Tm) (v : Value) (W W' : World), x.Bdd → x.V W' (Fr W W') v → Calls Try.prog 33 #[v] W' fun e w' => e = .returned (.tuple #[.string x.key, .int .i64 x.all.e]) ∧ Below W'.heap.size W' w') := fun x v W W' hx hv =>
    Key_any x v W'.heap.size W' (Nat.le_refl _) (x.V_same (Same.refl _ _) (fun k hk => hk.2) v hv) hx
  have HSu : Hid (∀ (x : Tm) (v : Value) (W W' : World), x.Bdd → x.V W' (Fr W W') v → Calls Try.prog 34 #[v] W' fun e w' => e = .returned (.tuple #[.int .u64 x.sum, .int .i64 x.all.e]) ∧ Below W'.heap.size W' w') := fun x v W W' hx hv =>
    Sum_any x v W'.heap.size W' (Nat.le_refl _) (x.V_same (Same.refl _ _) (fun k hk => hk.2) v hv) hx
  have HCV : Hid (∀ (a : Option Addr) (m cap base : Nat) (W W' : World), m = s.encE.length → Outs W base a cap s.encE → Below W.heap.size W W' → (convert 23 9 (.slice a m cap)).run Try.prog W' = .ok (.string s.key) W') := fun a m cap base W W' hm ho hW => by
    subst hm
    exact conv_rd s.encE a cap _ W' ((outs_rdO' ho).same (B' := Lo W.heap.size) (fun k hk => hW.block k hk) (fun _ h => h))
  have HSK : Hid (s.all.e = 0 → t.all.e = 0 → decide (s.key = t.key) = s.sameB t) := fun h1 h2 => key_same h1 h2 HBD.out.1 HBD.out.2
  obtain ⟨b1, i1, f1, tx1, vb1, rf1, vl1, vf1, c1, vr1, rfl⟩ := Tm.In_box hs
  obtain ⟨b2, i2, f2, tx2, vb2, rf2, vl2, vf2, c2, vr2, rfl⟩ := Tm.In_box ht
  clear hs ht
  have H0 : Hid (Below w.heap.size w (two w (tcells s.kind b1 i1 f1 tx1 vb1 rf1 vl1 vf1 c1 vr1) (tcells t.kind b2 i2 f2 tx2 vb2 rf2 vl2 vf2 c2 vr2))) := two_bel _ _ _
  have HS : Hid (∀ W, Below (two w (tcells s.kind b1 i1 f1 tx1 vb1 rf1 vl1 vf1 c1 vr1) (tcells t.kind b2 i2 f2 tx2 vb2 rf2 vl2 vf2 c2 vr2)).heap.size (two w (tcells s.kind b1 i1 f1 tx1 vb1 rf1 vl1 vf1 c1 vr1) (tcells t.kind b2 i2 f2 tx2 vb2 rf2 vl2 vf2 c2 vr2)) W → W.cell? ⟨w.heap.size, 0, none⟩ = some (.int .i64 s.kind) ∧ W.cell? ⟨w.heap.size, 1, none⟩ = some (.bool b1) ∧ W.cell? ⟨w.heap.size, 2, none⟩ = some (.int .i64 i1) ∧ W.cell? ⟨w.heap.size, 3, none⟩ = some (.float .f64 f1) ∧ W.cell? ⟨w.heap.size, 4, none⟩ = some (.string tx1) ∧ W.cell? ⟨w.heap.size, 5, none⟩ = some (vb1) ∧ W.cell? ⟨w.heap.size, 6, none⟩ = some (.int .u64 rf1) ∧ W.cell? ⟨w.heap.size, 7, none⟩ = some (vl1) ∧ W.cell? ⟨w.heap.size, 8, none⟩ = some (vf1) ∧ W.cell? ⟨w.heap.size, 9, none⟩ = some (.string c1) ∧ W.cell? ⟨w.heap.size, 10, none⟩ = some (.int .i64 vr1) ∧ W.cell? ⟨w.heap.size + 1, 0, none⟩ = some (.int .i64 t.kind) ∧ W.cell? ⟨w.heap.size + 1, 1, none⟩ = some (.bool b2) ∧ W.cell? ⟨w.heap.size + 1, 2, none⟩ = some (.int .i64 i2) ∧ W.cell? ⟨w.heap.size + 1, 3, none⟩ = some (.float .f64 f2) ∧ W.cell? ⟨w.heap.size + 1, 4, none⟩ = some (.string tx2) ∧ W.cell? ⟨w.heap.size + 1, 5, none⟩ = some (vb2) ∧ W.cell? ⟨w.heap.size + 1, 6, none⟩ = some (.int .u64 rf2) ∧ W.cell? ⟨w.heap.size + 1, 7, none⟩ = some (vl2) ∧ W.cell? ⟨w.heap.size + 1, 8, none⟩ = some (vf2) ∧ W.cell? ⟨w.heap.size + 1, 9, none⟩ = some (.string c2) ∧ W.cell? ⟨w.heap.size + 1, 10, none⟩ = some (.int .i64 vr2)) := fun W hW => by
    have h : Tbx W w.heap.size s.kind b1 i1 f1 tx1 vb1 rf1 vl1 vf1 c1 vr1 ∧ Tbx W (w.heap.size + 1) t.kind b2 i2 f2 tx2 vb2 rf2 vl2 vf2 c2 vr2 := ⟨bx_of (two_a hW), bx_of (two_b hW)⟩
    simp only [Tbx, and_assoc] at h
    exact h
  unfold tcells at HBs HBt HSst HRE HRS ⊢
  go_enter Try.func8, Try.ntmps8
  go_wp2_with fail
  refine (HBs.out _ H0.out).mono ?_
  rintro e w1 ⟨v1, rfl, hb1, hv1⟩
  have HB1 : Hid (Below (two w (tcells s.kind b1 i1 f1 tx1 vb1 rf1 vl1 vf1 c1 vr1) (tcells t.kind b2 i2 f2 tx2 vb2 rf2 vl2 vf2 c2 vr2)).heap.size (two w (tcells s.kind b1 i1 f1 tx1 vb1 rf1 vl1 vf1 c1 vr1) (tcells t.kind b2 i2 f2 tx2 vb2 rf2 vl2 vf2 c2 vr2)) w1) := hb1
  have HV1 : Hid (s.V w1 (Fr (two w (tcells s.kind b1 i1 f1 tx1 vb1 rf1 vl1 vf1 c1 vr1) (tcells t.kind b2 i2 f2 tx2 vb2 rf2 vl2 vf2 c2 vr2)) w1) v1) := hv1
  clear hb1 hv1
  go_wp2_with fail
  refine (HK.out s v1 _ _ HBD.out.1 HV1.out).mono ?_
  rintro e w2 ⟨rfl, hb2⟩
  have HB2 : Hid (Below (two w (tcells s.kind b1 i1 f1 tx1 vb1 rf1 vl1 vf1 c1 vr1) (tcells t.kind b2 i2 f2 tx2 vb2 rf2 vl2 vf2 c2 vr2)).heap.size (two w (tcells s.kind b1 i1 f1 tx1 vb1 rf1 vl1 vf1 c1 vr1) (tcells t.kind b2 i2 f2 tx2 vb2 rf2 vl2 vf2 c2 vr2)) w2) := below_to HB1.out hb2
  clear hb2 HV1
  obtain ⟨z0, z1, z2, z3, z4, z5, z6, z7, z8, z9, z10, z11, z12, z13, z14, z15, z16, z17, z18, z19, z20, z21⟩ := HS.out _ HB2.out
  go_wp2_with fail
  refine (HBt.out _ (below_to H0.out HB2.out)).mono ?_
  rintro e w3 ⟨v3, rfl, hb3, hv3⟩
  have HB3 : Hid (Below (two w (tcells s.kind b1 i1 f1 tx1 vb1 rf1 vl1 vf1 c1 vr1) (tcells t.kind b2 i2 f2 tx2 vb2 rf2 vl2 vf2 c2 vr2)).heap.size (two w (tcells s.kind b1 i1 f1 tx1 vb1 rf1 vl1 vf1 c1 vr1) (tcells t.kind b2 i2 f2 tx2 vb2 rf2 vl2 vf2 c2 vr2)) w3) := below_to HB2.out hb3
  have HV3 : Hid (t.V w3 (Fr w2 w3) v3) := hv3
  clear hb3 hv3 z0 z1 z2 z3 z4 z5 z6 z7 z8 z9 z10 z11 z12 z13 z14 z15 z16 z17 z18 z19 z20 z21
  go_wp2_with fail
  refine (HK.out t v3 _ _ HBD.out.2 HV3.out).mono ?_
  rintro e w4 ⟨rfl, hb4⟩
  have HB4 : Hid (Below (two w (tcells s.kind b1 i1 f1 tx1 vb1 rf1 vl1 vf1 c1 vr1) (tcells t.kind b2 i2 f2 tx2 vb2 rf2 vl2 vf2 c2 vr2)).heap.size (two w (tcells s.kind b1 i1 f1 tx1 vb1 rf1 vl1 vf1 c1 vr1) (tcells t.kind b2 i2 f2 tx2 vb2 rf2 vl2 vf2 c2 vr2)) w4) := below_to HB3.out hb4
  clear hb4 HV3
  obtain ⟨z0, z1, z2, z3, z4, z5, z6, z7, z8, z9, z10, z11, z12, z13, z14, z15, z16, z17, z18, z19, z20, z21⟩ := HS.out _ HB4.out
  go_wp2_with fail
  refine (HRE.out _ (below_to H0.out HB4.out)).mono ?_
  rintro e w5 ⟨m5, a5, cap5, rfl, H5⟩
  have HB5 : Hid (Below (two w (tcells s.kind b1 i1 f1 tx1 vb1 rf1 vl1 vf1 c1 vr1) (tcells t.kind b2 i2 f2 tx2 vb2 rf2 vl2 vf2 c2 vr2)).heap.size (two w (tcells s.kind b1 i1 f1 tx1 vb1 rf1 vl1 vf1 c1 vr1) (tcells t.kind b2 i2 f2 tx2 vb2 rf2 vl2 vf2 c2 vr2)) w5) := below_to HB4.out H5.out.2.2
  clear z0 z1 z2 z3 z4 z5 z6 z7 z8 z9 z10 z11 z12 z13 z14 z15 z16 z17 z18 z19 z20 z21
  obtain ⟨z0, z1, z2, z3, z4, z5, z6, z7, z8, z9, z10, z11, z12, z13, z14, z15, z16, z17, z18, z19, z20, z21⟩ := HS.out _ HB5.out
  go_wp2_with fail
  refine (HBs.out _ (below_to H0.out HB5.out)).mono ?_
  rintro e w6 ⟨v6, rfl, hb6, hv6⟩
  have HB6 : Hid (Below (two w (tcells s.kind b1 i1 f1 tx1 vb1 rf1 vl1 vf1 c1 vr1) (tcells t.kind b2 i2 f2 tx2 vb2 rf2 vl2 vf2 c2 vr2)).heap.size (two w (tcells s.kind b1 i1 f1 tx1 vb1 rf1 vl1 vf1 c1 vr1) (tcells t.kind b2 i2 f2 tx2 vb2 rf2 vl2 vf2 c2 vr2)) w6) := below_to HB5.out hb6
  have HC6 : Hid (Below w5.heap.size w5 w6) := hb6
  have HV6 : Hid (s.V w6 (Fr w5 w6) v6) := hv6
  clear hb6 hv6 z0 z1 z2 z3 z4 z5 z6 z7 z8 z9 z10 z11 z12 z13 z14 z15 z16 z17 z18 z19 z20 z21
  go_wp2_with fail
  refine (HSu.out s v6 _ _ HBD.out.1 HV6.out).mono ?_
  rintro e w7 ⟨rfl, hb7⟩
  have HB7 : Hid (Below (two w (tcells s.kind b1 i1 f1 tx1 vb1 rf1 vl1 vf1 c1 vr1) (tcells t.kind b2 i2 f2 tx2 vb2 rf2 vl2 vf2 c2 vr2)).heap.size (two w (tcells s.kind b1 i1 f1 tx1 vb1 rf1 vl1 vf1 c1 vr1) (tcells t.kind b2 i2 f2 tx2 vb2 rf2 vl2 vf2 c2 vr2)) w7) := below_to HB6.out hb7
  have HC7 : Hid (Below w5.heap.size w5 w7) := below_to HC6.out hb7
  clear hb7 HV6
  obtain ⟨z0, z1, z2, z3, z4, z5, z6, z7, z8, z9, z10, z11, z12, z13, z14, z15, z16, z17, z18, z19, z20, z21⟩ := HS.out _ HB7.out
  go_wp2_with fail
  refine (HRS.out _ (below_to H0.out HB7.out)).mono ?_
  rintro e w8 ⟨rfl, hb8⟩
  have HB8 : Hid (Below (two w (tcells s.kind b1 i1 f1 tx1 vb1 rf1 vl1 vf1 c1 vr1) (tcells t.kind b2 i2 f2 tx2 vb2 rf2 vl2 vf2 c2 vr2)).heap.size (two w (tcells s.kind b1 i1 f1 tx1 vb1 rf1 vl1 vf1 c1 vr1) (tcells t.kind b2 i2 f2 tx2 vb2 rf2 vl2 vf2 c2 vr2)) w8) := below_to HB7.out hb8
  have HC8 : Hid (Below w5.heap.size w5 w8) := below_to HC7.out hb8
  clear hb8 z0 z1 z2 z3 z4 z5 z6 z7 z8 z9 z10 z11 z12 z13 z14 z15 z16 z17 z18 z19 z20 z21
  have hcv := HCV.out a5 m5 cap5 _ w5 w8 H5.out.1 H5.out.2.1 HC8.out
  have hcv2 := HCV.out a5 m5 cap5 _ w5 w8.drew H5.out.1 H5.out.2.1 HC8.out.drew
  by_cases h1 : s.all.e = 0
  · have h1' : (s.all.e == 0) = true := by simp [h1]
    by_cases h2 : t.all.e = 0
    · have h2' : (t.all.e == 0) = true := by simp [h2]
      have hsk := HSK.out h1 h2
      generalize s.sameB t = sam at HSst hsk
      clear h1 h2
      obtain ⟨z0, z1, z2, z3, z4, z5, z6, z7, z8, z9, z10, z11, z12, z13, z14, z15, z16, z17, z18, z19, z20, z21⟩ := HS.out _ HB8.out
      go_wp2_with fail
      refine (HSst.out _ (below_to H0.out HB8.out)).mono ?_
      rintro e w9 ⟨rfl, hb9⟩
      have HB9 : Hid (Below (two w (tcells s.kind b1 i1 f1 tx1 vb1 rf1 vl1 vf1 c1 vr1) (tcells t.kind b2 i2 f2 tx2 vb2 rf2 vl2 vf2 c2 vr2)).heap.size (two w (tcells s.kind b1 i1 f1 tx1 vb1 rf1 vl1 vf1 c1 vr1) (tcells t.kind b2 i2 f2 tx2 vb2 rf2 vl2 vf2 c2 vr2)) w9) := below_to HB8.out hb9
      clear hb9 z0 z1 z2 z3 z4 z5 z6 z7 z8 z9 z10 z11 z12 z13 z14 z15 z16 z17 z18 z19 z20 z21
      subst hsk
      cases hd : decide (s.key = t.key) with
      | true =>
        have hd1 : (s.key.toList == t.key.toList) = true := by rw [same_of, decide_eq_true_eq, cmpS_zero]; exact of_decide_eq_true hd
        clear hd
        go_wp2_with fail
        refine (key_nil _).mono ?_
        rintro e w10 ⟨rfl, hb10⟩
        have HB10 : Hid (Below w.heap.size w w10) := below_to H0.out (below_to HB9.out hb10)
        clear hb10
        go_wp2_with fail
        go_ret
        exact ⟨rfl, HB10.out⟩
      | false =>
        have hd1 : (s.key.toList == t.key.toList) = false := by rw [same_of, decide_eq_false_iff_not, cmpS_zero]; exact of_decide_eq_false hd
        clear hd
        go_wp2_with fail
        refine (key_nil _).mono ?_
        rintro e w10 ⟨rfl, hb10⟩
        have HB10 : Hid (Below w.heap.size w w10) := below_to H0.out (below_to HB9.out hb10)
        clear hb10
        go_wp2_with fail
        go_ret
        exact ⟨rfl, HB10.out⟩
    · have h2' : (t.all.e == 0) = false := by simp [h2]
      clear h1 h2
      go_wp2_with fail
      refine (key_nil _).mono ?_
      rintro e w10 ⟨rfl, hb10⟩
      have HB10 : Hid (Below w.heap.size w w10) := below_to H0.out (below_to HB8.out hb10)
      clear hb10
      go_wp2_with fail
      go_ret
      exact ⟨rfl, HB10.out⟩
  · have h1' : (s.all.e == 0) = false := by simp [h1]
    clear h1
    go_wp2_with fail
    refine (key_nil _).mono ?_
    rintro e w10 ⟨rfl, hb10⟩
    have HB10 : Hid (Below w.heap.size w w10) := below_to H0.out (below_to HB8.out hb10)
    clear hb10
    go_wp2_with fail
    go_ret
    exact ⟨rfl, HB10.out⟩
end Go.Proofs.Ytkomcebknllaiaa

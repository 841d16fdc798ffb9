/- The document's own Order and Same of two terms (tenonref01.Order, tenonref01.Same). -/
import Derived.Test.YtadcbhdhgobknaaL38
import Derived.Test.YtadcbhdhgobknaaL36
namespace Go.Proofs.Ytadcbhdhgobknaa
open Go.RowKit

set_option maxRecDepth 100000 in
set_option maxHeartbeats 2000000 in
theorem refOrder_any (s t : Tm) (cs ct : Array Value) (B : Nat → Prop) (w : World) (hs : s.In w B cs) (ht : t.In w B ct) (hB : Sub B w) :
    Calls Try.prog 19 #[.agg cs, .agg ct] w fun e w' => e = .returned (.tuple #[.int .i64 (s.ordN t), .int .i64 (s.ordE t)]) ∧ Below w.heap.size w w' := by
  have HRs : Hid (∀ W, Below w.heap.size w W → Calls Try.prog 12 #[.agg cs] W fun e w' => e = .returned (.tuple #[.int .i64 s.cAt, .int .i64 s.all.e]) ∧ Below W.heap.size W w') := fun W hW =>
    refCheck_any s cs B W (s.In_same (hB.same hW) (fun _ h => h) cs hs) (hB.later hW)
  have HRt : Hid (∀ W, Below w.heap.size w W → Calls Try.prog 12 #[.agg ct] W fun e w' => e = .returned (.tuple #[.int .i64 t.cAt, .int .i64 t.all.e]) ∧ Below W.heap.size W w') := fun W hW =>
    refCheck_any t ct B W (t.In_same (hB.same hW) (fun _ h => h) ct ht) (hB.later hW)
  have HCm : Hid (s.Ok → t.Ok → ∀ W, Below w.heap.size w W → Calls Try.prog 48 #[.agg cs, .agg ct] W fun e w' => e = .returned (.int .i64 (s.cmp t)) ∧ Below W.heap.size W w') := fun os ot W hW =>
    compare_any s.sz s t (Nat.le_refl _) cs ct B W (s.In_same (hB.same hW) (fun _ h => h) cs hs) (t.In_same (hB.same hW) (fun _ h => h) ct ht) (hB.later hW) os ot
  obtain ⟨b1, i1, f1, tx1, vb1, rf1, vl1, vf1, c1, vr1, rfl⟩ := Tm.In_box hs
  obtain ⟨b2, i2, f2, tx2, vb2, rf2, vl2, vf2, c2, vr2, rfl⟩ := Tm.In_box ht
  clear hs ht
  have H0 : Hid (Below w.heap.size w (two w (tcells s.kind b1 i1 f1 tx1 vb1 rf1 vl1 vf1 c1 vr1) (tcells t.kind b2 i2 f2 tx2 vb2 rf2 vl2 vf2 c2 vr2))) := two_bel _ _ _
  have HS : Hid (∀ W, Below (two w (tcells s.kind b1 i1 f1 tx1 vb1 rf1 vl1 vf1 c1 vr1) (tcells t.kind b2 i2 f2 tx2 vb2 rf2 vl2 vf2 c2 vr2)).heap.size (two w (tcells s.kind b1 i1 f1 tx1 vb1 rf1 vl1 vf1 c1 vr1) (tcells t.kind b2 i2 f2 tx2 vb2 rf2 vl2 vf2 c2 vr2)) W → W.cell? ⟨w.heap.size, 0, none⟩ = some (.int .i64 s.kind) ∧ W.cell? ⟨w.heap.size, 1, none⟩ = some (.bool b1) ∧ W.cell? ⟨w.heap.size, 2, none⟩ = some (.int .i64 i1) ∧ W.cell? ⟨w.heap.size, 3, none⟩ = some (.float .f64 f1) ∧ W.cell? ⟨w.heap.size, 4, none⟩ = some (.string tx1) ∧ W.cell? ⟨w.heap.size, 5, none⟩ = some (vb1) ∧ W.cell? ⟨w.heap.size, 6, none⟩ = some (.int .u64 rf1) ∧ W.cell? ⟨w.heap.size, 7, none⟩ = some (vl1) ∧ W.cell? ⟨w.heap.size, 8, none⟩ = some (vf1) ∧ W.cell? ⟨w.heap.size, 9, none⟩ = some (.string c1) ∧ W.cell? ⟨w.heap.size, 10, none⟩ = some (.int .i64 vr1) ∧ W.cell? ⟨w.heap.size + 1, 0, none⟩ = some (.int .i64 t.kind) ∧ W.cell? ⟨w.heap.size + 1, 1, none⟩ = some (.bool b2) ∧ W.cell? ⟨w.heap.size + 1, 2, none⟩ = some (.int .i64 i2) ∧ W.cell? ⟨w.heap.size + 1, 3, none⟩ = some (.float .f64 f2) ∧ W.cell? ⟨w.heap.size + 1, 4, none⟩ = some (.string tx2) ∧ W.cell? ⟨w.heap.size + 1, 5, none⟩ = some (vb2) ∧ W.cell? ⟨w.heap.size + 1, 6, none⟩ = some (.int .u64 rf2) ∧ W.cell? ⟨w.heap.size + 1, 7, none⟩ = some (vl2) ∧ W.cell? ⟨w.heap.size + 1, 8, none⟩ = some (vf2) ∧ W.cell? ⟨w.heap.size + 1, 9, none⟩ = some (.string c2) ∧ W.cell? ⟨w.heap.size + 1, 10, none⟩ = some (.int .i64 vr2)) := fun W hW => by
    have h : Tbx W w.heap.size s.kind b1 i1 f1 tx1 vb1 rf1 vl1 vf1 c1 vr1 ∧ Tbx W (w.heap.size + 1) t.kind b2 i2 f2 tx2 vb2 rf2 vl2 vf2 c2 vr2 := ⟨bx_of (two_a hW), bx_of (two_b hW)⟩
    simp only [Tbx, and_assoc] at h
    exact h
  unfold tcells at HRs HRt HCm ⊢
  by_cases h1 : s.all.e ≠ 0
  · have h1' := ne_bool h1
    have H : Hid (s.ordN t = 0 ∧ s.ordE t = s.all.e) := by show _ ∧ _; unfold Tm.ordN Tm.ordE; rw [if_pos (.inl h1), if_pos h1]; exact ⟨rfl, rfl⟩
    clear h1
    go_enter Try.func19, Try.ntmps19
    go_wp2_with fail
    refine (HRs.out _ H0.out).mono ?_
    rintro e w1 ⟨rfl, hb1⟩
    go_wp2_with fail
    go_ret2
    rw [H.out.1, H.out.2]
    exact ⟨rfl, below_to H0.out hb1⟩
  · have h10 : s.all.e = 0 := Decidable.not_not.1 h1
    by_cases h2 : t.all.e ≠ 0
    · have h2' := ne_bool h2
      have H : Hid (s.ordN t = 0 ∧ s.ordE t = t.all.e) := by show _ ∧ _; unfold Tm.ordN Tm.ordE; rw [if_pos (.inr h2), if_neg h1]; exact ⟨rfl, rfl⟩
      clear h1 h2
      go_enter Try.func19, Try.ntmps19
      go_wp2_with fail
      refine (HRs.out _ H0.out).mono ?_
      rintro e w1 ⟨rfl, hb1⟩
      have HB1 : Hid (Below (two w (tcells s.kind b1 i1 f1 tx1 vb1 rf1 vl1 vf1 c1 vr1) (tcells t.kind b2 i2 f2 tx2 vb2 rf2 vl2 vf2 c2 vr2)).heap.size (two w (tcells s.kind b1 i1 f1 tx1 vb1 rf1 vl1 vf1 c1 vr1) (tcells t.kind b2 i2 f2 tx2 vb2 rf2 vl2 vf2 c2 vr2)) w1) := hb1
      obtain ⟨z0, z1, z2, z3, z4, z5, z6, z7, z8, z9, z10, z11, z12, z13, z14, z15, z16, z17, z18, z19, z20, z21⟩ := HS.out _ hb1
      clear hb1
      go_wp2_with fail
      refine (HRt.out _ (below_to H0.out HB1.out)).mono ?_
      rintro e w2 ⟨rfl, hb2⟩
      have HB2 : Hid (Below w1.heap.size w1 w2) := hb2
      clear hb2 z0 z1 z2 z3 z4 z5 z6 z7 z8 z9 z10 z11 z12 z13 z14 z15 z16 z17 z18 z19 z20 z21
      go_wp2_with fail
      go_ret2
      rw [H.out.1, H.out.2]
      exact ⟨rfl, below_to H0.out (below_to HB1.out HB2.out)⟩
    · have h20 : t.all.e = 0 := Decidable.not_not.1 h2
      have H : Hid (s.ordN t = s.cmp t ∧ s.ordE t = 0) := by show _ ∧ _; unfold Tm.ordN Tm.ordE; rw [if_neg (by omega), if_neg h1]; exact ⟨rfl, h20⟩
      have HOk : Hid (s.Ok ∧ t.Ok) := ⟨Tm.ok_all h10, Tm.ok_all h20⟩
      clear h1 h2
      go_enter Try.func19, Try.ntmps19
      go_wp2_with fail
      refine (HRs.out _ H0.out).mono ?_
      rintro e w1 ⟨rfl, hb1⟩
      have HB1 : Hid (Below (two w (tcells s.kind b1 i1 f1 tx1 vb1 rf1 vl1 vf1 c1 vr1) (tcells t.kind b2 i2 f2 tx2 vb2 rf2 vl2 vf2 c2 vr2)).heap.size (two w (tcells s.kind b1 i1 f1 tx1 vb1 rf1 vl1 vf1 c1 vr1) (tcells t.kind b2 i2 f2 tx2 vb2 rf2 vl2 vf2 c2 vr2)) w1) := hb1
      obtain ⟨z0, z1, z2, z3, z4, z5, z6, z7, z8, z9, z10, z11, z12, z13, z14, z15, z16, z17, z18, z19, z20, z21⟩ := HS.out _ hb1
      clear hb1
      go_wp2_with fail
      refine (HRt.out _ (below_to H0.out HB1.out)).mono ?_
      rintro e w2 ⟨rfl, hb2⟩
      have HB2 : Hid (Below (two w (tcells s.kind b1 i1 f1 tx1 vb1 rf1 vl1 vf1 c1 vr1) (tcells t.kind b2 i2 f2 tx2 vb2 rf2 vl2 vf2 c2 vr2)).heap.size (two w (tcells s.kind b1 i1 f1 tx1 vb1 rf1 vl1 vf1 c1 vr1) (tcells t.kind b2 i2 f2 tx2 vb2 rf2 vl2 vf2 c2 vr2)) w2) := below_to HB1.out hb2
      clear z0 z1 z2 z3 z4 z5 z6 z7 z8 z9 z10 z11 z12 z13 z14 z15 z16 z17 z18 z19 z20 z21
      obtain ⟨z0, z1, z2, z3, z4, z5, z6, z7, z8, z9, z10, z11, z12, z13, z14, z15, z16, z17, z18, z19, z20, z21⟩ := HS.out _ HB2.out
      clear hb2
      go_wp2_with fail
      refine (HCm.out HOk.out.1 HOk.out.2 _ (below_to H0.out HB2.out)).mono ?_
      rintro e w3 ⟨rfl, hb3⟩
      have HB3 : Hid (Below (two w (tcells s.kind b1 i1 f1 tx1 vb1 rf1 vl1 vf1 c1 vr1) (tcells t.kind b2 i2 f2 tx2 vb2 rf2 vl2 vf2 c2 vr2)).heap.size (two w (tcells s.kind b1 i1 f1 tx1 vb1 rf1 vl1 vf1 c1 vr1) (tcells t.kind b2 i2 f2 tx2 vb2 rf2 vl2 vf2 c2 vr2)) w3) := below_to HB2.out hb3
      clear hb3 z0 z1 z2 z3 z4 z5 z6 z7 z8 z9 z10 z11 z12 z13 z14 z15 z16 z17 z18 z19 z20 z21
      go_wp2_with fail
      go_ret2
      rw [H.out.1, H.out.2]
      exact ⟨rfl, below_to H0.out HB3.out⟩

theorem sameB_ord (s t : Tm) : (s.ordE t ≠ 0 ∧ s.sameB t = false) ∨ (s.ordE t = 0 ∧ s.sameB t = decide (s.ordN t = 0)) := by
  by_cases h : s.ordE t = 0
  · right
    have g := ok_both h
    refine ⟨h, ?_⟩
    rw [(same_ok g).2]; unfold Tm.sameB; simp [g.1, g.2]
  · left
    refine ⟨h, ?_⟩
    have := same_err h
    unfold Tm.sameB; simp only [decide_eq_false_iff_not]; intro g; exact this ⟨g.1, g.2.1⟩

set_option maxRecDepth 100000 in
set_option maxHeartbeats 2000000 in
theorem refSame_any (s t : Tm) (cs ct : Array Value) (B : Nat → Prop) (w : World) (hs : s.In w B cs) (ht : t.In w B ct) (hB : Sub B w) :
    Calls Try.prog 21 #[.agg cs, .agg ct] w fun e w' => e = .returned (.bool (s.sameB t)) ∧ Below w.heap.size w w' := by
  have HO : Hid (∀ W, Below w.heap.size w W → Calls Try.prog 19 #[.agg cs, .agg ct] W fun e w' => e = .returned (.tuple #[.int .i64 (s.ordN t), .int .i64 (s.ordE t)]) ∧ Below W.heap.size W w') := fun W hW =>
    refOrder_any s t cs ct B W (s.In_same (hB.same hW) (fun _ h => h) cs hs) (t.In_same (hB.same hW) (fun _ h => h) ct ht) (hB.later hW)
  obtain ⟨b1, i1, f1, tx1, vb1, rf1, vl1, vf1, c1, vr1, rfl⟩ := Tm.In_box hs
  obtain ⟨b2, i2, f2, tx2, vb2, rf2, vl2, vf2, c2, vr2, rfl⟩ := Tm.In_box ht
  clear hs ht
  have H0 : Hid (Below w.heap.size w (two w (tcells s.kind b1 i1 f1 tx1 vb1 rf1 vl1 vf1 c1 vr1) (tcells t.kind b2 i2 f2 tx2 vb2 rf2 vl2 vf2 c2 vr2))) := two_bel _ _ _
  unfold tcells at HO ⊢
  rcases sameB_ord s t with ⟨h, H⟩ | ⟨h, H⟩
  · have h' : (s.ordE t == 0) = false := by simp [h]
    have H : Hid _ := H
    clear h
    go_enter Try.func21, Try.ntmps21
    go_wp2_with fail
    refine (HO.out _ H0.out).mono ?_
    rintro e w1 ⟨rfl, hb1⟩
    go_wp2_with fail
    go_ret
    exact ⟨by rw [H.out]; rfl, below_to H0.out hb1⟩
  · have H : Hid _ := H
    go_enter Try.func21, Try.ntmps21
    go_wp2_with fail
    refine (HO.out _ H0.out).mono ?_
    rintro e w1 ⟨rfl, hb1⟩
    go_wp2_with fail
    go_ret
    exact ⟨by rw [H.out]; rfl, below_to H0.out hb1⟩
end Go.Proofs.Ytadcbhdhgobknaa

/- tenonmake.Plain and Is at a value that can be. -/
namespace Go.Proofs.Ytadcbhdhgobknaa
open Go.RowKit

set_option maxRecDepth 100000 in
set_option maxHeartbeats 1000000 in
theorem mPlain_any (t : Tm) (v : Value) (w : World) (S : Nat → Prop) (h : t.V w S v) (hS : Sub S w) (he : t.all.e = 0) (hb : t.Bdd) :
    Calls Try.prog 45 #[v] w fun e w' => ∃ k b i f tx ab nb cb rf al nl cl af nf cf c vr, e = .returned (.agg (tcells k b i f tx (.slice ab nb cb) rf (.slice al nl cl) (.slice af nf cf) c vr)) ∧ Below w.heap.size w w' ∧ t.clean.In w' (Fr w w') (tcells k b i f tx (.slice ab nb cb) rf (.slice al nl cl) (.slice af nf cf) c vr) := by
  have HT := (plain_any t.sz).at (deep := 0) (n := 1) (Nat.le_refl _) h hS ⟨0, 0, he⟩ hb (by decide) (by decide)
  have HT : Hid _ := HT
  unfold tcells at HT
  clear h he hb
  unfold tcells
  go_enter Try.func45, Try.ntmps45
  go_wp2_with fail
  refine (HT.out _ ((Below.refl _ _).alloc (Nat.le_refl _) _)).mono ?_
  rintro e w1 ⟨k1, b1, i1, f1, tx1, ab1, nb1, cb1, rf1, al1, nl1, cl1, af1, nf1, cf1, cc1, vr1, rfl, hb1, hv1⟩
  obtain ⟨hR, hbw, hsz⟩ := box_at1 hb1
  obtain ⟨r0, r1, r2, r3, r4, r5, r6, r7, r8, r9, r10⟩ := tbox hR
  have hf := box_writes hR
  have z0 := hf 0; have z1 := hf 1; have z2 := hf 2; have z3 := hf 3; have z4 := hf 4; have z5 := hf 5; have z6 := hf 6; have z7 := hf 7; have z8 := hf 8; have z9 := hf 9; have z10 := hf 10
  have HE : Hid (Below w.heap.size w (setN w1 w.heap.size 0 [.int .i64 k1, .bool b1, .int .i64 i1, .float .f64 f1, .string tx1, .slice ab1 nb1 cb1, .int .u64 rf1, .slice al1 nl1 cl1, .slice af1 nf1 cf1, .string cc1, .int .i64 vr1]) ∧ t.clean.In (setN w1 w.heap.size 0 [.int .i64 k1, .bool b1, .int .i64 i1, .float .f64 f1, .string tx1, .slice ab1 nb1 cb1, .int .u64 rf1, .slice al1 nl1 cl1, .slice af1 nf1 cf1, .string cc1, .int .i64 vr1]) (Fr w (setN w1 w.heap.size 0 [.int .i64 k1, .bool b1, .int .i64 i1, .float .f64 f1, .string tx1, .slice ab1 nb1 cb1, .int .u64 rf1, .slice al1 nl1 cl1, .slice af1 nf1 cf1, .string cc1, .int .i64 vr1])) #[.int .i64 k1, .bool b1, .int .i64 i1, .float .f64 f1, .string tx1, .slice ab1 nb1 cb1, .int .u64 rf1, .slice al1 nl1 cl1, .slice af1 nf1 cf1, .string cc1, .int .i64 vr1]) := by
    refine ⟨setN_below (Nat.le_refl _) _ _ _ _ hbw, t.clean.In_same (fun k hk => setN_other (by have := hk.1; simp at this; omega) _ _ _) (fun k hk => ⟨by have := hk.1; simp at this; omega, by rw [setN_size]; exact hk.2⟩) _ hv1⟩
  clear hb1 hv1 hR hbw hf
  go_wp2_with fail
  refine bodyPost_ret (v := .agg #[.int .i64 k1, .bool b1, .int .i64 i1, .float .f64 f1, .string tx1, .slice ab1 nb1 cb1, .int .u64 rf1, .slice al1 nl1 cl1, .slice af1 nf1 cf1, .string cc1, .int .i64 vr1]) (by simp [results, Try.results45, go_sem, r0, r1, r2, r3, r4, r5, r6, r7, r8, r9, r10]) rfl ⟨k1, b1, i1, f1, tx1, ab1, nb1, cb1, rf1, al1, nl1, cl1, af1, nf1, cf1, cc1, vr1, rfl, HE.out.1, HE.out.2⟩

set_option maxRecDepth 100000 in
set_option maxHeartbeats 1000000 in
theorem Is_any (t : Tm) (v : Value) (ct : Array Value) (w : World) (S : Nat → Prop) (h : t.V w S v) (hi : t.In w S ct) (hS : Sub S w) (he : t.all.e = 0) :
    Calls Try.prog 14 #[v, .agg ct] w fun e w' => e = .returned (.bool true) ∧ Below w.heap.size w w' := by
  have hb := Tm.In_bdd t ct hi
  have HP : Hid (∀ W, Below w.heap.size w W → Calls Try.prog 45 #[v] W fun e w' => ∃ k b i f tx ab nb cb rf al nl cl af nf cf c vr, e = .returned (.agg (tcells k b i f tx (.slice ab nb cb) rf (.slice al nl cl) (.slice af nf cf) c vr)) ∧ Below W.heap.size W w' ∧ t.clean.In w' (Fr W w') (tcells k b i f tx (.slice ab nb cb) rf (.slice al nl cl) (.slice af nf cf) c vr)) := fun W hW =>
    mPlain_any t v W S (t.V_same (hS.same hW) (fun _ h => h) v h) (hS.later hW) he hb
  have HM : Hid (∀ W W' cs, Below w.heap.size w W → Below W.heap.size W W' → t.clean.In W' (Fr W W') cs → Calls Try.prog 22 #[.agg cs, .agg ct] W' fun e w' => e = .returned (.bool true) ∧ Below W'.heap.size W' w') := fun W W' cs hW hW' hc => by
    have hz := hW'.size
    exact msame_any t.clean.sz t.clean t (Nat.le_refl _) (Tm.clean_eqv t (Tm.ok_all he)) cs ct (Lo W'.heap.size) W' (t.clean.In_same (Same.refl _ _) (fun k hk => hk.2) cs hc) (t.In_same (hS.same (below_to hW hW')) (fun k hk => Nat.lt_of_lt_of_le (hS k hk) (Nat.le_trans hW.size hz)) ct hi) (Sub.lo (Nat.le_refl _))
  obtain ⟨b2, i2, f2, tx2, vb2, rf2, vl2, vf2, c2, vr2, rfl⟩ := Tm.In_box hi
  clear h hi he hb
  unfold tcells at HP HM ⊢
  go_enter Try.func14, Try.ntmps14
  have HX : Hid (∀ W, Below (w.alloc (.cells #[.int .i64 t.kind, .bool b2, .int .i64 i2, .float .f64 f2, .string tx2, vb2, .int .u64 rf2, vl2, vf2, .string c2, .int .i64 vr2] 29)).heap.size (w.alloc (.cells #[.int .i64 t.kind, .bool b2, .int .i64 i2, .float .f64 f2, .string tx2, vb2, .int .u64 rf2, vl2, vf2, .string c2, .int .i64 vr2] 29)) W → (W.cell? ⟨w.heap.size, 0, none⟩ = some (.int .i64 t.kind) ∧ W.cell? ⟨w.heap.size, 1, none⟩ = some (.bool b2) ∧ W.cell? ⟨w.heap.size, 2, none⟩ = some (.int .i64 i2) ∧ W.cell? ⟨w.heap.size, 3, none⟩ = some (.float .f64 f2) ∧ W.cell? ⟨w.heap.size, 4, none⟩ = some (.string tx2) ∧ W.cell? ⟨w.heap.size, 5, none⟩ = some (vb2) ∧ W.cell? ⟨w.heap.size, 6, none⟩ = some (.int .u64 rf2) ∧ W.cell? ⟨w.heap.size, 7, none⟩ = some (vl2) ∧ W.cell? ⟨w.heap.size, 8, none⟩ = some (vf2) ∧ W.cell? ⟨w.heap.size, 9, none⟩ = some (.string c2) ∧ W.cell? ⟨w.heap.size, 10, none⟩ = some (.int .i64 vr2)) ∧ Below w.heap.size w W) := fun W hW => ⟨tbox (box_at1 hW).1, (box_at1 hW).2.1⟩
  go_wp2_with fail
  go_region_held3 (fun W => W.cell? ⟨w.heap.size, 0, none⟩ = some (.int .i64 t.kind) ∧ W.cell? ⟨w.heap.size, 1, none⟩ = some (.bool b2) ∧ W.cell? ⟨w.heap.size, 2, none⟩ = some (.int .i64 i2) ∧ W.cell? ⟨w.heap.size, 3, none⟩ = some (.float .f64 f2) ∧ W.cell? ⟨w.heap.size, 4, none⟩ = some (.string tx2) ∧ W.cell? ⟨w.heap.size, 5, none⟩ = some (vb2) ∧ W.cell? ⟨w.heap.size, 6, none⟩ = some (.int .u64 rf2) ∧ W.cell? ⟨w.heap.size, 7, none⟩ = some (vl2) ∧ W.cell? ⟨w.heap.size, 8, none⟩ = some (vf2) ∧ W.cell? ⟨w.heap.size, 9, none⟩ = some (.string c2) ∧ W.cell? ⟨w.heap.size, 10, none⟩ = some (.int .i64 vr2))
    (first | with_reducible exact (HX.out w2 HB2.out).1 | with_reducible exact (HX.out w1 HB1.out).1 | exact (HX.out _ (Below.refl _ _)).1 | exact (HX.out _ (Below.refl _ _).drew).1)
    ((first
      | (go_at_call 45; refine (HP.out _ ?_).mono ?_; exact (HX.out _ (Below.refl _ _).drew).2; rintro e w1 ⟨k1, b1, i1, f1, tx1, ab1, nb1, cb1, rf1, al1, nl1, cl1, af1, nf1, cf1, cc1, vr1, rfl, hb1, hv1⟩; have HB1 : Hid (Below (w.alloc (.cells #[.int .i64 t.kind, .bool b2, .int .i64 i2, .float .f64 f2, .string tx2, vb2, .int .u64 rf2, vl2, vf2, .string c2, .int .i64 vr2] 29)).heap.size (w.alloc (.cells #[.int .i64 t.kind, .bool b2, .int .i64 i2, .float .f64 f2, .string tx2, vb2, .int .u64 rf2, vl2, vf2, .string c2, .int .i64 vr2] 29)) w1) := below_to (Below.refl _ _).drew hb1; have HBd : Hid _ := hb1; have HV1 : Hid _ := hv1; clear hb1 hv1)
      | (go_at_call 22; refine (HM.out _ w1 _ (HX.out _ (Below.refl _ _).drew).2 HBd.out HV1.out).mono ?_; rintro e w2 ⟨rfl, hb2⟩; have HB2 : Hid (Below (w.alloc (.cells #[.int .i64 t.kind, .bool b2, .int .i64 i2, .float .f64 f2, .string tx2, vb2, .int .u64 rf2, vl2, vf2, .string c2, .int .i64 vr2] 29)).heap.size (w.alloc (.cells #[.int .i64 t.kind, .bool b2, .int .i64 i2, .float .f64 f2, .string tx2, vb2, .int .u64 rf2, vl2, vf2, .string c2, .int .i64 vr2] 29)) w2) := below_to HB1.out hb2; clear hb2)))
  go_wp2_with fail
  go_ret
  exact ⟨rfl, (HX.out w2 HB2.out).2⟩
end Go.Proofs.Ytadcbhdhgobknaa


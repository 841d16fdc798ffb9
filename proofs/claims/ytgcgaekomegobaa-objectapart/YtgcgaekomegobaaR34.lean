/- tenonmake.Plain and Is at a value that can be. -/
import Derived.Test.YtgcgaekomegobaaR33
import Derived.Test.YtgcgaekomegobaaR10
namespace Go.Proofs.Ytgcgaekomegobaa
open Go.RowKit

set_option maxRecDepth 100000 in
set_option maxHeartbeats 1000000 in
theorem mPlain_any (t : Tm) (v : Value) (w : World) (S : Nat → Prop) (h : t.V w S v) (hS : Sub S w) (he : t.all.e = 0) (hb : t.Bdd) :
    Calls Try.prog 9 #[v] w fun e w' => ∃ k b i f tx ab nb cb rf al nl cl af nf cf c vr, e = .returned (.agg (tcells k b i f tx (.slice ab nb cb) rf (.slice al nl cl) (.slice af nf cf) c vr)) ∧ Below w.heap.size w w' ∧ t.clean.In w' (Fr w w') (tcells k b i f tx (.slice ab nb cb) rf (.slice al nl cl) (.slice af nf cf) c vr) := by
  have HT := (plain_any t.sz).at (deep := 0) (n := 1) (Nat.le_refl _) h hS ⟨0, 0, he⟩ hb (by decide) (by decide)
  have HT : Hid _ := HT
  unfold tcells at HT
  clear h he hb
  unfold tcells
  go_enter Try.func9, Try.ntmps9
  go_wp2_with fail
  refine (HT.out _ ((Below.refl _ _).alloc (Nat.le_refl _) _)).mono ?_
  rintro e w1 ⟨k1, b1, i1, f1, tx1, ab1, nb1, cb1, rf1, al1, nl1, cl1, af1, nf1, cf1, cc1, vr1, rfl, hb1, hv1⟩
  obtain ⟨hR, hbw, hsz⟩ := box_at1 hb1
  obtain ⟨r0, r1, r2, r3, r4, r5, r6, r7, r8, r9, r10⟩ := tbox hR
  have hf := box_writes hR
  have z0 := hf 0; have z1 := hf 1; have z2 := hf 2; have z3 := hf 3; have z4 := hf 4; have z5 := hf 5; have z6 := hf 6; have z7 := hf 7; have z8 := hf 8; have z9 := hf 9; have z10 := hf 10
  have HE : Hid (Below w.heap.size w (setN w1 w.heap.size 0 [.int .i64 k1, .bool b1, .int .i64 i1, .float .f64 f1, .string tx1, .slice ab1 nb1 cb1, .int .u64 rf1, .slice al1 nl1 cl1, .slice af1 nf1 cf1, .string cc1, .int .i64 vr1]) ∧ t.clean.In (setN w1 w.heap.size 0 [.int .i64 k1, .bool b1, .int .i64 i1, .float .f64 f1, .string tx1, .slice ab1 nb1 cb1, .int .u64 rf1, .slice al1 nl1 cl1, .slice af1 nf1 cf1, .string cc1, .int .i64 vr1]) (Fr w (setN w1 w.heap.size 0 [.int .i64 k1, .bool b1, .int .i64 i1, .float .f64 f1, .string tx1, .slice ab1 nb1 cb1, .int .u64 rf1, .slice al1 nl1 cl1, .slice af1 nf1 cf1, .string cc1, .int .i64 vr1])) #[.int .i64 k1, .bool b1, .int .i64 i1, .float .f64 f1, .string tx1, .slice ab1 nb1 cb1, .int .u64 rf1, .slice al1 nl1 cl1, .slice af1 nf1 cf1, .string cc1, .int .i64 vr1]) := by
    refine ⟨setN_below (Nat.le_refl _) _ _ _ _ hbw, t.clean.In_same (fun k hk => setN_other (by have := hk.1; simp at this; omega) _ _ _) (fun k hk => ⟨by have := hk.1; simp at this; omega, by rw [setN_size]; exact hk.2⟩) _ hv1⟩
  clear hb1 hv1 hR hbw hf
  go_wp2_with fail
  refine bodyPost_ret (v := .agg #[.int .i64 k1, .bool b1, .int .i64 i1, .float .f64 f1, .string tx1, .slice ab1 nb1 cb1, .int .u64 rf1, .slice al1 nl1 cl1, .slice af1 nf1 cf1, .string cc1, .int .i64 vr1]) (by simp [results, Try.results9, go_sem, r0, r1, r2, r3, r4, r5, r6, r7, r8, r9, r10]) rfl ⟨k1, b1, i1, f1, tx1, ab1, nb1, cb1, rf1, al1, nl1, cl1, af1, nf1, cf1, cc1, vr1, rfl, HE.out.1, HE.out.2⟩

set_option maxRecDepth 100000 in
set_option maxHeartbeats 1000000 in
theorem Is_any (t : Tm) (v : Value) (ct : Array Value) (w : World) (S : Nat → Prop) (h : t.V w S v) (hi : t.In w S ct) (hS : Sub S w) (he : t.all.e = 0) :
    Calls Try.prog 15 #[v, .agg ct] w fun e w' => e = .returned (.bool true) ∧ Below w.heap.size w w' := by
  have hb := Tm.In_bdd t ct hi
  have HP : Hid (∀ W, Below w.heap.size w W → Calls Try.prog 9 #[v] W fun e w' => ∃ k b i f tx ab nb cb rf al nl cl af nf cf c vr, e = .returned (.agg (tcells k b i f tx (.slice ab nb cb) rf (.slice al nl cl) (.slice af nf cf) c vr)) ∧ Below W.heap.size W w' ∧ t.clean.In w' (Fr W w') (tcells k b i f tx (.slice ab nb cb) rf (.slice al nl cl) (.slice af nf cf) c vr)) := fun W hW =>
    mPlain_any t v W S (t.V_same (hS.same hW) (fun _ h => h) v h) (hS.later hW) he hb
  have HM : Hid (∀ W W' cs, Below w.heap.size w W → Below W.heap.size W W' → t.clean.In W' (Fr W W') cs → Calls Try.prog 23 #[.agg cs, .agg ct] W' fun e w' => e = .returned (.bool true) ∧ Below W'.heap.size W' w') := fun W W' cs hW hW' hc => by
    have hz := hW'.size
    exact msame_any t.clean.sz t.clean t (Nat.le_refl _) (Tm.clean_eqv t (Tm.ok_all he)) cs ct (Lo W'.heap.size) W' (t.clean.In_same (Same.refl _ _) (fun k hk => hk.2) cs hc) (t.In_same (hS.same (below_to hW hW')) (fun k hk => Nat.lt_of_lt_of_le (hS k hk) (Nat.le_trans hW.size hz)) ct hi) (Sub.lo (Nat.le_refl _))
  obtain ⟨b2, i2, f2, tx2, vb2, rf2, vl2, vf2, c2, vr2, rfl⟩ := Tm.In_box hi
  clear h hi he hb
  unfold tcells at HP HM ⊢
  go_enter Try.func15, Try.ntmps15
  have HX : Hid (∀ W, Below (w.alloc (.cells #[.int .i64 t.kind, .bool b2, .int .i64 i2, .float .f64 f2, .string tx2, vb2, .int .u64 rf2, vl2, vf2, .string c2, .int .i64 vr2] 37)).heap.size (w.alloc (.cells #[.int .i64 t.kind, .bool b2, .int .i64 i2, .float .f64 f2, .string tx2, vb2, .int .u64 rf2, vl2, vf2, .string c2, .int .i64 vr2] 37)) W → (W.cell? ⟨w.heap.size, 0, none⟩ = some (.int .i64 t.kind) ∧ W.cell? ⟨w.heap.size, 1, none⟩ = some (.bool b2) ∧ W.cell? ⟨w.heap.size, 2, none⟩ = some (.int .i64 i2) ∧ W.cell? ⟨w.heap.size, 3, none⟩ = some (.float .f64 f2) ∧ W.cell? ⟨w.heap.size, 4, none⟩ = some (.string tx2) ∧ W.cell? ⟨w.heap.size, 5, none⟩ = some (vb2) ∧ W.cell? ⟨w.heap.size, 6, none⟩ = some (.int .u64 rf2) ∧ W.cell? ⟨w.heap.size, 7, none⟩ = some (vl2) ∧ W.cell? ⟨w.heap.size, 8, none⟩ = some (vf2) ∧ W.cell? ⟨w.heap.size, 9, none⟩ = some (.string c2) ∧ W.cell? ⟨w.heap.size, 10, none⟩ = some (.int .i64 vr2)) ∧ Below w.heap.size w W) := fun W hW => ⟨tbox (box_at1 hW).1, (box_at1 hW).2.1⟩
  go_wp2_with fail
  go_region_held3 (fun W => W.cell? ⟨w.heap.size, 0, none⟩ = some (.int .i64 t.kind) ∧ W.cell? ⟨w.heap.size, 1, none⟩ = some (.bool b2) ∧ W.cell? ⟨w.heap.size, 2, none⟩ = some (.int .i64 i2) ∧ W.cell? ⟨w.heap.size, 3, none⟩ = some (.float .f64 f2) ∧ W.cell? ⟨w.heap.size, 4, none⟩ = some (.string tx2) ∧ W.cell? ⟨w.heap.size, 5, none⟩ = some (vb2) ∧ W.cell? ⟨w.heap.size, 6, none⟩ = some (.int .u64 rf2) ∧ W.cell? ⟨w.heap.size, 7, none⟩ = some (vl2) ∧ W.cell? ⟨w.heap.size, 8, none⟩ = some (vf2) ∧ W.cell? ⟨w.heap.size, 9, none⟩ = some (.string c2) ∧ W.cell? ⟨w.heap.size, 10, none⟩ = some (.int .i64 vr2))
    (first | with_reducible exact (HX.out w2 HB2.out).1 | with_reducible exact (HX.out w1 HB1.out).1 | exact (HX.out _ (Below.refl _ _)).1 | exact (HX.out _ (Below.refl _ _).drew).1)
    ((first
      | (go_at_call 9; refine (HP.out _ ?_).mono ?_; exact (HX.out _ (Below.refl _ _).drew).2; rintro e w1 ⟨k1, b1, i1, f1, tx1, ab1, nb1, cb1, rf1, al1, nl1, cl1, af1, nf1, cf1, cc1, vr1, rfl, hb1, hv1⟩; have HB1 : Hid (Below (w.alloc (.cells #[.int .i64 t.kind, .bool b2, .int .i64 i2, .float .f64 f2, .string tx2, vb2, .int .u64 rf2, vl2, vf2, .string c2, .int .i64 vr2] 37)).heap.size (w.alloc (.cells #[.int .i64 t.kind, .bool b2, .int .i64 i2, .float .f64 f2, .string tx2, vb2, .int .u64 rf2, vl2, vf2, .string c2, .int .i64 vr2] 37)) w1) := below_to (Below.refl _ _).drew hb1; have HBd : Hid _ := hb1; have HV1 : Hid _ := hv1; clear hb1 hv1)
      | (go_at_call 23; refine (HM.out _ w1 _ (HX.out _ (Below.refl _ _).drew).2 HBd.out HV1.out).mono ?_; rintro e w2 ⟨rfl, hb2⟩; have HB2 : Hid (Below (w.alloc (.cells #[.int .i64 t.kind, .bool b2, .int .i64 i2, .float .f64 f2, .string tx2, vb2, .int .u64 rf2, vl2, vf2, .string c2, .int .i64 vr2] 37)).heap.size (w.alloc (.cells #[.int .i64 t.kind, .bool b2, .int .i64 i2, .float .f64 f2, .string tx2, vb2, .int .u64 rf2, vl2, vf2, .string c2, .int .i64 vr2] 37)) w2) := below_to HB1.out hb2; clear hb2)))
  go_wp2_with fail
  go_ret
  exact ⟨rfl, (HX.out w2 HB2.out).2⟩
end Go.Proofs.Ytgcgaekomegobaa


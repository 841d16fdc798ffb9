/- value.Plain where the value can be; tenonmake.Plain and tenonmake.Is. -/
import Derived.Test.YtjdjpbdfchhcfaaGreatKE50
import Derived.Test.YtjdjpbdfchhcfaaGreatKE18
import Derived.Test.YtjdjpbdfchhcfaaGreatKE9
namespace Go.Proofs.YtjdjpbdfchhcfaaGreat
open Go.RowKit

set_option maxRecDepth 100000 in
set_option maxHeartbeats 1000000 in
theorem Plain_okS (t : Tm) (v : Value) (w : World) (h : t.V w (Lo w.heap.size) v) (he : t.all.e = 0) (hb : t.Bdd) :
    Calls Tryz.prog 60 #[v] w fun e w' => ∃ cs, e = .returned (.tuple #[.agg cs, .int .i64 0]) ∧ Below w.heap.size w w' ∧ t.clean.In w' (FrS w w') cs := by
  have HCk : Hid (∀ W, Below w.heap.size w W → Calls Tryz.prog 68 #[v] W fun e w' => e = .returned (.tuple #[.int .i64 t.cAt, .int .i64 0]) ∧ Below W.heap.size W w') := fun W hW => by
    have := Check_any t v w.heap.size W hW.size (t.V_same (Same.of_below hW (Nat.le_refl _)) (fun _ h => h) v h); rw [he] at this; exact this
  have HT : Hid (∀ W, Below w.heap.size w W → Calls Tryz.prog 97 #[v] W fun e w' => ∃ k b i f tx ab nb cb rf al nl cl af nf cf c vr, e = .returned (.agg (tcells k b i f tx (.slice ab nb cb) rf (.slice al nl cl) (.slice af nf cf) c vr)) ∧ Below W.heap.size W w' ∧ t.clean.In w' (FrS W w') (tcells k b i f tx (.slice ab nb cb) rf (.slice al nl cl) (.slice af nf cf) c vr)) :=
    (termOf_any t.sz).at (Nat.le_refl _) h (Sub.lo (Nat.le_refl _)) (Tm.ok_all he) hb
  unfold tcells at HT
  clear h he hb
  go_enter Tryz.func60, Tryz.ntmps60
  go_wp2_with fail
  refine (HCk.out _ ((Below.refl _ _).alloc (Nat.le_refl _) _)).mono ?_
  rintro e w0 ⟨rfl, hb0⟩
  have HB0 : Hid _ := hb0
  clear hb0
  go_wp2_with fail
  refine (HT.out _ (box_at1 HB0.out).2.1).mono ?_
  rintro e w1 ⟨k1, b1, i1, f1, tx1, ab1, nb1, cb1, rf1, al1, nl1, cl1, af1, nf1, cf1, cc1, vr1, rfl, hb1, hv1⟩
  obtain ⟨hR, hbw, hsz⟩ := box_at1 (below_to HB0.out hb1)
  obtain ⟨r0, r1, r2, r3, r4, r5, r6, r7, r8, r9, r10⟩ := tbox hR
  have hf := box_writes hR
  have z0 := hf 0; have z1 := hf 1; have z2 := hf 2; have z3 := hf 3; have z4 := hf 4; have z5 := hf 5; have z6 := hf 6; have z7 := hf 7; have z8 := hf 8; have z9 := hf 9; have z10 := hf 10
  have HE : Hid (Below w.heap.size w (setN w1 w.heap.size 0 [.int .i64 k1, .bool b1, .int .i64 i1, .float .f64 f1, .string tx1, .slice ab1 nb1 cb1, .int .u64 rf1, .slice al1 nl1 cl1, .slice af1 nf1 cf1, .string cc1, .int .i64 vr1]) ∧ t.clean.In (setN w1 w.heap.size 0 [.int .i64 k1, .bool b1, .int .i64 i1, .float .f64 f1, .string tx1, .slice ab1 nb1 cb1, .int .u64 rf1, .slice al1 nl1 cl1, .slice af1 nf1 cf1, .string cc1, .int .i64 vr1]) (FrS w (setN w1 w.heap.size 0 [.int .i64 k1, .bool b1, .int .i64 i1, .float .f64 f1, .string tx1, .slice ab1 nb1 cb1, .int .u64 rf1, .slice al1 nl1 cl1, .slice af1 nf1 cf1, .string cc1, .int .i64 vr1])) #[.int .i64 k1, .bool b1, .int .i64 i1, .float .f64 f1, .string tx1, .slice ab1 nb1 cb1, .int .u64 rf1, .slice al1 nl1 cl1, .slice af1 nf1 cf1, .string cc1, .int .i64 vr1]) := by
    have hz := (box_at1 HB0.out).2.2
    refine ⟨setN_below (Nat.le_refl _) _ _ _ _ hbw, t.clean.In_same (B := FrS w0 w1) (fun k hk => setN_other (by have := hk.1; omega) _ _ _) (fun k hk => ⟨by have := hk.1; omega, by rw [setN_size]; exact hk.2.1, hk.2.2.same (setN_other (by have := hk.1; omega) _ _ _)⟩) _ hv1⟩
  clear hb1 hv1 hR hbw hf HB0
  go_wp2_with fail
  refine bodyPost_ret (v := .tuple #[.agg #[.int .i64 k1, .bool b1, .int .i64 i1, .float .f64 f1, .string tx1, .slice ab1 nb1 cb1, .int .u64 rf1, .slice al1 nl1 cl1, .slice af1 nf1 cf1, .string cc1, .int .i64 vr1], .int .i64 0]) (by simp [results, Tryz.results60, go_sem, r0, r1, r2, r3, r4, r5, r6, r7, r8, r9, r10]) rfl ⟨_, rfl, HE.out.1, HE.out.2⟩

theorem Plain_ok (t : Tm) (v : Value) (w : World) (h : t.V w (Lo w.heap.size) v) (he : t.all.e = 0) (hb : t.Bdd) :
    Calls Tryz.prog 60 #[v] w fun e w' => ∃ cs, e = .returned (.tuple #[.agg cs, .int .i64 0]) ∧ Below w.heap.size w w' ∧ t.clean.In w' (Fr w w') cs := by
  refine (Plain_okS t v w h he hb).mono ?_
  rintro e w' ⟨cs, rfl, h1, h2⟩
  exact ⟨cs, rfl, h1, t.clean.In_same (Same.refl _ _) FrS.fr cs h2⟩
end Go.Proofs.YtjdjpbdfchhcfaaGreat


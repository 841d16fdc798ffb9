/- tenonmake.Plain and Is at a value that can be. -/
import Derived.Test.YtjlhmgopmdcopaaGreatKI44
import Derived.Test.YtjlhmgopmdcopaaGreatKI10
namespace Go.Proofs.YtjlhmgopmdcopaaGreat
open Go.RowKit

set_option maxRecDepth 100000 in
set_option maxHeartbeats 1000000 in
theorem mPlain_any (t : Tm) (v : Value) (w : World) (S : Nat → Prop) (h : t.V w S v) (hS : Sub S w) (he : t.all.e = 0) (hb : t.Bdd) :
    Calls Tryz.prog 17 #[v] w fun e w' => ∃ k b i f tx ab nb cb rf al nl cl af nf cf c vr, e = .returned (.agg (tcells k b i f tx (.slice ab nb cb) rf (.slice al nl cl) (.slice af nf cf) c vr)) ∧ Below w.heap.size w w' ∧ t.clean.In w' (Fr w w') (tcells k b i f tx (.slice ab nb cb) rf (.slice al nl cl) (.slice af nf cf) c vr) := by
  have HT := (plain_any t.sz).at (deep := 0) (n := 1) (Nat.le_refl _) h hS ⟨0, 0, he⟩ hb (by decide) (by decide)
  have HT : Hid _ := HT
  unfold tcells at HT
  clear h he hb
  unfold tcells
  go_enter Tryz.func17, Tryz.ntmps17
  go_wp2_with fail
  refine (HT.out _ ((Below.refl _ _).alloc (Nat.le_refl _) _)).mono ?_
  rintro e w1 ⟨k1, b1, i1, f1, tx1, ab1, nb1, cb1, rf1, al1, nl1, cl1, af1, nf1, cf1, cc1, vr1, rfl, hb1, hv1⟩
  obtain ⟨hR, hbw, hsz⟩ := box_at1 hb1
  obtain ⟨r0, r1, r2, r3, r4, r5, r6, r7, r8, r9, r10⟩ := tbox hR
  have hf := box_writes hR
  have z0 := hf 0; have z1 := hf 1; have z2 := hf 2; have z3 := hf 3; have z4 := hf 4; have z5 := hf 5; have z6 := hf 6; have z7 := hf 7; have z8 := hf 8; have z9 := hf 9; have z10 := hf 10
  have HE : Hid (Below w.heap.size w (setN w1 w.heap.size 0 [.int .i64 k1, .bool b1, .int .i64 i1, .float .f64 f1, .string tx1, .slice ab1 nb1 cb1, .int .u64 rf1, .slice al1 nl1 cl1, .slice af1 nf1 cf1, .string cc1, .int .i64 vr1]) ∧ t.clean.In (setN w1 w.heap.size 0 [.int .i64 k1, .bool b1, .int .i64 i1, .float .f64 f1, .string tx1, .slice ab1 nb1 cb1, .int .u64 rf1, .slice al1 nl1 cl1, .slice af1 nf1 cf1, .string cc1, .int .i64 vr1]) (Fr w (setN w1 w.heap.size 0 [.int .i64 k1, .bool b1, .int .i64 i1, .float .f64 f1, .string tx1, .slice ab1 nb1 cb1, .int .u64 rf1, .slice al1 nl1 cl1, .slice af1 nf1 cf1, .string cc1, .int .i64 vr1])) #[.int .i64 k1, .bool b1, .int .i64 i1, .float .f64 f1, .string tx1, .slice ab1 nb1 cb1, .int .u64 rf1, .slice al1 nl1 cl1, .slice af1 nf1 cf1, .string cc1, .int .i64 vr1]) := by
    refine ⟨setN_below (Nat.le_refl _) _ _ _ _ hbw, t.clean.In_same (fun k hk => setN_other (by have := hk.1; simp at this; omega) _ _ _) (fun k hk => ⟨by have := hk.1; simp at this; omega, by rw [setN_size]; exact hk.2⟩) _ hv1⟩
  clear hb1 hv1 hR hbw hf
  go_wp2_with fail
  refine bodyPost_ret (v := .agg #[.int .i64 k1, .bool b1, .int .i64 i1, .float .f64 f1, .string tx1, .slice ab1 nb1 cb1, .int .u64 rf1, .slice al1 nl1 cl1, .slice af1 nf1 cf1, .string cc1, .int .i64 vr1]) (by simp [results, Tryz.results17, go_sem, r0, r1, r2, r3, r4, r5, r6, r7, r8, r9, r10]) rfl ⟨k1, b1, i1, f1, tx1, ab1, nb1, cb1, rf1, al1, nl1, cl1, af1, nf1, cf1, cc1, vr1, rfl, HE.out.1, HE.out.2⟩

end Go.Proofs.YtjlhmgopmdcopaaGreat


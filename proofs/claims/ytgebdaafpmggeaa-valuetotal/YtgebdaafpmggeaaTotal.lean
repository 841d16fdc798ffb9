/- tenonlaw01.ValueTotal answers true at every three terms that lie in memory. -/
import Derived.Test.YtgebdaafpmggeaaSameV
import Derived.Test.YtgebdaafpmggeaaTri
import Derived.Deep.RegionHeld3
namespace Go.Proofs.Ytgebdaafpmggeaa
open Go.RowKit

def one : Tm := .mk 3 false 1 0 ByteArray.empty ByteArray.empty 0 .nil .nil ByteArray.empty 0
def two : Tm := .mk 3 false 2 0 ByteArray.empty ByteArray.empty 0 .nil .nil ByteArray.empty 0
theorem one_V (w : World) (B : Nat → Prop) : one.V w B (.iface 2 (.int .i64 1)) := by simp [one, Tm.V]
theorem two_V (w : World) (B : Nat → Prop) : two.V w B (.iface 2 (.int .i64 2)) := by simp [two, Tm.V]
theorem one_two : one.ordN two = -1 ∧ one.ordE two = 0 := by
  have h : one.all.e = 0 ∧ two.all.e = 0 := by constructor <;> rfl
  exact ⟨by rw [(same_ok h).2]; rfl, (same_ok h).1⟩

theorem ordE_zero {s t : Tm} (h : s.ordE t ≠ 0) : s.ordN t = 0 := by
  have := same_err h; unfold Tm.ordN; rw [if_pos (by omega)]
def Three (ab bc ac : Int) : Prop := (-1 ≤ ab ∧ ab ≤ 1) ∧ (-1 ≤ bc ∧ bc ≤ 1) ∧ (-1 ≤ ac ∧ ac ≤ 1) ∧ Tri ab bc ac
theorem total_cases (s t u : Tm) : (s.ordE t ≠ 0 ∧ s.ordN t = 0) ∨ (s.ordE t = 0 ∧ t.ordE u ≠ 0 ∧ t.ordN u = 0) ∨
    (s.ordE t = 0 ∧ t.ordE u = 0 ∧ s.ordE u = 0 ∧ t.ordN s = -s.ordN t ∧ s.sameB t = decide (s.ordN t = 0) ∧ Three (s.ordN t) (t.ordN u) (s.ordN u)) := by
  by_cases h1 : s.ordE t ≠ 0
  · exact .inl ⟨h1, ordE_zero h1⟩
  have h1 := Decidable.not_not.1 h1
  by_cases h2 : t.ordE u ≠ 0
  · exact .inr (.inl ⟨h1, h2, ordE_zero h2⟩)
  have h2 := Decidable.not_not.1 h2
  have g1 := ok_both h1
  have g2 := ok_both h2
  have e1 := same_ok (s := s) (t := t) ⟨g1.1, g1.2⟩
  have e2 := same_ok (s := t) (t := u) ⟨g1.2, g2.2⟩
  have e3 := same_ok (s := s) (t := u) ⟨g1.1, g2.2⟩
  have e4 := same_ok (s := t) (t := s) ⟨g1.2, g1.1⟩
  refine .inr (.inr ⟨h1, h2, e3.1, ?_, ?_, ?_⟩)
  · rw [e4.2, e1.2]; exact (Tm.neg t s).1
  · rw [e1.2]; unfold Tm.sameB; simp [g1.1, g1.2]
  · rw [e1.2, e2.2, e3.2]; exact ⟨(Tm.neg s t).2, (Tm.neg t u).2, (Tm.neg s u).2, Tm.tri s t u⟩

/-- three boxes -/
def three (w : World) (a b c : Array Value) : World := ((w.alloc (.cells a 29 (0, 0))).alloc (.cells b 29 (0, 0))).alloc (.cells c 29 (0, 0))
theorem three_size (w : World) (a b c : Array Value) : (three w a b c).heap.size = w.heap.size + 3 := by simp [three]
theorem three_below (w : World) (a b c : Array Value) : Below w.heap.size w (three w a b c) := by
  unfold three
  refine Below.alloc (Below.alloc (Below.alloc (Below.refl _ _) (Nat.le_refl _) _) ?_ _) ?_ _ <;> simp <;> omega
theorem alloc_old {w : World} {o : Obj} {k : Nat} (h : k < w.heap.size) : (w.alloc o).heap[k]? = w.heap[k]? := ((Below.refl w.heap.size w).alloc (Nat.le_refl _) o).block k h
theorem three_a {w W : World} {a b c : Array Value} (h : Below (three w a b c).heap.size (three w a b c) W) : W.heap[w.heap.size]? = some (.cells a 29 (0, 0)) := by
  rw [h.block w.heap.size (by rw [three_size]; omega)]; unfold three
  rw [alloc_old (by simp; omega), alloc_old (by simp)]; exact heap_alloc_new w _
theorem three_b {w W : World} {a b c : Array Value} (h : Below (three w a b c).heap.size (three w a b c) W) : W.heap[w.heap.size + 1]? = some (.cells b 29 (0, 0)) := by
  rw [h.block (w.heap.size + 1) (by rw [three_size]; omega)]; unfold three
  rw [alloc_old (by simp)]
  have := heap_alloc_new (w.alloc (.cells a 29 (0, 0))) (.cells b 29 (0, 0))
  simpa using this
theorem three_c {w W : World} {a b c : Array Value} (h : Below (three w a b c).heap.size (three w a b c) W) : W.heap[w.heap.size + 1 + 1]? = some (.cells c 29 (0, 0)) := by
  rw [h.block (w.heap.size + 1 + 1) (by rw [three_size]; omega)]; unfold three
  have := heap_alloc_new ((w.alloc (.cells a 29 (0, 0))).alloc (.cells b 29 (0, 0))) (.cells c 29 (0, 0))
  simpa using this

set_option maxRecDepth 100000 in
set_option maxHeartbeats 4000000 in
theorem ValueTotal_any (s t u : Tm) (cs ct cu : Array Value) (B : Nat → Prop) (w : World) (hs : s.In w B cs) (ht : t.In w B ct) (hu : u.In w B cu) (hB : Sub B w) :
    Calls Try.prog 7 #[.agg cs, .agg ct, .agg cu] w fun e w' => e = .returned (.bool true) ∧ Below w.heap.size w w' := by
  have HBs : Hid (∀ W, Below w.heap.size w W → Calls Try.prog 9 #[.agg cs] W fun e w' => ∃ v, e = .returned v ∧ Below W.heap.size W w' ∧ s.V w' (Fr W w') v) := fun W hW =>
    built_any s.sz s (Nat.le_refl _) cs B W (s.In_same (hB.same hW) (fun _ h => h) cs hs) (hB.later hW)
  have HBt : Hid (∀ W, Below w.heap.size w W → Calls Try.prog 9 #[.agg ct] W fun e w' => ∃ v, e = .returned v ∧ Below W.heap.size W w' ∧ t.V w' (Fr W w') v) := fun W hW =>
    built_any t.sz t (Nat.le_refl _) ct B W (t.In_same (hB.same hW) (fun _ h => h) ct ht) (hB.later hW)
  have HBu : Hid (∀ W, Below w.heap.size w W → Calls Try.prog 9 #[.agg cu] W fun e w' => ∃ v, e = .returned v ∧ Below W.heap.size W w' ∧ u.V w' (Fr W w') v) := fun W hW =>
    built_any u.sz u (Nat.le_refl _) cu B W (u.In_same (hB.same hW) (fun _ h => h) cu hu) (hB.later hW)
  obtain ⟨b1, i1, f1, tx1, vb1, rf1, vl1, vf1, c1, vr1, rfl⟩ := Tm.In_box hs
  obtain ⟨b2, i2, f2, tx2, vb2, rf2, vl2, vf2, c2, vr2, rfl⟩ := Tm.In_box ht
  obtain ⟨b3, i3, f3, tx3, vb3, rf3, vl3, vf3, c3, vr3, rfl⟩ := Tm.In_box hu
  clear hs ht hu
  have H0 : Hid (Below w.heap.size w (three w (tcells s.kind b1 i1 f1 tx1 vb1 rf1 vl1 vf1 c1 vr1) (tcells t.kind b2 i2 f2 tx2 vb2 rf2 vl2 vf2 c2 vr2) (tcells u.kind b3 i3 f3 tx3 vb3 rf3 vl3 vf3 c3 vr3))) := three_below _ _ _ _
  have HS : Hid (∀ W, Below (three w (tcells s.kind b1 i1 f1 tx1 vb1 rf1 vl1 vf1 c1 vr1) (tcells t.kind b2 i2 f2 tx2 vb2 rf2 vl2 vf2 c2 vr2) (tcells u.kind b3 i3 f3 tx3 vb3 rf3 vl3 vf3 c3 vr3)).heap.size (three w (tcells s.kind b1 i1 f1 tx1 vb1 rf1 vl1 vf1 c1 vr1) (tcells t.kind b2 i2 f2 tx2 vb2 rf2 vl2 vf2 c2 vr2) (tcells u.kind b3 i3 f3 tx3 vb3 rf3 vl3 vf3 c3 vr3)) W → W.cell? ⟨w.heap.size, 0, none⟩ = some (.int .i64 s.kind) ∧ W.cell? ⟨w.heap.size, 1, none⟩ = some (.bool b1) ∧ W.cell? ⟨w.heap.size, 2, none⟩ = some (.int .i64 i1) ∧ W.cell? ⟨w.heap.size, 3, none⟩ = some (.float .f64 f1) ∧ W.cell? ⟨w.heap.size, 4, none⟩ = some (.string tx1) ∧ W.cell? ⟨w.heap.size, 5, none⟩ = some (vb1) ∧ W.cell? ⟨w.heap.size, 6, none⟩ = some (.int .u64 rf1) ∧ W.cell? ⟨w.heap.size, 7, none⟩ = some (vl1) ∧ W.cell? ⟨w.heap.size, 8, none⟩ = some (vf1) ∧ W.cell? ⟨w.heap.size, 9, none⟩ = some (.string c1) ∧ W.cell? ⟨w.heap.size, 10, none⟩ = some (.int .i64 vr1) ∧ W.cell? ⟨w.heap.size + 1, 0, none⟩ = some (.int .i64 t.kind) ∧ W.cell? ⟨w.heap.size + 1, 1, none⟩ = some (.bool b2) ∧ W.cell? ⟨w.heap.size + 1, 2, none⟩ = some (.int .i64 i2) ∧ W.cell? ⟨w.heap.size + 1, 3, none⟩ = some (.float .f64 f2) ∧ W.cell? ⟨w.heap.size + 1, 4, none⟩ = some (.string tx2) ∧ W.cell? ⟨w.heap.size + 1, 5, none⟩ = some (vb2) ∧ W.cell? ⟨w.heap.size + 1, 6, none⟩ = some (.int .u64 rf2) ∧ W.cell? ⟨w.heap.size + 1, 7, none⟩ = some (vl2) ∧ W.cell? ⟨w.heap.size + 1, 8, none⟩ = some (vf2) ∧ W.cell? ⟨w.heap.size + 1, 9, none⟩ = some (.string c2) ∧ W.cell? ⟨w.heap.size + 1, 10, none⟩ = some (.int .i64 vr2) ∧ W.cell? ⟨w.heap.size + 1 + 1, 0, none⟩ = some (.int .i64 u.kind) ∧ W.cell? ⟨w.heap.size + 1 + 1, 1, none⟩ = some (.bool b3) ∧ W.cell? ⟨w.heap.size + 1 + 1, 2, none⟩ = some (.int .i64 i3) ∧ W.cell? ⟨w.heap.size + 1 + 1, 3, none⟩ = some (.float .f64 f3) ∧ W.cell? ⟨w.heap.size + 1 + 1, 4, none⟩ = some (.string tx3) ∧ W.cell? ⟨w.heap.size + 1 + 1, 5, none⟩ = some (vb3) ∧ W.cell? ⟨w.heap.size + 1 + 1, 6, none⟩ = some (.int .u64 rf3) ∧ W.cell? ⟨w.heap.size + 1 + 1, 7, none⟩ = some (vl3) ∧ W.cell? ⟨w.heap.size + 1 + 1, 8, none⟩ = some (vf3) ∧ W.cell? ⟨w.heap.size + 1 + 1, 9, none⟩ = some (.string c3) ∧ W.cell? ⟨w.heap.size + 1 + 1, 10, none⟩ = some (.int .i64 vr3)) := fun W hW => by
    have h : Tbx W w.heap.size s.kind b1 i1 f1 tx1 vb1 rf1 vl1 vf1 c1 vr1 ∧ Tbx W (w.heap.size + 1) t.kind b2 i2 f2 tx2 vb2 rf2 vl2 vf2 c2 vr2 ∧ Tbx W (w.heap.size + 1 + 1) u.kind b3 i3 f3 tx3 vb3 rf3 vl3 vf3 c3 vr3 := ⟨bx_of (three_a hW), bx_of (three_b hW), bx_of (three_c hW)⟩
    simp only [Tbx, and_assoc] at h
    exact h
  unfold tcells at HBs HBt HBu ⊢
  go_enter Try.func7, Try.ntmps7
  go_wp2_with fail
  go_region_held3 (fun W => W.cell? ⟨w.heap.size, 0, none⟩ = some (.int .i64 s.kind) ∧ W.cell? ⟨w.heap.size, 1, none⟩ = some (.bool b1) ∧ W.cell? ⟨w.heap.size, 2, none⟩ = some (.int .i64 i1) ∧ W.cell? ⟨w.heap.size, 3, none⟩ = some (.float .f64 f1) ∧ W.cell? ⟨w.heap.size, 4, none⟩ = some (.string tx1) ∧ W.cell? ⟨w.heap.size, 5, none⟩ = some (vb1) ∧ W.cell? ⟨w.heap.size, 6, none⟩ = some (.int .u64 rf1) ∧ W.cell? ⟨w.heap.size, 7, none⟩ = some (vl1) ∧ W.cell? ⟨w.heap.size, 8, none⟩ = some (vf1) ∧ W.cell? ⟨w.heap.size, 9, none⟩ = some (.string c1) ∧ W.cell? ⟨w.heap.size, 10, none⟩ = some (.int .i64 vr1) ∧ W.cell? ⟨w.heap.size + 1, 0, none⟩ = some (.int .i64 t.kind) ∧ W.cell? ⟨w.heap.size + 1, 1, none⟩ = some (.bool b2) ∧ W.cell? ⟨w.heap.size + 1, 2, none⟩ = some (.int .i64 i2) ∧ W.cell? ⟨w.heap.size + 1, 3, none⟩ = some (.float .f64 f2) ∧ W.cell? ⟨w.heap.size + 1, 4, none⟩ = some (.string tx2) ∧ W.cell? ⟨w.heap.size + 1, 5, none⟩ = some (vb2) ∧ W.cell? ⟨w.heap.size + 1, 6, none⟩ = some (.int .u64 rf2) ∧ W.cell? ⟨w.heap.size + 1, 7, none⟩ = some (vl2) ∧ W.cell? ⟨w.heap.size + 1, 8, none⟩ = some (vf2) ∧ W.cell? ⟨w.heap.size + 1, 9, none⟩ = some (.string c2) ∧ W.cell? ⟨w.heap.size + 1, 10, none⟩ = some (.int .i64 vr2) ∧ W.cell? ⟨w.heap.size + 1 + 1, 0, none⟩ = some (.int .i64 u.kind) ∧ W.cell? ⟨w.heap.size + 1 + 1, 1, none⟩ = some (.bool b3) ∧ W.cell? ⟨w.heap.size + 1 + 1, 2, none⟩ = some (.int .i64 i3) ∧ W.cell? ⟨w.heap.size + 1 + 1, 3, none⟩ = some (.float .f64 f3) ∧ W.cell? ⟨w.heap.size + 1 + 1, 4, none⟩ = some (.string tx3) ∧ W.cell? ⟨w.heap.size + 1 + 1, 5, none⟩ = some (vb3) ∧ W.cell? ⟨w.heap.size + 1 + 1, 6, none⟩ = some (.int .u64 rf3) ∧ W.cell? ⟨w.heap.size + 1 + 1, 7, none⟩ = some (vl3) ∧ W.cell? ⟨w.heap.size + 1 + 1, 8, none⟩ = some (vf3) ∧ W.cell? ⟨w.heap.size + 1 + 1, 9, none⟩ = some (.string c3) ∧ W.cell? ⟨w.heap.size + 1 + 1, 10, none⟩ = some (.int .i64 vr3))
    (first | exact HS.out _ (Below.refl _ _) | exact HS.out _ (Below.refl _ _).drew | exact HS.out _ HB1.out | exact HS.out _ HB2.out | exact HS.out _ HB3.out)
    ((first
      | (go_at_call_of 9 vl1; refine (HBs.out _ ?_).mono ?_; exact H0.out.drew; rintro e w1 ⟨v1, rfl, hb1, hv1⟩; have HB1 : Hid (Below (three w (tcells s.kind b1 i1 f1 tx1 vb1 rf1 vl1 vf1 c1 vr1) (tcells t.kind b2 i2 f2 tx2 vb2 rf2 vl2 vf2 c2 vr2) (tcells u.kind b3 i3 f3 tx3 vb3 rf3 vl3 vf3 c3 vr3)).heap.size (three w (tcells s.kind b1 i1 f1 tx1 vb1 rf1 vl1 vf1 c1 vr1) (tcells t.kind b2 i2 f2 tx2 vb2 rf2 vl2 vf2 c2 vr2) (tcells u.kind b3 i3 f3 tx3 vb3 rf3 vl3 vf3 c3 vr3)) w1) := below_to (Below.refl _ _).drew hb1; have HV1 : Hid (∀ W, Below w1.heap.size w1 W → s.V W (Lo w1.heap.size) v1) := fun W hW => s.V_same (fun k hk => hW.block k hk.2) (fun k hk => hk.2) v1 hv1; clear hb1 hv1)
      | (go_at_call_of 9 vl2; refine (HBt.out _ ?_).mono ?_; exact below_to H0.out HB1.out; rintro e w2 ⟨v2, rfl, hb2, hv2⟩; have HC2 : Hid (Below w1.heap.size w1 w2) := hb2; have HB2 : Hid (Below (three w (tcells s.kind b1 i1 f1 tx1 vb1 rf1 vl1 vf1 c1 vr1) (tcells t.kind b2 i2 f2 tx2 vb2 rf2 vl2 vf2 c2 vr2) (tcells u.kind b3 i3 f3 tx3 vb3 rf3 vl3 vf3 c3 vr3)).heap.size (three w (tcells s.kind b1 i1 f1 tx1 vb1 rf1 vl1 vf1 c1 vr1) (tcells t.kind b2 i2 f2 tx2 vb2 rf2 vl2 vf2 c2 vr2) (tcells u.kind b3 i3 f3 tx3 vb3 rf3 vl3 vf3 c3 vr3)) w2) := below_to HB1.out hb2; have HV2 : Hid (∀ W, Below w2.heap.size w2 W → t.V W (Lo w2.heap.size) v2) := fun W hW => t.V_same (fun k hk => hW.block k hk.2) (fun k hk => hk.2) v2 hv2; clear hb2 hv2)
      | (go_at_call_of 9 vl3; refine (HBu.out _ ?_).mono ?_; exact below_to H0.out HB2.out; rintro e w3 ⟨v3, rfl, hb3, hv3⟩; have HC3 : Hid (Below w2.heap.size w2 w3) := hb3; have HB3 : Hid (Below (three w (tcells s.kind b1 i1 f1 tx1 vb1 rf1 vl1 vf1 c1 vr1) (tcells t.kind b2 i2 f2 tx2 vb2 rf2 vl2 vf2 c2 vr2) (tcells u.kind b3 i3 f3 tx3 vb3 rf3 vl3 vf3 c3 vr3)).heap.size (three w (tcells s.kind b1 i1 f1 tx1 vb1 rf1 vl1 vf1 c1 vr1) (tcells t.kind b2 i2 f2 tx2 vb2 rf2 vl2 vf2 c2 vr2) (tcells u.kind b3 i3 f3 tx3 vb3 rf3 vl3 vf3 c3 vr3)) w3) := below_to HB2.out hb3; have HV3 : Hid (∀ W, Below w3.heap.size w3 W → u.V W (Lo w3.heap.size) v3) := fun W hW => u.V_same (fun k hk => hW.block k hk.2) (fun k hk => hk.2) v3 hv3; clear hb3 hv3)))
  have HW3 : Hid (Below w.heap.size w w3) := below_to H0.out HB3.out
  have HV : Hid (∀ W, Below w3.heap.size w3 W → s.V W (Lo w3.heap.size) v1 ∧ t.V W (Lo w3.heap.size) v2 ∧ u.V W (Lo w3.heap.size) v3 ∧ w3.heap.size ≤ W.heap.size) := fun W hW =>
    ⟨s.V_same (Same.refl _ W) (Lo.le (Nat.le_trans HC2.out.size HC3.out.size)) v1 (HV1.out W (below_to HC2.out (below_to HC3.out hW))),
     t.V_same (Same.refl _ W) (Lo.le HC3.out.size) v2 (HV2.out W (below_to HC3.out hW)), HV3.out W hW, hW.size⟩
  clear HV1 HV2 HV3 HC2 HC3 HB1 HB2 HB3 HS H0 HBs HBt HBu hB
  have HST : Hid (∀ W, Below w3.heap.size w3 W → Calls Try.prog 21 #[v1, v2] W fun e w' => e = .returned (.tuple #[.int .i64 (s.ordN t), .int .i64 (s.ordE t)]) ∧ Below W.heap.size W w') := fun W hW =>
    Order_any s t v1 v2 w3.heap.size W (HV.out W hW).2.2.2 (HV.out W hW).1 (HV.out W hW).2.1
  have HTU : Hid (∀ W, Below w3.heap.size w3 W → Calls Try.prog 21 #[v2, v3] W fun e w' => e = .returned (.tuple #[.int .i64 (t.ordN u), .int .i64 (t.ordE u)]) ∧ Below W.heap.size W w') := fun W hW =>
    Order_any t u v2 v3 w3.heap.size W (HV.out W hW).2.2.2 (HV.out W hW).2.1 (HV.out W hW).2.2.1
  have HSU : Hid (∀ W, Below w3.heap.size w3 W → Calls Try.prog 21 #[v1, v3] W fun e w' => e = .returned (.tuple #[.int .i64 (s.ordN u), .int .i64 (s.ordE u)]) ∧ Below W.heap.size W w') := fun W hW =>
    Order_any s u v1 v3 w3.heap.size W (HV.out W hW).2.2.2 (HV.out W hW).1 (HV.out W hW).2.2.1
  have HTS : Hid (∀ W, Below w3.heap.size w3 W → Calls Try.prog 21 #[v2, v1] W fun e w' => e = .returned (.tuple #[.int .i64 (t.ordN s), .int .i64 (t.ordE s)]) ∧ Below W.heap.size W w') := fun W hW =>
    Order_any t s v2 v1 w3.heap.size W (HV.out W hW).2.2.2 (HV.out W hW).2.1 (HV.out W hW).1
  have H12 : Hid (∀ W, Calls Try.prog 21 #[.iface 2 (.int .i64 1), .iface 2 (.int .i64 2)] W fun e w' => e = .returned (.tuple #[.int .i64 (-1), .int .i64 0]) ∧ Below W.heap.size W w') := fun W => by
    have := Order_any one two _ _ 0 W (Nat.zero_le _) (one_V W _) (two_V W _)
    rw [one_two.1, one_two.2] at this; exact this
  have HSA : Hid (∀ W, Below w3.heap.size w3 W → Calls Try.prog 23 #[v1, v2] W fun e w' => e = .returned (.bool (s.sameB t)) ∧ Below W.heap.size W w') := fun W hW =>
    Same_any s t v1 v2 w3.heap.size W (HV.out W hW).2.2.2 (HV.out W hW).1 (HV.out W hW).2.1
  have HK := total_cases s t u
  clear HV
  revert HST HTU HSU HTS HSA HK
  generalize s.ordN t = ab, t.ordN u = bc, s.ordN u = ac, t.ordN s = ba, s.ordE t = e1, t.ordE u = e2, s.ordE u = e3, t.ordE s = e4, s.sameB t = same
  intro HST HTU HSU HTS HSA HK
  go_wp2_with fail
  refine (HST.out _ (Below.refl _ _)).mono ?_
  rintro e w4 ⟨rfl, hb4⟩
  have HB4 : Hid (Below w3.heap.size w3 w4) := hb4
  clear hb4
  go_wp2_with fail
  refine (HTU.out _ HB4.out).mono ?_
  rintro e w5 ⟨rfl, hb5⟩
  have HB5 : Hid (Below w3.heap.size w3 w5) := below_to HB4.out hb5
  clear hb5
  go_wp2_with fail
  refine (HSU.out _ HB5.out).mono ?_
  rintro e w6 ⟨rfl, hb6⟩
  have HB6 : Hid (Below w3.heap.size w3 w6) := below_to HB5.out hb6
  clear hb6
  go_wp2_with fail
  refine (HTS.out _ HB6.out).mono ?_
  rintro e w7 ⟨rfl, hb7⟩
  have HB7 : Hid (Below w3.heap.size w3 w7) := below_to HB6.out hb7
  clear hb7
  go_wp2_with fail
  refine (H12.out _).mono ?_
  rintro e w8 ⟨rfl, hb8⟩
  have HB8 : Hid (Below w3.heap.size w3 w8) := below_to HB7.out hb8
  clear hb8
  rcases HK with ⟨h1, rfl⟩ | ⟨rfl, h2, rfl⟩ | ⟨rfl, rfl, rfl, rfl, rfl, ⟨h1, h1'⟩, ⟨h2, h2'⟩, ⟨h3, h3'⟩, ht⟩
  · have h1' := ne_bool h1
    go_wp2_with fail
    go_ret
    exact ⟨rfl, below_to HW3.out HB8.out⟩
  · have h2' := ne_bool h2
    by_cases h0 : ab = 0
    · subst h0
      go_wp2_with fail
      go_ret
      exact ⟨rfl, below_to HW3.out HB8.out⟩
    · have h0' : (ab == 0) = false := by simp [h0]
      go_wp2_with fail
      go_ret
      exact ⟨rfl, below_to HW3.out HB8.out⟩
  · obtain ⟨t1, t2, t3⟩ := ht
    have hab : ab = -1 ∨ ab = 0 ∨ ab = 1 := by omega
    have hbc : bc = -1 ∨ bc = 0 ∨ bc = 1 := by omega
    have hac : ac = -1 ∨ ac = 0 ∨ ac = 1 := by omega
    clear h1 h1' h2 h2' h3 h3'
    rcases hab with rfl | rfl | rfl <;> rcases hbc with rfl | rfl | rfl <;> rcases hac with rfl | rfl | rfl
    all_goals first
      | (exfalso; revert t1 t2 t3; decide)
      | (clear t1 t2 t3
         go_wp2_with (go_at_call 23; refine (HSA.out _ HB8.out).mono ?_; rintro e w9 ⟨rfl, hb9⟩; have HB9 : Hid (Below w3.heap.size w3 w9) := below_to HB8.out hb9; clear hb9)
         go_ret
         exact ⟨rfl, below_to HW3.out HB9.out⟩)
end Go.Proofs.Ytgebdaafpmggeaa

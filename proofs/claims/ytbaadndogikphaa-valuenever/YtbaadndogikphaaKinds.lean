/- tenonlaw01.ValueKinds answers true at every term that lies in memory. -/
import Derived.Test.YtbaadndogikphaaRefSize
import Derived.Deep.RegionHeld3
namespace Go.Proofs.Ytbaadndogikphaa
open Go.RowKit

set_option maxRecDepth 100000 in
set_option maxHeartbeats 400000 in
theorem Kind_any (v : Value) (k : Int) (hk : KindC v k) (w : World) :
    Calls Try.prog 14 #[v] w fun e w' => e = .returned (.int .i64 k) ∧ w = w' := by
  go_enter Try.func14, Try.ntmps14
  go_wp2_with (go_at_call 34; refine (hk _).mono ?_; rintro e w' ⟨rfl, rfl⟩)
  go_ret
  exact ⟨rfl, rfl⟩

def Tm.kindOf' (k : Int) : Int := if k < 1 ∨ 11 < k then 0 else k

set_option maxRecDepth 100000 in
set_option maxHeartbeats 400000 in
theorem kind_any (k : Int) (b : Bool) (i : Int) (f : Nat) (tx : ByteArray) (vb : Value) (rf : Int) (vl vf : Value) (c : ByteArray) (vr : Int) (w : World) :
    Calls Try.prog 15 #[.agg (tcells k b i f tx vb rf vl vf c vr)] w fun e w' => e = .returned (.int .i64 (Tm.kindOf' k)) ∧ Below w.heap.size w w' := by
  unfold tcells
  by_cases h1 : k < 1
  · have H : Hid (Tm.kindOf' k = 0) := by show _ = _; simp [Tm.kindOf', h1]
    go_enter Try.func15, Try.ntmps15
    go_wp2
    go_ret
    exact ⟨ret_int H.out.symm, (Below.refl _ _).alloc (Nat.le_refl _) _⟩
  · by_cases h2 : 11 < k
    · have H : Hid (Tm.kindOf' k = 0) := by show _ = _; simp [Tm.kindOf', h2]
      go_enter Try.func15, Try.ntmps15
      go_wp2
      go_ret
      exact ⟨ret_int H.out.symm, (Below.refl _ _).alloc (Nat.le_refl _) _⟩
    · have H : Hid (Tm.kindOf' k = k) := by show _ = _; simp [Tm.kindOf', h1, h2]
      go_enter Try.func15, Try.ntmps15
      go_wp2
      go_ret
      exact ⟨ret_int H.out.symm, (Below.refl _ _).alloc (Nat.le_refl _) _⟩

theorem box_at {w W : World} {o : Obj} (h : Below (w.alloc o).heap.size (w.alloc o) W) : W.heap[w.heap.size]? = some o := by
  rw [h.block w.heap.size (by simp)]; exact heap_alloc_new w o
theorem box_below {w W : World} {o : Obj} (h : Below (w.alloc o).heap.size (w.alloc o) W) : Below w.heap.size w W := ((Below.refl _ _).alloc (Nat.le_refl _) _).trans (h.mono (by simp))
theorem below_on {w w1 w2 : World} (h : Below w.heap.size w w1) (h' : Below w1.heap.size w1 w2) : Below w.heap.size w w2 := h.trans (h'.mono h.size)

theorem Tm.In_cells {w : World} {B : Nat → Prop} {t : Tm} {cs : Array Value} (h : t.In w B cs) : ∃ b i f tx vb rf vl vf c vr, cs = tcells t.kind b i f tx vb rf vl vf c vr := by
  cases t; simp only [Tm.In] at h; obtain ⟨_, _, _, _, _, _, rfl, _⟩ := h; exact ⟨_, _, _, _, _, _, _, _, _, _, rfl⟩

set_option maxRecDepth 100000 in
set_option maxHeartbeats 2000000 in
theorem ValueKinds_any (t : Tm) (cs : Array Value) (B : Nat → Prop) (w : World) (h : t.In w B cs) (hB : Sub B w) :
    Calls Try.prog 3 #[.agg cs] w fun e w' => e = .returned (.bool true) ∧ Below w.heap.size w w' := by
  have HBu : Hid (∀ W, Below w.heap.size w W → Calls Try.prog 9 #[.agg cs] W fun e w' => ∃ v, e = .returned v ∧ Below W.heap.size W w' ∧ t.V w' (Fr W w') v) := fun W hW =>
    built_any t.sz t (Nat.le_refl _) cs B W (t.In_same (hB.same hW) (fun _ h => h) cs h) (hB.later hW)
  have HRC : Hid (∀ W, Below w.heap.size w W → Calls Try.prog 11 #[.agg cs] W fun e w' => e = .returned (.tuple #[.int .i64 t.cAt, .int .i64 t.all.e]) ∧ Below W.heap.size W w') := fun W hW =>
    refCheck_any t cs B W (t.In_same (hB.same hW) (fun _ h => h) cs h) (hB.later hW)
  have HRS : Hid (∀ W, Below w.heap.size w W → Calls Try.prog 13 #[.agg cs] W fun e w' => e = .returned (.tuple #[.int .i64 t.szN, .int .i64 t.szD, .int .i64 t.all.e]) ∧ Below W.heap.size W w') := fun W hW =>
    refSize_any t cs B W (t.In_same (hB.same hW) (fun _ h => h) cs h) (hB.later hW)
  obtain ⟨b, i, f, tx, vb, rf, vl, vf, c, vr, rfl⟩ := Tm.In_cells h
  have HK : Hid (∀ W, Calls Try.prog 15 #[.agg (tcells t.kind b i f tx vb rf vl vf c vr)] W fun e w' => e = .returned (.int .i64 t.kindK) ∧ Below W.heap.size W w') := fun W => kind_any t.kind b i f tx vb rf vl vf c vr W
  clear h
  unfold tcells at HBu HRC HRS HK ⊢
  go_enter Try.func3, Try.ntmps3
  go_wp2_with (first
    | (go_at_call 9; refine (HBu.out _ ?_).mono ?_; exact (Below.refl _ _).alloc (Nat.le_refl _) _; rintro e w1 ⟨v, rfl, hb1, hv⟩; have HB1 : Hid _ := hb1; have HKV : Hid (KindC v t.kindK) := kindOf_any t v _ _ hv; have HV : Hid (∀ W, Below w1.heap.size w1 W → t.V W (Lo w1.heap.size) v) := fun W hW => t.V_same (fun k hk => hW.block k hk.2) (fun k hk => hk.2) v hv)
    | (go_at_call 10; refine (Check_any t v w1.heap.size _ ?_ ?_).mono ?_; exact Nat.le_refl _; exact HV.out _ (Below.refl _ _); rintro e w2 ⟨rfl, hb2⟩; have HC2 : Hid (Below w1.heap.size w1 w2) := hb2; have hb2' := below_on HB1.out hb2; obtain ⟨t0, t1, t2, t3, t4, t5, t6, t7, t8, t9, t10⟩ := tbox (box_at hb2'); have HB2 : Hid _ := hb2')
    | (go_at_call 11; refine (HRC.out _ ?_).mono ?_; exact box_below HB2.out; rintro e w3 ⟨rfl, hb3⟩; have HC3 : Hid (Below w1.heap.size w1 w3) := below_on HC2.out hb3; have HB3 : Hid _ := below_on HB2.out hb3)
    | (go_at_call 12; refine (Size_any t v w1.heap.size _ ?_ ?_).mono ?_; exact HC3.out.size; exact HV.out _ HC3.out; rintro e w4 ⟨rfl, hb4⟩; have HC4 : Hid (Below w1.heap.size w1 w4) := below_on HC3.out hb4; have hb4' := below_on HB3.out hb4; obtain ⟨s0, s1, s2, s3, s4, s5, s6, s7, s8, s9, s10⟩ := tbox (box_at hb4'); have HB4 : Hid _ := hb4')
    | (go_at_call 13; refine (HRS.out _ ?_).mono ?_; exact box_below HB4.out; rintro e w5 ⟨rfl, hb5⟩; have HC5 : Hid (Below w1.heap.size w1 w5) := below_on HC4.out hb5; have hb5' := below_on HB4.out hb5; obtain ⟨r0, r1, r2, r3, r4, r5, r6, r7, r8, r9, r10⟩ := tbox (box_at hb5'); have HB5 : Hid _ := hb5'))
  clear r0 r1 r2 r3 r4 r5 r6 r7 r8 r9 r10 s0 s1 s2 s3 s4 s5 s6 s7 s8 s9 s10 t0 t1 t2 t3 t4 t5 t6 t7 t8 t9 t10 hb5 hb5' hb4 hb4' hb3 hb2 hb2' hb1 hv
  have HS : Hid (∀ W, Below (w.alloc (.cells #[.int .i64 t.kind, .bool b, .int .i64 i, .float .f64 f, .string tx, vb, .int .u64 rf, vl, vf, .string c, .int .i64 vr] 29)).heap.size (w.alloc (.cells #[.int .i64 t.kind, .bool b, .int .i64 i, .float .f64 f, .string tx, vb, .int .u64 rf, vl, vf, .string c, .int .i64 vr] 29)) W → W.cell? ⟨w.heap.size, 0, none⟩ = some (.int .i64 t.kind) ∧ W.cell? ⟨w.heap.size, 1, none⟩ = some (.bool b) ∧ W.cell? ⟨w.heap.size, 2, none⟩ = some (.int .i64 i) ∧ W.cell? ⟨w.heap.size, 3, none⟩ = some (.float .f64 f) ∧ W.cell? ⟨w.heap.size, 4, none⟩ = some (.string tx) ∧ W.cell? ⟨w.heap.size, 5, none⟩ = some (vb) ∧ W.cell? ⟨w.heap.size, 6, none⟩ = some (.int .u64 rf) ∧ W.cell? ⟨w.heap.size, 7, none⟩ = some (vl) ∧ W.cell? ⟨w.heap.size, 8, none⟩ = some (vf) ∧ W.cell? ⟨w.heap.size, 9, none⟩ = some (.string c) ∧ W.cell? ⟨w.heap.size, 10, none⟩ = some (.int .i64 vr)) := fun W hW => tbox (box_at hW)
  go_region_held3 (fun W => W.cell? ⟨w.heap.size, 0, none⟩ = some (.int .i64 t.kind) ∧ W.cell? ⟨w.heap.size, 1, none⟩ = some (.bool b) ∧ W.cell? ⟨w.heap.size, 2, none⟩ = some (.int .i64 i) ∧ W.cell? ⟨w.heap.size, 3, none⟩ = some (.float .f64 f) ∧ W.cell? ⟨w.heap.size, 4, none⟩ = some (.string tx) ∧ W.cell? ⟨w.heap.size, 5, none⟩ = some (vb) ∧ W.cell? ⟨w.heap.size, 6, none⟩ = some (.int .u64 rf) ∧ W.cell? ⟨w.heap.size, 7, none⟩ = some (vl) ∧ W.cell? ⟨w.heap.size, 8, none⟩ = some (vf) ∧ W.cell? ⟨w.heap.size, 9, none⟩ = some (.string c) ∧ W.cell? ⟨w.heap.size, 10, none⟩ = some (.int .i64 vr))
    (first | exact HS.out _ HB5.out | exact HS.out _ HB5.out.drew | exact HS.out _ HB6.out)
    ((first
      | (go_at_call_of 14 v; refine (Kind_any v _ HKV.out _).mono ?_; rintro e w' ⟨rfl, rfl⟩)
      | (go_at_call 14; refine (Kind_any _ 2 (kindOf_bool _) _).mono ?_; rintro e w' ⟨rfl, rfl⟩)
      | (go_at_call 15; refine (HK.out _).mono ?_; rintro e w6 ⟨rfl, hb6⟩; have HB6 : Hid (Below (w.alloc (.cells #[.int .i64 t.kind, .bool b, .int .i64 i, .float .f64 f, .string tx, vb, .int .u64 rf, vl, vf, .string c, .int .i64 vr] 29)).heap.size (w.alloc (.cells #[.int .i64 t.kind, .bool b, .int .i64 i, .float .f64 f, .string tx, vb, .int .u64 rf, vl, vf, .string c, .int .i64 vr] 29)) w6) := below_on HB5.out.drew hb6)))
  go_wp2_with fail
  go_ret
  exact ⟨by simp, box_below HB6.out⟩
end Go.Proofs.Ytbaadndogikphaa

/- The document's own order of two terms (tenonref01.Compare), kind by kind. -/
import Derived.Test.YtbjcabpmndhfmaaGreatQ30
import Derived.Laws.BytesArg
namespace Go.Proofs.YtbjcabpmndhfmaaGreat
open Go.RowKit

theorem two_below (w : World) (o p : Obj) : Below w.heap.size w ((w.alloc o).alloc p) := ((Below.refl _ _).alloc (Nat.le_refl _) _).alloc (by simp) _
theorem cmpI_add (a b c : Int) : Sp.cmpI (a + c) (b + c) = Sp.cmpI a b := by unfold Sp.cmpI; simp
theorem wrap_plus {i : Int} (h0 : -9223372036854775808 ≤ i) (h1 : i ≤ 9223372036854775807) : IntKind.u64.wrap (IntKind.u64.wrap i + 9223372036854775808) = i + 9223372036854775808 := by
  rw [IntKind.wrap_u64, IntKind.wrap_u64]; omega

theorem Tryz.undU : Tryz.prog.underlying 5 = some (.int .u8) := by kernel_rfl
theorem Tryz.undS : Tryz.prog.underlying 9 = some .string := by kernel_rfl
theorem nums_at (x : ByteArray) (i : Nat) (h : i < x.size) : (x.data.toList.map fun u => (u.toNat : Int)).getD i 0 = Sp.byte x i := by
  have h' : i < x.data.size := h
  unfold Sp.byte
  have e : x.data[i]? = some x.data[i] := Array.getElem?_eq_getElem h'
  simp only [List.getD, List.getElem?_map, Array.getElem?_toList, e, Option.map_some, Option.getD_some, Array.getD, dif_pos h']
  rfl
theorem str_of (x : ByteArray) : strOfNums (x.data.toList.map fun u => (u.toNat : Int)) = x := by
  unfold strOfNums
  rw [List.map_map]
  have : ((fun n : Int => UInt8.ofNat n.toNat) ∘ fun u : UInt8 => (u.toNat : Int)) = id := by funext u; simp
  rw [this, List.map_id]
theorem conv_run (x : ByteArray) (a : Option Addr) (c : Nat) (S : Nat → Prop) (w : World) (ha : BytesAt w S a x) : (convert 32 9 (.slice a x.size c)).run Tryz.prog w = .ok (.string x) w := by
  by_cases h0 : x.size = 0
  · obtain rfl := ba_empty h0
    cases a with
    | none => exact run_convert_bytes_nil w _ 5 Tryz.undB Tryz.undU _ _ _ Tryz.undS
    | some a =>
      rw [run_convert_bytes_string w _ _ 5 _ _ _ Tryz.undB Tryz.undU Tryz.undS]
      exact run_bytesToString w a 0 c [] rfl
  · obtain ⟨g, o, rfl, _, _⟩ := ha 0 (by omega)
    have := run_convert_bytes_arg (P := Tryz.prog) w 32 5 Tryz.undB Tryz.undU g o x.size c (x.data.toList.map fun u => (u.toNat : Int)) (by simp) (fun i hi => by
      obtain ⟨g', o', e, _, hc⟩ := ha i hi
      simp only [Option.some.injEq, Addr.mk.injEq, and_true] at e
      obtain ⟨rfl, rfl⟩ := e
      rw [hc, nums_at x i hi]) 9 Tryz.undS
    rw [this, str_of]

section
variable (b : Bool) (i : Int) (f : Nat) (tx : ByteArray) (vb : Value) (rf : Int) (vl vf : Value) (c : ByteArray) (vr : Int)
variable (b2 : Bool) (i2 : Int) (f2 : Nat) (tx2 : ByteArray) (vb2 : Value) (rf2 : Int) (vl2 vf2 : Value) (c2 : ByteArray) (vr2 : Int) (w : World)
set_option maxRecDepth 100000 in
set_option maxHeartbeats 1000000 in
theorem compare_diff (k k2 : Int) (hne : k ≠ k2) (h1 : 1 ≤ k) (h2 : k ≤ 10) (g1 : 1 ≤ k2) (g2 : k2 ≤ 10) :
    Calls Tryz.prog 57 #[.agg (tcells k b i f tx vb rf vl vf c vr), .agg (tcells k2 b2 i2 f2 tx2 vb2 rf2 vl2 vf2 c2 vr2)] w fun e w' => e = .returned (.int .i64 (Sp.cmpI k k2)) ∧ Below w.heap.size w w' := by
  unfold tcells
  have hn : (k != k2) = true := by simp [hne]
  have e1 : IntKind.u64.wrap k = k := wrapU (by omega) (by omega)
  have e2 : IntKind.u64.wrap k2 = k2 := wrapU (by omega) (by omega)
  have HB := two_below w
  have HB : Hid _ := HB
  clear hne h1 h2 g1 g2
  go_enter Tryz.func57, Tryz.ntmps57
  go_wp2_with (go_at_call 74; refine (numbers_any _ _ _).mono ?_; rintro e w' ⟨rfl, rfl⟩)
  go_ret
  exact ⟨rfl, HB.out _ _⟩
set_option maxRecDepth 100000 in
set_option maxHeartbeats 1000000 in
theorem compare_1 :
    Calls Tryz.prog 57 #[.agg (tcells 1 b i f tx vb rf vl vf c vr), .agg (tcells 1 b2 i2 f2 tx2 vb2 rf2 vl2 vf2 c2 vr2)] w fun e w' => e = .returned (.int .i64 (0)) ∧ Below w.heap.size w w' := by
  unfold tcells
  have HB := two_below w
  have HB : Hid _ := HB
  go_enter Tryz.func57, Tryz.ntmps57
  go_wp2_with fail
  go_ret
  exact ⟨rfl, HB.out _ _⟩
set_option maxRecDepth 100000 in
set_option maxHeartbeats 1000000 in
theorem compare_2 :
    Calls Tryz.prog 57 #[.agg (tcells 2 b i f tx vb rf vl vf c vr), .agg (tcells 2 b2 i2 f2 tx2 vb2 rf2 vl2 vf2 c2 vr2)] w fun e w' => e = .returned (.int .i64 (Sp.cmpI (Sp.rank b) (Sp.rank b2))) ∧ Below w.heap.size w w' := by
  unfold tcells
  have HB := two_below w
  have HB : Hid _ := HB
  go_enter Tryz.func57, Tryz.ntmps57
  go_wp2_with fail
  go_quiet ((first | (go_at_call 75; exact Calls.quiet_of_same ((flag_any _ _).mono (fun e w' h => ⟨h.1, h.2.symm⟩))) | (go_at_call 74; exact Calls.quiet_of_same ((numbers_any _ _ _).mono (fun e w' h => ⟨h.1, h.2.symm⟩)))))
  go_wp2_with fail
  go_ret
  exact ⟨rfl, (HB.out _ _).trans (below_drewN' _ _ _)⟩
set_option maxRecDepth 100000 in
set_option maxHeartbeats 1000000 in
theorem compare_3 (h0 : -9223372036854775808 ≤ i) (h1 : i ≤ 9223372036854775807) (g0 : -9223372036854775808 ≤ i2) (g1 : i2 ≤ 9223372036854775807) :
    Calls Tryz.prog 57 #[.agg (tcells 3 b i f tx vb rf vl vf c vr), .agg (tcells 3 b2 i2 f2 tx2 vb2 rf2 vl2 vf2 c2 vr2)] w fun e w' => e = .returned (.int .i64 (Sp.cmpI i i2)) ∧ Below w.heap.size w w' := by
  unfold tcells
  have e1 := wrap_plus h0 h1
  have e2 := wrap_plus g0 g1
  clear h0 h1 g0 g1
  have HB := two_below w
  have HB : Hid _ := HB
  go_enter Tryz.func57, Tryz.ntmps57
  go_wp2_with (go_at_call 74; refine (numbers_any _ _ _).mono ?_; rintro e w' ⟨rfl, rfl⟩)
  go_ret
  exact ⟨ret_int (cmpI_add _ _ _), HB.out _ _⟩
set_option maxRecDepth 100000 in
set_option maxHeartbeats 1000000 in
theorem compare_4 (h : f < 18446744073709551616) (g : f2 < 18446744073709551616) :
    Calls Tryz.prog 57 #[.agg (tcells 4 b i f tx vb rf vl vf c vr), .agg (tcells 4 b2 i2 f2 tx2 vb2 rf2 vl2 vf2 c2 vr2)] w fun e w' => e = .returned (.int .i64 (Sp.cmpI (Sp.frank f) (Sp.frank f2))) ∧ Below w.heap.size w w' := by
  unfold tcells
  have HX : Hid (f < 18446744073709551616 ∧ f2 < 18446744073709551616) := ⟨h, g⟩
  clear h g
  have HB := two_below w
  have HB : Hid _ := HB
  go_enter Tryz.func57, Tryz.ntmps57
  go_wp2_with fail
  go_quiet ((first | (go_at_call_of 76 f; exact Calls.quiet_of_same ((place_any f _ HX.out.1).mono (fun e w' h => ⟨h.1, h.2.symm⟩))) | (go_at_call 76; exact Calls.quiet_of_same ((place_any f2 _ HX.out.2).mono (fun e w' h => ⟨h.1, h.2.symm⟩))) | (go_at_call 74; exact Calls.quiet_of_same ((numbers_any _ _ _).mono (fun e w' h => ⟨h.1, h.2.symm⟩)))))
  go_wp2_with fail
  go_ret
  exact ⟨rfl, (HB.out _ _).trans (below_drewN' _ _ _)⟩
set_option maxRecDepth 100000 in
set_option maxHeartbeats 1000000 in
theorem compare_5 :
    Calls Tryz.prog 57 #[.agg (tcells 5 b i f tx vb rf vl vf c vr), .agg (tcells 5 b2 i2 f2 tx2 vb2 rf2 vl2 vf2 c2 vr2)] w fun e w' => e = .returned (.int .i64 (Sp.cmpS tx tx2)) ∧ Below w.heap.size w w' := by
  unfold tcells
  have HB := two_below w
  have HB : Hid _ := HB
  go_enter Tryz.func57, Tryz.ntmps57
  go_wp2_with (go_at_call 77; refine (texts_any _ _ _).mono ?_; rintro e w' ⟨rfl, rfl⟩)
  go_ret
  exact ⟨rfl, HB.out _ _⟩
set_option maxRecDepth 100000 in
set_option maxHeartbeats 1000000 in
theorem compare_7 (h0 : 0 ≤ rf) (h1 : rf ≤ 18446744073709551615) (g0 : 0 ≤ rf2) (g1 : rf2 ≤ 18446744073709551615) :
    Calls Tryz.prog 57 #[.agg (tcells 7 b i f tx vb rf vl vf c vr), .agg (tcells 7 b2 i2 f2 tx2 vb2 rf2 vl2 vf2 c2 vr2)] w fun e w' => e = .returned (.int .i64 (Sp.cmpI rf rf2)) ∧ Below w.heap.size w w' := by
  unfold tcells
  have e1 : IntKind.u64.wrap rf = rf := wrapU h0 h1
  have e2 : IntKind.u64.wrap rf2 = rf2 := wrapU g0 g1
  clear h0 h1 g0 g1
  have HB := two_below w
  have HB : Hid _ := HB
  go_enter Tryz.func57, Tryz.ntmps57
  go_wp2_with (go_at_call 74; refine (numbers_any _ _ _).mono ?_; rintro e w' ⟨rfl, rfl⟩)
  go_ret
  exact ⟨rfl, HB.out _ _⟩
set_option maxRecDepth 100000 in
set_option maxHeartbeats 1000000 in
theorem compare_9 (R : Int) (h : ∀ W, Below w.heap.size w W → Calls Tryz.prog 78 #[vf, vf2] W fun e w' => e = .returned (.int .i64 R) ∧ Below W.heap.size W w') :
    Calls Tryz.prog 57 #[.agg (tcells 9 b i f tx vb rf vl vf c vr), .agg (tcells 9 b2 i2 f2 tx2 vb2 rf2 vl2 vf2 c2 vr2)] w fun e w' => e = .returned (.int .i64 R) ∧ Below w.heap.size w w' := by
  unfold tcells
  have HX : Hid _ := h
  clear h
  have HB := two_below w
  have HB : Hid _ := HB
  go_enter Tryz.func57, Tryz.ntmps57
  go_wp2_with (go_at_call 78; refine (HX.out _ (HB.out _ _)).mono ?_; rintro e w1 ⟨rfl, hb1⟩)
  go_ret
  exact ⟨rfl, below_to (HB.out _ _) hb1⟩

set_option maxRecDepth 100000 in
set_option maxHeartbeats 1000000 in
theorem compare_10 (R : Int) (v1 : 1 ≤ vr ∧ vr ≤ 1000) (v2 : 1 ≤ vr2 ∧ vr2 ≤ 1000) (h : ∀ W, Below w.heap.size w W → Calls Tryz.prog 78 #[vf, vf2] W fun e w' => e = .returned (.int .i64 R) ∧ Below W.heap.size W w') :
    Calls Tryz.prog 57 #[.agg (tcells 10 b i f tx vb rf vl vf c vr), .agg (tcells 10 b2 i2 f2 tx2 vb2 rf2 vl2 vf2 c2 vr2)] w fun e w' => e = .returned (.int .i64 (if Sp.cmpS c c2 ≠ 0 then Sp.cmpS c c2 else if Sp.cmpI vr vr2 ≠ 0 then Sp.cmpI vr vr2 else R)) ∧ Below w.heap.size w w' := by
  unfold tcells
  have HX : Hid _ := h
  clear h
  have HB := two_below w
  have HB : Hid _ := HB
  have e1 : IntKind.u64.wrap vr = vr := wrapU (by omega) (by omega)
  have e2 : IntKind.u64.wrap vr2 = vr2 := wrapU (by omega) (by omega)
  clear v1 v2
  generalize hR : (if Sp.cmpS c c2 ≠ 0 then Sp.cmpS c c2 else if Sp.cmpI vr vr2 ≠ 0 then Sp.cmpI vr vr2 else R) = Q
  have HR : Hid (_ = Q) := hR
  clear hR
  by_cases hn : Sp.cmpS c c2 ≠ 0
  · have hn' := ne_bool hn
    have H : Hid (Q = Sp.cmpS c c2) := by show _ = _; rw [← HR.out, if_pos hn]
    clear hn
    go_enter Tryz.func57, Tryz.ntmps57
    go_wp2_with (go_at_call 77; refine (texts_any _ _ _).mono ?_; rintro e w' ⟨rfl, rfl⟩)
    go_ret
    exact ⟨ret_int H.out.symm, HB.out _ _⟩
  · have hn0 : Sp.cmpS c c2 = 0 := Decidable.not_not.1 hn
    by_cases hv : Sp.cmpI vr vr2 ≠ 0
    · have hv' : (vr != vr2) = true := by
        simp; intro e; subst e; exact hv (cmpI_self _)
      have H : Hid (Q = Sp.cmpI vr vr2) := by show _ = _; rw [← HR.out, if_neg hn, if_pos hv]
      clear hn hv
      go_enter Tryz.func57, Tryz.ntmps57
      go_wp2_with (first | (go_at_call 77; refine (texts_any _ _ _).mono ?_; rintro e w' ⟨rfl, rfl⟩) | (go_at_call 74; refine (numbers_any _ _ _).mono ?_; rintro e w' ⟨rfl, rfl⟩))
      go_ret
      exact ⟨ret_int H.out.symm, HB.out _ _⟩
    · have hv' : (vr != vr2) = false := by simp; exact cmpI_zero (Decidable.not_not.1 hv)
      have H : Hid (Q = R) := by show _ = _; rw [← HR.out, if_neg hn, if_neg hv]
      clear hn hv
      go_enter Tryz.func57, Tryz.ntmps57
      go_wp2_with (first | (go_at_call 77; refine (texts_any _ _ _).mono ?_; rintro e w' ⟨rfl, rfl⟩) | (go_at_call 78; refine (HX.out _ (HB.out _ _)).mono ?_; rintro e w1 ⟨rfl, hb1⟩))
      go_ret
      exact ⟨ret_int H.out.symm, below_to (HB.out _ _) hb1⟩

set_option maxRecDepth 100000 in
set_option maxHeartbeats 1000000 in
theorem compare_6 (x y : ByteArray) (a b' : Option Addr) (ca cb : Nat) (S : Nat → Prop) (ha : BytesAt w S a x) (hb : BytesAt w S b' y) (hS : Sub S w) :
    Calls Tryz.prog 57 #[.agg (tcells 6 b i f tx (.slice a x.size ca) rf vl vf c vr), .agg (tcells 6 b2 i2 f2 tx2 (.slice b' y.size cb) rf2 vl2 vf2 c2 vr2)] w fun e w' => e = .returned (.int .i64 (Sp.cmpS x y)) ∧ Below w.heap.size w w' := by
  unfold tcells
  have HL1 : ∀ o p, (convert 32 9 (.slice a x.size ca)).run Tryz.prog ((w.alloc o).alloc p) = .ok (.string x) ((w.alloc o).alloc p) := fun o p => conv_run x a ca S _ (ha.same (hS.same (two_below w o p)) (fun _ h => h))
  have HL2 : ∀ o p, (convert 32 9 (.slice b' y.size cb)).run Tryz.prog ((w.alloc o).alloc p) = .ok (.string y) ((w.alloc o).alloc p) := fun o p => conv_run y b' cb S _ (hb.same (hS.same (two_below w o p)) (fun _ h => h))
  clear ha hb
  have HB := two_below w
  have HB : Hid _ := HB
  go_enter Tryz.func57, Tryz.ntmps57
  go_wp2_with (go_at_call 77; refine (texts_any _ _ _).mono ?_; rintro e w' ⟨rfl, rfl⟩)
  go_ret
  exact ⟨rfl, HB.out _ _⟩
end
end Go.Proofs.YtbjcabpmndhfmaaGreat

/- The document's own order of any two terms that can be (tenonref01.Compare), and its Order and Same. -/
namespace Go.Proofs.YtbjcabpmndhfmaaGreat
open Go.RowKit

set_option maxRecDepth 100000 in
set_option maxHeartbeats 2000000 in
theorem compare_8 (N : Nat) (HC : CmpC N) (b : Bool) (i : Int) (f : Nat) (tx : ByteArray) (vb : Value) (rf : Int) (vf : Value) (c : ByteArray) (vr : Int) (b2 : Bool) (i2 : Int) (f2 : Nat) (tx2 : ByteArray) (vb2 : Value) (rf2 : Int) (vf2 : Value) (c2 : ByteArray) (vr2 : Int)
    (A B : TmL) (hN : A.sz ≤ N) (a b' : Option Addr) (ca cb : Nat) (S : Nat → Prop) (w : World) (ha : A.In w S a 0) (hb : B.In w S b' 0) (hS : Sub S w) (oa : A.Ok) (ob : B.Ok) (la : A.len * 152 ≤ 140737488355328) (lb : B.len * 152 ≤ 140737488355328) :
    Calls Tryz.prog 57 #[.agg (tcells 8 b i f tx vb rf (.slice a A.len ca) vf c vr), .agg (tcells 8 b2 i2 f2 tx2 vb2 rf2 (.slice b' B.len cb) vf2 c2 vr2)] w fun e w' => e = .returned (.int .i64 (A.cmp B)) ∧ Below w.heap.size w w' := by
  unfold tcells
  have HCH : Hid (CmpC N) := HC
  have H0 : Hid (A.In w S a 0 ∧ B.In w S b' 0 ∧ A.Ok ∧ B.Ok) := ⟨ha, hb, oa, ob⟩
  clear HC ha hb oa ob
  have HB := two_below w
  have HB : Hid _ := HB
  go_enter Tryz.func57, Tryz.ntmps57
  go_wp2_with fail
  go_loopw [5] (fun x wr => ∃ (k : Nat) (l r : TmL), x = .int .i64 k ∧ l.len + k = A.len ∧ r.len + k = B.len ∧ l.sz ≤ N ∧ wr.cell? ⟨w.heap.size, 7, none⟩ = some (.slice a A.len ca) ∧ wr.cell? ⟨w.heap.size + 1, 7, none⟩ = some (.slice b' B.len cb) ∧ w.heap.size + 1 < wr.heap.size ∧ Hid (l.In w S a k ∧ r.In w S b' k ∧ l.Ok ∧ r.Ok ∧ A.cmp B = l.cmp r) ∧ Hid (Below w.heap.size w wr)) (fun x _ => A.len - (intOf x).toNat)
  case atStart => exact ⟨0, A, B, rfl, rfl, rfl, hN, by simp, by simp, by simp, ⟨H0.out.1, H0.out.2.1, H0.out.2.2.1, H0.out.2.2.2, rfl⟩, HB.out _ _⟩
  case round =>
    obtain ⟨k, l, r, rfl, hl, hr, hlN, x7, y7, hsz, HI, HW⟩ := hrel
    have HK : Hid (IntKind.u64.wrap (A.len : Int) = A.len ∧ IntKind.u64.wrap (B.len : Int) = B.len) := ⟨wrapU (by omega) (by omega), wrapU (by omega) (by omega)⟩
    cases l with
    | nil =>
      have h1 : A.len ≤ k := by simp [TmL.len] at hl; omega
      have H : Hid (A.cmp B = Sp.cmpI A.len B.len) := by
        show _ = _
        rw [HI.out.2.2.2.2]
        cases r with
        | nil => simp only [TmL.len] at hl hr; simp only [TmL.cmp]; unfold Sp.cmpI; rw [if_neg (by omega), if_neg (by omega)]
        | cons u r => simp only [TmL.len] at hl hr; simp only [TmL.cmp]; unfold Sp.cmpI; rw [if_pos (by omega)]
      have hw1 := HK.out.1
      have hw2 := HK.out.2
      clear hl hr
      go_wp2_with (go_at_call 74; refine (numbers_any _ _ _).mono ?_; rintro e w' ⟨rfl, rfl⟩)
      go_ret
      exact ⟨ret_int H.out.symm, HW.out⟩
    | cons t l =>
      cases r with
      | nil =>
        have h1 : B.len ≤ k := by simp [TmL.len] at hr; omega
        have H : Hid (A.cmp B = Sp.cmpI A.len B.len) := by
          show _ = _
          rw [HI.out.2.2.2.2]
          simp only [TmL.len] at hl hr; simp only [TmL.cmp]; unfold Sp.cmpI; rw [if_neg (by omega), if_pos (by omega)]
        have h3 : k < A.len := by simp only [TmL.len] at hl hr; omega
        have hw1 := HK.out.1
        have hw2 := HK.out.2
        clear hl hr
        go_wp2_with (go_at_call 74; refine (numbers_any _ _ _).mono ?_; rintro e w' ⟨rfl, rfl⟩)
        go_ret
        exact ⟨ret_int H.out.symm, HW.out⟩
      | cons u r =>
        obtain ⟨hv1, hv2, ho1, ho2, hc⟩ := HI.out
        simp only [TmL.In] at hv1 hv2
        obtain ⟨g1, o1, cs1, rfl, hg1, c1, ht, hl'⟩ := hv1
        obtain ⟨g2, o2, cs2, rfl, hg2, c2, hu, hr'⟩ := hv2
        have hk1 : k < A.len := by simp only [TmL.len] at hl; omega
        have hk2 : k < B.len := by simp only [TmL.len] at hr; omega
        have hi0 : (0 : Int) ≤ (k : Int) := Int.natCast_nonneg _
        have hi1 : (k : Int) < (A.len : Int) := by omega
        have hi2 : (k : Int) < (B.len : Int) := by omega
        have HL : Hid (l.len + (k + 1) = A.len ∧ r.len + (k + 1) = B.len) := by show _ ∧ _; simp only [TmL.len] at hl hr; omega
        have htN : t.sz ≤ N ∧ l.sz ≤ N := by simp [TmL.sz] at hlN; omega
        have hs : Same S w wr := hS.same HW.out
        have HO : Hid (∀ W, Below wr.heap.size wr W → Calls Tryz.prog 57 #[.agg cs1, .agg cs2] W fun e w' => e = .returned (.int .i64 (t.cmp u)) ∧ Below W.heap.size W w') :=
          HCH.out.at htN.1 (t.In_same hs (fun _ h => h) cs1 ht) (u.In_same hs (fun _ h => h) cs2 hu) (hS.later HW.out) ho1.head.1 ho2.head.1
        obtain ⟨k1, b1, i1, f1, tx1, vb1, rf1, vl1, vf1, cl1, vr1, rfl⟩ := Tm.In_tc ht
        obtain ⟨k2, b2', i2', f2', tx2', vb2', rf2', vl2, vf2', cl2, vr2', rfl⟩ := Tm.In_tc hu
        obtain ⟨e0, e1, e2, e3, e4, e5, e6, e7, e8, e9, e10⟩ := eleven (w := wr) (g := g1) (o := o1 + k * 11) (fun x hx => by rw [hs.cell (p := ⟨g1, o1 + k * 11 + x, none⟩) hg1]; exact c1 x hx)
        obtain ⟨d0, d1, d2, d3, d4, d5, d6, d7, d8, d9, d10⟩ := eleven (w := wr) (g := g2) (o := o2 + k * 11) (fun x hx => by rw [hs.cell (p := ⟨g2, o2 + k * 11 + x, none⟩) hg2]; exact c2 x hx)
        have HN : Hid (l.In w S (some ⟨g1, o1, none⟩) (k + 1) ∧ r.In w S (some ⟨g2, o2, none⟩) (k + 1) ∧ l.Ok ∧ r.Ok) := ⟨hl', hr', ho1.head.2, ho2.head.2⟩
        have HCC : Hid (A.cmp B = if t.cmp u ≠ 0 then t.cmp u else l.cmp r) := by show _ = _; rw [hc, TmL.cmp]
        unfold tcells at HO
        have HX : Hid (∀ W, Below wr.heap.size wr W → W.cell? ⟨w.heap.size, 7, none⟩ = some (.slice (some ⟨g1, o1, none⟩) A.len ca) ∧ W.cell? ⟨w.heap.size + 1, 7, none⟩ = some (.slice (some ⟨g2, o2, none⟩) B.len cb) ∧ w.heap.size + 1 < W.heap.size) := fun W hW =>
          ⟨by rw [hW.cell (p := ⟨w.heap.size, 7, none⟩) (by show w.heap.size < _; omega)]; exact x7, by rw [hW.cell (p := ⟨w.heap.size + 1, 7, none⟩) (by show w.heap.size + 1 < _; omega)]; exact y7, Nat.lt_of_lt_of_le hsz hW.size⟩
        clear hl hr hlN HI hl' hr' ho1 ho2 hc ht hu H0 hs c1 c2 HK
        go_wp2_with fail
        go_region_with ((go_at_call 57; refine (HO.out _ ?_).mono ?_; exact (Below.refl _ _).drew; rintro e w4 ⟨rfl, hb4⟩; have HB4 : Hid (Below wr.heap.size wr w4) := (Below.refl _ _).drew.trans hb4; clear hb4))
        all_goals
          have HBw : Hid (Below w.heap.size w w4) := HW.out.trans (HB4.out.mono HW.out.size)
          by_cases he : t.cmp u ≠ 0
          · have he' := ne_bool he
            have H : Hid (A.cmp B = t.cmp u) := by show _ = _; rw [HCC.out, if_pos he]
            clear he
            go_wp2_with fail
            go_ret
            exact ⟨ret_int H.out.symm, HBw.out⟩
          · have he0 : t.cmp u = 0 := Decidable.not_not.1 he
            have H : Hid (A.cmp B = l.cmp r) := by show _ = _; rw [HCC.out, if_neg he]
            clear he
            go_wp2_with fail
            go_roundw
            case rel => exact ⟨k + 1, l, r, by go_num, HL.out.1, HL.out.2, htN.2, (HX.out _ HB4.out).1, (HX.out _ HB4.out).2.1, (HX.out _ HB4.out).2.2, ⟨HN.out.1, HN.out.2.1, HN.out.2.2.1, HN.out.2.2.2, H.out⟩, HBw.out⟩
            case measure => simp [intOf]; omega

theorem Tm.Ok.ver {b : Bool} {i : Int} {f : Nat} {tx : ByteArray} {by' : ByteArray} {rf : Int} {l : TmL} {fs : TmF} {c : ByteArray} {v : Int} (h : Tm.Ok (.mk 10 b i f tx by' rf l fs c v)) : 1 ≤ v ∧ v ≤ 1000 := by
  obtain ⟨n, p, d, h⟩ := h
  by_cases he : Sp.ent 10 p n = 0
  · by_cases hh : Sp.headR c v = 0
    · unfold Sp.headR at hh
      split at hh
      · omega
      · split at hh
        · omega
        · omega
    · rw [Tm.wk_10' he hh] at h; exact absurd h hh
  · rw [Tm.wk_ent he] at h; exact absurd h he

set_option maxHeartbeats 2000000 in
theorem compare_any (N : Nat) : CmpC N := by
  induction N with
  | zero => intro t u ht; cases t; simp [Tm.sz] at ht
  | succ N ih =>
    intro s t hN cs ct S w hs ht hS os ot
    cases s with
    | mk k b i f tx by' rf l fs c v =>
      cases t with
      | mk k2 b2 i2 f2 tx2 by2 rf2 l2 fs2 c2 v2 =>
        have hlN : l.sz ≤ N ∧ fs.sz ≤ N := by simp [Tm.sz] at hN; omega
        obtain ⟨p1, p2, p3, p4⟩ := os.parts
        obtain ⟨q1, q2, q3, q4⟩ := ot.parts
        simp only [Tm.In] at hs ht
        obtain ⟨ab, cb, al, cl, af, cf, rfl, bd, h1, h2, h3⟩ := hs
        obtain ⟨ab2, cb2, al2, cl2, af2, cf2, rfl, bd2, g1, g2, g3⟩ := ht
        by_cases hne : Sp.cmpI k k2 ≠ 0
        · rw [Tm.cmp_ne hne]
          exact compare_diff _ _ _ _ _ _ _ _ _ _ _ _ _ _ _ _ _ _ _ _ w k k2 (fun e => hne (by rw [e]; exact cmpI_self _)) p1 p2 q1 q2
        · obtain rfl := cmpI_zero (Decidable.not_not.1 hne)
          clear hne
          have HF : ∀ (of : fs.Ok) (of2 : fs2.Ok), ∀ W, Below w.heap.size w W → Calls Tryz.prog 78 #[.slice af fs.len cf, .slice af2 fs2.len cf2] W fun e w' => e = .returned (.int .i64 (fs.cmp fs2)) ∧ Below W.heap.size W w' := fun of of2 W hW =>
            fields_any N ih fs fs2 hlN.2 af af2 cf cf2 S W (fs.In_same (hS.same hW) (fun _ h => h) af 0 h3) (fs2.In_same (hS.same hW) (fun _ h => h) af2 0 g3) (hS.later hW) of of2 bd.nf bd2.nf
          by_cases k1 : k = 1
          · subst k1; rw [Tm.cmp_1]; exact compare_1 _ _ _ _ _ _ _ _ _ _ _ _ _ _ _ _ _ _ _ _ w
          by_cases k2 : k = 2
          · subst k2; rw [Tm.cmp_2]; exact compare_2 _ _ _ _ _ _ _ _ _ _ _ _ _ _ _ _ _ _ _ _ w
          by_cases k3 : k = 3
          · subst k3; rw [Tm.cmp_3]; exact compare_3 _ _ _ _ _ _ _ _ _ _ _ _ _ _ _ _ _ _ _ _ w bd.i0 bd.i1 bd2.i0 bd2.i1
          by_cases k4 : k = 4
          · subst k4; rw [Tm.cmp_4]; exact compare_4 _ _ _ _ _ _ _ _ _ _ _ _ _ _ _ _ _ _ _ _ w bd.f1 bd2.f1
          by_cases k5 : k = 5
          · subst k5; rw [Tm.cmp_5]; exact compare_5 _ _ _ _ _ _ _ _ _ _ _ _ _ _ _ _ _ _ _ _ w
          by_cases k6 : k = 6
          · subst k6; rw [Tm.cmp_6]; exact compare_6 _ _ _ _ _ _ _ _ _ _ _ _ _ _ _ _ _ _ w by' by2 ab ab2 cb cb2 S h1 g1 hS
          by_cases k7 : k = 7
          · subst k7; rw [Tm.cmp_7]; exact compare_7 _ _ _ _ _ _ _ _ _ _ _ _ _ _ _ _ _ _ _ _ w bd.r0 bd.r1 bd2.r0 bd2.r1
          by_cases k8 : k = 8
          · subst k8; rw [Tm.cmp_8]; exact compare_8 N ih _ _ _ _ _ _ _ _ _ _ _ _ _ _ _ _ _ _ l l2 hlN.1 al al2 cl cl2 S w h2 g2 hS (p3 rfl) (q3 rfl) bd.nl bd2.nl
          by_cases k9 : k = 9
          · subst k9; rw [Tm.cmp_9]; exact compare_9 _ _ _ _ _ _ _ _ _ _ _ _ _ _ _ _ _ _ _ _ w _ (HF (p4 (.inl rfl)) (q4 (.inl rfl)))
          have k10 : k = 10 := by omega
          subst k10
          rw [Tm.cmp_10]; exact compare_10 _ _ _ _ _ _ _ _ _ _ _ _ _ _ _ _ _ _ _ _ w _ os.ver ot.ver (HF (p4 (.inr rfl)) (q4 (.inr rfl)))
end Go.Proofs.YtbjcabpmndhfmaaGreat


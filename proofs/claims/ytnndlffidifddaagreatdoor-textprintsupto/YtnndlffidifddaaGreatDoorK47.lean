/- tenonref01.Clean at dicts, records and bytes; Clean whole. -/
import Derived.Test.YtnndlffidifddaaGreatDoorK46
import Derived.Test.YtnndlffidifddaaGreatDoorK42
import Derived.RegionTactic
namespace Go.Proofs.YtnndlffidifddaaGreatDoor
open Go.RowKit

set_option maxRecDepth 100000 in
set_option maxHeartbeats 2000000 in
theorem cl_9 (b : Bool) (i : Int) (f : Nat) (tx : ByteArray) (vb : Value) (rf : Int) (vl : Value) (af : Option Addr) (L : TmF) (cf : Nat) (c : ByteArray) (vr : Int) (w : World) (h : ∀ W, Below w.heap.size w W → Calls Tryz.prog 21 #[.slice af L.len cf] W fun e w' => ∃ a cap, e = .returned (.slice a L.len cap) ∧ Below W.heap.size W w' ∧ L.clean.In w' (Fr W w') a 0) :
    Calls Tryz.prog 9 #[.agg #[.int .i64 9, .bool b, .int .i64 i, .float .f64 f, .string tx, vb, .int .u64 rf, vl, .slice af L.len cf, .string c, .int .i64 vr]] w fun e w' => ∃ a cap, e = .returned (.agg (tcells 9 false 0 0 ByteArray.empty (.slice none 0 0) 0 (.slice none 0 0) (.slice a L.len cap) ByteArray.empty 0)) ∧ Below w.heap.size w w' ∧ L.clean.In w' (Fr w w') a 0 := by
  have HC : Hid _ := h
  clear h
  go_enter Tryz.func9, Tryz.ntmps9
  go_wp2_with fail
  refine (HC.out _ ((((Below.refl _ _).alloc (Nat.le_refl _) _).alloc (by simp) _).alloc (by simp; omega) _)).mono ?_
  rintro e w1 ⟨a, cap, rfl, hb1, hl1⟩
  obtain ⟨hP, hR, hT, hbw, hsz⟩ := boxes3 hb1
  obtain ⟨r0, r1, r2, r3, r4, r5, r6, r7, r8, r9, r10⟩ := tbox hR; obtain ⟨t0, t1, t2, t3, t4, t5, t6, t7, t8, t9, t10⟩ := tbox hT; have hf := box_writes hR; have f0 := hf 0; have f1 := hf 1; have f2 := hf 2; have f3 := hf 3; have f4 := hf 4; have f5 := hf 5; have f6 := hf 6; have f7 := hf 7; have f8 := hf 8; have f9 := hf 9; have f10 := hf 10
  have g8 := box_writes hT 8
  have HB1 : Hid (Below w.heap.size w w1) := hbw
  have HL1 : Hid (L.clean.In w1 (fun k => w.heap.size + 3 ≤ k ∧ k < w1.heap.size) a 0) := L.clean.In_same (Same.refl _ _) (fun k hk => ⟨by have := hk.1; simpa using this, hk.2⟩) _ _ hl1
  clear hl1 hb1 hR hT hf hbw hP
  go_wp2_with fail
  have HE : Hid (Below w.heap.size w (setN (w1.setCell ⟨w.heap.size + 2, 8, none⟩ (.slice a L.len cap)) (w.heap.size + 1) 0 [.int .i64 9, .bool false, .int .i64 0, .float .f64 0, .string ByteArray.empty, .slice none 0 0, .int .u64 0, .slice none 0 0, .slice a L.len cap, .string ByteArray.empty, .int .i64 0])) := setN_below (Nat.le_succ _) _ _ _ _ (HB1.out.setCell (p := ⟨w.heap.size + 2, 8, none⟩) (Nat.le_add_right _ _) _)
  have HSm : Hid (∀ k, w.heap.size + 3 ≤ k → (setN (w1.setCell ⟨w.heap.size + 2, 8, none⟩ (.slice a L.len cap)) (w.heap.size + 1) 0 [.int .i64 9, .bool false, .int .i64 0, .float .f64 0, .string ByteArray.empty, .slice none 0 0, .int .u64 0, .slice none 0 0, .slice a L.len cap, .string ByteArray.empty, .int .i64 0]).heap[k]? = w1.heap[k]?) := fun k hk => by
    rw [setN_other (by omega), heap_setCell_other _ _ _ _ (by show k ≠ w.heap.size + 2; omega)]
  have HZ : Hid ((setN (w1.setCell ⟨w.heap.size + 2, 8, none⟩ (.slice a L.len cap)) (w.heap.size + 1) 0 [.int .i64 9, .bool false, .int .i64 0, .float .f64 0, .string ByteArray.empty, .slice none 0 0, .int .u64 0, .slice none 0 0, .slice a L.len cap, .string ByteArray.empty, .int .i64 0]).heap.size = w1.heap.size) := by show _ = _; rw [setN_size]; simp
  have HF : Hid (L.clean.In (setN (w1.setCell ⟨w.heap.size + 2, 8, none⟩ (.slice a L.len cap)) (w.heap.size + 1) 0 [.int .i64 9, .bool false, .int .i64 0, .float .f64 0, .string ByteArray.empty, .slice none 0 0, .int .u64 0, .slice none 0 0, .slice a L.len cap, .string ByteArray.empty, .int .i64 0]) (Fr w (setN (w1.setCell ⟨w.heap.size + 2, 8, none⟩ (.slice a L.len cap)) (w.heap.size + 1) 0 [.int .i64 9, .bool false, .int .i64 0, .float .f64 0, .string ByteArray.empty, .slice none 0 0, .int .u64 0, .slice none 0 0, .slice a L.len cap, .string ByteArray.empty, .int .i64 0])) a 0) := L.clean.In_same (fun k hk => HSm.out k hk.1) (fun k hk => ⟨by have := hk.1; omega, by rw [HZ.out]; exact hk.2⟩) _ _ HL1.out
  refine bodyPost_ret (v := .agg (tcells 9 false 0 0 ByteArray.empty (.slice none 0 0) 0 (.slice none 0 0) (.slice a L.len cap) ByteArray.empty 0)) (by simp [results, Tryz.results9, go_sem, tcells, r0, r1, r2, r3, r4, r5, r6, r7, r8, r9, r10] <;> rfl) rfl ⟨a, cap, rfl, HE.out, HF.out⟩
set_option maxRecDepth 100000 in
set_option maxHeartbeats 2000000 in
theorem cl_10 (b : Bool) (i : Int) (f : Nat) (tx : ByteArray) (vb : Value) (rf : Int) (vl : Value) (af : Option Addr) (L : TmF) (cf : Nat) (c : ByteArray) (vr : Int) (w : World) (h : ∀ W, Below w.heap.size w W → Calls Tryz.prog 21 #[.slice af L.len cf] W fun e w' => ∃ a cap, e = .returned (.slice a L.len cap) ∧ Below W.heap.size W w' ∧ L.clean.In w' (Fr W w') a 0) :
    Calls Tryz.prog 9 #[.agg #[.int .i64 10, .bool b, .int .i64 i, .float .f64 f, .string tx, vb, .int .u64 rf, vl, .slice af L.len cf, .string c, .int .i64 vr]] w fun e w' => ∃ a cap, e = .returned (.agg (tcells 10 false 0 0 ByteArray.empty (.slice none 0 0) 0 (.slice none 0 0) (.slice a L.len cap) c vr)) ∧ Below w.heap.size w w' ∧ L.clean.In w' (Fr w w') a 0 := by
  have HC : Hid _ := h
  clear h
  go_enter Tryz.func9, Tryz.ntmps9
  go_wp2_with fail
  go_region
  all_goals
  go_wp2_with fail
  refine (HC.out _ ((((Below.refl _ _).alloc (Nat.le_refl _) _).alloc (by simp) _).alloc (by simp; omega) _).drew).mono ?_
  rintro e w1 ⟨a, cap, rfl, hb1, hl1⟩
  obtain ⟨hP, hR, hT, hbw, hsz⟩ := boxes3 (below_to (Below.refl _ _).drew hb1)
  obtain ⟨r0, r1, r2, r3, r4, r5, r6, r7, r8, r9, r10⟩ := tbox hR; obtain ⟨t0, t1, t2, t3, t4, t5, t6, t7, t8, t9, t10⟩ := tbox hT; have hf := box_writes hR; have f0 := hf 0; have f1 := hf 1; have f2 := hf 2; have f3 := hf 3; have f4 := hf 4; have f5 := hf 5; have f6 := hf 6; have f7 := hf 7; have f8 := hf 8; have f9 := hf 9; have f10 := hf 10
  have g8 := box_writes hT 8
  have HB1 : Hid (Below w.heap.size w w1) := hbw
  have HL1 : Hid (L.clean.In w1 (fun k => w.heap.size + 3 ≤ k ∧ k < w1.heap.size) a 0) := L.clean.In_same (Same.refl _ _) (fun k hk => ⟨by have := hk.1; simpa using this, hk.2⟩) _ _ hl1
  clear hl1 hb1 hR hT hf hbw hP
  go_wp2_with fail
  have HE : Hid (Below w.heap.size w (setN (w1.setCell ⟨w.heap.size + 2, 8, none⟩ (.slice a L.len cap)) (w.heap.size + 1) 0 [.int .i64 10, .bool false, .int .i64 0, .float .f64 0, .string ByteArray.empty, .slice none 0 0, .int .u64 0, .slice none 0 0, .slice a L.len cap, .string c, .int .i64 vr])) := setN_below (Nat.le_succ _) _ _ _ _ (HB1.out.setCell (p := ⟨w.heap.size + 2, 8, none⟩) (Nat.le_add_right _ _) _)
  have HSm : Hid (∀ k, w.heap.size + 3 ≤ k → (setN (w1.setCell ⟨w.heap.size + 2, 8, none⟩ (.slice a L.len cap)) (w.heap.size + 1) 0 [.int .i64 10, .bool false, .int .i64 0, .float .f64 0, .string ByteArray.empty, .slice none 0 0, .int .u64 0, .slice none 0 0, .slice a L.len cap, .string c, .int .i64 vr]).heap[k]? = w1.heap[k]?) := fun k hk => by
    rw [setN_other (by omega), heap_setCell_other _ _ _ _ (by show k ≠ w.heap.size + 2; omega)]
  have HZ : Hid ((setN (w1.setCell ⟨w.heap.size + 2, 8, none⟩ (.slice a L.len cap)) (w.heap.size + 1) 0 [.int .i64 10, .bool false, .int .i64 0, .float .f64 0, .string ByteArray.empty, .slice none 0 0, .int .u64 0, .slice none 0 0, .slice a L.len cap, .string c, .int .i64 vr]).heap.size = w1.heap.size) := by show _ = _; rw [setN_size]; simp
  have HF : Hid (L.clean.In (setN (w1.setCell ⟨w.heap.size + 2, 8, none⟩ (.slice a L.len cap)) (w.heap.size + 1) 0 [.int .i64 10, .bool false, .int .i64 0, .float .f64 0, .string ByteArray.empty, .slice none 0 0, .int .u64 0, .slice none 0 0, .slice a L.len cap, .string c, .int .i64 vr]) (Fr w (setN (w1.setCell ⟨w.heap.size + 2, 8, none⟩ (.slice a L.len cap)) (w.heap.size + 1) 0 [.int .i64 10, .bool false, .int .i64 0, .float .f64 0, .string ByteArray.empty, .slice none 0 0, .int .u64 0, .slice none 0 0, .slice a L.len cap, .string c, .int .i64 vr])) a 0) := L.clean.In_same (fun k hk => HSm.out k hk.1) (fun k hk => ⟨by have := hk.1; omega, by rw [HZ.out]; exact hk.2⟩) _ _ HL1.out
  refine bodyPost_ret (v := .agg (tcells 10 false 0 0 ByteArray.empty (.slice none 0 0) 0 (.slice none 0 0) (.slice a L.len cap) c vr)) (by simp [results, Tryz.results9, go_sem, tcells, r0, r1, r2, r3, r4, r5, r6, r7, r8, r9, r10] <;> rfl) rfl ⟨a, cap, rfl, HE.out, HF.out⟩
set_option maxRecDepth 100000 in
set_option maxHeartbeats 2000000 in
theorem cl_6 (b : Bool) (i : Int) (f : Nat) (tx : ByteArray) (ab : Option Addr) (L : ByteArray) (cb : Nat) (rf : Int) (vl vf : Value) (c : ByteArray) (vr : Int) (w : World) (B : Nat → Prop) (hB : Sub B w) (hl : BytesAt w B ab L) (hlen : L.size ≤ 140737488355328) :
    Calls Tryz.prog 9 #[.agg #[.int .i64 6, .bool b, .int .i64 i, .float .f64 f, .string tx, .slice ab L.size cb, .int .u64 rf, vl, vf, .string c, .int .i64 vr]] w fun e w' => ∃ a cap, e = .returned (.agg (tcells 6 false 0 0 ByteArray.empty (.slice a L.size cap) 0 (.slice none 0 0) (.slice none 0 0) ByteArray.empty 0)) ∧ Below w.heap.size w w' ∧ BytesAt w' (Fr w w') a L := by
  obtain ⟨i0, hi, hz0, hz1, hz2⟩ := info_parts Tryz.infoB
  by_cases h0 : L.size = 0
  · have hl' : Hid (∀ W S a, BytesAt W S a L) := fun W S a j hj => by omega
    rw [h0]
    clear h0 hl hlen
    go_enter Tryz.func9, Tryz.ntmps9
    go_wp2_with (at_builtin; refine wpList_ran _ rfl _ _ 23 rfl _ _ _ _ rfl rfl (app_zero _ _ _ _ _) ?_)
    refine bodyPost_ret (v := .agg (tcells 6 false 0 0 ByteArray.empty (.slice (some ⟨w.heap.size + 1 + 1 + 1, 0, none⟩) 0 0) 0 (.slice none 0 0) (.slice none 0 0) ByteArray.empty 0)) (by simp [results, Tryz.results9, go_sem, tcells] <;> rfl) rfl ⟨_, _, rfl, ?_, hl'.out _ _ _⟩
    exact (((((Below.refl _ _).alloc (Nat.le_refl _) _).alloc (by simp) _).alloc (by simp; omega) _).alloc (by simp; omega) _)
  · obtain ⟨g, o, rfl, hg, _⟩ := hl 0 (by omega)
    have hg := hB _ hg
    have h0 : 0 < L.size := by omega
    have hc' : Hid (∀ W, Below w.heap.size w W → ∀ j u, (bcells L)[j]? = some u → W.cell? ((⟨g, o, none⟩ : Addr).add j) = some u) := fun W hW j u hj => by
      obtain ⟨hj', rfl⟩ := bcells_at L j u hj
      obtain ⟨g', o', e, _, hc⟩ := hl j hj'
      simp only [Option.some.injEq, Addr.mk.injEq, and_true] at e
      obtain ⟨rfl, rfl⟩ := e
      rw [addr_add, hW.cell (p := ⟨g, o + j, none⟩) (by show g < _; omega)]; exact hc
    clear hl
    go_enter Tryz.func9, Tryz.ntmps9
    go_wp2_with (at_builtin; refine wpList_app _ rfl _ _ 23 rfl (w.heap.size + 3) 5 i0 (.int .u8 0) 1 1 Tryz.undB hi hz0 hz1 hz2 rfl (by decide) _ 0 [] rfl ⟨rfl, .inr ⟨w.heap.size + 3, 0, #[], rfl, Nat.le_refl _, by simpa using heap_alloc_new (((w.alloc _).alloc _).alloc _) (.cells #[] 5), Nat.le_refl _, by simp [maxLen], rfl, rfl⟩⟩ ⟨g, o, none⟩ L.size cb (bcells L) rfl (by simp [bcells]) (hc'.out _ (((((Below.refl _ _).alloc (Nat.le_refl _) _).alloc (by simp) _).alloc (by simp; omega) _).alloc (by simp; omega) _)) (bcells_one L) h0 (by unfold maxLen; omega) (by omega) (by simp) ?_; intro g' cap' w3 hown' hgr hor; have hlt := hown'.lt g' rfl; have HB6 : Below (((w.alloc (.cells #[.int .i64 6, .bool b, .int .i64 i, .float .f64 f, .string tx, .slice (some ⟨g, o, none⟩) L.size cb, .int .u64 rf, vl, vf, .string c, .int .i64 vr] 29)).alloc (.cells #[.int .i64 0, .bool false, .int .i64 0, .float .f64 0, .string ByteArray.empty, .slice none 0 0, .int .u64 0, .slice none 0 0, .slice none 0 0, .string ByteArray.empty, .int .i64 0] 29)).alloc (.cells #[.int .i64 6, .bool false, .int .i64 0, .float .f64 0, .string ByteArray.empty, .slice none 0 0, .int .u64 0, .slice none 0 0, .slice none 0 0, .string ByteArray.empty, .int .i64 0] 29)).heap.size (((w.alloc (.cells #[.int .i64 6, .bool b, .int .i64 i, .float .f64 f, .string tx, .slice (some ⟨g, o, none⟩) L.size cb, .int .u64 rf, vl, vf, .string c, .int .i64 vr] 29)).alloc (.cells #[.int .i64 0, .bool false, .int .i64 0, .float .f64 0, .string ByteArray.empty, .slice none 0 0, .int .u64 0, .slice none 0 0, .slice none 0 0, .string ByteArray.empty, .int .i64 0] 29)).alloc (.cells #[.int .i64 6, .bool false, .int .i64 0, .float .f64 0, .string ByteArray.empty, .slice none 0 0, .int .u64 0, .slice none 0 0, .slice none 0 0, .string ByteArray.empty, .int .i64 0] 29)) w3 := ((Below.refl _ _).alloc (Nat.le_refl _) _).grown hgr (by simp) (fun k e => by have e' : some (w.heap.size + 1 + 1 + 1) = some k := e; injection e' with e'; simp; omega); obtain ⟨hP, hR, hT, hbw, hsz⟩ := boxes3 HB6; obtain ⟨r0, r1, r2, r3, r4, r5, r6, r7, r8, r9, r10⟩ := tbox hR; obtain ⟨t0, t1, t2, t3, t4, t5, t6, t7, t8, t9, t10⟩ := tbox hT; have hf := box_writes hR; have f0 := hf 0; have f1 := hf 1; have f2 := hf 2; have f3 := hf 3; have f4 := hf 4; have f5 := hf 5; have f6 := hf 6; have f7 := hf 7; have f8 := hf 8; have f9 := hf 9; have f10 := hf 10; have g5 := box_writes hT 5; have HBW : Hid (Below w.heap.size w w3) := hbw; clear hP hR hT hf hbw HB6)
    have HB3 : Hid (BytesAt w3 (fun k => w.heap.size + 3 ≤ k ∧ k < w3.heap.size) (some ⟨g', 0, none⟩) L) := fun j hj => by
      refine ⟨g', 0, rfl, ⟨by omega, hlt.2⟩, ?_⟩
      have hc2 := hown'.cells (g := g') rfl j (.int .u8 (Sp.byte L j)) (by simp [bcells, hj])
      rw [addr_add] at hc2; exact hc2
    have HE : Hid (Below w.heap.size w (setN (w3.setCell ⟨w.heap.size + 2, 5, none⟩ (.slice (some ⟨g', 0, none⟩) L.size cap')) (w.heap.size + 1) 0 [.int .i64 6, .bool false, .int .i64 0, .float .f64 0, .string ByteArray.empty, .slice (some ⟨g', 0, none⟩) L.size cap', .int .u64 0, .slice none 0 0, .slice none 0 0, .string ByteArray.empty, .int .i64 0])) := setN_below (Nat.le_succ _) _ _ _ _ (HBW.out.setCell (p := ⟨w.heap.size + 2, 5, none⟩) (Nat.le_add_right _ _) _)
    have HSm : Hid (∀ k, w.heap.size + 3 ≤ k → (setN (w3.setCell ⟨w.heap.size + 2, 5, none⟩ (.slice (some ⟨g', 0, none⟩) L.size cap')) (w.heap.size + 1) 0 [.int .i64 6, .bool false, .int .i64 0, .float .f64 0, .string ByteArray.empty, .slice (some ⟨g', 0, none⟩) L.size cap', .int .u64 0, .slice none 0 0, .slice none 0 0, .string ByteArray.empty, .int .i64 0]).heap[k]? = w3.heap[k]?) := fun k hk => by
      rw [setN_other (by omega), heap_setCell_other _ _ _ _ (by show k ≠ w.heap.size + 2; omega)]
    have HZ : Hid ((setN (w3.setCell ⟨w.heap.size + 2, 5, none⟩ (.slice (some ⟨g', 0, none⟩) L.size cap')) (w.heap.size + 1) 0 [.int .i64 6, .bool false, .int .i64 0, .float .f64 0, .string ByteArray.empty, .slice (some ⟨g', 0, none⟩) L.size cap', .int .u64 0, .slice none 0 0, .slice none 0 0, .string ByteArray.empty, .int .i64 0]).heap.size = w3.heap.size) := by show _ = _; rw [setN_size]; simp
    have HF : Hid (BytesAt (setN (w3.setCell ⟨w.heap.size + 2, 5, none⟩ (.slice (some ⟨g', 0, none⟩) L.size cap')) (w.heap.size + 1) 0 [.int .i64 6, .bool false, .int .i64 0, .float .f64 0, .string ByteArray.empty, .slice (some ⟨g', 0, none⟩) L.size cap', .int .u64 0, .slice none 0 0, .slice none 0 0, .string ByteArray.empty, .int .i64 0]) (Fr w (setN (w3.setCell ⟨w.heap.size + 2, 5, none⟩ (.slice (some ⟨g', 0, none⟩) L.size cap')) (w.heap.size + 1) 0 [.int .i64 6, .bool false, .int .i64 0, .float .f64 0, .string ByteArray.empty, .slice (some ⟨g', 0, none⟩) L.size cap', .int .u64 0, .slice none 0 0, .slice none 0 0, .string ByteArray.empty, .int .i64 0])) (some ⟨g', 0, none⟩) L) := HB3.out.same (fun k hk => HSm.out k hk.1) (fun k hk => ⟨by have := hk.1; omega, by rw [HZ.out]; exact hk.2⟩)
    clear hown' hgr hor
    refine bodyPost_ret (v := .agg (tcells 6 false 0 0 ByteArray.empty (.slice (some ⟨g', 0, none⟩) L.size cap') 0 (.slice none 0 0) (.slice none 0 0) ByteArray.empty 0)) (by simp [results, Tryz.results9, go_sem, tcells, r0, r1, r2, r3, r4, r5, r6, r7, r8, r9, r10] <;> rfl) rfl ⟨_, _, rfl, HE.out, HF.out⟩

end Go.Proofs.YtnndlffidifddaaGreatDoor

/- tenonref01.Clean: of every term that can be, the term without what plays no part, in new memory. -/
namespace Go.Proofs.YtnndlffidifddaaGreatDoor
open Go.RowKit

set_option maxHeartbeats 1000000 in
theorem clean_any (N : Nat) : ClC N := by
  induction N with
  | zero => intro t ht; cases t; simp [Tm.sz] at ht
  | succ N ih =>
    intro t hN cs B w h hB ho
    cases t with
    | mk k b i f tx by' rf l fs c vr =>
      have hlN : l.sz ≤ N ∧ fs.sz ≤ N := by simp [Tm.sz] at hN; omega
      obtain ⟨p1, p2, p3, p4⟩ := ho.parts
      obtain ⟨q1, q2, q3, q4, q5⟩ := ho.bounds
      simp only [Tm.In] at h
      obtain ⟨ab, cb, al, cl, af, cf, rfl, hbd, hby, hl, hfs⟩ := h
      have bi : -9223372036854775808 ≤ i ∧ i ≤ 9223372036854775807 := ⟨hbd.i0, hbd.i1⟩
      have bf := hbd.f1
      have br : 0 ≤ rf ∧ rf ≤ 18446744073709551615 := ⟨hbd.r0, hbd.r1⟩
      have bv : -9223372036854775808 ≤ vr ∧ vr ≤ 9223372036854775807 := ⟨hbd.v0, hbd.v1⟩
      have HF : ∀ (hk : k = 9 ∨ k = 10), ∀ W, Below w.heap.size w W → Calls Tryz.prog 21 #[.slice af fs.len cf] W fun e w' => ∃ a cap, e = .returned (.slice a fs.len cap) ∧ Below W.heap.size W w' ∧ fs.clean.In w' (Fr W w') a 0 := fun hk W hW =>
        cleaned_any N ih af fs cf W hlN.2 B (hB.later hW) (fs.In_same (hB.same hW) (fun _ h => h) af 0 hfs) (TmF.nm (q4 hk)).1 (p4 hk)
      have z : ByteArray.empty.size ≤ 65536 := by rw [empty_size]; omega
      by_cases k1 : k = 1
      · subst k1; refine (cl_1 b i f tx _ rf _ _ c vr w).mono ?_
        rintro e w' ⟨rfl, hb⟩
        refine ⟨_, rfl, hb, ?_⟩
        rw [Tm.clean_1]; simp only [Tm.In]
        exact ⟨none, 0, none, 0, none, 0, rfl, Bd.leaf (by decide) (by decide) (by decide) (by decide) (by decide) z z (by decide) (by decide) (by decide), fun j hj => absurd hj (Nat.not_lt_zero _), trivial, trivial⟩
      by_cases k2 : k = 2
      · subst k2; refine (cl_2 b i f tx _ rf _ _ c vr w).mono ?_
        rintro e w' ⟨rfl, hb⟩
        refine ⟨_, rfl, hb, ?_⟩
        rw [Tm.clean_2]; simp only [Tm.In]
        exact ⟨none, 0, none, 0, none, 0, rfl, Bd.leaf (by decide) (by decide) (by decide) (by decide) (by decide) z z (by decide) (by decide) (by decide), fun j hj => absurd hj (Nat.not_lt_zero _), trivial, trivial⟩
      by_cases k3 : k = 3
      · subst k3; refine (cl_3 b i f tx _ rf _ _ c vr w).mono ?_
        rintro e w' ⟨rfl, hb⟩
        refine ⟨_, rfl, hb, ?_⟩
        rw [Tm.clean_3]; simp only [Tm.In]
        exact ⟨none, 0, none, 0, none, 0, rfl, Bd.leaf (by decide) bi (by decide) (by decide) (by decide) z z (by decide) (by decide) (by decide), fun j hj => absurd hj (Nat.not_lt_zero _), trivial, trivial⟩
      by_cases k4 : k = 4
      · subst k4; refine (cl_4 b i f tx _ rf _ _ c vr w).mono ?_
        rintro e w' ⟨rfl, hb⟩
        refine ⟨_, rfl, hb, ?_⟩
        rw [Tm.clean_4]; simp only [Tm.In]
        exact ⟨none, 0, none, 0, none, 0, rfl, Bd.leaf (by decide) (by decide) bf (by decide) (by decide) z z (by decide) (by decide) (by decide), fun j hj => absurd hj (Nat.not_lt_zero _), trivial, trivial⟩
      by_cases k5 : k = 5
      · subst k5; refine (cl_5 b i f tx _ rf _ _ c vr w).mono ?_
        rintro e w' ⟨rfl, hb⟩
        refine ⟨_, rfl, hb, ?_⟩
        rw [Tm.clean_5]; simp only [Tm.In]
        exact ⟨none, 0, none, 0, none, 0, rfl, Bd.leaf (by decide) (by decide) (by decide) (by decide) (by decide) (q1 rfl) z (by decide) (by decide) (by decide), fun j hj => absurd hj (Nat.not_lt_zero _), trivial, trivial⟩
      by_cases k6 : k = 6
      · subst k6
        refine (cl_6 b i f tx ab by' cb rf _ _ c vr w B hB hby hbd.nb).mono ?_
        rintro e w' ⟨a', cap', rfl, hb, hl⟩
        refine ⟨_, rfl, hb, ?_⟩
        rw [Tm.clean_6]; simp only [Tm.In]
        exact ⟨a', cap', none, 0, none, 0, rfl, Bd.leaf (by decide) (by decide) (by decide) (by decide) (by decide) z z (q2 rfl) (by decide) (by decide), hl, trivial, trivial⟩
      by_cases k7 : k = 7
      · subst k7; refine (cl_7 b i f tx _ rf _ _ c vr w).mono ?_
        rintro e w' ⟨rfl, hb⟩
        refine ⟨_, rfl, hb, ?_⟩
        rw [Tm.clean_7]; simp only [Tm.In]
        exact ⟨none, 0, none, 0, none, 0, rfl, Bd.leaf (by decide) (by decide) (by decide) br (by decide) z z (by decide) (by decide) (by decide), fun j hj => absurd hj (Nat.not_lt_zero _), trivial, trivial⟩
      by_cases k8 : k = 8
      · subst k8
        refine (cl_8 N ih b i f tx _ rf al l cl _ c vr w hlN.1 B hB hl (q3 rfl) (p3 rfl)).mono ?_
        rintro e w' ⟨a', cap', rfl, hb, hl'⟩
        refine ⟨_, rfl, hb, ?_⟩
        rw [Tm.clean_8]; simp only [Tm.In]
        refine ⟨none, 0, a', cap', none, 0, by simp [TmL.clean_len, TmF.len], Bd.leaf (by decide) (by decide) (by decide) (by decide) (by decide) z z (by decide) (by simp [TmL.clean_len]; exact q3 rfl) (by decide), fun j hj => absurd hj (Nat.not_lt_zero _), hl', trivial⟩
      by_cases k9 : k = 9
      · subst k9
        refine (cl_9 b i f tx _ rf _ af fs cf c vr w (HF (.inl rfl))).mono ?_
        rintro e w' ⟨a', cap', rfl, hb, hl'⟩
        refine ⟨_, rfl, hb, ?_⟩
        rw [Tm.clean_9]; simp only [Tm.In]
        refine ⟨none, 0, none, 0, a', cap', by simp [TmF.clean_len, TmL.len], Bd.leaf (by decide) (by decide) (by decide) (by decide) (by decide) z z (by decide) (by decide) (by simp [TmF.clean_len]; exact (TmF.nm (q4 (.inl rfl))).1), fun j hj => absurd hj (Nat.not_lt_zero _), trivial, hl'⟩
      have k10 : k = 10 := by clear HF; omega
      subst k10
      have hcs := head_len (q5 rfl)
      refine (cl_10 b i f tx _ rf _ af fs cf c vr w (HF (.inr rfl))).mono ?_
      rintro e w' ⟨a', cap', rfl, hb, hl'⟩
      refine ⟨_, rfl, hb, ?_⟩
      rw [Tm.clean_10]; simp only [Tm.In]
      refine ⟨none, 0, none, 0, a', cap', by simp [TmF.clean_len, TmL.len], Bd.leaf (by decide) (by decide) (by decide) (by decide) bv z (by omega) (by decide) (by decide) (by simp [TmF.clean_len]; exact (TmF.nm (q4 (.inr rfl))).1), fun j hj => absurd hj (Nat.not_lt_zero _), trivial, hl'⟩
end Go.Proofs.YtnndlffidifddaaGreatDoor


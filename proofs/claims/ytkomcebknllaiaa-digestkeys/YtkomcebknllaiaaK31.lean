/- value.termOf, kind by kind. -/
import Derived.Test.YtkomcebknllaiaaK30
namespace Go.Proofs.Ytkomcebknllaiaa
open Go.RowKit

/-- two boxes of terms: what they hold later -/
theorem boxes_at {w : World} {o p : Obj} {w1 : World} (h : Below ((w.alloc o).alloc p).heap.size ((w.alloc o).alloc p) w1) : w1.heap[w.heap.size]? = some o ∧ w1.heap[w.heap.size + 1]? = some p ∧ Below w.heap.size w w1 ∧ w.heap.size + 2 ≤ w1.heap.size := by
  refine ⟨?_, ?_, below_to (((Below.refl _ _).alloc (Nat.le_refl _) _).alloc (by simp) _) h, by have := h.size; simpa using this⟩
  · rw [h.block w.heap.size (by simp; omega), Below.heap_alloc _ _ _ (by simp)]; exact heap_alloc_new w o
  · rw [h.block (w.heap.size + 1) (by simp)]; have := heap_alloc_new (w.alloc o) p; simpa using this

set_option maxRecDepth 100000 in
set_option maxHeartbeats 1000000 in
theorem tof_1 (w : World) : Calls Try.prog 39 #[.nilIface] w fun e w' => e = .returned (.agg (tcells 1 false 0 0 ByteArray.empty (.slice none 0 0) 0 (.slice none 0 0) (.slice none 0 0) ByteArray.empty 0)) ∧ Below w.heap.size w w' := by
  go_enter Try.func39, Try.ntmps39
  go_wp2_with (go_at_call 65; refine (kindOf_nil _).mono ?_; rintro e w' ⟨rfl, rfl⟩)
  refine bodyPost_ret (v := .agg (tcells 1 false 0 0 ByteArray.empty (.slice none 0 0) 0 (.slice none 0 0) (.slice none 0 0) ByteArray.empty 0)) (by simp [results, Try.results39, go_sem, tcells] <;> rfl) rfl ⟨rfl, ?_⟩
  exact (((Below.refl _ _).alloc (Nat.le_refl _) _).alloc (by simp) _)
set_option maxRecDepth 100000 in
set_option maxHeartbeats 1000000 in
theorem tof_2 (b : Bool) (w : World) : Calls Try.prog 39 #[.iface 4 (.bool b)] w fun e w' => e = .returned (.agg (tcells 2 b 0 0 ByteArray.empty (.slice none 0 0) 0 (.slice none 0 0) (.slice none 0 0) ByteArray.empty 0)) ∧ Below w.heap.size w w' := by
  go_enter Try.func39, Try.ntmps39
  go_wp2_with (go_at_call 65; refine (kindOf_bool _ _).mono ?_; rintro e w' ⟨rfl, rfl⟩)
  refine bodyPost_ret (v := .agg (tcells 2 b 0 0 ByteArray.empty (.slice none 0 0) 0 (.slice none 0 0) (.slice none 0 0) ByteArray.empty 0)) (by simp [results, Try.results39, go_sem, tcells] <;> rfl) rfl ⟨rfl, ?_⟩
  exact (((Below.refl _ _).alloc (Nat.le_refl _) _).alloc (by simp) _)
set_option maxRecDepth 100000 in
set_option maxHeartbeats 1000000 in
theorem tof_3 (i : Int) (w : World) : Calls Try.prog 39 #[.iface 2 (.int .i64 i)] w fun e w' => e = .returned (.agg (tcells 3 false i 0 ByteArray.empty (.slice none 0 0) 0 (.slice none 0 0) (.slice none 0 0) ByteArray.empty 0)) ∧ Below w.heap.size w w' := by
  go_enter Try.func39, Try.ntmps39
  go_wp2_with (go_at_call 65; refine (kindOf_int _ _).mono ?_; rintro e w' ⟨rfl, rfl⟩)
  refine bodyPost_ret (v := .agg (tcells 3 false i 0 ByteArray.empty (.slice none 0 0) 0 (.slice none 0 0) (.slice none 0 0) ByteArray.empty 0)) (by simp [results, Try.results39, go_sem, tcells] <;> rfl) rfl ⟨rfl, ?_⟩
  exact (((Below.refl _ _).alloc (Nat.le_refl _) _).alloc (by simp) _)
set_option maxRecDepth 100000 in
set_option maxHeartbeats 1000000 in
theorem tof_4 (f : Nat) (w : World) : Calls Try.prog 39 #[.iface 22 (.float .f64 f)] w fun e w' => e = .returned (.agg (tcells 4 false 0 f ByteArray.empty (.slice none 0 0) 0 (.slice none 0 0) (.slice none 0 0) ByteArray.empty 0)) ∧ Below w.heap.size w w' := by
  go_enter Try.func39, Try.ntmps39
  go_wp2_with (go_at_call 65; refine (kindOf_float _ _).mono ?_; rintro e w' ⟨rfl, rfl⟩)
  refine bodyPost_ret (v := .agg (tcells 4 false 0 f ByteArray.empty (.slice none 0 0) 0 (.slice none 0 0) (.slice none 0 0) ByteArray.empty 0)) (by simp [results, Try.results39, go_sem, tcells] <;> rfl) rfl ⟨rfl, ?_⟩
  exact (((Below.refl _ _).alloc (Nat.le_refl _) _).alloc (by simp) _)
set_option maxRecDepth 100000 in
set_option maxHeartbeats 1000000 in
theorem tof_7 (rf : Int) (w : World) : Calls Try.prog 39 #[.iface 25 (.int .u64 rf)] w fun e w' => e = .returned (.agg (tcells 7 false 0 0 ByteArray.empty (.slice none 0 0) rf (.slice none 0 0) (.slice none 0 0) ByteArray.empty 0)) ∧ Below w.heap.size w w' := by
  go_enter Try.func39, Try.ntmps39
  go_wp2_with (go_at_call 65; refine (kindOf_ref _ _).mono ?_; rintro e w' ⟨rfl, rfl⟩)
  refine bodyPost_ret (v := .agg (tcells 7 false 0 0 ByteArray.empty (.slice none 0 0) rf (.slice none 0 0) (.slice none 0 0) ByteArray.empty 0)) (by simp [results, Try.results39, go_sem, tcells] <;> rfl) rfl ⟨rfl, ?_⟩
  exact (((Below.refl _ _).alloc (Nat.le_refl _) _).alloc (by simp) _)
set_option maxRecDepth 100000 in
set_option maxHeartbeats 1000000 in
theorem tof_5 (s : ByteArray) (w : World) (hs : s.size ≤ 140737488355328) : Calls Try.prog 39 #[.iface 9 (.string s)] w fun e w' => e = .returned (.agg (tcells 5 false 0 0 s (.slice none 0 0) 0 (.slice none 0 0) (.slice none 0 0) ByteArray.empty 0)) ∧ Below w.heap.size w w' := by
  go_enter Try.func39, Try.ntmps39
  go_wp2_with (first
    | (go_at_call 65; refine (kindOf_text _ _).mono ?_; rintro e w' ⟨rfl, rfl⟩)
    | (go_at_call 61; refine (sClone_any s _ hs).mono ?_; rintro e w1 ⟨rfl, hb1⟩; obtain ⟨hR, hT, hbw, hsz⟩ := boxes_at hb1; obtain ⟨r0, r1, r2, r3, r4, r5, r6, r7, r8, r9, r10⟩ := tbox hR; obtain ⟨t0, t1, t2, t3, t4, t5, t6, t7, t8, t9, t10⟩ := tbox hT; have hf := box_writes hR; have f0 := hf 0; have f1 := hf 1; have f2 := hf 2; have f3 := hf 3; have f4 := hf 4; have f5 := hf 5; have f6 := hf 6; have f7 := hf 7; have f8 := hf 8; have f9 := hf 9; have f10 := hf 10; have g4 := box_writes hT 4; have HB1 : Hid (Below w.heap.size w w1) := hbw; skip; clear hb1 hR hT hf hbw))
  have HE : Hid (Below w.heap.size w (setN (w1.setCell ⟨w.heap.size + 1, 4, none⟩ (.string s)) w.heap.size 0 [.int .i64 5, .bool false, .int .i64 0, .float .f64 0, .string s, .slice none 0 0, .int .u64 0, .slice none 0 0, .slice none 0 0, .string ByteArray.empty, .int .i64 0])) := setN_below (Nat.le_refl _) _ _ _ _ (HB1.out.setCell (p := ⟨w.heap.size + 1, 4, none⟩) (Nat.le_succ _) _)
  have HSm : Hid (∀ k, w.heap.size + 2 ≤ k → (setN (w1.setCell ⟨w.heap.size + 1, 4, none⟩ (.string s)) w.heap.size 0 [.int .i64 5, .bool false, .int .i64 0, .float .f64 0, .string s, .slice none 0 0, .int .u64 0, .slice none 0 0, .slice none 0 0, .string ByteArray.empty, .int .i64 0]).heap[k]? = w1.heap[k]?) := fun k hk => by
    rw [setN_other (by omega), heap_setCell_other _ _ _ _ (by show k ≠ w.heap.size + 1; omega)]
  have HZ : Hid ((setN (w1.setCell ⟨w.heap.size + 1, 4, none⟩ (.string s)) w.heap.size 0 [.int .i64 5, .bool false, .int .i64 0, .float .f64 0, .string s, .slice none 0 0, .int .u64 0, .slice none 0 0, .slice none 0 0, .string ByteArray.empty, .int .i64 0]).heap.size = w1.heap.size) := by show _ = _; rw [setN_size]; simp
  refine bodyPost_ret (v := .agg (tcells 5 false 0 0 s (.slice none 0 0) 0 (.slice none 0 0) (.slice none 0 0) ByteArray.empty 0)) (by simp [results, Try.results39, go_sem, tcells, r0, r1, r2, r3, r4, r5, r6, r7, r8, r9, r10] <;> rfl) rfl ⟨rfl, HE.out⟩
set_option maxRecDepth 100000 in
set_option maxHeartbeats 1000000 in
theorem tof_6 (ab : Option Addr) (L : ByteArray) (cb : Nat) (B : Nat → Prop) (w : World) (hB : Sub B w) (hl : BytesAt w B ab L) (hs : L.size ≤ 140737488355328) : Calls Try.prog 39 #[.iface 23 (.slice ab L.size cb)] w fun e w' => ∃ a cap, e = .returned (.agg (tcells 6 false 0 0 ByteArray.empty (.slice a L.size cap) 0 (.slice none 0 0) (.slice none 0 0) ByteArray.empty 0)) ∧ Below w.heap.size w w' ∧ BytesAt w' (FrS w w') a L := by
  have HC : Hid (∀ W, Below w.heap.size w W → Calls Try.prog 62 #[.slice ab L.size cb] W fun e w' => ∃ a cap, e = .returned (.slice a L.size cap) ∧ Below W.heap.size W w' ∧ BytesLV w' (Fr W w') a L cap) := fun W hW => bClone_any L ab cb B W (hB.later hW) (hl.same (hB.same hW) (fun _ h => h)) hs
  clear hl
  go_enter Try.func39, Try.ntmps39
  go_wp2_with (first
    | (go_at_call 65; refine (kindOf_bytes _ _).mono ?_; rintro e w' ⟨rfl, rfl⟩)
    | (go_at_call 62; refine (HC.out _ (((Below.refl _ _).alloc (Nat.le_refl _) _).alloc (by simp) _)).mono ?_; rintro e w1 ⟨a, cap, rfl, hb1, hl1⟩; obtain ⟨hR, hT, hbw, hsz⟩ := boxes_at hb1; obtain ⟨r0, r1, r2, r3, r4, r5, r6, r7, r8, r9, r10⟩ := tbox hR; obtain ⟨t0, t1, t2, t3, t4, t5, t6, t7, t8, t9, t10⟩ := tbox hT; have hf := box_writes hR; have f0 := hf 0; have f1 := hf 1; have f2 := hf 2; have f3 := hf 3; have f4 := hf 4; have f5 := hf 5; have f6 := hf 6; have f7 := hf 7; have f8 := hf 8; have f9 := hf 9; have f10 := hf 10; have g5 := box_writes hT 5; have HB1 : Hid (Below w.heap.size w w1) := hbw; have HL1 : Hid (BytesAt w1 (fun k => w.heap.size + 2 ≤ k ∧ k < w1.heap.size ∧ Soft w1 k) a L) := hl1.soft.same (Same.refl _ _) (fun k hk => ⟨by have := hk.1.1; simpa using this, hk.1.2, hk.2⟩); clear hl1; clear hb1 hR hT hf hbw))
  have HE : Hid (Below w.heap.size w (setN (w1.setCell ⟨w.heap.size + 1, 5, none⟩ (.slice a L.size cap)) w.heap.size 0 [.int .i64 6, .bool false, .int .i64 0, .float .f64 0, .string ByteArray.empty, .slice a L.size cap, .int .u64 0, .slice none 0 0, .slice none 0 0, .string ByteArray.empty, .int .i64 0])) := setN_below (Nat.le_refl _) _ _ _ _ (HB1.out.setCell (p := ⟨w.heap.size + 1, 5, none⟩) (Nat.le_succ _) _)
  have HSm : Hid (∀ k, w.heap.size + 2 ≤ k → (setN (w1.setCell ⟨w.heap.size + 1, 5, none⟩ (.slice a L.size cap)) w.heap.size 0 [.int .i64 6, .bool false, .int .i64 0, .float .f64 0, .string ByteArray.empty, .slice a L.size cap, .int .u64 0, .slice none 0 0, .slice none 0 0, .string ByteArray.empty, .int .i64 0]).heap[k]? = w1.heap[k]?) := fun k hk => by
    rw [setN_other (by omega), heap_setCell_other _ _ _ _ (by show k ≠ w.heap.size + 1; omega)]
  have HZ : Hid ((setN (w1.setCell ⟨w.heap.size + 1, 5, none⟩ (.slice a L.size cap)) w.heap.size 0 [.int .i64 6, .bool false, .int .i64 0, .float .f64 0, .string ByteArray.empty, .slice a L.size cap, .int .u64 0, .slice none 0 0, .slice none 0 0, .string ByteArray.empty, .int .i64 0]).heap.size = w1.heap.size) := by show _ = _; rw [setN_size]; simp
  have HF : Hid (BytesAt (setN (w1.setCell ⟨w.heap.size + 1, 5, none⟩ (.slice a L.size cap)) w.heap.size 0 [.int .i64 6, .bool false, .int .i64 0, .float .f64 0, .string ByteArray.empty, .slice a L.size cap, .int .u64 0, .slice none 0 0, .slice none 0 0, .string ByteArray.empty, .int .i64 0]) (FrS w (setN (w1.setCell ⟨w.heap.size + 1, 5, none⟩ (.slice a L.size cap)) w.heap.size 0 [.int .i64 6, .bool false, .int .i64 0, .float .f64 0, .string ByteArray.empty, .slice a L.size cap, .int .u64 0, .slice none 0 0, .slice none 0 0, .string ByteArray.empty, .int .i64 0])) a L) := HL1.out.same (fun k hk => HSm.out k hk.1) (fun k hk => ⟨by have := hk.1; omega, by rw [HZ.out]; exact hk.2.1, hk.2.2.same (HSm.out k hk.1)⟩)
  refine bodyPost_ret (v := .agg (tcells 6 false 0 0 ByteArray.empty (.slice a L.size cap) 0 (.slice none 0 0) (.slice none 0 0) ByteArray.empty 0)) (by simp [results, Try.results39, go_sem, tcells, r0, r1, r2, r3, r4, r5, r6, r7, r8, r9, r10] <;> rfl) rfl ⟨a, cap, rfl, HE.out, HF.out⟩
set_option maxRecDepth 100000 in
set_option maxHeartbeats 1000000 in
theorem tof_9 (al : Option Addr) (L : TmF) (cl : Nat) (w : World) (h : ∀ W, Below w.heap.size w W → Calls Try.prog 66 #[.slice al L.len cl] W fun e w' => ∃ a cap, e = .returned (.slice a L.len cap) ∧ Below W.heap.size W w' ∧ L.clean.In w' (FrS W w') a 0) : Calls Try.prog 39 #[.iface 73 (.slice al L.len cl)] w fun e w' => ∃ a cap, e = .returned (.agg (tcells 9 false 0 0 ByteArray.empty (.slice none 0 0) 0 (.slice none 0 0) (.slice a L.len cap) ByteArray.empty 0)) ∧ Below w.heap.size w w' ∧ L.clean.In w' (FrS w w') a 0 := by
  have HC : Hid _ := h
  clear h
  go_enter Try.func39, Try.ntmps39
  go_wp2_with (first
    | (go_at_call 65; refine (kindOf_dict _ _).mono ?_; rintro e w' ⟨rfl, rfl⟩)
    | (go_at_call 66; refine (HC.out _ (((Below.refl _ _).alloc (Nat.le_refl _) _).alloc (by simp) _)).mono ?_; rintro e w1 ⟨a, cap, rfl, hb1, hl1⟩; obtain ⟨hR, hT, hbw, hsz⟩ := boxes_at hb1; obtain ⟨r0, r1, r2, r3, r4, r5, r6, r7, r8, r9, r10⟩ := tbox hR; obtain ⟨t0, t1, t2, t3, t4, t5, t6, t7, t8, t9, t10⟩ := tbox hT; have hf := box_writes hR; have f0 := hf 0; have f1 := hf 1; have f2 := hf 2; have f3 := hf 3; have f4 := hf 4; have f5 := hf 5; have f6 := hf 6; have f7 := hf 7; have f8 := hf 8; have f9 := hf 9; have f10 := hf 10; have g8 := box_writes hT 8; have HB1 : Hid (Below w.heap.size w w1) := hbw; have HL1 : Hid (L.clean.In w1 (fun k => w.heap.size + 2 ≤ k ∧ k < w1.heap.size ∧ Soft w1 k) a 0) := L.clean.In_same (Same.refl _ _) (fun k hk => ⟨by have := hk.1; simpa using this, hk.2⟩) _ _ hl1; clear hl1; clear hb1 hR hT hf hbw))
  have HE : Hid (Below w.heap.size w (setN (w1.setCell ⟨w.heap.size + 1, 8, none⟩ (.slice a L.len cap)) w.heap.size 0 [.int .i64 9, .bool false, .int .i64 0, .float .f64 0, .string ByteArray.empty, .slice none 0 0, .int .u64 0, .slice none 0 0, .slice a L.len cap, .string ByteArray.empty, .int .i64 0])) := setN_below (Nat.le_refl _) _ _ _ _ (HB1.out.setCell (p := ⟨w.heap.size + 1, 8, none⟩) (Nat.le_succ _) _)
  have HSm : Hid (∀ k, w.heap.size + 2 ≤ k → (setN (w1.setCell ⟨w.heap.size + 1, 8, none⟩ (.slice a L.len cap)) w.heap.size 0 [.int .i64 9, .bool false, .int .i64 0, .float .f64 0, .string ByteArray.empty, .slice none 0 0, .int .u64 0, .slice none 0 0, .slice a L.len cap, .string ByteArray.empty, .int .i64 0]).heap[k]? = w1.heap[k]?) := fun k hk => by
    rw [setN_other (by omega), heap_setCell_other _ _ _ _ (by show k ≠ w.heap.size + 1; omega)]
  have HZ : Hid ((setN (w1.setCell ⟨w.heap.size + 1, 8, none⟩ (.slice a L.len cap)) w.heap.size 0 [.int .i64 9, .bool false, .int .i64 0, .float .f64 0, .string ByteArray.empty, .slice none 0 0, .int .u64 0, .slice none 0 0, .slice a L.len cap, .string ByteArray.empty, .int .i64 0]).heap.size = w1.heap.size) := by show _ = _; rw [setN_size]; simp
  have HF : Hid (L.clean.In (setN (w1.setCell ⟨w.heap.size + 1, 8, none⟩ (.slice a L.len cap)) w.heap.size 0 [.int .i64 9, .bool false, .int .i64 0, .float .f64 0, .string ByteArray.empty, .slice none 0 0, .int .u64 0, .slice none 0 0, .slice a L.len cap, .string ByteArray.empty, .int .i64 0]) (FrS w (setN (w1.setCell ⟨w.heap.size + 1, 8, none⟩ (.slice a L.len cap)) w.heap.size 0 [.int .i64 9, .bool false, .int .i64 0, .float .f64 0, .string ByteArray.empty, .slice none 0 0, .int .u64 0, .slice none 0 0, .slice a L.len cap, .string ByteArray.empty, .int .i64 0])) a 0) := L.clean.In_same (fun k hk => HSm.out k hk.1) (fun k hk => ⟨by have := hk.1; omega, by rw [HZ.out]; exact hk.2.1, hk.2.2.same (HSm.out k hk.1)⟩) _ _ HL1.out
  refine bodyPost_ret (v := .agg (tcells 9 false 0 0 ByteArray.empty (.slice none 0 0) 0 (.slice none 0 0) (.slice a L.len cap) ByteArray.empty 0)) (by simp [results, Try.results39, go_sem, tcells, r0, r1, r2, r3, r4, r5, r6, r7, r8, r9, r10] <;> rfl) rfl ⟨a, cap, rfl, HE.out, HF.out⟩
end Go.Proofs.Ytkomcebknllaiaa

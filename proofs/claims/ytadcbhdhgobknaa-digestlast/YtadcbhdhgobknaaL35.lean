/- tenonmake.plain, kind by kind. -/
import Derived.Test.YtadcbhdhgobknaaL34
namespace Go.Proofs.Ytadcbhdhgobknaa
open Go.RowKit

theorem box_at1 {w : World} {o : Obj} {w1 : World} (h : Below (w.alloc o).heap.size (w.alloc o) w1) : w1.heap[w.heap.size]? = some o ∧ Below w.heap.size w w1 ∧ w.heap.size + 1 ≤ w1.heap.size := by
  refine ⟨?_, below_to ((Below.refl _ _).alloc (Nat.le_refl _) _) h, by have := h.size; simpa using this⟩
  rw [h.block w.heap.size (by simp)]; exact heap_alloc_new w o

set_option maxRecDepth 100000 in
set_option maxHeartbeats 1000000 in
theorem pl_1 (w : World) (deep : Int) (hd : deep ≤ 400) : Calls Try.prog 73 #[.nilIface, .int .i64 deep] w fun e w' => e = .returned (.agg (tcells 1 false 0 0 ByteArray.empty (.slice none 0 0) 0 (.slice none 0 0) (.slice none 0 0) ByteArray.empty 0)) ∧ Below w.heap.size w w' := by
  have hd' : decide (400 < deep) = false := by simp; omega
  go_enter Try.func73, Try.ntmps73
  go_wp2_with fail
  refine bodyPost_ret (v := .agg (tcells 1 false 0 0 ByteArray.empty (.slice none 0 0) 0 (.slice none 0 0) (.slice none 0 0) ByteArray.empty 0)) (by simp [results, Try.results73, go_sem, tcells] <;> rfl) rfl ⟨rfl, ?_⟩
  exact (Below.refl _ _).alloc (Nat.le_refl _) _
set_option maxRecDepth 100000 in
set_option maxHeartbeats 1000000 in
theorem pl_2 (b : Bool) (w : World) (deep : Int) (hd : deep ≤ 400) : Calls Try.prog 73 #[.iface 4 (.bool b), .int .i64 deep] w fun e w' => e = .returned (.agg (tcells 2 b 0 0 ByteArray.empty (.slice none 0 0) 0 (.slice none 0 0) (.slice none 0 0) ByteArray.empty 0)) ∧ Below w.heap.size w w' := by
  have hd' : decide (400 < deep) = false := by simp; omega
  go_enter Try.func73, Try.ntmps73
  go_wp2_with fail
  refine bodyPost_ret (v := .agg (tcells 2 b 0 0 ByteArray.empty (.slice none 0 0) 0 (.slice none 0 0) (.slice none 0 0) ByteArray.empty 0)) (by simp [results, Try.results73, go_sem, tcells] <;> rfl) rfl ⟨rfl, ?_⟩
  exact (Below.refl _ _).alloc (Nat.le_refl _) _
set_option maxRecDepth 100000 in
set_option maxHeartbeats 1000000 in
theorem pl_3 (i : Int) (w : World) (deep : Int) (hd : deep ≤ 400) : Calls Try.prog 73 #[.iface 2 (.int .i64 i), .int .i64 deep] w fun e w' => e = .returned (.agg (tcells 3 false i 0 ByteArray.empty (.slice none 0 0) 0 (.slice none 0 0) (.slice none 0 0) ByteArray.empty 0)) ∧ Below w.heap.size w w' := by
  have hd' : decide (400 < deep) = false := by simp; omega
  go_enter Try.func73, Try.ntmps73
  go_wp2_with fail
  refine bodyPost_ret (v := .agg (tcells 3 false i 0 ByteArray.empty (.slice none 0 0) 0 (.slice none 0 0) (.slice none 0 0) ByteArray.empty 0)) (by simp [results, Try.results73, go_sem, tcells] <;> rfl) rfl ⟨rfl, ?_⟩
  exact (Below.refl _ _).alloc (Nat.le_refl _) _
set_option maxRecDepth 100000 in
set_option maxHeartbeats 1000000 in
theorem pl_4 (f : Nat) (w : World) (deep : Int) (hd : deep ≤ 400) : Calls Try.prog 73 #[.iface 22 (.float .f64 f), .int .i64 deep] w fun e w' => e = .returned (.agg (tcells 4 false 0 f ByteArray.empty (.slice none 0 0) 0 (.slice none 0 0) (.slice none 0 0) ByteArray.empty 0)) ∧ Below w.heap.size w w' := by
  have hd' : decide (400 < deep) = false := by simp; omega
  go_enter Try.func73, Try.ntmps73
  go_wp2_with fail
  refine bodyPost_ret (v := .agg (tcells 4 false 0 f ByteArray.empty (.slice none 0 0) 0 (.slice none 0 0) (.slice none 0 0) ByteArray.empty 0)) (by simp [results, Try.results73, go_sem, tcells] <;> rfl) rfl ⟨rfl, ?_⟩
  exact (Below.refl _ _).alloc (Nat.le_refl _) _
set_option maxRecDepth 100000 in
set_option maxHeartbeats 1000000 in
theorem pl_5 (s : ByteArray) (w : World) (deep : Int) (hd : deep ≤ 400) : Calls Try.prog 73 #[.iface 9 (.string s), .int .i64 deep] w fun e w' => e = .returned (.agg (tcells 5 false 0 0 s (.slice none 0 0) 0 (.slice none 0 0) (.slice none 0 0) ByteArray.empty 0)) ∧ Below w.heap.size w w' := by
  have hd' : decide (400 < deep) = false := by simp; omega
  go_enter Try.func73, Try.ntmps73
  go_wp2_with fail
  refine bodyPost_ret (v := .agg (tcells 5 false 0 0 s (.slice none 0 0) 0 (.slice none 0 0) (.slice none 0 0) ByteArray.empty 0)) (by simp [results, Try.results73, go_sem, tcells] <;> rfl) rfl ⟨rfl, ?_⟩
  exact (Below.refl _ _).alloc (Nat.le_refl _) _
set_option maxRecDepth 100000 in
set_option maxHeartbeats 1000000 in
theorem pl_7 (rf : Int) (w : World) (deep : Int) (hd : deep ≤ 400) : Calls Try.prog 73 #[.iface 25 (.int .u64 rf), .int .i64 deep] w fun e w' => e = .returned (.agg (tcells 7 false 0 0 ByteArray.empty (.slice none 0 0) rf (.slice none 0 0) (.slice none 0 0) ByteArray.empty 0)) ∧ Below w.heap.size w w' := by
  have hd' : decide (400 < deep) = false := by simp; omega
  go_enter Try.func73, Try.ntmps73
  go_wp2_with fail
  refine bodyPost_ret (v := .agg (tcells 7 false 0 0 ByteArray.empty (.slice none 0 0) rf (.slice none 0 0) (.slice none 0 0) ByteArray.empty 0)) (by simp [results, Try.results73, go_sem, tcells] <;> rfl) rfl ⟨rfl, ?_⟩
  exact (Below.refl _ _).alloc (Nat.le_refl _) _
set_option maxRecDepth 100000 in
set_option maxHeartbeats 1000000 in
theorem pl_9 (al : Option Addr) (L L' : TmF) (cl : Nat) (w : World) (deep : Int) (hd : deep ≤ 400) (h : ∀ W, Below w.heap.size w W → Calls Try.prog 115 #[.slice al L.len cl, .int .i64 deep] W fun e w' => ∃ a cap, e = .returned (.slice a L.len cap) ∧ Below W.heap.size W w' ∧ L'.In w' (Fr W w') a 0) :
    Calls Try.prog 73 #[.iface 83 (.slice al L.len cl), .int .i64 deep] w fun e w' => ∃ a cap, e = .returned (.agg (tcells 9 false 0 0 ByteArray.empty (.slice none 0 0) 0 (.slice none 0 0) (.slice a L.len cap) ByteArray.empty 0)) ∧ Below w.heap.size w w' ∧ L'.In w' (Fr w w') a 0 := by
  have hd' : decide (400 < deep) = false := by simp; omega
  have HC : Hid _ := h
  clear h
  go_enter Try.func73, Try.ntmps73
  go_wp2_with (go_at_call 115; refine (HC.out _ ((Below.refl _ _).alloc (Nat.le_refl _) _)).mono ?_; rintro e w1 ⟨a, cap, rfl, hb1, hl1⟩; obtain ⟨hR, hbw, hsz⟩ := box_at1 hb1; obtain ⟨r0, r1, r2, r3, r4, r5, r6, r7, r8, r9, r10⟩ := tbox hR; have hf := box_writes hR; have f0 := hf 0; have f1 := hf 1; have f2 := hf 2; have f3 := hf 3; have f4 := hf 4; have f5 := hf 5; have f6 := hf 6; have f7 := hf 7; have f8 := hf 8; have f9 := hf 9; have f10 := hf 10; have HB1 : Hid (Below w.heap.size w w1) := hbw; have HL1 : Hid (L'.In w1 (fun k => w.heap.size + 1 ≤ k ∧ k < w1.heap.size) a 0) := L'.In_same (Same.refl _ _) (fun k hk => ⟨by have := hk.1; simpa using this, hk.2⟩) _ _ hl1; clear hb1 hl1 hR hf hbw)
  have HE : Hid (Below w.heap.size w (setN w1 w.heap.size 0 [.int .i64 9, .bool false, .int .i64 0, .float .f64 0, .string ByteArray.empty, .slice none 0 0, .int .u64 0, .slice none 0 0, .slice a L.len cap, .string ByteArray.empty, .int .i64 0]) ∧ L'.In (setN w1 w.heap.size 0 [.int .i64 9, .bool false, .int .i64 0, .float .f64 0, .string ByteArray.empty, .slice none 0 0, .int .u64 0, .slice none 0 0, .slice a L.len cap, .string ByteArray.empty, .int .i64 0]) (Fr w (setN w1 w.heap.size 0 [.int .i64 9, .bool false, .int .i64 0, .float .f64 0, .string ByteArray.empty, .slice none 0 0, .int .u64 0, .slice none 0 0, .slice a L.len cap, .string ByteArray.empty, .int .i64 0])) a 0) := ⟨setN_below (Nat.le_refl _) _ _ _ _ HB1.out, L'.In_same (fun k hk => setN_other (by have := hk.1; omega) _ _ _) (fun k hk => ⟨by have := hk.1; omega, by rw [setN_size]; exact hk.2⟩) _ _ HL1.out⟩
  refine bodyPost_ret (v := .agg (tcells 9 false 0 0 ByteArray.empty (.slice none 0 0) 0 (.slice none 0 0) (.slice a L.len cap) ByteArray.empty 0)) (by simp [results, Try.results73, go_sem, tcells, r0, r1, r2, r3, r4, r5, r6, r7, r8, r9, r10] <;> rfl) rfl ⟨a, cap, rfl, HE.out.1, HE.out.2⟩
set_option maxRecDepth 100000 in
set_option maxHeartbeats 2000000 in
theorem pl_10 (g : Nat) (s : ByteArray) (vr : Int) (al : Option Addr) (L L' : TmF) (cl : Nat) (w : World) (deep : Int) (hd : deep ≤ 400) (hg : g < w.heap.size) (c0 : w.cell? ⟨g, 0, none⟩ = some (.string s)) (c1 : w.cell? ⟨g, 1, none⟩ = some (.int .i64 vr)) (c2 : w.cell? ⟨g, 2, none⟩ = some (.slice al L.len cl))
    (h : ∀ W, Below w.heap.size w W → Calls Try.prog 115 #[.slice al L.len cl, .int .i64 deep] W fun e w' => ∃ a cap, e = .returned (.slice a L.len cap) ∧ Below W.heap.size W w' ∧ L'.In w' (Fr W w') a 0) :
    Calls Try.prog 73 #[.iface 85 (.pointer (some ⟨g, 0, none⟩)), .int .i64 deep] w fun e w' => ∃ a cap, e = .returned (.agg (tcells 10 false 0 0 ByteArray.empty (.slice none 0 0) 0 (.slice none 0 0) (.slice a L.len cap) s vr)) ∧ Below w.heap.size w w' ∧ L'.In w' (Fr w w') a 0 := by
  have hd' : decide (400 < deep) = false := by simp; omega
  have HC : Hid _ := h
  have HX : Hid (∀ W, Below w.heap.size w W → W.cell? ⟨g, 0, none⟩ = some (.string s) ∧ W.cell? ⟨g, 1, none⟩ = some (.int .i64 vr) ∧ W.cell? ⟨g, 2, none⟩ = some (.slice al L.len cl)) := fun W hW => ⟨by rw [hW.cell (p := ⟨g, 0, none⟩) hg]; exact c0, by rw [hW.cell (p := ⟨g, 1, none⟩) hg]; exact c1, by rw [hW.cell (p := ⟨g, 2, none⟩) hg]; exact c2⟩
  have HB0 : Hid (Below w.heap.size w (w.alloc (.cells #[.int .i64 0, .bool false, .int .i64 0, .float .f64 0, .string ByteArray.empty, .slice none 0 0, .int .u64 0, .slice none 0 0, .slice none 0 0, .string ByteArray.empty, .int .i64 0] 29))) := (Below.refl _ _).alloc (Nat.le_refl _) _
  have hfar : g ≠ w.heap.size := by omega
  clear c0 c1 c2 h
  go_enter Try.func73, Try.ntmps73
  go_wp2_with fail
  go_region_held3 (fun W => W.cell? ⟨g, 0, none⟩ = some (.string s) ∧ W.cell? ⟨g, 1, none⟩ = some (.int .i64 vr) ∧ W.cell? ⟨g, 2, none⟩ = some (.slice al L.len cl))
    (first | (refine ⟨?_, ?_, ?_⟩ <;> ((repeat rw [cell_far hfar]); first | with_reducible exact (HX.out w2 HBw2.out).1 | with_reducible exact (HX.out w2 HBw2.out).2.1 | with_reducible exact (HX.out w2 HBw2.out).2.2)) | exact HX.out _ HB0.out | exact HX.out _ HB0.out.drew)
    ((first
      | (go_at_call 115; refine (HC.out _ ?_).mono ?_; exact HB0.out.drew; rintro e w2 ⟨a, cap, rfl, hb2, hl2⟩; have hb2' : Below (w.alloc (.cells #[.int .i64 0, .bool false, .int .i64 0, .float .f64 0, .string ByteArray.empty, .slice none 0 0, .int .u64 0, .slice none 0 0, .slice none 0 0, .string ByteArray.empty, .int .i64 0] 29)).heap.size (w.alloc (.cells #[.int .i64 0, .bool false, .int .i64 0, .float .f64 0, .string ByteArray.empty, .slice none 0 0, .int .u64 0, .slice none 0 0, .slice none 0 0, .string ByteArray.empty, .int .i64 0] 29)) w2 := below_to (Below.refl _ _).drew hb2; obtain ⟨hR, hbw, hsz⟩ := box_at1 hb2'; obtain ⟨r0, r1, r2, r3, r4, r5, r6, r7, r8, r9, r10⟩ := tbox hR; have hf := box_writes hR; have f0 := hf 0; have f1 := hf 1; have f2 := hf 2; have f3 := hf 3; have f4 := hf 4; have f5 := hf 5; have f6 := hf 6; have f7 := hf 7; have f8 := hf 8; have f9 := hf 9; have f10 := hf 10; have HBw2 : Hid (Below w.heap.size w w2) := hbw; have HL2 : Hid (L'.In w2 (fun k => w.heap.size + 1 ≤ k ∧ k < w2.heap.size) a 0) := L'.In_same (Same.refl _ _) (fun k hk => ⟨by have h2 := hk.1; simpa using h2, hk.2⟩) _ _ hl2; clear hb2 hb2' hl2 hR hf hbw)))
  have HE : Hid (Below w.heap.size w (setN w2 w.heap.size 0 [.int .i64 10, .bool false, .int .i64 0, .float .f64 0, .string ByteArray.empty, .slice none 0 0, .int .u64 0, .slice none 0 0, .slice a L.len cap, .string s, .int .i64 vr]) ∧ L'.In (setN w2 w.heap.size 0 [.int .i64 10, .bool false, .int .i64 0, .float .f64 0, .string ByteArray.empty, .slice none 0 0, .int .u64 0, .slice none 0 0, .slice a L.len cap, .string s, .int .i64 vr]) (Fr w (setN w2 w.heap.size 0 [.int .i64 10, .bool false, .int .i64 0, .float .f64 0, .string ByteArray.empty, .slice none 0 0, .int .u64 0, .slice none 0 0, .slice a L.len cap, .string s, .int .i64 vr])) a 0) := ⟨setN_below (Nat.le_refl _) _ _ _ _ HBw2.out, L'.In_same (fun k hk => setN_other (by have := hk.1; omega) _ _ _) (fun k hk => ⟨by have := hk.1; omega, by rw [setN_size]; exact hk.2⟩) _ _ HL2.out⟩
  go_wp2_with fail
  refine bodyPost_ret (v := .agg (tcells 10 false 0 0 ByteArray.empty (.slice none 0 0) 0 (.slice none 0 0) (.slice a L.len cap) s vr)) (by simp [results, Try.results73, go_sem, tcells, r0, r1, r2, r3, r4, r5, r6, r7, r8, r9, r10] <;> rfl) rfl ⟨a, cap, rfl, HE.out.1, HE.out.2⟩
end Go.Proofs.Ytadcbhdhgobknaa


/- value.termOf at a record. -/
import Derived.Test.YtkomcebknllaiaaK31
namespace Go.Proofs.Ytkomcebknllaiaa
open Go.RowKit

set_option maxRecDepth 100000 in
set_option maxHeartbeats 2000000 in
theorem tof_10 (g : Nat) (s : ByteArray) (vr : Int) (al : Option Addr) (L : TmF) (cl : Nat) (w : World) (hg : g < w.heap.size) (c0 : w.cell? ⟨g, 0, none⟩ = some (.string s)) (c1 : w.cell? ⟨g, 1, none⟩ = some (.int .i64 vr)) (c2 : w.cell? ⟨g, 2, none⟩ = some (.slice al L.len cl)) (hs : s.size ≤ 140737488355328)
    (h : ∀ W, Below w.heap.size w W → Calls Try.prog 66 #[.slice al L.len cl] W fun e w' => ∃ a cap, e = .returned (.slice a L.len cap) ∧ Below W.heap.size W w' ∧ L.clean.In w' (FrS W w') a 0) :
    Calls Try.prog 39 #[.iface 75 (.pointer (some ⟨g, 0, none⟩))] w fun e w' => ∃ a cap, e = .returned (.agg (tcells 10 false 0 0 ByteArray.empty (.slice none 0 0) 0 (.slice none 0 0) (.slice a L.len cap) s vr)) ∧ Below w.heap.size w w' ∧ L.clean.In w' (FrS w w') a 0 := by
  have HC : Hid _ := h
  clear h
  have HX : Hid (∀ W, Below w.heap.size w W → W.cell? ⟨g, 0, none⟩ = some (.string s) ∧ W.cell? ⟨g, 1, none⟩ = some (.int .i64 vr) ∧ W.cell? ⟨g, 2, none⟩ = some (.slice al L.len cl)) := fun W hW => ⟨by rw [hW.cell (p := ⟨g, 0, none⟩) hg]; exact c0, by rw [hW.cell (p := ⟨g, 1, none⟩) hg]; exact c1, by rw [hW.cell (p := ⟨g, 2, none⟩) hg]; exact c2⟩
  have HB0 : Hid (Below w.heap.size w ((w.alloc (.cells #[.int .i64 0, .bool false, .int .i64 0, .float .f64 0, .string ByteArray.empty, .slice none 0 0, .int .u64 0, .slice none 0 0, .slice none 0 0, .string ByteArray.empty, .int .i64 0] 29)).alloc (.cells #[.int .i64 10, .bool false, .int .i64 0, .float .f64 0, .string ByteArray.empty, .slice none 0 0, .int .u64 0, .slice none 0 0, .slice none 0 0, .string ByteArray.empty, .int .i64 0] 29))) := ((Below.refl _ _).alloc (Nat.le_refl _) _).alloc (by simp) _
  have hfar : g ≠ w.heap.size + 1 := by omega
  clear c0 c1 c2
  go_enter Try.func39, Try.ntmps39
  go_wp2_with (go_at_call 65; refine (kindOf_rec _ _).mono ?_; rintro e w' ⟨rfl, rfl⟩)
  go_region_held3 (fun W => W.cell? ⟨g, 0, none⟩ = some (.string s) ∧ W.cell? ⟨g, 1, none⟩ = some (.int .i64 vr) ∧ W.cell? ⟨g, 2, none⟩ = some (.slice al L.len cl))
    (first | (refine ⟨?_, ?_, ?_⟩ <;> ((repeat rw [cell_far hfar]); first | with_reducible exact (HX.out w2 HBw2.out).1 | with_reducible exact (HX.out w2 HBw2.out).2.1 | with_reducible exact (HX.out w2 HBw2.out).2.2)) | with_reducible exact HX.out w1 (below_to HB0.out HB1.out) | exact HX.out _ HB0.out | exact HX.out _ HB0.out.drew)
    ((first
      | (go_at_call 61; refine (sClone_any s _ hs).mono ?_; rintro e w1 ⟨rfl, hb1⟩; have HB1 : Hid (Below ((w.alloc (.cells #[.int .i64 0, .bool false, .int .i64 0, .float .f64 0, .string ByteArray.empty, .slice none 0 0, .int .u64 0, .slice none 0 0, .slice none 0 0, .string ByteArray.empty, .int .i64 0] 29)).alloc (.cells #[.int .i64 10, .bool false, .int .i64 0, .float .f64 0, .string ByteArray.empty, .slice none 0 0, .int .u64 0, .slice none 0 0, .slice none 0 0, .string ByteArray.empty, .int .i64 0] 29)).heap.size ((w.alloc (.cells #[.int .i64 0, .bool false, .int .i64 0, .float .f64 0, .string ByteArray.empty, .slice none 0 0, .int .u64 0, .slice none 0 0, .slice none 0 0, .string ByteArray.empty, .int .i64 0] 29)).alloc (.cells #[.int .i64 10, .bool false, .int .i64 0, .float .f64 0, .string ByteArray.empty, .slice none 0 0, .int .u64 0, .slice none 0 0, .slice none 0 0, .string ByteArray.empty, .int .i64 0] 29)) w1) := below_to (Below.refl _ _).drew hb1; clear hb1)
      | (go_at_call 66; refine (HC.out _ ?_).mono ?_; exact below_to HB0.out HB1.out; rintro e w2 ⟨a, cap, rfl, hb2, hl2⟩; have HB2 : Hid (Below ((w.alloc (.cells #[.int .i64 0, .bool false, .int .i64 0, .float .f64 0, .string ByteArray.empty, .slice none 0 0, .int .u64 0, .slice none 0 0, .slice none 0 0, .string ByteArray.empty, .int .i64 0] 29)).alloc (.cells #[.int .i64 10, .bool false, .int .i64 0, .float .f64 0, .string ByteArray.empty, .slice none 0 0, .int .u64 0, .slice none 0 0, .slice none 0 0, .string ByteArray.empty, .int .i64 0] 29)).heap.size ((w.alloc (.cells #[.int .i64 0, .bool false, .int .i64 0, .float .f64 0, .string ByteArray.empty, .slice none 0 0, .int .u64 0, .slice none 0 0, .slice none 0 0, .string ByteArray.empty, .int .i64 0] 29)).alloc (.cells #[.int .i64 10, .bool false, .int .i64 0, .float .f64 0, .string ByteArray.empty, .slice none 0 0, .int .u64 0, .slice none 0 0, .slice none 0 0, .string ByteArray.empty, .int .i64 0] 29)) w2) := below_to HB1.out hb2; obtain ⟨hR, hT, hbw, hsz⟩ := boxes_at HB2.out; obtain ⟨r0, r1, r2, r3, r4, r5, r6, r7, r8, r9, r10⟩ := tbox hR; obtain ⟨t0, t1, t2, t3, t4, t5, t6, t7, t8, t9, t10⟩ := tbox hT; have hf := box_writes hR; have f0 := hf 0; have f1 := hf 1; have f2 := hf 2; have f3 := hf 3; have f4 := hf 4; have f5 := hf 5; have f6 := hf 6; have f7 := hf 7; have f8 := hf 8; have f9 := hf 9; have f10 := hf 10; have g8 := box_writes hT 8; have g9 := box_writes hT 9; have g10 := box_writes hT 10; have HBw2 : Hid (Below w.heap.size w w2) := hbw; have HL2 : Hid (L.clean.In w2 (fun k => w.heap.size + 2 ≤ k ∧ k < w2.heap.size ∧ Soft w2 k) a 0) := L.clean.In_same (Same.refl _ _) (fun k hk => ⟨by have h1 := HB1.out.size; have h2 := hk.1; simp at h1; omega, hk.2⟩) _ _ hl2; clear hb2 hl2 hR hT hf hbw)))
  have HE : Hid (Below w.heap.size w (setN (((w2.setCell ⟨w.heap.size + 1, 9, none⟩ (.string s)).setCell ⟨w.heap.size + 1, 10, none⟩ (.int .i64 vr)).setCell ⟨w.heap.size + 1, 8, none⟩ (.slice a L.len cap)) w.heap.size 0 [.int .i64 10, .bool false, .int .i64 0, .float .f64 0, .string ByteArray.empty, .slice none 0 0, .int .u64 0, .slice none 0 0, .slice a L.len cap, .string s, .int .i64 vr])) := setN_below (Nat.le_refl _) _ _ _ _ (((HBw2.out.setCell (p := ⟨w.heap.size + 1, 9, none⟩) (Nat.le_succ _) _).setCell (p := ⟨w.heap.size + 1, 10, none⟩) (Nat.le_succ _) _).setCell (p := ⟨w.heap.size + 1, 8, none⟩) (Nat.le_succ _) _)
  have HSm : Hid (∀ k, w.heap.size + 2 ≤ k → (setN (((w2.setCell ⟨w.heap.size + 1, 9, none⟩ (.string s)).setCell ⟨w.heap.size + 1, 10, none⟩ (.int .i64 vr)).setCell ⟨w.heap.size + 1, 8, none⟩ (.slice a L.len cap)) w.heap.size 0 [.int .i64 10, .bool false, .int .i64 0, .float .f64 0, .string ByteArray.empty, .slice none 0 0, .int .u64 0, .slice none 0 0, .slice a L.len cap, .string s, .int .i64 vr]).heap[k]? = w2.heap[k]?) := fun k hk => by
    rw [setN_other (by omega), heap_setCell_other _ _ _ _ (by show k ≠ w.heap.size + 1; omega), heap_setCell_other _ _ _ _ (by show k ≠ w.heap.size + 1; omega), heap_setCell_other _ _ _ _ (by show k ≠ w.heap.size + 1; omega)]
  have HZ : Hid ((setN (((w2.setCell ⟨w.heap.size + 1, 9, none⟩ (.string s)).setCell ⟨w.heap.size + 1, 10, none⟩ (.int .i64 vr)).setCell ⟨w.heap.size + 1, 8, none⟩ (.slice a L.len cap)) w.heap.size 0 [.int .i64 10, .bool false, .int .i64 0, .float .f64 0, .string ByteArray.empty, .slice none 0 0, .int .u64 0, .slice none 0 0, .slice a L.len cap, .string s, .int .i64 vr]).heap.size = w2.heap.size) := by show _ = _; rw [setN_size]; simp
  have HF : Hid (L.clean.In (setN (((w2.setCell ⟨w.heap.size + 1, 9, none⟩ (.string s)).setCell ⟨w.heap.size + 1, 10, none⟩ (.int .i64 vr)).setCell ⟨w.heap.size + 1, 8, none⟩ (.slice a L.len cap)) w.heap.size 0 [.int .i64 10, .bool false, .int .i64 0, .float .f64 0, .string ByteArray.empty, .slice none 0 0, .int .u64 0, .slice none 0 0, .slice a L.len cap, .string s, .int .i64 vr]) (FrS w (setN (((w2.setCell ⟨w.heap.size + 1, 9, none⟩ (.string s)).setCell ⟨w.heap.size + 1, 10, none⟩ (.int .i64 vr)).setCell ⟨w.heap.size + 1, 8, none⟩ (.slice a L.len cap)) w.heap.size 0 [.int .i64 10, .bool false, .int .i64 0, .float .f64 0, .string ByteArray.empty, .slice none 0 0, .int .u64 0, .slice none 0 0, .slice a L.len cap, .string s, .int .i64 vr])) a 0) := L.clean.In_same (fun k hk => HSm.out k hk.1) (fun k hk => ⟨by have := hk.1; omega, by rw [HZ.out]; exact hk.2.1, hk.2.2.same (HSm.out k hk.1)⟩) _ _ HL2.out
  go_wp2_with fail
  refine bodyPost_ret (v := .agg (tcells 10 false 0 0 ByteArray.empty (.slice none 0 0) 0 (.slice none 0 0) (.slice a L.len cap) s vr)) (by simp [results, Try.results39, go_sem, tcells, r0, r1, r2, r3, r4, r5, r6, r7, r8, r9, r10] <;> rfl) rfl ⟨a, cap, rfl, HE.out, HF.out⟩

theorem Bd.leaf {k i : Int} {f : Nat} {tx c : ByteArray} {nb nl nf : Nat} {rf vr : Int} (h0 : 1 ≤ k ∧ k ≤ 10) (hi : -9223372036854775808 ≤ i ∧ i ≤ 9223372036854775807) (hf : f < 18446744073709551616) (hr : 0 ≤ rf ∧ rf ≤ 18446744073709551615) (hv : -9223372036854775808 ≤ vr ∧ vr ≤ 9223372036854775807) (h1 : tx.size ≤ 65536) (h2 : c.size ≤ 65536) (h3 : nb ≤ 65536) (h4 : nl ≤ 4096) (h5 : nf ≤ 4096) : Bd k i f tx nb rf nl nf c vr :=
  ⟨by omega, by omega, hi.1, hi.2, hf, hr.1, hr.2, hv.1, hv.2, by omega, by omega, by omega, by omega, by omega⟩
theorem empty_size : ByteArray.empty.size = 0 := rfl

section
variable {b : Bool} {i : Int} {f : Nat} {tx : ByteArray} {by' : ByteArray} {rf : Int} {l : TmL} {fs : TmF} {c : ByteArray} {v : Int}
theorem Tm.clean_1 : (Tm.mk 1 b i f tx by' rf l fs c v).clean = .mk 1 false 0 0 ByteArray.empty ByteArray.empty 0 .nil .nil ByteArray.empty 0 := by simp [Tm.clean]
theorem Tm.clean_2 : (Tm.mk 2 b i f tx by' rf l fs c v).clean = .mk 2 b 0 0 ByteArray.empty ByteArray.empty 0 .nil .nil ByteArray.empty 0 := by simp [Tm.clean]
theorem Tm.clean_3 : (Tm.mk 3 b i f tx by' rf l fs c v).clean = .mk 3 false i 0 ByteArray.empty ByteArray.empty 0 .nil .nil ByteArray.empty 0 := by simp [Tm.clean]
theorem Tm.clean_4 : (Tm.mk 4 b i f tx by' rf l fs c v).clean = .mk 4 false 0 f ByteArray.empty ByteArray.empty 0 .nil .nil ByteArray.empty 0 := by simp [Tm.clean]
theorem Tm.clean_5 : (Tm.mk 5 b i f tx by' rf l fs c v).clean = .mk 5 false 0 0 tx ByteArray.empty 0 .nil .nil ByteArray.empty 0 := by simp [Tm.clean]
theorem Tm.clean_6 : (Tm.mk 6 b i f tx by' rf l fs c v).clean = .mk 6 false 0 0 ByteArray.empty by' 0 .nil .nil ByteArray.empty 0 := by simp [Tm.clean]
theorem Tm.clean_7 : (Tm.mk 7 b i f tx by' rf l fs c v).clean = .mk 7 false 0 0 ByteArray.empty ByteArray.empty rf .nil .nil ByteArray.empty 0 := by simp [Tm.clean]
theorem Tm.clean_8 : (Tm.mk 8 b i f tx by' rf l fs c v).clean = .mk 8 false 0 0 ByteArray.empty ByteArray.empty 0 l.clean .nil ByteArray.empty 0 := by simp [Tm.clean]
theorem Tm.clean_9 : (Tm.mk 9 b i f tx by' rf l fs c v).clean = .mk 9 false 0 0 ByteArray.empty ByteArray.empty 0 .nil fs.clean ByteArray.empty 0 := by simp [Tm.clean]
theorem Tm.clean_10 : (Tm.mk 10 b i f tx by' rf l fs c v).clean = .mk 10 false 0 0 ByteArray.empty ByteArray.empty 0 .nil fs.clean c v := by simp [Tm.clean]
end

set_option maxHeartbeats 1000000 in
theorem termOf_any (N : Nat) : TOfC N := by
  induction N with
  | zero => intro t ht; cases t; simp [Tm.sz] at ht
  | succ N ih =>
    intro t hN v B w hv hB ho hbd
    cases t with
    | mk k b i f tx by' rf l fs c vr =>
      have hlN : l.sz ≤ N ∧ fs.sz ≤ N := by simp [Tm.sz] at hN; omega
      obtain ⟨p1, p2, p3, p4⟩ := ho.parts
      obtain ⟨q1, q2, q3, q4, q5⟩ := ho.bounds
      simp only [Tm.Bdd] at hbd
      obtain ⟨bi, bf, br, bv, bl, bfs⟩ := hbd
      simp only [Tm.V] at hv
      obtain ⟨h1, h2, h3, h4, h5, h6, h7, h8, h9, h10, h11, h12⟩ := hv
      have HF : ∀ (hk : k = 9 ∨ k = 10) (al : Option Addr) (cl : Nat), fs.V w B al 0 → ∀ W, Below w.heap.size w W → Calls Try.prog 66 #[.slice al fs.len cl] W fun e w' => ∃ a cap, e = .returned (.slice a fs.len cap) ∧ Below W.heap.size W w' ∧ fs.clean.In w' (FrS W w') a 0 := fun hk al cl hfs W hW =>
        entriesOf_any N ih al fs cl W hlN.2 B (hB.later hW) (fs.V_same (hB.same hW) (fun _ h => h) al 0 hfs) (TmF.nm (q4 hk)).1 (TmF.nm (q4 hk)).2 (p4 hk) bfs
      have z : ByteArray.empty.size ≤ 65536 := by rw [empty_size]; omega
      by_cases k1 : k = 1
      · subst k1; rw [h1 rfl]; refine (tof_1 w).mono ?_
        rintro e w' ⟨rfl, hb⟩
        refine ⟨_, rfl, hb, ?_⟩
        rw [Tm.clean_1]; simp only [Tm.In]
        exact ⟨none, 0, none, 0, none, 0, rfl, Bd.leaf (by decide) (by decide) (by decide) (by decide) (by decide) z z (by decide) (by decide) (by decide), fun j hj => absurd hj (Nat.not_lt_zero _), trivial, trivial⟩
      by_cases k2 : k = 2
      · subst k2; rw [h2 rfl]; refine (tof_2 b w).mono ?_
        rintro e w' ⟨rfl, hb⟩
        refine ⟨_, rfl, hb, ?_⟩
        rw [Tm.clean_2]; simp only [Tm.In]
        exact ⟨none, 0, none, 0, none, 0, rfl, Bd.leaf (by decide) (by decide) (by decide) (by decide) (by decide) z z (by decide) (by decide) (by decide), fun j hj => absurd hj (Nat.not_lt_zero _), trivial, trivial⟩
      by_cases k3 : k = 3
      · subst k3; rw [h3 rfl]; refine (tof_3 i w).mono ?_
        rintro e w' ⟨rfl, hb⟩
        refine ⟨_, rfl, hb, ?_⟩
        rw [Tm.clean_3]; simp only [Tm.In]
        exact ⟨none, 0, none, 0, none, 0, rfl, Bd.leaf (by decide) bi (by decide) (by decide) (by decide) z z (by decide) (by decide) (by decide), fun j hj => absurd hj (Nat.not_lt_zero _), trivial, trivial⟩
      by_cases k4 : k = 4
      · subst k4; rw [(h4 rfl).1]; refine (tof_4 f w).mono ?_
        rintro e w' ⟨rfl, hb⟩
        refine ⟨_, rfl, hb, ?_⟩
        rw [Tm.clean_4]; simp only [Tm.In]
        exact ⟨none, 0, none, 0, none, 0, rfl, Bd.leaf (by decide) (by decide) bf (by decide) (by decide) z z (by decide) (by decide) (by decide), fun j hj => absurd hj (Nat.not_lt_zero _), trivial, trivial⟩
      by_cases k5 : k = 5
      · subst k5; rw [(h5 rfl).1]; refine (tof_5 tx w (by have := q1 rfl; omega)).mono ?_
        rintro e w' ⟨rfl, hb⟩
        refine ⟨_, rfl, hb, ?_⟩
        rw [Tm.clean_5]; simp only [Tm.In]
        exact ⟨none, 0, none, 0, none, 0, rfl, Bd.leaf (by decide) (by decide) (by decide) (by decide) (by decide) (q1 rfl) z (by decide) (by decide) (by decide), fun j hj => absurd hj (Nat.not_lt_zero _), trivial, trivial⟩
      by_cases k6 : k = 6
      · subst k6
        obtain ⟨a, cap, rfl, _, hby⟩ := h6 rfl
        refine (tof_6 a by' cap B w hB hby (by have := q2 rfl; omega)).mono ?_
        rintro e w' ⟨a', cap', rfl, hb, hl⟩
        refine ⟨_, rfl, hb, ?_⟩
        rw [Tm.clean_6]; simp only [Tm.In]
        exact ⟨a', cap', none, 0, none, 0, rfl, Bd.leaf (by decide) (by decide) (by decide) (by decide) (by decide) z z (q2 rfl) (by decide) (by decide), hl, trivial, trivial⟩
      by_cases k7 : k = 7
      · subst k7; rw [h7 rfl]; refine (tof_7 rf w).mono ?_
        rintro e w' ⟨rfl, hb⟩
        refine ⟨_, rfl, hb, ?_⟩
        rw [Tm.clean_7]; simp only [Tm.In]
        exact ⟨none, 0, none, 0, none, 0, rfl, Bd.leaf (by decide) (by decide) (by decide) br (by decide) z z (by decide) (by decide) (by decide), fun j hj => absurd hj (Nat.not_lt_zero _), trivial, trivial⟩
      by_cases k8 : k = 8
      · subst k8
        obtain ⟨a, cap, rfl, _, hl⟩ := h8 rfl
        refine (tof_8 N ih a l cap w hlN.1 B hB hl (q3 rfl) (p3 rfl) bl).mono ?_
        rintro e w' ⟨a', cap', rfl, hb, hl'⟩
        refine ⟨_, rfl, hb, ?_⟩
        rw [Tm.clean_8]; simp only [Tm.In]
        refine ⟨none, 0, a', cap', none, 0, by simp [TmL.clean_len, TmF.len], Bd.leaf (by decide) (by decide) (by decide) (by decide) (by decide) z z (by decide) (by simp [TmL.clean_len]; exact q3 rfl) (by decide), fun j hj => absurd hj (Nat.not_lt_zero _), hl', trivial⟩
      by_cases k9 : k = 9
      · subst k9
        obtain ⟨a, cap, rfl, _, hl⟩ := h9 rfl
        refine (tof_9 a fs cap w (HF (.inl rfl) a cap hl)).mono ?_
        rintro e w' ⟨a', cap', rfl, hb, hl'⟩
        refine ⟨_, rfl, hb, ?_⟩
        rw [Tm.clean_9]; simp only [Tm.In]
        refine ⟨none, 0, none, 0, a', cap', by simp [TmF.clean_len, TmL.len], Bd.leaf (by decide) (by decide) (by decide) (by decide) (by decide) z z (by decide) (by decide) (by simp [TmF.clean_len]; exact (TmF.nm (q4 (.inl rfl))).1), fun j hj => absurd hj (Nat.not_lt_zero _), trivial, hl'⟩
      have k10 : k = 10 := by clear h1 h2 h3 h4 h5 h6 h7 h8 h9 h10 h11 h12 HF; omega
      subst k10
      obtain ⟨g, a, cap, rfl, hg, c0, c1, c2, _, _, hl⟩ := h10 rfl
      have hcs := head_len (q5 rfl)
      refine (tof_10 g c vr a fs cap w (hB g hg) c0 c1 c2 (by omega) (HF (.inr rfl) a cap hl)).mono ?_
      rintro e w' ⟨a', cap', rfl, hb, hl'⟩
      refine ⟨_, rfl, hb, ?_⟩
      rw [Tm.clean_10]; simp only [Tm.In]
      refine ⟨none, 0, none, 0, a', cap', by simp [TmF.clean_len, TmL.len], Bd.leaf (by decide) (by decide) (by decide) (by decide) bv z (by omega) (by decide) (by decide) (by simp [TmF.clean_len]; exact (TmF.nm (q4 (.inr rfl))).1), fun j hj => absurd hj (Nat.not_lt_zero _), trivial, hl'⟩
end Go.Proofs.Ytkomcebknllaiaa

/- tenonmake.plain and tenonmake.entries: the term of a value, made by appending. -/
namespace Go.Proofs.Ytkomcebknllaiaa
open Go.RowKit

def Tm.OkAt (t : Tm) (n : Int) : Prop := ∃ p d, (t.wk n p d).e = 0
def TmL.OkAt (l : TmL) (n : Int) : Prop := ∃ p d, (l.wk n p d).e = 0
def TmF.OkAt (l : TmF) (n : Int) : Prop := ∃ p d, (l.wk n p d).e = 0
theorem Tm.OkAt.ok {t : Tm} {n : Int} (h : t.OkAt n) : t.Ok := by obtain ⟨p, d, h⟩ := h; exact ⟨n, p, d, h⟩
theorem TmL.OkAt.head {t : Tm} {l : TmL} {n : Int} (h : TmL.OkAt (.cons t l) n) : t.OkAt n ∧ l.OkAt n := by
  obtain ⟨p, d, h⟩ := h
  rw [TmL.wk] at h
  by_cases e : (t.wk n p d).e ≠ 0
  · rw [if_pos e] at h; exact absurd h e
  · rw [if_neg e] at h; exact ⟨⟨p, d, Decidable.not_not.1 e⟩, ⟨_, _, h⟩⟩
theorem TmF.OkAt.head {m : ByteArray} {t : Tm} {l : TmF} {n : Int} (h : TmF.OkAt (.cons m t l) n) : t.OkAt n ∧ l.OkAt n := by
  obtain ⟨p, d, h⟩ := h
  rw [TmF.wk] at h
  by_cases e : (t.wk n p d).e ≠ 0
  · rw [if_pos e] at h; exact absurd h e
  · rw [if_neg e] at h; exact ⟨⟨p, d, Decidable.not_not.1 e⟩, ⟨_, _, h⟩⟩
theorem Tm.OkAt.parts {k : Int} {b : Bool} {i : Int} {f : Nat} {tx : ByteArray} {by' : ByteArray} {rf : Int} {l : TmL} {fs : TmF} {c : ByteArray} {v n : Int} (h : Tm.OkAt (.mk k b i f tx by' rf l fs c v) n) :
    n ≤ 64 ∧ (k = 8 → l.OkAt (n + 1)) ∧ (k = 9 ∨ k = 10 → fs.OkAt (n + 1)) := by
  obtain ⟨p, d, h⟩ := h
  rw [Tm.wk] at h
  by_cases e : (Tm.mk k b i f tx by' rf l fs c v).own p n ≠ 0
  · rw [if_pos e] at h; exact absurd h e
  · rw [if_neg e] at h
    have hz := Sp.ent_zero (Tm.own_ent _ _ _ (Decidable.not_not.1 e))
    refine ⟨hz.2.2.2, fun h8 => ?_, fun h9 => ?_⟩
    · rw [if_pos h8] at h; exact ⟨_, _, h⟩
    · rw [if_neg (by omega), if_pos h9] at h; exact ⟨_, _, h⟩

def PlC (N : Nat) : Prop := ∀ (t : Tm), t.sz ≤ N → ∀ (v : Value) (B : Nat → Prop) (w : World) (deep n : Int), t.V w B v → Sub B w → t.OkAt n → t.Bdd → 0 ≤ deep → deep ≤ n →
  Calls Try.prog 52 #[v, .int .i64 deep] w fun e w' => ∃ cs, e = .returned (.agg cs) ∧ Below w.heap.size w w' ∧ t.clean.In w' (Fr w w') cs
theorem PlC.at {N : Nat} (HC : PlC N) {t : Tm} (hN : t.sz ≤ N) {v : Value} {B : Nat → Prop} {w : World} {deep n : Int} (h : t.V w B v) (hB : Sub B w) (ho : t.OkAt n) (hb : t.Bdd) (h0 : 0 ≤ deep) (h1 : deep ≤ n) :
    ∀ W, Below w.heap.size w W → Calls Try.prog 52 #[v, .int .i64 deep] W fun e w' => ∃ k b i f tx ab nb cb rf al nl cl af nf cf c vr, e = .returned (.agg (tcells k b i f tx (.slice ab nb cb) rf (.slice al nl cl) (.slice af nf cf) c vr)) ∧ Below W.heap.size W w' ∧ t.clean.In w' (Fr W w') (tcells k b i f tx (.slice ab nb cb) rf (.slice al nl cl) (.slice af nf cf) c vr) := by
  intro W hW
  refine (HC t hN v B W deep n (t.V_same (hB.same hW) (fun _ h => h) v h) (hB.later hW) ho hb h0 h1).mono ?_
  rintro e w' ⟨cs, rfl, hb, hv⟩
  obtain ⟨k1, b1, i1, f1, tx1, ab1, nb1, cb1, rf1, al1, nl1, cl1, af1, nf1, cf1, cc1, vr1, rfl⟩ := Tm.In_tc' hv
  exact ⟨k1, b1, i1, f1, tx1, ab1, nb1, cb1, rf1, al1, nl1, cl1, af1, nf1, cf1, cc1, vr1, rfl, hb, hv⟩
end Go.Proofs.Ytkomcebknllaiaa

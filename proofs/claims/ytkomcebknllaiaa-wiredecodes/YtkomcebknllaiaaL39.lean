/- value.valueOf at any term that can be. -/
import Derived.Test.YtkomcebknllaiaaL7
import Derived.Test.YtkomcebknllaiaaL38
import Derived.Test.YtkomcebknllaiaaL22
import Derived.Test.YtkomcebknllaiaaL31
import Derived.Test.YtkomcebknllaiaaL33
import Derived.Test.YtkomcebknllaiaaL3
namespace Go.Proofs.Ytkomcebknllaiaa
open Go.RowKit

set_option maxRecDepth 100000 in
set_option maxHeartbeats 1000000 in
theorem vof_10 (b : Bool) (i : Int) (f : Nat) (tx : ByteArray) (vb : Value) (rf : Int) (vl vf : Value) (c : ByteArray) (vr : Int) (w : World) (L : TmF) (hcs : c.size ≤ 140737488355328) (h : ∀ W, Below w.heap.size w W → Calls Try.prog 63 #[vf] W fun e w' => ∃ a cap, e = .returned (.slice a L.len cap) ∧ Below W.heap.size W w' ∧ L.LV w' (Fr W w') a cap) :
    Calls Try.prog 37 #[.agg (tcells 10 b i f tx vb rf vl vf c vr)] w fun e w' => ∃ g a cap, e = .returned (.iface 75 (.pointer (some ⟨g, 0, none⟩))) ∧ Below w.heap.size w w' ∧ Fr w w' g ∧ w'.cell? ⟨g, 0, none⟩ = some (.string c) ∧ w'.cell? ⟨g, 1, none⟩ = some (.int .i64 vr) ∧ w'.cell? ⟨g, 2, none⟩ = some (.slice a L.len cap) ∧ L.RV w' (Fr w w') g a cap := by
  unfold tcells
  have HD : Hid _ := h
  clear h
  have HS : Hid (∀ W, Below (w.alloc (.cells #[.int .i64 10, .bool b, .int .i64 i, .float .f64 f, .string tx, vb, .int .u64 rf, vl, vf, .string c, .int .i64 vr] 29)).heap.size (w.alloc (.cells #[.int .i64 10, .bool b, .int .i64 i, .float .f64 f, .string tx, vb, .int .u64 rf, vl, vf, .string c, .int .i64 vr] 29)) W → (W.cell? ⟨w.heap.size, 8, none⟩ = some vf ∧ W.cell? ⟨w.heap.size, 9, none⟩ = some (.string c) ∧ W.cell? ⟨w.heap.size, 10, none⟩ = some (.int .i64 vr)) ∧ Below w.heap.size w W ∧ w.heap.size + 1 ≤ W.heap.size) := fun W hW => by
    have hh : ∀ j, W.cell? ⟨w.heap.size, j, none⟩ = _ := fun j => hW.cell (p := ⟨w.heap.size, j, none⟩) (by simp)
    refine ⟨⟨by rw [hh]; simp, by rw [hh]; simp, by rw [hh]; simp⟩, below_to ((Below.refl _ _).alloc (Nat.le_refl _) _) hW, by have := hW.size; simpa using this⟩
  go_enter Try.func37, Try.ntmps37
  go_wp2_with fail
  go_region_held3 (fun W => W.cell? ⟨w.heap.size, 8, none⟩ = some vf ∧ W.cell? ⟨w.heap.size, 9, none⟩ = some (.string c) ∧ W.cell? ⟨w.heap.size, 10, none⟩ = some (.int .i64 vr))
    (first | exact (HS.out _ (Below.refl _ _)).1 | exact (HS.out _ (Below.refl _ _).drew).1 | exact (HS.out _ HB1.out).1 | exact (HS.out _ HB2.out).1 | exact (HS.out _ (HB2.out.alloc HB2.out.size _)).1)
    ((first
      | (go_at_call 61; refine (sClone_any c _ hcs).mono ?_; rintro e w1 ⟨rfl, hb1⟩; have HB1 : Hid (Below (w.alloc (.cells #[.int .i64 10, .bool b, .int .i64 i, .float .f64 f, .string tx, vb, .int .u64 rf, vl, vf, .string c, .int .i64 vr] 29)).heap.size (w.alloc (.cells #[.int .i64 10, .bool b, .int .i64 i, .float .f64 f, .string tx, vb, .int .u64 rf, vl, vf, .string c, .int .i64 vr] 29)) w1) := below_to (Below.refl _ _).drew hb1; clear hb1)
      | (go_at_call 63; refine (HD.out _ ?_).mono ?_; exact (HS.out _ HB1.out).2.1; rintro e w2 ⟨a, cap, rfl, hb2, hv⟩; have HB2 : Hid (Below (w.alloc (.cells #[.int .i64 10, .bool b, .int .i64 i, .float .f64 f, .string tx, vb, .int .u64 rf, vl, vf, .string c, .int .i64 vr] 29)).heap.size (w.alloc (.cells #[.int .i64 10, .bool b, .int .i64 i, .float .f64 f, .string tx, vb, .int .u64 rf, vl, vf, .string c, .int .i64 vr] 29)) w2) := below_to HB1.out hb2; have HV : Hid (L.LV w2 (Fr w w2) a cap) := L.LV_same (Same.refl _ _) (fun k hk => ⟨Nat.le_trans (HS.out _ HB1.out).2.1.size hk.1, hk.2⟩) a cap hv; clear hb2 hv)))
  go_wp2_with fail
  go_ret
  have hz := (HS.out _ HB2.out).2.2
  refine ⟨w2.heap.size, a, cap, rfl, (HS.out _ HB2.out).2.1.alloc (by omega) _, ⟨by omega, by simp⟩, by simp, by simp, by simp, ⟨_, heap_alloc_new _ _⟩, L.LV_same (B' := Fr w (w2.alloc _)) (fun k hk => Below.heap_alloc _ _ _ hk.2) (fun k hk => ⟨hk.1, by have := hk.2; simp; omega⟩) a cap HV.out⟩

set_option maxHeartbeats 1000000 in
theorem valueOf_any (N : Nat) : VOfC N := by
  induction N with
  | zero => intro t ht; cases t; simp [Tm.sz] at ht
  | succ N ih =>
    intro t hN cs B w h hB ho
    cases t with
    | mk k b i f tx by' rf l fs c vr =>
      have hlN : l.sz ≤ N ∧ fs.sz ≤ N := by simp [Tm.sz] at hN; omega
      obtain ⟨p1, p2, p3, p4⟩ := ho.parts
      obtain ⟨q1, q2, q3, q4, q5⟩ := ho.bounds
      simp only [Tm.In] at h
      obtain ⟨ab, cb, al, cl, af, cf, rfl, hbd, hby, hl, hfs⟩ := h
      have htx : tx.size ≤ maxLen := by unfold maxLen; have := hbd.tx; omega
      have hcl : c.size ≤ maxLen := by unfold maxLen; have := hbd.c; omega
      have HF : ∀ (hk : k = 9 ∨ k = 10), ∀ W, Below w.heap.size w W → Calls Try.prog 63 #[.slice af fs.len cf] W fun e w' => ∃ a cap, e = .returned (.slice a fs.len cap) ∧ Below W.heap.size W w' ∧ fs.LV w' (Fr W w') a cap := fun hk W hW =>
        dictOf_any N ih af fs cf W hlN.2 B (hB.later hW) (fs.In_same (hB.same hW) (fun _ h => h) af 0 hfs) (TmF.nm (q4 hk)).1 (TmF.nm (q4 hk)).2 (p4 hk)
      by_cases k1 : k = 1
      · subst k1; refine (vof_1 b i f tx _ rf _ _ c vr w).mono ?_
        rintro e w' ⟨rfl, hb⟩; exact ⟨_, rfl, hb, by simp [Tm.V]⟩
      by_cases k2 : k = 2
      · subst k2; refine (vof_2 b i f tx _ rf _ _ c vr w).mono ?_
        rintro e w' ⟨rfl, hb⟩; exact ⟨_, rfl, hb, by simp [Tm.V]⟩
      by_cases k3 : k = 3
      · subst k3; refine (vof_3 b i f tx _ rf _ _ c vr w).mono ?_
        rintro e w' ⟨rfl, hb⟩; exact ⟨_, rfl, hb, by simp [Tm.V]⟩
      by_cases k4 : k = 4
      · subst k4; refine (vof_4 b i f tx _ rf _ _ c vr w).mono ?_
        rintro e w' ⟨rfl, hb⟩; exact ⟨_, rfl, hb, by simp [Tm.V, hbd.f1]⟩
      by_cases k5 : k = 5
      · subst k5; refine (vof_5 b i f tx _ rf _ _ c vr w hbd.tx).mono ?_
        rintro e w' ⟨rfl, hb⟩; exact ⟨_, rfl, hb, by simp [Tm.V, htx]⟩
      by_cases k6 : k = 6
      · subst k6; refine (vof_6 b i f tx rf _ _ c vr w ab by' cb B hB hby hbd.nb).mono ?_
        rintro e w' ⟨a, cap, rfl, hb, hv⟩; exact ⟨_, rfl, hb, Tm.V_of6 hv⟩
      by_cases k7 : k = 7
      · subst k7; refine (vof_7 b i f tx _ rf _ _ c vr w).mono ?_
        rintro e w' ⟨rfl, hb⟩; exact ⟨_, rfl, hb, by simp [Tm.V]⟩
      by_cases k8 : k = 8
      · subst k8; refine (vof_8 N ih b i f tx _ rf al l cl _ c vr w hlN.1 B hB hl (q3 rfl) (p3 rfl)).mono ?_
        rintro e w' ⟨a, cap, rfl, hb, hv⟩; exact ⟨_, rfl, hb, Tm.V_of8 hv⟩
      by_cases k9 : k = 9
      · subst k9; refine (vof_9 b i f tx _ rf _ _ c vr w fs (HF (.inl rfl))).mono ?_
        rintro e w' ⟨a, cap, rfl, hb, hv⟩; exact ⟨_, rfl, hb, Tm.V_of9 hv⟩
      have k10 : k = 10 := by omega
      subst k10; refine (vof_10 b i f tx _ rf _ _ c vr w fs hbd.c (HF (.inr rfl))).mono ?_
      rintro e w' ⟨g, a, cap, rfl, hb, hg, c0, c1, c2, hv⟩
      exact ⟨_, rfl, hb, Tm.V_of10 hg c0 c1 c2 hcl hv⟩
end Go.Proofs.Ytkomcebknllaiaa

/- walk.term, whole; value.Of. -/
namespace Go.Proofs.Ytkomcebknllaiaa
open Go.RowKit

theorem ent_facts {w : World} {b : Nat} {p d n : Int} {o : Obj} (hw : Wk w b p d) {w1 : World} (h : ((w.alloc o).setCell ⟨b, 0, none⟩ (.int .i64 (p + 1))).setCell ⟨b, 1, none⟩ (.int .i64 (max d n)) = w1) :
    w1.heap[w.heap.size]? = some o ∧ Wk w1 b (p + 1) (max d n) ∧ Below b w w1 := by
  have hb := hw.lt
  subst h
  refine ⟨?_, (hw.same (Same.of_below ((Below.refl _ _).alloc (Nat.le_refl _) _) (Nat.le_refl w.heap.size)) hb).set _ _, ?_⟩
  · rw [heap_setCell_other _ _ _ _ (by show w.heap.size ≠ b; omega), heap_setCell_other _ _ _ _ (by show w.heap.size ≠ b; omega)]; exact heap_alloc_new w o
  · exact (((Below.refl _ _).alloc (by omega) _).setCell (p := ⟨b, 0, none⟩) (Nat.le_refl b) _).setCell (p := ⟨b, 1, none⟩) (Nat.le_refl b) _
theorem wk_box {w : World} {b : Nat} {p d : Int} (hw : Wk w b p d) (o : Obj) : Wk (w.alloc o) b p d := hw.same (Same.of_below ((Below.refl _ _).alloc (Nat.le_refl _) _) (Nat.le_refl w.heap.size)) hw.lt

section
variable (bo : Bool) (i : Int) (f : Nat) (tx : ByteArray) (ab : Option Addr) (nb cb : Nat) (rf : Int) (al : Option Addr) (nl cl : Nat) (af : Option Addr) (nf cf : Nat) (c : ByteArray) (vr : Int) (b : Nat) (p d n : Int) (w : World)
set_option maxRecDepth 100000 in
set_option maxHeartbeats 1000000 in
theorem term_err (k : Int) (hw : Wk w b p d) (hp : 0 ≤ p) (hp' : p ≤ 16384) (he : Sp.ent k p n ≠ 0) :
    Calls Try.prog 36 #[.pointer (some ⟨b, 0, none⟩), .agg (tcells k bo i f tx (.slice ab nb cb) rf (.slice al nl cl) (.slice af nf cf) c vr), .int .i64 n] w fun e w' => e = .returned (.int .i64 (Sp.ent k p n)) ∧ Wk w' b (p + 1) (max d n) ∧ Below b w w' := by
  unfold tcells
  have HW : Hid (Wk w b p d) := hw
  clear hw
  have he' := ne_bool he
  clear he
  go_enter Try.func36, Try.ntmps36
  go_wp2_with (go_at_call 56; refine (enter_any b p d _ _ _ (wk_box HW.out _) hp (by omega)).mono ?_; rintro e w1 ⟨rfl, hw1⟩; obtain ⟨hx1, hk1, hb1⟩ := ent_facts HW.out hw1; obtain ⟨t0, t1, t2, t3, t4, t5, t6, t7, t8, t9, t10⟩ := tbox hx1; clear hw1 hx1; have HK1 : Hid _ := hk1; have HB1 : Hid _ := hb1; clear hk1 hb1)
  go_ret
  exact ⟨rfl, HK1.out, HB1.out⟩
set_option maxRecDepth 100000 in
set_option maxHeartbeats 1000000 in
theorem term_plain (k : Int) (hw : Wk w b p d) (hp : 0 ≤ p) (hp' : p ≤ 16384) (he : Sp.ent k p n = 0) (h5 : k ≠ 5) (h6 : k ≠ 6) (h8 : k ≠ 8) (h9 : k ≠ 9) (h10 : k ≠ 10) :
    Calls Try.prog 36 #[.pointer (some ⟨b, 0, none⟩), .agg (tcells k bo i f tx (.slice ab nb cb) rf (.slice al nl cl) (.slice af nf cf) c vr), .int .i64 n] w fun e w' => e = .returned (.int .i64 (0)) ∧ Wk w' b (p + 1) (max d n) ∧ Below b w w' := by
  unfold tcells
  have HW : Hid (Wk w b p d) := hw
  clear hw
  have b5 : (k == 5) = false := by simp [h5]
  have b6 : (k == 6) = false := by simp [h6]
  have b8 : (k == 8) = false := by simp [h8]
  have b9 : (k == 9) = false := by simp [h9]
  have b10 : (k == 10) = false := by simp [h10]
  clear h5 h6 h8 h9 h10
  go_enter Try.func36, Try.ntmps36
  go_wp2_with (go_at_call 56; refine (enter_any b p d _ _ _ (wk_box HW.out _) hp (by omega)).mono ?_; rintro e w1 ⟨rfl, hw1⟩; obtain ⟨hx1, hk1, hb1⟩ := ent_facts HW.out hw1; obtain ⟨t0, t1, t2, t3, t4, t5, t6, t7, t8, t9, t10⟩ := tbox hx1; clear hw1 hx1; have HK1 : Hid _ := hk1; have HB1 : Hid _ := hb1; clear hk1 hb1)
  go_ret
  exact ⟨rfl, HK1.out, HB1.out⟩
set_option maxRecDepth 100000 in
set_option maxHeartbeats 1000000 in
theorem term_5 (hw : Wk w b p d) (hp : 0 ≤ p) (hp' : p ≤ 16384) (he : Sp.ent 5 p n = 0) :
    Calls Try.prog 36 #[.pointer (some ⟨b, 0, none⟩), .agg (tcells 5 bo i f tx (.slice ab nb cb) rf (.slice al nl cl) (.slice af nf cf) c vr), .int .i64 n] w fun e w' => e = .returned (.int .i64 (Sp.len tx.size 65536)) ∧ Wk w' b (p + 1) (max d n) ∧ Below b w w' := by
  unfold tcells
  have HW : Hid (Wk w b p d) := hw
  clear hw
  go_enter Try.func36, Try.ntmps36
  go_wp2_with (first | (go_at_call 56; refine (enter_any b p d _ _ _ (wk_box HW.out _) hp (by omega)).mono ?_; rintro e w1 ⟨rfl, hw1⟩; obtain ⟨hx1, hk1, hb1⟩ := ent_facts HW.out hw1; obtain ⟨t0, t1, t2, t3, t4, t5, t6, t7, t8, t9, t10⟩ := tbox hx1; clear hw1 hx1; have HK1 : Hid _ := hk1; have HB1 : Hid _ := hb1; clear hk1 hb1) | (go_at_call 57; refine (lengthRule_any _ _ _).mono ?_; rintro e w' ⟨rfl, rfl⟩))
  go_ret
  exact ⟨rfl, HK1.out, HB1.out⟩
set_option maxRecDepth 100000 in
set_option maxHeartbeats 1000000 in
theorem term_6 (hw : Wk w b p d) (hp : 0 ≤ p) (hp' : p ≤ 16384) (he : Sp.ent 6 p n = 0) :
    Calls Try.prog 36 #[.pointer (some ⟨b, 0, none⟩), .agg (tcells 6 bo i f tx (.slice ab nb cb) rf (.slice al nl cl) (.slice af nf cf) c vr), .int .i64 n] w fun e w' => e = .returned (.int .i64 (Sp.len nb 65536)) ∧ Wk w' b (p + 1) (max d n) ∧ Below b w w' := by
  unfold tcells
  have HW : Hid (Wk w b p d) := hw
  clear hw
  go_enter Try.func36, Try.ntmps36
  go_wp2_with (first | (go_at_call 56; refine (enter_any b p d _ _ _ (wk_box HW.out _) hp (by omega)).mono ?_; rintro e w1 ⟨rfl, hw1⟩; obtain ⟨hx1, hk1, hb1⟩ := ent_facts HW.out hw1; obtain ⟨t0, t1, t2, t3, t4, t5, t6, t7, t8, t9, t10⟩ := tbox hx1; clear hw1 hx1; have HK1 : Hid _ := hk1; have HB1 : Hid _ := hb1; clear hk1 hb1) | (go_at_call 57; refine (lengthRule_any _ _ _).mono ?_; rintro e w' ⟨rfl, rfl⟩))
  go_ret
  exact ⟨rfl, HK1.out, HB1.out⟩
set_option maxRecDepth 100000 in
set_option maxHeartbeats 1000000 in
theorem term_8 (hw : Wk w b p d) (hp : 0 ≤ p) (hp' : p ≤ 16384) (he : Sp.ent 8 p n = 0) (R : Wr) (h : ∀ W, Below b w W → Wk W b (p + 1) (max d n) → Calls Try.prog 58 #[.pointer (some ⟨b, 0, none⟩), .slice al nl cl, .int .i64 n] W fun e w' => e = .returned (.int .i64 R.e) ∧ Wk w' b R.p R.d ∧ Below b W w') :
    Calls Try.prog 36 #[.pointer (some ⟨b, 0, none⟩), .agg (tcells 8 bo i f tx (.slice ab nb cb) rf (.slice al nl cl) (.slice af nf cf) c vr), .int .i64 n] w fun e w' => e = .returned (.int .i64 (R.e)) ∧ Wk w' b R.p R.d ∧ Below b w w' := by
  unfold tcells
  have HW : Hid (Wk w b p d) := hw
  clear hw
  have HX : Hid _ := h
  clear h
  go_enter Try.func36, Try.ntmps36
  go_wp2_with (first | (go_at_call 56; refine (enter_any b p d _ _ _ (wk_box HW.out _) hp (by omega)).mono ?_; rintro e w1 ⟨rfl, hw1⟩; obtain ⟨hx1, hk1, hb1⟩ := ent_facts HW.out hw1; obtain ⟨t0, t1, t2, t3, t4, t5, t6, t7, t8, t9, t10⟩ := tbox hx1; clear hw1 hx1; have HK1 : Hid _ := hk1; have HB1 : Hid _ := hb1; clear hk1 hb1) | (go_at_call 58; refine (HX.out _ HB1.out HK1.out).mono ?_; rintro e w2 ⟨rfl, hk2, hb2⟩))
  go_ret
  exact ⟨rfl, hk2, HB1.out.trans hb2⟩
set_option maxRecDepth 100000 in
set_option maxHeartbeats 1000000 in
theorem term_9 (hw : Wk w b p d) (hp : 0 ≤ p) (hp' : p ≤ 16384) (he : Sp.ent 9 p n = 0) (R : Wr) (h : ∀ W, Below b w W → Wk W b (p + 1) (max d n) → Calls Try.prog 59 #[.pointer (some ⟨b, 0, none⟩), .slice af nf cf, .int .i64 n] W fun e w' => e = .returned (.int .i64 R.e) ∧ Wk w' b R.p R.d ∧ Below b W w') :
    Calls Try.prog 36 #[.pointer (some ⟨b, 0, none⟩), .agg (tcells 9 bo i f tx (.slice ab nb cb) rf (.slice al nl cl) (.slice af nf cf) c vr), .int .i64 n] w fun e w' => e = .returned (.int .i64 (R.e)) ∧ Wk w' b R.p R.d ∧ Below b w w' := by
  unfold tcells
  have HW : Hid (Wk w b p d) := hw
  clear hw
  have HX : Hid _ := h
  clear h
  go_enter Try.func36, Try.ntmps36
  go_wp2_with (first | (go_at_call 56; refine (enter_any b p d _ _ _ (wk_box HW.out _) hp (by omega)).mono ?_; rintro e w1 ⟨rfl, hw1⟩; obtain ⟨hx1, hk1, hb1⟩ := ent_facts HW.out hw1; obtain ⟨t0, t1, t2, t3, t4, t5, t6, t7, t8, t9, t10⟩ := tbox hx1; clear hw1 hx1; have HK1 : Hid _ := hk1; have HB1 : Hid _ := hb1; clear hk1 hb1) | (go_at_call 59; refine (HX.out _ HB1.out HK1.out).mono ?_; rintro e w2 ⟨rfl, hk2, hb2⟩))
  go_ret
  exact ⟨rfl, hk2, HB1.out.trans hb2⟩
set_option maxRecDepth 100000 in
set_option maxHeartbeats 1000000 in
theorem term_10 (hw : Wk w b p d) (hp : 0 ≤ p) (hp' : p ≤ 16384) (he : Sp.ent 10 p n = 0) (hs : c.size ≤ maxLen) (hh : Sp.headR c vr = 0) (R : Wr) (h : ∀ W, Below b w W → Wk W b (p + 1) (max d n) → Calls Try.prog 59 #[.pointer (some ⟨b, 0, none⟩), .slice af nf cf, .int .i64 n] W fun e w' => e = .returned (.int .i64 R.e) ∧ Wk w' b R.p R.d ∧ Below b W w') :
    Calls Try.prog 36 #[.pointer (some ⟨b, 0, none⟩), .agg (tcells 10 bo i f tx (.slice ab nb cb) rf (.slice al nl cl) (.slice af nf cf) c vr), .int .i64 n] w fun e w' => e = .returned (.int .i64 (R.e)) ∧ Wk w' b R.p R.d ∧ Below b w w' := by
  unfold tcells
  have HW : Hid (Wk w b p d) := hw
  clear hw
  have HX : Hid _ := h
  clear h
  go_enter Try.func36, Try.ntmps36
  go_wp2_with (first | (go_at_call 56; refine (enter_any b p d _ _ _ (wk_box HW.out _) hp (by omega)).mono ?_; rintro e w1 ⟨rfl, hw1⟩; obtain ⟨hx1, hk1, hb1⟩ := ent_facts HW.out hw1; obtain ⟨t0, t1, t2, t3, t4, t5, t6, t7, t8, t9, t10⟩ := tbox hx1; clear hw1 hx1; have HK1 : Hid _ := hk1; have HB1 : Hid _ := hb1; clear hk1 hb1) | (go_at_call 60; refine (headRule_any _ _ _ hs).mono ?_; rintro e w' ⟨rfl, rfl⟩) | (go_at_call 59; refine (HX.out _ HB1.out HK1.out).mono ?_; rintro e w2 ⟨rfl, hk2, hb2⟩))
  go_ret
  exact ⟨rfl, hk2, HB1.out.trans hb2⟩
set_option maxRecDepth 100000 in
set_option maxHeartbeats 1000000 in
theorem term_head (hw : Wk w b p d) (hp : 0 ≤ p) (hp' : p ≤ 16384) (he : Sp.ent 10 p n = 0) (hs : c.size ≤ maxLen) (hh : Sp.headR c vr ≠ 0) :
    Calls Try.prog 36 #[.pointer (some ⟨b, 0, none⟩), .agg (tcells 10 bo i f tx (.slice ab nb cb) rf (.slice al nl cl) (.slice af nf cf) c vr), .int .i64 n] w fun e w' => e = .returned (.int .i64 (Sp.headR c vr)) ∧ Wk w' b (p + 1) (max d n) ∧ Below b w w' := by
  unfold tcells
  have HW : Hid (Wk w b p d) := hw
  clear hw
  have hh' := ne_bool hh
  clear hh
  go_enter Try.func36, Try.ntmps36
  go_wp2_with (first | (go_at_call 56; refine (enter_any b p d _ _ _ (wk_box HW.out _) hp (by omega)).mono ?_; rintro e w1 ⟨rfl, hw1⟩; obtain ⟨hx1, hk1, hb1⟩ := ent_facts HW.out hw1; obtain ⟨t0, t1, t2, t3, t4, t5, t6, t7, t8, t9, t10⟩ := tbox hx1; clear hw1 hx1; have HK1 : Hid _ := hk1; have HB1 : Hid _ := hb1; clear hk1 hb1) | (go_at_call 60; refine (headRule_any _ _ _ hs).mono ?_; rintro e w' ⟨rfl, rfl⟩))
  go_ret
  exact ⟨rfl, HK1.out, HB1.out⟩
end

set_option maxHeartbeats 1000000 in
theorem term_any (N : Nat) : TermC N := by
  induction N with
  | zero => intro t ht; cases t; simp [Tm.sz] at ht
  | succ N ih =>
    intro t hN b cs p d n w hw h hp hp' hn hn'
    cases t with
    | mk k bo i f tx by' rf l fs c vr =>
      have hlN : l.sz ≤ N ∧ fs.sz ≤ N := by simp [Tm.sz] at hN; omega
      simp only [Tm.In] at h
      obtain ⟨ab, cb, al, cl, af, cf, rfl, hbd, hby, hl, hfs⟩ := h
      have hcl : c.size ≤ maxLen := by unfold maxLen; have := hbd.c; omega
      by_cases he : Sp.ent k p n ≠ 0
      · rw [Tm.wk_ent he]; exact term_err bo i f tx ab _ cb rf al _ cl af _ cf c vr b p d n w k hw hp hp' he
      · have he := Decidable.not_not.1 he
        have hz := Sp.ent_zero he
        have HT : ∀ W, Below b w W → Wk W b (p + 1) (max d n) → Calls Try.prog 58 #[.pointer (some ⟨b, 0, none⟩), .slice al l.len cl, .int .i64 n] W fun e w' => e = .returned (.int .i64 (l.wkR n (p + 1) (max d n)).e) ∧ Wk w' b (l.wkR n (p + 1) (max d n)).p (l.wkR n (p + 1) (max d n)).d ∧ Below b W w' := fun W hW hk =>
          terms_any N ih l hlN.1 b al cl (p + 1) (max d n) n W hk (l.In_same (Same.of_below hW (Nat.le_refl _)) (fun _ h => h) al 0 hl) hbd.nl (by omega) (by omega) hn (by omega)
        have HF : ∀ W, Below b w W → Wk W b (p + 1) (max d n) → Calls Try.prog 59 #[.pointer (some ⟨b, 0, none⟩), .slice af fs.len cf, .int .i64 n] W fun e w' => e = .returned (.int .i64 (fs.wkR n (p + 1) (max d n)).e) ∧ Wk w' b (fs.wkR n (p + 1) (max d n)).p (fs.wkR n (p + 1) (max d n)).d ∧ Below b W w' := fun W hW hk =>
          entries_any N ih fs hlN.2 b af cf (p + 1) (max d n) n W hk (fs.In_same (Same.of_below hW (Nat.le_refl _)) (fun _ h => h) af 0 hfs) hbd.nf (by omega) (by omega) hn (by omega)
        by_cases k5 : k = 5
        · subst k5; rw [Tm.wk_5 he]; exact term_5 bo i f tx ab _ cb rf al _ cl af _ cf c vr b p d n w hw hp hp' he
        by_cases k6 : k = 6
        · subst k6; rw [Tm.wk_6 he]; exact term_6 bo i f tx ab _ cb rf al _ cl af _ cf c vr b p d n w hw hp hp' he
        by_cases k8 : k = 8
        · subst k8; rw [Tm.wk_8 he]; exact term_8 bo i f tx ab _ cb rf al _ cl af _ cf c vr b p d n w hw hp hp' he _ HT
        by_cases k9 : k = 9
        · subst k9; rw [Tm.wk_9 he]; exact term_9 bo i f tx ab _ cb rf al _ cl af _ cf c vr b p d n w hw hp hp' he _ HF
        by_cases k10 : k = 10
        · subst k10
          by_cases hh : Sp.headR c vr = 0
          · rw [Tm.wk_10 he hh]; exact term_10 bo i f tx ab _ cb rf al _ cl af _ cf c vr b p d n w hw hp hp' he hcl hh _ HF
          · rw [Tm.wk_10' he hh]; exact term_head bo i f tx ab _ cb rf al _ cl af _ cf c vr b p d n w hw hp hp' he hcl hh
        rw [Tm.wk_else he k5 k6 k8 k9 k10]; exact term_plain bo i f tx ab _ cb rf al _ cl af _ cf c vr b p d n w k hw hp hp' he k5 k6 k8 k9 k10
end Go.Proofs.Ytkomcebknllaiaa

/- value.Of at any term. -/
namespace Go.Proofs.Ytkomcebknllaiaa
open Go.RowKit

set_option maxRecDepth 100000 in
set_option maxHeartbeats 1000000 in
theorem Of_err (t : Tm) (cs : Array Value) (B : Nat → Prop) (w : World) (h : t.In w B cs) (hB : Sub B w) (he : t.all.e ≠ 0) :
    Calls Try.prog 9 #[.agg cs] w fun e w' => e = .returned (.tuple #[.nilIface, .int .i64 t.all.e]) ∧ Below w.heap.size w w' := by
  have HT : Hid (∀ W, Below w.heap.size w W → Wk W (w.heap.size + 1) 0 0 → Calls Try.prog 36 #[.pointer (some ⟨w.heap.size + 1, 0, none⟩), .agg cs, .int .i64 1] W fun e w' => e = .returned (.int .i64 t.all.e) ∧ Below (w.heap.size + 1) W w') := fun W hW hk =>
    (term_any t.sz t (Nat.le_refl _) (w.heap.size + 1) cs 0 0 1 W hk (t.In_same (hB.same hW) (fun k hk => Nat.lt_of_lt_of_le (hB k hk) (Nat.le_succ _)) cs h) (by decide) (by decide) (by decide) (by decide)).mono fun e w' h => ⟨h.1, h.2.2⟩
  obtain ⟨k1, b1, i1, f1, tx1, ab1, nb1, cb1, rf1, al1, nl1, cl1, af1, nf1, cf1, cc1, vr1, rfl⟩ := Tm.In_tc' h
  have he' := ne_bool he
  have HK : Hid (∀ o, Wk ((w.alloc o).alloc (.cells #[.int .i64 0, .int .i64 0] 67)) (w.heap.size + 1) 0 0) := fun o => by
    have := Wk_new (w.alloc o); simpa using this
  clear h he
  unfold tcells at HT ⊢
  go_enter Try.func9, Try.ntmps9
  go_wp2_with (go_at_call 36; refine (HT.out _ (((Below.refl _ _).alloc (Nat.le_refl _) _).alloc (by simp) _) (HK.out _)).mono ?_; rintro e w1 ⟨rfl, hb1⟩)
  go_ret2
  exact ⟨rfl, (((Below.refl _ _).alloc (Nat.le_refl _) _).alloc (by simp) _).trans (hb1.mono (by omega))⟩

set_option maxRecDepth 100000 in
set_option maxHeartbeats 1000000 in
theorem Of_ok (t : Tm) (cs : Array Value) (B : Nat → Prop) (w : World) (h : t.In w B cs) (hB : Sub B w) (he : t.all.e = 0) :
    Calls Try.prog 9 #[.agg cs] w fun e w' => ∃ v, e = .returned (.tuple #[v, .int .i64 0]) ∧ Below w.heap.size w w' ∧ t.V w' (Fr w w') v := by
  have HT : Hid (∀ W, Below w.heap.size w W → Wk W (w.heap.size + 1) 0 0 → Calls Try.prog 36 #[.pointer (some ⟨w.heap.size + 1, 0, none⟩), .agg cs, .int .i64 1] W fun e w' => e = .returned (.int .i64 t.all.e) ∧ Below (w.heap.size + 1) W w') := fun W hW hk =>
    (term_any t.sz t (Nat.le_refl _) (w.heap.size + 1) cs 0 0 1 W hk (t.In_same (hB.same hW) (fun k hk => Nat.lt_of_lt_of_le (hB k hk) (Nat.le_succ _)) cs h) (by decide) (by decide) (by decide) (by decide)).mono fun e w' h => ⟨h.1, h.2.2⟩
  have HV : Hid (∀ W, Below w.heap.size w W → Calls Try.prog 37 #[.agg cs] W fun e w' => ∃ v, e = .returned v ∧ Below W.heap.size W w' ∧ t.V w' (Fr W w') v) := fun W hW =>
    valueOf_any t.sz t (Nat.le_refl _) cs B W (t.In_same (hB.same hW) (fun _ h => h) cs h) (hB.later hW) (Tm.ok_all he)
  obtain ⟨k1, b1, i1, f1, tx1, ab1, nb1, cb1, rf1, al1, nl1, cl1, af1, nf1, cf1, cc1, vr1, rfl⟩ := Tm.In_tc' h
  have HK : Hid (∀ o, Wk ((w.alloc o).alloc (.cells #[.int .i64 0, .int .i64 0] 67)) (w.heap.size + 1) 0 0) := fun o => by
    have := Wk_new (w.alloc o); simpa using this
  rw [he] at HT
  have HX : Hid (∀ o p w1, Below (w.heap.size + 1) ((w.alloc o).alloc p) w1 → w1.heap[w.heap.size]? = some o ∧ Below w.heap.size w w1) := fun o p w1 h => by
    have hh : ((w.alloc o).alloc p).heap[w.heap.size]? = some o := by
      rw [((Below.refl (w.alloc o).heap.size _).alloc (Nat.le_refl _) p).block w.heap.size (by simp)]; exact heap_alloc_new w o
    exact ⟨by rw [h.block w.heap.size (by omega)]; exact hh, (((Below.refl _ _).alloc (Nat.le_refl _) _).alloc (by simp) _).trans (h.mono (by omega))⟩
  clear h he
  unfold tcells at HT HV ⊢
  go_enter Try.func9, Try.ntmps9
  go_wp2_with (first
    | (go_at_call 36; refine (HT.out _ (((Below.refl _ _).alloc (Nat.le_refl _) _).alloc (by simp) _) (HK.out _)).mono ?_; rintro e w1 ⟨rfl, hb1⟩; obtain ⟨hx1, hb1'⟩ := HX.out _ _ _ hb1; have HB1 : Hid _ := hb1'; obtain ⟨t0, t1, t2, t3, t4, t5, t6, t7, t8, t9, t10⟩ := tbox hx1; clear hb1 hx1 hb1')
    | (go_at_call 37; refine (HV.out _ HB1.out).mono ?_; rintro e w2 ⟨v, rfl, hb2, hv⟩; have HB2 : Hid _ := hb2; have HV2 : Hid _ := hv; clear hb2 hv))
  go_ret2
  exact ⟨v, rfl, below_to HB1.out HB2.out, t.V_same (Same.refl _ _) (fun k hk => ⟨Nat.le_trans HB1.out.size hk.1, hk.2⟩) v HV2.out⟩
end Go.Proofs.Ytkomcebknllaiaa

/- Two boxes in new memory, each with a term's eleven cells. -/
namespace Go.Proofs.Ytkomcebknllaiaa
open Go.RowKit

def two (w : World) (a b : Array Value) : World := (w.alloc (.cells a 29 (0, 0))).alloc (.cells b 29 (0, 0))
theorem two_size (w : World) (a b : Array Value) : (two w a b).heap.size = w.heap.size + 2 := by simp [two]
theorem two_bel (w : World) (a b : Array Value) : Below w.heap.size w (two w a b) := by
  unfold two
  refine Below.alloc (Below.alloc (Below.refl _ _) (Nat.le_refl _) _) ?_ _; simp
theorem two_a {w W : World} {a b : Array Value} (h : Below (two w a b).heap.size (two w a b) W) : W.heap[w.heap.size]? = some (.cells a 29 (0, 0)) := by
  rw [h.block w.heap.size (by rw [two_size]; omega)]; unfold two
  rw [((Below.refl (w.alloc (.cells a 29 (0, 0))).heap.size _).alloc (Nat.le_refl _) (.cells b 29 (0, 0))).block w.heap.size (by simp)]; exact heap_alloc_new w _
theorem two_b {w W : World} {a b : Array Value} (h : Below (two w a b).heap.size (two w a b) W) : W.heap[w.heap.size + 1]? = some (.cells b 29 (0, 0)) := by
  rw [h.block (w.heap.size + 1) (by rw [two_size]; omega)]; unfold two
  have := heap_alloc_new (w.alloc (.cells a 29 (0, 0))) (.cells b 29 (0, 0))
  simpa using this
theorem two_w {w W : World} {a b : Array Value} (h : Below (two w a b).heap.size (two w a b) W) : Below w.heap.size w W := below_to (two_bel w a b) h
end Go.Proofs.Ytkomcebknllaiaa

/- value.Plain where the value can be; tenonmake.Plain and tenonmake.Is. -/
namespace Go.Proofs.Ytkomcebknllaiaa
open Go.RowKit

set_option maxRecDepth 100000 in
set_option maxHeartbeats 1000000 in
theorem Plain_okS (t : Tm) (v : Value) (w : World) (h : t.V w (Lo w.heap.size) v) (he : t.all.e = 0) (hb : t.Bdd) :
    Calls Try.prog 10 #[v] w fun e w' => ∃ cs, e = .returned (.tuple #[.agg cs, .int .i64 0]) ∧ Below w.heap.size w w' ∧ t.clean.In w' (FrS w w') cs := by
  have HCk : Hid (∀ W, Below w.heap.size w W → Calls Try.prog 38 #[v] W fun e w' => e = .returned (.tuple #[.int .i64 t.cAt, .int .i64 0]) ∧ Below W.heap.size W w') := fun W hW => by
    have := Check_any t v w.heap.size W hW.size (t.V_same (Same.of_below hW (Nat.le_refl _)) (fun _ h => h) v h); rw [he] at this; exact this
  have HT : Hid (∀ W, Below w.heap.size w W → Calls Try.prog 39 #[v] W fun e w' => ∃ k b i f tx ab nb cb rf al nl cl af nf cf c vr, e = .returned (.agg (tcells k b i f tx (.slice ab nb cb) rf (.slice al nl cl) (.slice af nf cf) c vr)) ∧ Below W.heap.size W w' ∧ t.clean.In w' (FrS W w') (tcells k b i f tx (.slice ab nb cb) rf (.slice al nl cl) (.slice af nf cf) c vr)) :=
    (termOf_any t.sz).at (Nat.le_refl _) h (Sub.lo (Nat.le_refl _)) (Tm.ok_all he) hb
  unfold tcells at HT
  clear h he hb
  go_enter Try.func10, Try.ntmps10
  go_wp2_with fail
  refine (HCk.out _ ((Below.refl _ _).alloc (Nat.le_refl _) _)).mono ?_
  rintro e w0 ⟨rfl, hb0⟩
  have HB0 : Hid _ := hb0
  clear hb0
  go_wp2_with fail
  refine (HT.out _ (box_at1 HB0.out).2.1).mono ?_
  rintro e w1 ⟨k1, b1, i1, f1, tx1, ab1, nb1, cb1, rf1, al1, nl1, cl1, af1, nf1, cf1, cc1, vr1, rfl, hb1, hv1⟩
  obtain ⟨hR, hbw, hsz⟩ := box_at1 (below_to HB0.out hb1)
  obtain ⟨r0, r1, r2, r3, r4, r5, r6, r7, r8, r9, r10⟩ := tbox hR
  have hf := box_writes hR
  have z0 := hf 0; have z1 := hf 1; have z2 := hf 2; have z3 := hf 3; have z4 := hf 4; have z5 := hf 5; have z6 := hf 6; have z7 := hf 7; have z8 := hf 8; have z9 := hf 9; have z10 := hf 10
  have HE : Hid (Below w.heap.size w (setN w1 w.heap.size 0 [.int .i64 k1, .bool b1, .int .i64 i1, .float .f64 f1, .string tx1, .slice ab1 nb1 cb1, .int .u64 rf1, .slice al1 nl1 cl1, .slice af1 nf1 cf1, .string cc1, .int .i64 vr1]) ∧ t.clean.In (setN w1 w.heap.size 0 [.int .i64 k1, .bool b1, .int .i64 i1, .float .f64 f1, .string tx1, .slice ab1 nb1 cb1, .int .u64 rf1, .slice al1 nl1 cl1, .slice af1 nf1 cf1, .string cc1, .int .i64 vr1]) (FrS w (setN w1 w.heap.size 0 [.int .i64 k1, .bool b1, .int .i64 i1, .float .f64 f1, .string tx1, .slice ab1 nb1 cb1, .int .u64 rf1, .slice al1 nl1 cl1, .slice af1 nf1 cf1, .string cc1, .int .i64 vr1])) #[.int .i64 k1, .bool b1, .int .i64 i1, .float .f64 f1, .string tx1, .slice ab1 nb1 cb1, .int .u64 rf1, .slice al1 nl1 cl1, .slice af1 nf1 cf1, .string cc1, .int .i64 vr1]) := by
    have hz := (box_at1 HB0.out).2.2
    refine ⟨setN_below (Nat.le_refl _) _ _ _ _ hbw, t.clean.In_same (B := FrS w0 w1) (fun k hk => setN_other (by have := hk.1; omega) _ _ _) (fun k hk => ⟨by have := hk.1; omega, by rw [setN_size]; exact hk.2.1, hk.2.2.same (setN_other (by have := hk.1; omega) _ _ _)⟩) _ hv1⟩
  clear hb1 hv1 hR hbw hf HB0
  go_wp2_with fail
  refine bodyPost_ret (v := .tuple #[.agg #[.int .i64 k1, .bool b1, .int .i64 i1, .float .f64 f1, .string tx1, .slice ab1 nb1 cb1, .int .u64 rf1, .slice al1 nl1 cl1, .slice af1 nf1 cf1, .string cc1, .int .i64 vr1], .int .i64 0]) (by simp [results, Try.results10, go_sem, r0, r1, r2, r3, r4, r5, r6, r7, r8, r9, r10]) rfl ⟨_, rfl, HE.out.1, HE.out.2⟩

theorem Plain_ok (t : Tm) (v : Value) (w : World) (h : t.V w (Lo w.heap.size) v) (he : t.all.e = 0) (hb : t.Bdd) :
    Calls Try.prog 10 #[v] w fun e w' => ∃ cs, e = .returned (.tuple #[.agg cs, .int .i64 0]) ∧ Below w.heap.size w w' ∧ t.clean.In w' (Fr w w') cs := by
  refine (Plain_okS t v w h he hb).mono ?_
  rintro e w' ⟨cs, rfl, h1, h2⟩
  exact ⟨cs, rfl, h1, t.clean.In_same (Same.refl _ _) FrS.fr cs h2⟩

set_option maxRecDepth 100000 in
set_option maxHeartbeats 1000000 in
theorem mPlain_any (t : Tm) (v : Value) (w : World) (S : Nat → Prop) (h : t.V w S v) (hS : Sub S w) (he : t.all.e = 0) (hb : t.Bdd) :
    Calls Try.prog 26 #[v] w fun e w' => ∃ k b i f tx ab nb cb rf al nl cl af nf cf c vr, e = .returned (.agg (tcells k b i f tx (.slice ab nb cb) rf (.slice al nl cl) (.slice af nf cf) c vr)) ∧ Below w.heap.size w w' ∧ t.clean.In w' (Fr w w') (tcells k b i f tx (.slice ab nb cb) rf (.slice al nl cl) (.slice af nf cf) c vr) := by
  have HT := (plain_any t.sz).at (deep := 0) (n := 1) (Nat.le_refl _) h hS ⟨0, 0, he⟩ hb (by decide) (by decide)
  have HT : Hid _ := HT
  unfold tcells at HT
  clear h he hb
  unfold tcells
  go_enter Try.func26, Try.ntmps26
  go_wp2_with fail
  refine (HT.out _ ((Below.refl _ _).alloc (Nat.le_refl _) _)).mono ?_
  rintro e w1 ⟨k1, b1, i1, f1, tx1, ab1, nb1, cb1, rf1, al1, nl1, cl1, af1, nf1, cf1, cc1, vr1, rfl, hb1, hv1⟩
  obtain ⟨hR, hbw, hsz⟩ := box_at1 hb1
  obtain ⟨r0, r1, r2, r3, r4, r5, r6, r7, r8, r9, r10⟩ := tbox hR
  have hf := box_writes hR
  have z0 := hf 0; have z1 := hf 1; have z2 := hf 2; have z3 := hf 3; have z4 := hf 4; have z5 := hf 5; have z6 := hf 6; have z7 := hf 7; have z8 := hf 8; have z9 := hf 9; have z10 := hf 10
  have HE : Hid (Below w.heap.size w (setN w1 w.heap.size 0 [.int .i64 k1, .bool b1, .int .i64 i1, .float .f64 f1, .string tx1, .slice ab1 nb1 cb1, .int .u64 rf1, .slice al1 nl1 cl1, .slice af1 nf1 cf1, .string cc1, .int .i64 vr1]) ∧ t.clean.In (setN w1 w.heap.size 0 [.int .i64 k1, .bool b1, .int .i64 i1, .float .f64 f1, .string tx1, .slice ab1 nb1 cb1, .int .u64 rf1, .slice al1 nl1 cl1, .slice af1 nf1 cf1, .string cc1, .int .i64 vr1]) (Fr w (setN w1 w.heap.size 0 [.int .i64 k1, .bool b1, .int .i64 i1, .float .f64 f1, .string tx1, .slice ab1 nb1 cb1, .int .u64 rf1, .slice al1 nl1 cl1, .slice af1 nf1 cf1, .string cc1, .int .i64 vr1])) #[.int .i64 k1, .bool b1, .int .i64 i1, .float .f64 f1, .string tx1, .slice ab1 nb1 cb1, .int .u64 rf1, .slice al1 nl1 cl1, .slice af1 nf1 cf1, .string cc1, .int .i64 vr1]) := by
    refine ⟨setN_below (Nat.le_refl _) _ _ _ _ hbw, t.clean.In_same (fun k hk => setN_other (by have := hk.1; simp at this; omega) _ _ _) (fun k hk => ⟨by have := hk.1; simp at this; omega, by rw [setN_size]; exact hk.2⟩) _ hv1⟩
  clear hb1 hv1 hR hbw hf
  go_wp2_with fail
  refine bodyPost_ret (v := .agg #[.int .i64 k1, .bool b1, .int .i64 i1, .float .f64 f1, .string tx1, .slice ab1 nb1 cb1, .int .u64 rf1, .slice al1 nl1 cl1, .slice af1 nf1 cf1, .string cc1, .int .i64 vr1]) (by simp [results, Try.results26, go_sem, r0, r1, r2, r3, r4, r5, r6, r7, r8, r9, r10]) rfl ⟨k1, b1, i1, f1, tx1, ab1, nb1, cb1, rf1, al1, nl1, cl1, af1, nf1, cf1, cc1, vr1, rfl, HE.out.1, HE.out.2⟩

set_option maxRecDepth 100000 in
set_option maxHeartbeats 1000000 in
theorem Is_any (t : Tm) (v : Value) (ct : Array Value) (w : World) (S : Nat → Prop) (h : t.V w S v) (hi : t.In w S ct) (hS : Sub S w) (he : t.all.e = 0) :
    Calls Try.prog 14 #[v, .agg ct] w fun e w' => e = .returned (.bool true) ∧ Below w.heap.size w w' := by
  have hb := Tm.In_bdd t ct hi
  have HP : Hid (∀ W, Below w.heap.size w W → Calls Try.prog 26 #[v] W fun e w' => ∃ k b i f tx ab nb cb rf al nl cl af nf cf c vr, e = .returned (.agg (tcells k b i f tx (.slice ab nb cb) rf (.slice al nl cl) (.slice af nf cf) c vr)) ∧ Below W.heap.size W w' ∧ t.clean.In w' (Fr W w') (tcells k b i f tx (.slice ab nb cb) rf (.slice al nl cl) (.slice af nf cf) c vr)) := fun W hW =>
    mPlain_any t v W S (t.V_same (hS.same hW) (fun _ h => h) v h) (hS.later hW) he hb
  have HM : Hid (∀ W W' cs, Below w.heap.size w W → Below W.heap.size W W' → t.clean.In W' (Fr W W') cs → Calls Try.prog 22 #[.agg cs, .agg ct] W' fun e w' => e = .returned (.bool true) ∧ Below W'.heap.size W' w') := fun W W' cs hW hW' hc => by
    have hz := hW'.size
    exact msame_any t.clean.sz t.clean t (Nat.le_refl _) (Tm.clean_eqv t (Tm.ok_all he)) cs ct (Lo W'.heap.size) W' (t.clean.In_same (Same.refl _ _) (fun k hk => hk.2) cs hc) (t.In_same (hS.same (below_to hW hW')) (fun k hk => Nat.lt_of_lt_of_le (hS k hk) (Nat.le_trans hW.size hz)) ct hi) (Sub.lo (Nat.le_refl _))
  obtain ⟨b2, i2, f2, tx2, vb2, rf2, vl2, vf2, c2, vr2, rfl⟩ := Tm.In_box hi
  clear h hi he hb
  unfold tcells at HP HM ⊢
  go_enter Try.func14, Try.ntmps14
  have HX : Hid (∀ W, Below (w.alloc (.cells #[.int .i64 t.kind, .bool b2, .int .i64 i2, .float .f64 f2, .string tx2, vb2, .int .u64 rf2, vl2, vf2, .string c2, .int .i64 vr2] 29)).heap.size (w.alloc (.cells #[.int .i64 t.kind, .bool b2, .int .i64 i2, .float .f64 f2, .string tx2, vb2, .int .u64 rf2, vl2, vf2, .string c2, .int .i64 vr2] 29)) W → (W.cell? ⟨w.heap.size, 0, none⟩ = some (.int .i64 t.kind) ∧ W.cell? ⟨w.heap.size, 1, none⟩ = some (.bool b2) ∧ W.cell? ⟨w.heap.size, 2, none⟩ = some (.int .i64 i2) ∧ W.cell? ⟨w.heap.size, 3, none⟩ = some (.float .f64 f2) ∧ W.cell? ⟨w.heap.size, 4, none⟩ = some (.string tx2) ∧ W.cell? ⟨w.heap.size, 5, none⟩ = some (vb2) ∧ W.cell? ⟨w.heap.size, 6, none⟩ = some (.int .u64 rf2) ∧ W.cell? ⟨w.heap.size, 7, none⟩ = some (vl2) ∧ W.cell? ⟨w.heap.size, 8, none⟩ = some (vf2) ∧ W.cell? ⟨w.heap.size, 9, none⟩ = some (.string c2) ∧ W.cell? ⟨w.heap.size, 10, none⟩ = some (.int .i64 vr2)) ∧ Below w.heap.size w W) := fun W hW => ⟨tbox (box_at1 hW).1, (box_at1 hW).2.1⟩
  go_wp2_with fail
  go_region_held3 (fun W => W.cell? ⟨w.heap.size, 0, none⟩ = some (.int .i64 t.kind) ∧ W.cell? ⟨w.heap.size, 1, none⟩ = some (.bool b2) ∧ W.cell? ⟨w.heap.size, 2, none⟩ = some (.int .i64 i2) ∧ W.cell? ⟨w.heap.size, 3, none⟩ = some (.float .f64 f2) ∧ W.cell? ⟨w.heap.size, 4, none⟩ = some (.string tx2) ∧ W.cell? ⟨w.heap.size, 5, none⟩ = some (vb2) ∧ W.cell? ⟨w.heap.size, 6, none⟩ = some (.int .u64 rf2) ∧ W.cell? ⟨w.heap.size, 7, none⟩ = some (vl2) ∧ W.cell? ⟨w.heap.size, 8, none⟩ = some (vf2) ∧ W.cell? ⟨w.heap.size, 9, none⟩ = some (.string c2) ∧ W.cell? ⟨w.heap.size, 10, none⟩ = some (.int .i64 vr2))
    (first | with_reducible exact (HX.out w2 HB2.out).1 | with_reducible exact (HX.out w1 HB1.out).1 | exact (HX.out _ (Below.refl _ _)).1 | exact (HX.out _ (Below.refl _ _).drew).1)
    ((first
      | (go_at_call 26; refine (HP.out _ ?_).mono ?_; exact (HX.out _ (Below.refl _ _).drew).2; rintro e w1 ⟨k1, b1, i1, f1, tx1, ab1, nb1, cb1, rf1, al1, nl1, cl1, af1, nf1, cf1, cc1, vr1, rfl, hb1, hv1⟩; have HB1 : Hid (Below (w.alloc (.cells #[.int .i64 t.kind, .bool b2, .int .i64 i2, .float .f64 f2, .string tx2, vb2, .int .u64 rf2, vl2, vf2, .string c2, .int .i64 vr2] 29)).heap.size (w.alloc (.cells #[.int .i64 t.kind, .bool b2, .int .i64 i2, .float .f64 f2, .string tx2, vb2, .int .u64 rf2, vl2, vf2, .string c2, .int .i64 vr2] 29)) w1) := below_to (Below.refl _ _).drew hb1; have HBd : Hid _ := hb1; have HV1 : Hid _ := hv1; clear hb1 hv1)
      | (go_at_call 22; refine (HM.out _ w1 _ (HX.out _ (Below.refl _ _).drew).2 HBd.out HV1.out).mono ?_; rintro e w2 ⟨rfl, hb2⟩; have HB2 : Hid (Below (w.alloc (.cells #[.int .i64 t.kind, .bool b2, .int .i64 i2, .float .f64 f2, .string tx2, vb2, .int .u64 rf2, vl2, vf2, .string c2, .int .i64 vr2] 29)).heap.size (w.alloc (.cells #[.int .i64 t.kind, .bool b2, .int .i64 i2, .float .f64 f2, .string tx2, vb2, .int .u64 rf2, vl2, vf2, .string c2, .int .i64 vr2] 29)) w2) := below_to HB1.out hb2; clear hb2)))
  go_wp2_with fail
  go_ret
  exact ⟨rfl, (HX.out w2 HB2.out).2⟩
end Go.Proofs.Ytkomcebknllaiaa

/- The reader where something is wrong: it gives up with the place and the reason. -/
namespace Go.Proofs.Ytkomcebknllaiaa
open Go.RowKit

/-- a reader gave up: at that place, for that reason -/
abbrev Flt (q : Nat) (e : Int) : Ending := .panicked [{ v := .iface 148 (.agg #[.int .i64 (q : Int), .int .i64 e]), recovered := false }]

set_option maxRecDepth 100000 in
set_option maxHeartbeats 1000000 in
theorem endRule_bad (n : Nat) (b : Nat) (a : Option Addr) (xs : List Int) (cap at' p : Nat) (w : World) (h : Rdr w b a xs cap at' p) (hn : ¬ at' + n ≤ xs.length) :
    Calls Try.prog 133 #[.pointer (some ⟨b, 0, none⟩), .int .i64 (n : Int)] w fun e w' => e = Flt xs.length 4 ∧ Below w.heap.size w w' := by
  obtain ⟨c0, c1, c2, f1, f2, _, _, ln, le, _⟩ := h
  have hlt : (xs.length : Int) - (at' : Int) < (n : Int) := by omega
  go_enter Try.func133, Try.ntmps133
  go_wp2_with fail
  go_quiet (fail)
  go_wp2_with fail
  exact ⟨rfl, rfl, below_drewN' _ _ _⟩

set_option maxRecDepth 100000 in
set_option maxHeartbeats 1000000 in
theorem take_bad (n : Nat) (b : Nat) (a : Option Addr) (xs : List Int) (cap at' p : Nat) (w : World) (h : Rdr w b a xs cap at' p) (hn : ¬ at' + n ≤ xs.length) :
    Calls Try.prog 119 #[.pointer (some ⟨b, 0, none⟩), .int .i64 (n : Int)] w fun e w' => e = Flt xs.length 4 ∧ But b w w' := by
  have HE : Hid (Calls Try.prog 133 #[.pointer (some ⟨b, 0, none⟩), .int .i64 (n : Int)] w fun e w' => e = Flt xs.length 4 ∧ Below w.heap.size w w') := endRule_bad n b a xs cap at' p w h hn
  have hlt := h.lt
  clear h
  go_enter Try.func119, Try.ntmps119
  go_wp2_with fail
  refine HE.out.mono ?_
  rintro e w1 ⟨rfl, hb1⟩
  exact ⟨rfl, rfl, But.of hlt hb1⟩

set_option maxRecDepth 100000 in
set_option maxHeartbeats 1000000 in
theorem rbyte_bad (b : Nat) (a : Option Addr) (xs : List Int) (cap at' p : Nat) (w : World) (h : Rdr w b a xs cap at' p) (hx : xs[at']? = none) :
    Calls Try.prog 99 #[.pointer (some ⟨b, 0, none⟩)] w fun e w' => e = Flt xs.length 4 ∧ But b w w' := by
  have hl := List.getElem?_eq_none_iff.1 hx
  have HT : Hid (Calls Try.prog 119 #[.pointer (some ⟨b, 0, none⟩), .int .i64 1] w fun e w' => e = Flt xs.length 4 ∧ But b w w') := take_bad 1 b a xs cap at' p w h (by omega)
  clear h hx
  go_enter Try.func99, Try.ntmps99
  go_wp2_with fail
  refine HT.out.mono ?_
  rintro e w1 ⟨rfl, hb1⟩
  exact ⟨rfl, rfl, hb1⟩

set_option maxRecDepth 100000 in
set_option maxHeartbeats 4000000 in
theorem rnumber_bad (q : Nat) (er : Int) (b : Nat) (a : Option Addr) (xs : List Int) (cap at' p : Nat) (w : World) (h : Rdr w b a xs cap at' p) (hby : By xs) (hr : Sp.rn xs at' 10 0 0 = .bad q er) :
    Calls Try.prog 101 #[.pointer (some ⟨b, 0, none⟩)] w fun e w' => e = Flt q er ∧ But b w w' := by
  have HBY : Hid (By xs) := hby
  have H0 : Hid (Sp.rn xs at' 10 0 0 = .bad q er ∧ Rdr w b a xs cap (at' + 0) p ∧ But b w w) := ⟨hr, h, But.refl h.lt⟩
  obtain ⟨c0, c1, c2, f1, f2, rd, cp, ln, le, np⟩ := h
  clear hby hr rd
  go_enter Try.func101, Try.ntmps101
  go_wp2_with fail
  go_loopw [4, 11] (fun u x wr => ∃ (k i n : Nat), u = .int .u64 (n : Int) ∧ x = .int .i64 (i : Int) ∧ i + k = 10 ∧ Hid (n < 128 ^ i ∧ Sp.rn xs at' k i n = .bad q er ∧ Rdr wr b a xs cap (at' + i) p ∧ But b w wr)) (fun _ x _ => 10 - (intOf x).toNat)
  case atStart => exact ⟨10, 0, 0, rfl, rfl, rfl, by decide, H0.out⟩
  case round =>
    obtain ⟨k, i, n, rfl, rfl, hik, HR⟩ := hrel
    clear H0 c0 c1 c2 f1 f2
    cases k with
    | zero =>
      have hi10 : ¬ ((i : Int) < 10) := by omega
      obtain ⟨hn, hrn, hrd, hbl⟩ := HR.out
      rw [Sp.rn] at hrn
      injection hrn with e1 e2
      subst e1
      subst e2
      have HF : Hid (But b w wr) := hbl
      clear hn hrd hbl HR
      go_wp2_with fail
      exact ⟨rfl, rfl, HF.out⟩
    | succ k =>
      have hi10 : (i : Int) < 10 := by omega
      obtain ⟨hn, hrn, hrd, hbl⟩ := HR.out
      cases hx : xs[at' + i]? with
      | none =>
        rw [Sp.rn, hx] at hrn
        injection hrn with e1 e2
        subst e1
        subst e2
        have HBT : Hid (Calls Try.prog 99 #[.pointer (some ⟨b, 0, none⟩)] wr fun e w' => e = Flt xs.length 4 ∧ But b wr w') := rbyte_bad b a xs cap (at' + i) p wr hrd hx
        have HBL : Hid (But b w wr) := hbl
        clear hn hrd hbl HR hx
        go_wp2_with fail
        refine HBT.out.mono ?_
        rintro e w1 ⟨rfl, hb1⟩
        exact ⟨rfl, rfl, HBL.out.trans hb1⟩
      | some c =>
        have hcb := HBY.out.get hx
        rw [Sp.rn, hx] at hrn
        simp only at hrn
        have HBT : Hid (Calls Try.prog 99 #[.pointer (some ⟨b, 0, none⟩)] wr fun e w' => e = .returned (.int .u8 c) ∧ Rdr w' b a xs cap (at' + i + 1) p ∧ But b wr w') := rbyte_ok c b a xs cap (at' + i) p wr hrd hx
        have HBL : Hid (But b w wr) := hbl
        by_cases hbad : (i = 9 ∧ 1 < c) ∨ (0 < i ∧ c = 0)
        · rw [if_pos hbad] at hrn
          injection hrn with e1 e2
          subst e1
          subst e2
          clear hn hrd hbl HR hx
          rcases hbad with ⟨hi9, hc1⟩ | ⟨hi0, hc0⟩
          · have b9 : ((i : Int) == 9) = true := by simp; omega
            clear hi9
            go_wp2_with (go_at_call 99; refine HBT.out.mono ?_; rintro e w1 ⟨rfl, hr1, hb1⟩; have HR1 : Hid (But b wr w1) := hb1; clear hr1 hb1)
            exact ⟨rfl, rfl, HBL.out.trans HR1.out⟩
          · have b0 : (0 : Int) < (i : Int) := by omega
            subst hc0
            by_cases hi9 : i = 9
            · have b9 : ((i : Int) == 9) = true := by simp; omega
              clear hi9
              go_wp2_with (go_at_call 99; refine HBT.out.mono ?_; rintro e w1 ⟨rfl, hr1, hb1⟩; have HR1 : Hid (But b wr w1) := hb1; clear hr1 hb1)
              exact ⟨rfl, rfl, HBL.out.trans HR1.out⟩
            · have b9 : ((i : Int) == 9) = false := by simp; omega
              clear hi9
              go_wp2_with (go_at_call 99; refine HBT.out.mono ?_; rintro e w1 ⟨rfl, hr1, hb1⟩; have HR1 : Hid (But b wr w1) := hb1; clear hr1 hb1)
              exact ⟨rfl, rfl, HBL.out.trans HR1.out⟩
        · rw [if_neg hbad] at hrn
          have hc : ¬ c < 128 := by
            intro hc; rw [if_pos hc] at hrn; simp at hrn
          have hi9 : i < 9 := by omega
          have hm : c.toNat % 128 * 128 ^ i < 18446744073709551616 := by
            have h8 : 128 ^ i ≤ 128 ^ 8 := Nat.pow_le_pow_right (by decide) (by omega)
            have h2 : c.toNat % 128 * 128 ^ i ≤ 127 * 128 ^ 8 := Nat.mul_le_mul (by omega) h8
            omega
          have han := andNot_128 c hcb.1 hcb.2
          have hor := or_join n (c.toNat % 128) i (by omega) hn hm
          have HHN : Hid (n < 128 ^ i) := hn
          clear hn hrd hbl HR hx
          have HOR : Hid (bits BinOp.or IntKind.u64 (n : Int) (IntKind.u64.wrap (c % 128 * 2 ^ (7 * i))) = ((n + c.toNat % 128 * 128 ^ i : Nat) : Int)) := by
            show _ = _
            have e1 : (c % 128 * 2 ^ (7 * i) : Int) = ((c.toNat % 128 * 128 ^ i : Nat) : Int) := by
              have e2 : (128 : Nat) ^ i = 2 ^ (7 * i) := by rw [Nat.pow_mul]
              rw [e2]
              push_cast
              rw [Int.toNat_of_nonneg hcb.1]
            rw [e1, IntKind.wrap_u64, Int.emod_eq_of_lt (by omega) (by omega)]
            exact hor
          have HNX : Hid (n + c.toNat % 128 * 128 ^ i < 128 ^ (i + 1)) := by
            show _ < _
            have h2 : c.toNat % 128 * 128 ^ i ≤ 127 * 128 ^ i := Nat.mul_le_mul_right _ (by omega)
            have h3 := HHN.out
            rw [Nat.pow_succ]; omega
          clear hor hm
          have b9 : ((i : Int) == 9) = false := by simp; omega
          have HRN : Hid (Sp.rn xs at' k (i + 1) (n + c.toNat % 128 * 128 ^ i) = .bad q er) := by
            show _ = _; rw [if_neg hc] at hrn; rw [show c.toNat % 128 = c.toNat - 128 by omega]; exact hrn
          clear hrn
          by_cases hi0 : 0 < i
          · have b0 : (0 : Int) < (i : Int) := by omega
            have bc : (c == 0) = false := by simp; omega
            go_wp2_with (go_at_call 99; refine HBT.out.mono ?_; rintro e w1 ⟨rfl, hr1, hb1⟩; have HR1 : Hid (Rdr w1 b a xs cap (at' + i + 1) p ∧ But b wr w1) := ⟨hr1, hb1⟩; clear hr1 hb1)
            go_roundw
            case rel => exact ⟨k, i + 1, n + c.toNat % 128 * 128 ^ i, by rw [HOR.out], by go_num, by omega, HNX.out, HRN.out, HR1.out.1, HBL.out.trans HR1.out.2⟩
            case measure => simp [intOf]; omega
          · have b0 : ¬ ((0 : Int) < (i : Int)) := by omega
            clear hi0
            go_wp2_with (go_at_call 99; refine HBT.out.mono ?_; rintro e w1 ⟨rfl, hr1, hb1⟩; have HR1 : Hid (Rdr w1 b a xs cap (at' + i + 1) p ∧ But b wr w1) := ⟨hr1, hb1⟩; clear hr1 hb1)
            go_roundw
            case rel => exact ⟨k, i + 1, n + c.toNat % 128 * 128 ^ i, by rw [HOR.out], by go_num, by omega, HNX.out, HRN.out, HR1.out.1, HBL.out.trans HR1.out.2⟩
            case measure => simp [intOf]; omega
end Go.Proofs.Ytkomcebknllaiaa

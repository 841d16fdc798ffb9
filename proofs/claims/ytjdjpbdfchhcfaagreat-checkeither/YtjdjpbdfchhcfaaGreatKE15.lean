/- walk.term, whole; value.Of. -/
import Derived.Test.YtjdjpbdfchhcfaaGreatKE14
import Derived.Test.YtjdjpbdfchhcfaaGreatKE3
import Derived.Test.YtjdjpbdfchhcfaaGreatKE13
namespace Go.Proofs.YtjdjpbdfchhcfaaGreat
open Go.RowKit

theorem ent_facts {w : World} {b : Nat} {p d n : Int} {o : Obj} (hw : Wk w b p d) {w1 : World} (h : ((w.alloc o).setCell ⟨b, 0, none⟩ (.int .i64 (p + 1))).setCell ⟨b, 1, none⟩ (.int .i64 (max d n)) = w1) :
    w1.heap[w.heap.size]? = some o ∧ Wk w1 b (p + 1) (max d n) ∧ Below b w w1 := by
  have hb := hw.lt
  subst h
  refine ⟨?_, (hw.same (Same.of_below ((Below.refl _ _).alloc (Nat.le_refl _) _) (Nat.le_refl w.heap.size)) hb).set _ _, ?_⟩
  · rw [heap_setCell_other _ _ _ _ (by show w.heap.size ≠ b; omega), heap_setCell_other _ _ _ _ (by show w.heap.size ≠ b; omega)]; exact heap_alloc_new w o
  · exact (((Below.refl _ _).alloc (by omega) _).setCell (p := ⟨b, 0, none⟩) (Nat.le_refl b) _).setCell (p := ⟨b, 1, none⟩) (Nat.le_refl b) _
theorem wk_box {w : World} {b : Nat} {p d : Int} (hw : Wk w b p d) (o : Obj) : Wk (w.alloc o) b p d := hw.same (Same.of_below ((Below.refl _ _).alloc (Nat.le_refl _) _) (Nat.le_refl w.heap.size)) hw.lt

section
variable (bo : Bool) (i : Int) (f : Nat) (tx : ByteArray) (ab : Option Addr) (nb cb : Nat) (rf : Int) (al : Option Addr) (nl cl : Nat) (af : Option Addr) (nf cf : Nat) (c : ByteArray) (vr : Int) (b : Nat) (p d n : Int) (w : World)
set_option maxRecDepth 100000 in
set_option maxHeartbeats 1000000 in
theorem term_err (k : Int) (hw : Wk w b p d) (hp : 0 ≤ p) (hp' : p ≤ 16384) (he : Sp.ent k p n ≠ 0) :
    Calls Tryz.prog 126 #[.pointer (some ⟨b, 0, none⟩), .agg (tcells k bo i f tx (.slice ab nb cb) rf (.slice al nl cl) (.slice af nf cf) c vr), .int .i64 n] w fun e w' => e = .returned (.int .i64 (Sp.ent k p n)) ∧ Wk w' b (p + 1) (max d n) ∧ Below b w w' := by
  unfold tcells
  have HW : Hid (Wk w b p d) := hw
  clear hw
  have he' := ne_bool he
  clear he
  go_enter Tryz.func126, Tryz.ntmps126
  go_wp2_with (go_at_call 116; refine (enter_any b p d _ _ _ (wk_box HW.out _) hp (by omega)).mono ?_; rintro e w1 ⟨rfl, hw1⟩; obtain ⟨hx1, hk1, hb1⟩ := ent_facts HW.out hw1; obtain ⟨t0, t1, t2, t3, t4, t5, t6, t7, t8, t9, t10⟩ := tbox hx1; clear hw1 hx1; have HK1 : Hid _ := hk1; have HB1 : Hid _ := hb1; clear hk1 hb1)
  go_ret
  exact ⟨rfl, HK1.out, HB1.out⟩
set_option maxRecDepth 100000 in
set_option maxHeartbeats 1000000 in
theorem term_plain (k : Int) (hw : Wk w b p d) (hp : 0 ≤ p) (hp' : p ≤ 16384) (he : Sp.ent k p n = 0) (h5 : k ≠ 5) (h6 : k ≠ 6) (h8 : k ≠ 8) (h9 : k ≠ 9) (h10 : k ≠ 10) :
    Calls Tryz.prog 126 #[.pointer (some ⟨b, 0, none⟩), .agg (tcells k bo i f tx (.slice ab nb cb) rf (.slice al nl cl) (.slice af nf cf) c vr), .int .i64 n] w fun e w' => e = .returned (.int .i64 (0)) ∧ Wk w' b (p + 1) (max d n) ∧ Below b w w' := by
  unfold tcells
  have HW : Hid (Wk w b p d) := hw
  clear hw
  have b5 : (k == 5) = false := by simp [h5]
  have b6 : (k == 6) = false := by simp [h6]
  have b8 : (k == 8) = false := by simp [h8]
  have b9 : (k == 9) = false := by simp [h9]
  have b10 : (k == 10) = false := by simp [h10]
  clear h5 h6 h8 h9 h10
  go_enter Tryz.func126, Tryz.ntmps126
  go_wp2_with (go_at_call 116; refine (enter_any b p d _ _ _ (wk_box HW.out _) hp (by omega)).mono ?_; rintro e w1 ⟨rfl, hw1⟩; obtain ⟨hx1, hk1, hb1⟩ := ent_facts HW.out hw1; obtain ⟨t0, t1, t2, t3, t4, t5, t6, t7, t8, t9, t10⟩ := tbox hx1; clear hw1 hx1; have HK1 : Hid _ := hk1; have HB1 : Hid _ := hb1; clear hk1 hb1)
  go_ret
  exact ⟨rfl, HK1.out, HB1.out⟩
set_option maxRecDepth 100000 in
set_option maxHeartbeats 1000000 in
theorem term_5 (hw : Wk w b p d) (hp : 0 ≤ p) (hp' : p ≤ 16384) (he : Sp.ent 5 p n = 0) :
    Calls Tryz.prog 126 #[.pointer (some ⟨b, 0, none⟩), .agg (tcells 5 bo i f tx (.slice ab nb cb) rf (.slice al nl cl) (.slice af nf cf) c vr), .int .i64 n] w fun e w' => e = .returned (.int .i64 (Sp.len tx.size 65536)) ∧ Wk w' b (p + 1) (max d n) ∧ Below b w w' := by
  unfold tcells
  have HW : Hid (Wk w b p d) := hw
  clear hw
  go_enter Tryz.func126, Tryz.ntmps126
  go_wp2_with (first | (go_at_call 116; refine (enter_any b p d _ _ _ (wk_box HW.out _) hp (by omega)).mono ?_; rintro e w1 ⟨rfl, hw1⟩; obtain ⟨hx1, hk1, hb1⟩ := ent_facts HW.out hw1; obtain ⟨t0, t1, t2, t3, t4, t5, t6, t7, t8, t9, t10⟩ := tbox hx1; clear hw1 hx1; have HK1 : Hid _ := hk1; have HB1 : Hid _ := hb1; clear hk1 hb1) | (go_at_call 117; refine (lengthRule_any _ _ _).mono ?_; rintro e w' ⟨rfl, rfl⟩))
  go_ret
  exact ⟨rfl, HK1.out, HB1.out⟩
set_option maxRecDepth 100000 in
set_option maxHeartbeats 1000000 in
theorem term_6 (hw : Wk w b p d) (hp : 0 ≤ p) (hp' : p ≤ 16384) (he : Sp.ent 6 p n = 0) :
    Calls Tryz.prog 126 #[.pointer (some ⟨b, 0, none⟩), .agg (tcells 6 bo i f tx (.slice ab nb cb) rf (.slice al nl cl) (.slice af nf cf) c vr), .int .i64 n] w fun e w' => e = .returned (.int .i64 (Sp.len nb 65536)) ∧ Wk w' b (p + 1) (max d n) ∧ Below b w w' := by
  unfold tcells
  have HW : Hid (Wk w b p d) := hw
  clear hw
  go_enter Tryz.func126, Tryz.ntmps126
  go_wp2_with (first | (go_at_call 116; refine (enter_any b p d _ _ _ (wk_box HW.out _) hp (by omega)).mono ?_; rintro e w1 ⟨rfl, hw1⟩; obtain ⟨hx1, hk1, hb1⟩ := ent_facts HW.out hw1; obtain ⟨t0, t1, t2, t3, t4, t5, t6, t7, t8, t9, t10⟩ := tbox hx1; clear hw1 hx1; have HK1 : Hid _ := hk1; have HB1 : Hid _ := hb1; clear hk1 hb1) | (go_at_call 117; refine (lengthRule_any _ _ _).mono ?_; rintro e w' ⟨rfl, rfl⟩))
  go_ret
  exact ⟨rfl, HK1.out, HB1.out⟩
set_option maxRecDepth 100000 in
set_option maxHeartbeats 1000000 in
theorem term_8 (hw : Wk w b p d) (hp : 0 ≤ p) (hp' : p ≤ 16384) (he : Sp.ent 8 p n = 0) (R : Wr) (h : ∀ W, Below b w W → Wk W b (p + 1) (max d n) → Calls Tryz.prog 134 #[.pointer (some ⟨b, 0, none⟩), .slice al nl cl, .int .i64 n] W fun e w' => e = .returned (.int .i64 R.e) ∧ Wk w' b R.p R.d ∧ Below b W w') :
    Calls Tryz.prog 126 #[.pointer (some ⟨b, 0, none⟩), .agg (tcells 8 bo i f tx (.slice ab nb cb) rf (.slice al nl cl) (.slice af nf cf) c vr), .int .i64 n] w fun e w' => e = .returned (.int .i64 (R.e)) ∧ Wk w' b R.p R.d ∧ Below b w w' := by
  unfold tcells
  have HW : Hid (Wk w b p d) := hw
  clear hw
  have HX : Hid _ := h
  clear h
  go_enter Tryz.func126, Tryz.ntmps126
  go_wp2_with (first | (go_at_call 116; refine (enter_any b p d _ _ _ (wk_box HW.out _) hp (by omega)).mono ?_; rintro e w1 ⟨rfl, hw1⟩; obtain ⟨hx1, hk1, hb1⟩ := ent_facts HW.out hw1; obtain ⟨t0, t1, t2, t3, t4, t5, t6, t7, t8, t9, t10⟩ := tbox hx1; clear hw1 hx1; have HK1 : Hid _ := hk1; have HB1 : Hid _ := hb1; clear hk1 hb1) | (go_at_call 134; refine (HX.out _ HB1.out HK1.out).mono ?_; rintro e w2 ⟨rfl, hk2, hb2⟩))
  go_ret
  exact ⟨rfl, hk2, HB1.out.trans hb2⟩
set_option maxRecDepth 100000 in
set_option maxHeartbeats 1000000 in
theorem term_9 (hw : Wk w b p d) (hp : 0 ≤ p) (hp' : p ≤ 16384) (he : Sp.ent 9 p n = 0) (R : Wr) (h : ∀ W, Below b w W → Wk W b (p + 1) (max d n) → Calls Tryz.prog 135 #[.pointer (some ⟨b, 0, none⟩), .slice af nf cf, .int .i64 n] W fun e w' => e = .returned (.int .i64 R.e) ∧ Wk w' b R.p R.d ∧ Below b W w') :
    Calls Tryz.prog 126 #[.pointer (some ⟨b, 0, none⟩), .agg (tcells 9 bo i f tx (.slice ab nb cb) rf (.slice al nl cl) (.slice af nf cf) c vr), .int .i64 n] w fun e w' => e = .returned (.int .i64 (R.e)) ∧ Wk w' b R.p R.d ∧ Below b w w' := by
  unfold tcells
  have HW : Hid (Wk w b p d) := hw
  clear hw
  have HX : Hid _ := h
  clear h
  go_enter Tryz.func126, Tryz.ntmps126
  go_wp2_with (first | (go_at_call 116; refine (enter_any b p d _ _ _ (wk_box HW.out _) hp (by omega)).mono ?_; rintro e w1 ⟨rfl, hw1⟩; obtain ⟨hx1, hk1, hb1⟩ := ent_facts HW.out hw1; obtain ⟨t0, t1, t2, t3, t4, t5, t6, t7, t8, t9, t10⟩ := tbox hx1; clear hw1 hx1; have HK1 : Hid _ := hk1; have HB1 : Hid _ := hb1; clear hk1 hb1) | (go_at_call 135; refine (HX.out _ HB1.out HK1.out).mono ?_; rintro e w2 ⟨rfl, hk2, hb2⟩))
  go_ret
  exact ⟨rfl, hk2, HB1.out.trans hb2⟩
set_option maxRecDepth 100000 in
set_option maxHeartbeats 1000000 in
theorem term_10 (hw : Wk w b p d) (hp : 0 ≤ p) (hp' : p ≤ 16384) (he : Sp.ent 10 p n = 0) (hs : c.size ≤ maxLen) (hh : Sp.headR c vr = 0) (R : Wr) (h : ∀ W, Below b w W → Wk W b (p + 1) (max d n) → Calls Tryz.prog 135 #[.pointer (some ⟨b, 0, none⟩), .slice af nf cf, .int .i64 n] W fun e w' => e = .returned (.int .i64 R.e) ∧ Wk w' b R.p R.d ∧ Below b W w') :
    Calls Tryz.prog 126 #[.pointer (some ⟨b, 0, none⟩), .agg (tcells 10 bo i f tx (.slice ab nb cb) rf (.slice al nl cl) (.slice af nf cf) c vr), .int .i64 n] w fun e w' => e = .returned (.int .i64 (R.e)) ∧ Wk w' b R.p R.d ∧ Below b w w' := by
  unfold tcells
  have HW : Hid (Wk w b p d) := hw
  clear hw
  have HX : Hid _ := h
  clear h
  go_enter Tryz.func126, Tryz.ntmps126
  go_wp2_with (first | (go_at_call 116; refine (enter_any b p d _ _ _ (wk_box HW.out _) hp (by omega)).mono ?_; rintro e w1 ⟨rfl, hw1⟩; obtain ⟨hx1, hk1, hb1⟩ := ent_facts HW.out hw1; obtain ⟨t0, t1, t2, t3, t4, t5, t6, t7, t8, t9, t10⟩ := tbox hx1; clear hw1 hx1; have HK1 : Hid _ := hk1; have HB1 : Hid _ := hb1; clear hk1 hb1) | (go_at_call 120; refine (headRule_any _ _ _ hs).mono ?_; rintro e w' ⟨rfl, rfl⟩) | (go_at_call 135; refine (HX.out _ HB1.out HK1.out).mono ?_; rintro e w2 ⟨rfl, hk2, hb2⟩))
  go_ret
  exact ⟨rfl, hk2, HB1.out.trans hb2⟩
set_option maxRecDepth 100000 in
set_option maxHeartbeats 1000000 in
theorem term_head (hw : Wk w b p d) (hp : 0 ≤ p) (hp' : p ≤ 16384) (he : Sp.ent 10 p n = 0) (hs : c.size ≤ maxLen) (hh : Sp.headR c vr ≠ 0) :
    Calls Tryz.prog 126 #[.pointer (some ⟨b, 0, none⟩), .agg (tcells 10 bo i f tx (.slice ab nb cb) rf (.slice al nl cl) (.slice af nf cf) c vr), .int .i64 n] w fun e w' => e = .returned (.int .i64 (Sp.headR c vr)) ∧ Wk w' b (p + 1) (max d n) ∧ Below b w w' := by
  unfold tcells
  have HW : Hid (Wk w b p d) := hw
  clear hw
  have hh' := ne_bool hh
  clear hh
  go_enter Tryz.func126, Tryz.ntmps126
  go_wp2_with (first | (go_at_call 116; refine (enter_any b p d _ _ _ (wk_box HW.out _) hp (by omega)).mono ?_; rintro e w1 ⟨rfl, hw1⟩; obtain ⟨hx1, hk1, hb1⟩ := ent_facts HW.out hw1; obtain ⟨t0, t1, t2, t3, t4, t5, t6, t7, t8, t9, t10⟩ := tbox hx1; clear hw1 hx1; have HK1 : Hid _ := hk1; have HB1 : Hid _ := hb1; clear hk1 hb1) | (go_at_call 120; refine (headRule_any _ _ _ hs).mono ?_; rintro e w' ⟨rfl, rfl⟩))
  go_ret
  exact ⟨rfl, HK1.out, HB1.out⟩
end

set_option maxHeartbeats 1000000 in
theorem term_any (N : Nat) : TermC N := by
  induction N with
  | zero => intro t ht; cases t; simp [Tm.sz] at ht
  | succ N ih =>
    intro t hN b cs p d n w hw h hp hp' hn hn'
    cases t with
    | mk k bo i f tx by' rf l fs c vr =>
      have hlN : l.sz ≤ N ∧ fs.sz ≤ N := by simp [Tm.sz] at hN; omega
      simp only [Tm.In] at h
      obtain ⟨ab, cb, al, cl, af, cf, rfl, hbd, hby, hl, hfs⟩ := h
      have hcl : c.size ≤ maxLen := by unfold maxLen; have := hbd.c; omega
      by_cases he : Sp.ent k p n ≠ 0
      · rw [Tm.wk_ent he]; exact term_err bo i f tx ab _ cb rf al _ cl af _ cf c vr b p d n w k hw hp hp' he
      · have he := Decidable.not_not.1 he
        have hz := Sp.ent_zero he
        have HT : ∀ W, Below b w W → Wk W b (p + 1) (max d n) → Calls Tryz.prog 134 #[.pointer (some ⟨b, 0, none⟩), .slice al l.len cl, .int .i64 n] W fun e w' => e = .returned (.int .i64 (l.wkR n (p + 1) (max d n)).e) ∧ Wk w' b (l.wkR n (p + 1) (max d n)).p (l.wkR n (p + 1) (max d n)).d ∧ Below b W w' := fun W hW hk =>
          terms_any N ih l hlN.1 b al cl (p + 1) (max d n) n W hk (l.In_same (Same.of_below hW (Nat.le_refl _)) (fun _ h => h) al 0 hl) hbd.nl (by omega) (by omega) hn (by omega)
        have HF : ∀ W, Below b w W → Wk W b (p + 1) (max d n) → Calls Tryz.prog 135 #[.pointer (some ⟨b, 0, none⟩), .slice af fs.len cf, .int .i64 n] W fun e w' => e = .returned (.int .i64 (fs.wkR n (p + 1) (max d n)).e) ∧ Wk w' b (fs.wkR n (p + 1) (max d n)).p (fs.wkR n (p + 1) (max d n)).d ∧ Below b W w' := fun W hW hk =>
          entries_any N ih fs hlN.2 b af cf (p + 1) (max d n) n W hk (fs.In_same (Same.of_below hW (Nat.le_refl _)) (fun _ h => h) af 0 hfs) hbd.nf (by omega) (by omega) hn (by omega)
        by_cases k5 : k = 5
        · subst k5; rw [Tm.wk_5 he]; exact term_5 bo i f tx ab _ cb rf al _ cl af _ cf c vr b p d n w hw hp hp' he
        by_cases k6 : k = 6
        · subst k6; rw [Tm.wk_6 he]; exact term_6 bo i f tx ab _ cb rf al _ cl af _ cf c vr b p d n w hw hp hp' he
        by_cases k8 : k = 8
        · subst k8; rw [Tm.wk_8 he]; exact term_8 bo i f tx ab _ cb rf al _ cl af _ cf c vr b p d n w hw hp hp' he _ HT
        by_cases k9 : k = 9
        · subst k9; rw [Tm.wk_9 he]; exact term_9 bo i f tx ab _ cb rf al _ cl af _ cf c vr b p d n w hw hp hp' he _ HF
        by_cases k10 : k = 10
        · subst k10
          by_cases hh : Sp.headR c vr = 0
          · rw [Tm.wk_10 he hh]; exact term_10 bo i f tx ab _ cb rf al _ cl af _ cf c vr b p d n w hw hp hp' he hcl hh _ HF
          · rw [Tm.wk_10' he hh]; exact term_head bo i f tx ab _ cb rf al _ cl af _ cf c vr b p d n w hw hp hp' he hcl hh
        rw [Tm.wk_else he k5 k6 k8 k9 k10]; exact term_plain bo i f tx ab _ cb rf al _ cl af _ cf c vr b p d n w k hw hp hp' he k5 k6 k8 k9 k10
end Go.Proofs.YtjdjpbdfchhcfaaGreat


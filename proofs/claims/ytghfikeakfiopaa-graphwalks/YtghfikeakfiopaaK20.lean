/- tenonlaw14.GraphWalks' two literals that are handed to Walk: they make the statement's visitor. -/
import Derived.Test.YtghfikeakfiopaaK19
namespace Go.Proofs.Ytghfikeakfiopaa
open Go.RowKit Go.ChangeMaps

def BlS (w0 : World) (M : Nat → Prop) (a : Option Addr) (l : List Bool) : Prop := ∀ t b, l[t]? = some b → ∃ g o, a = some ⟨g, o, none⟩ ∧ g < w0.heap.size ∧ ¬ M g ∧ w0.cell? ⟨g, o + t, none⟩ = some (.bool b)
section
variable {w0 W : World} {ob nb eb lb vp vb pb : Nat} {P : Int} {gs : Option Nat} {c : Nat} {D : List (Int × Bool)} {s : VS}
theorem LwI.lentPut (hS : LwS w0 ob nb eb lb vp vb pb P gs c D) (h : LwI w0 ob nb eb lb D s W) : LwI w0 ob nb eb lb D ⟨s.calls, s.en + 1, s.le⟩ (W.setCell ⟨eb, 0, none⟩ (.int .i64 (wrap64 ((s.en + 1 : Nat) : Int)))) := by
  obtain ⟨a1, a2, a3, a4, a5, a6⟩ := hS.ap
  have e1 : ∀ k, k ≠ eb → (W.setCell ⟨eb, 0, none⟩ (.int .i64 (wrap64 ((s.en + 1 : Nat) : Int)))).heap[k]? = W.heap[k]? := fun k hk => Below.heap_setCell W _ _ k hk
  refine ⟨(e1 ob a2).trans h.ok, (e1 nb a4).trans h.n, box_put h.en, (e1 lb (Ne.symm a6)).trans h.le, ?_⟩
  exact h.fr.set (M := LM ob nb eb lb) (.inl (.inr (.inr (.inl rfl)))) _
set_option maxRecDepth 100000 in
set_option maxHeartbeats 8000000 in
theorem lent_any (hS : LwS w0 ob nb eb lb vp vb pb P gs c D) (h : LwI w0 ob nb eb lb D s W) (cb xb : Nat) (a : Option Addr) (l : List Bool) (cp : Nat) (hc : w0.cell? ⟨cb, 0, none⟩ = some (.func (.func 6) #[] #[.pointer (some ⟨ob, 0, none⟩), .pointer (some ⟨nb, 0, none⟩), .pointer (some ⟨vp, 0, none⟩), .pointer (some ⟨pb, 0, none⟩)]) ∧ cb < w0.heap.size ∧ ¬ LM ob nb eb lb cb)
    (hx : w0.cell? ⟨xb, 0, none⟩ = some (.slice a l.length cp) ∧ xb < w0.heap.size ∧ ¬ LM ob nb eb lb xb) (hb : BlS w0 (LM ob nb eb lb) a l) (hl : l.length < 9223372036854775808) (x : Int) :
    Calls Try.prog 10 #[.int .u64 x, .pointer (some ⟨cb, 0, none⟩), .pointer (some ⟨eb, 0, none⟩), .pointer (some ⟨xb, 0, none⟩)] W fun e W' =>
      BEnd (if wrap64 (((s.calls ++ [(x, false)]).length : Nat) : Int) = P then none else Sp.opt l s.en) e ∧ LwI w0 ob nb eb lb D (if wrap64 (((s.calls ++ [(x, false)]).length : Nat) : Int) = P then ⟨s.calls ++ [(x, false)], s.en, s.le⟩ else ⟨s.calls ++ [(x, false)], s.en + 1, s.le⟩) W' ∧ Kw (LM ob nb eb lb) W W' := by
  have k1 : W.cell? ⟨cb, 0, none⟩ = some (.func (.func 6) #[] #[.pointer (some ⟨ob, 0, none⟩), .pointer (some ⟨nb, 0, none⟩), .pointer (some ⟨vp, 0, none⟩), .pointer (some ⟨pb, 0, none⟩)]) := by rw [h.st hc.2.1 hc.2.2]; exact hc.1
  have HC := lcall_any hS h x false
  unfold LcE at HC
  have HS : Hid (LwS w0 ob nb eb lb vp vb pb P gs c D) := hS
  have HX : Hid (w0.cell? ⟨xb, 0, none⟩ = some (.slice a l.length cp) ∧ xb < w0.heap.size ∧ ¬ LM ob nb eb lb xb) := hx
  have HB : Hid (BlS w0 (LM ob nb eb lb) a l) := hb
  have hlb : l.length < 9223372036854775808 := hl
  clear hS h hc hx hb hl
  by_cases hP : wrap64 (((s.calls ++ [(x, false)]).length : Nat) : Int) = P
  · simp only [if_pos hP] at HC ⊢
    go_enter Try.func10, Try.ntmps10
    go_wp2_with fail
    refine HC.mono ?_
    rintro e w1 ⟨⟨v, rfl⟩, h1, h2⟩
    exact ⟨rfl, ⟨v, rfl⟩, h1, h2⟩
  · simp only [if_neg hP] at HC ⊢
    clear hP
    obtain ⟨z, hz⟩ : ∃ z, wrap64 ((s.en : Nat) : Int) = z := ⟨_, rfl⟩
    obtain ⟨z', hz'⟩ : ∃ z', wrap64 ((s.en + 1 : Nat) : Int) = z' := ⟨_, rfl⟩
    have hzz : wrap64 (z + 1) = z' := by rw [← hz, ← hz', w64_next]
    have hrng : -9223372036854775808 ≤ z' ∧ z' < 9223372036854775808 := by rw [← hz']; unfold wrap64; omega
    have HO : Hid (Sp.opt l s.en = if z' ≤ 0 then none else some (l.getD (z'.toNat - 1) true)) := by
      show _ = _
      unfold Sp.opt
      rw [IntWalk.i64_left, hz']
    have HW : Hid (∀ w1, LwI w0 ob nb eb lb D ⟨s.calls ++ [(x, false)], s.en, s.le⟩ w1 → Kw (LM ob nb eb lb) W w1 → LwI w0 ob nb eb lb D ⟨s.calls ++ [(x, false)], s.en + 1, s.le⟩ (w1.setCell ⟨eb, 0, none⟩ (.int .i64 z')) ∧ Kw (LM ob nb eb lb) W (w1.setCell ⟨eb, 0, none⟩ (.int .i64 z'))) := fun w1 h1 h2 => by
      have := h1.lentPut HS.out
      simp only [hz'] at this
      exact ⟨this, h2.set (M := LM ob nb eb lb) (.inl (.inr (.inr (.inl rfl)))) _⟩
    have HFC : Hid (∀ w1, LwI w0 ob nb eb lb D ⟨s.calls ++ [(x, false)], s.en, s.le⟩ w1 → w1.cell? ⟨eb, 0, none⟩ = some (.int .i64 z) ∧ w1.frozen? ⟨eb, 0, none⟩ = false) := fun w1 h1 => by
      have := h1.en
      rw [hz] at this
      exact ⟨by simp [World.cell?, this], by simp [World.frozen?, this]⟩
    clear hz hz'
    generalize Sp.opt l s.en = RES at HO ⊢
    rcases Int.lt_or_le (l.length : Int) z' with hgt | hle
    · have HR : Hid (RES = some true) := by
        show _ = _
        rw [HO.out, if_neg (by omega), List.getD_eq_getElem?_getD, List.getElem?_eq_none (by omega)]; rfl
      clear HO HB
      go_enter Try.func10, Try.ntmps10
      go_wp2_with fail
      refine HC.mono ?_
      rintro e w1 ⟨rfl, h1, h2⟩
      obtain ⟨d1, d2⟩ := HFC.out w1 h1
      obtain ⟨w3, hw3⟩ : ∃ w3, w1.setCell ⟨eb, 0, none⟩ (.int .i64 z') = w3 := ⟨_, rfl⟩
      have HE := HW.out w1 h1 h2
      rw [hw3] at HE
      have d3 : w3.cell? ⟨xb, 0, none⟩ = some (.slice a l.length cp) := by rw [HE.1.st HX.out.2.1 HX.out.2.2]; exact HX.out.1
      have d4 : w3.cell? ⟨eb, 0, none⟩ = some (.int .i64 z') := by rw [← hw3]; simp [World.cell?, box_put h1.en]
      have HEE : Hid _ := HE
      clear h1 h2 HE HC k1
      go_wp2_with fail
      go_ret
      rw [HR.out]
      exact ⟨rfl, HEE.out⟩
    · have hng : ¬ (l.length : Int) < z' := by omega
      by_cases hz0 : z' ≤ 0
      · have HR : Hid (RES = none) := by
          show _ = _
          rw [HO.out, if_pos hz0]
        have hbad : ¬ (0 ≤ wrap64 (z' - 1) ∧ wrap64 (z' - 1) < (l.length : Int)) := by unfold wrap64; omega
        clear HO HB
        go_enter Try.func10, Try.ntmps10
        go_wp2_with fail
        refine HC.mono ?_
        rintro e w1 ⟨rfl, h1, h2⟩
        obtain ⟨d1, d2⟩ := HFC.out w1 h1
        obtain ⟨w3, hw3⟩ : ∃ w3, w1.setCell ⟨eb, 0, none⟩ (.int .i64 z') = w3 := ⟨_, rfl⟩
        have HE := HW.out w1 h1 h2
        rw [hw3] at HE
        have d3 : w3.cell? ⟨xb, 0, none⟩ = some (.slice a l.length cp) := by rw [HE.1.st HX.out.2.1 HX.out.2.2]; exact HX.out.1
        have d4 : w3.cell? ⟨eb, 0, none⟩ = some (.int .i64 z') := by rw [← hw3]; simp [World.cell?, box_put h1.en]
        obtain ⟨pv, w4, hix, hb4⟩ := idx_ob a l.length cp (wrap64 (z' - 1)) hbad w3
        have HEE : Hid (LwI w0 ob nb eb lb D ⟨s.calls ++ [(x, false)], s.en + 1, s.le⟩ w4 ∧ Kw (LM ob nb eb lb) W w4) := ⟨HE.1.keep HS.out hb4.size (fun k k1 _ => hb4.block k k1) hb4.os hb4.tape hb4.output, HE.2.trans ⟨hb4.os, hb4.tape, hb4.output, hb4.size, fun j j1 _ => hb4.block j j1⟩⟩
        clear h1 h2 HE HC k1 hb4
        go_wp2_with fail
        rw [HR.out]
        exact ⟨rfl, ⟨_, rfl⟩, HEE.out⟩
      · obtain ⟨t, ht⟩ : ∃ t : Nat, z' = (t : Int) + 1 := ⟨(z' - 1).toNat, by omega⟩
        have htl : t < l.length := by omega
        have htz : (t : Int) < (l.length : Int) := by omega
        obtain ⟨b, hbt⟩ : ∃ b, l[t]? = some b := ⟨_, List.getElem?_eq_getElem htl⟩
        obtain ⟨g, o, rfl, hg1, hg2, hg3⟩ := HB.out t b hbt
        have HG : Hid (g < w0.heap.size ∧ ¬ LM ob nb eb lb g ∧ w0.cell? ⟨g, o + t, none⟩ = some (.bool b)) := ⟨hg1, hg2, hg3⟩
        have HR : Hid (RES = some b) := by
          show _ = _
          rw [HO.out, if_neg hz0, ht, show ((t : Int) + 1).toNat - 1 = t by omega, List.getD_eq_getElem?_getD, hbt]; rfl
        clear HO HB hbt hg1 hg2 hg3 hz0 hle hrng
        subst ht
        have hngb : decide ((l.length : Int) < (t : Int) + 1) = false := decide_eq_false (by omega)
        go_enter Try.func10, Try.ntmps10
        go_wp2_with fail
        refine HC.mono ?_
        rintro e w1 ⟨rfl, h1, h2⟩
        obtain ⟨d1, d2⟩ := HFC.out w1 h1
        obtain ⟨w3, hw3⟩ : ∃ w3, w1.setCell ⟨eb, 0, none⟩ (.int .i64 ((t : Int) + 1)) = w3 := ⟨_, rfl⟩
        have HE := HW.out w1 h1 h2
        rw [hw3] at HE
        have d3 : w3.cell? ⟨xb, 0, none⟩ = some (.slice (some ⟨g, o, none⟩) l.length cp) := by rw [HE.1.st HX.out.2.1 HX.out.2.2]; exact HX.out.1
        have d4 : w3.cell? ⟨eb, 0, none⟩ = some (.int .i64 ((t : Int) + 1)) := by rw [← hw3]; simp [World.cell?, box_put h1.en]
        have d5 : w3.cell? ⟨g, o + t, none⟩ = some (.bool b) := by rw [HE.1.st HG.out.1 HG.out.2.1]; exact HG.out.2.2
        have HEE : Hid _ := HE
        clear h1 h2 HE HC k1
        go_wp2_with fail
        go_ret
        rw [HR.out]
        exact ⟨rfl, HEE.out⟩
theorem LwI.llevPut (hS : LwS w0 ob nb eb lb vp vb pb P gs c D) (h : LwI w0 ob nb eb lb D s W) : LwI w0 ob nb eb lb D ⟨s.calls, s.en, s.le + 1⟩ (W.setCell ⟨lb, 0, none⟩ (.int .i64 (wrap64 ((s.le + 1 : Nat) : Int)))) := by
  obtain ⟨a1, a2, a3, a4, a5, a6⟩ := hS.ap
  have e1 : ∀ k, k ≠ lb → (W.setCell ⟨lb, 0, none⟩ (.int .i64 (wrap64 ((s.le + 1 : Nat) : Int)))).heap[k]? = W.heap[k]? := fun k hk => Below.heap_setCell W _ _ k hk
  refine ⟨(e1 ob a3).trans h.ok, (e1 nb a5).trans h.n, (e1 eb a6).trans h.en, box_put h.le, ?_⟩
  exact h.fr.set (M := LM ob nb eb lb) (.inl (.inr (.inr (.inr rfl)))) _
set_option maxRecDepth 100000 in
set_option maxHeartbeats 8000000 in
theorem llev_any (hS : LwS w0 ob nb eb lb vp vb pb P gs c D) (h : LwI w0 ob nb eb lb D s W) (cb xb : Nat) (a : Option Addr) (l : List Bool) (cp : Nat) (hc : w0.cell? ⟨cb, 0, none⟩ = some (.func (.func 6) #[] #[.pointer (some ⟨ob, 0, none⟩), .pointer (some ⟨nb, 0, none⟩), .pointer (some ⟨vp, 0, none⟩), .pointer (some ⟨pb, 0, none⟩)]) ∧ cb < w0.heap.size ∧ ¬ LM ob nb eb lb cb)
    (hx : w0.cell? ⟨xb, 0, none⟩ = some (.slice a l.length cp) ∧ xb < w0.heap.size ∧ ¬ LM ob nb eb lb xb) (hb : BlS w0 (LM ob nb eb lb) a l) (hl : l.length < 9223372036854775808) (x : Int) :
    Calls Try.prog 11 #[.int .u64 x, .pointer (some ⟨cb, 0, none⟩), .pointer (some ⟨lb, 0, none⟩), .pointer (some ⟨xb, 0, none⟩)] W fun e W' =>
      BEnd (if wrap64 (((s.calls ++ [(x, true)]).length : Nat) : Int) = P then none else Sp.opt l s.le) e ∧ LwI w0 ob nb eb lb D (if wrap64 (((s.calls ++ [(x, true)]).length : Nat) : Int) = P then ⟨s.calls ++ [(x, true)], s.en, s.le⟩ else ⟨s.calls ++ [(x, true)], s.en, s.le + 1⟩) W' ∧ Kw (LM ob nb eb lb) W W' := by
  have k1 : W.cell? ⟨cb, 0, none⟩ = some (.func (.func 6) #[] #[.pointer (some ⟨ob, 0, none⟩), .pointer (some ⟨nb, 0, none⟩), .pointer (some ⟨vp, 0, none⟩), .pointer (some ⟨pb, 0, none⟩)]) := by rw [h.st hc.2.1 hc.2.2]; exact hc.1
  have HC := lcall_any hS h x true
  unfold LcE at HC
  have HS : Hid (LwS w0 ob nb eb lb vp vb pb P gs c D) := hS
  have HX : Hid (w0.cell? ⟨xb, 0, none⟩ = some (.slice a l.length cp) ∧ xb < w0.heap.size ∧ ¬ LM ob nb eb lb xb) := hx
  have HB : Hid (BlS w0 (LM ob nb eb lb) a l) := hb
  have hlb : l.length < 9223372036854775808 := hl
  clear hS h hc hx hb hl
  by_cases hP : wrap64 (((s.calls ++ [(x, true)]).length : Nat) : Int) = P
  · simp only [if_pos hP] at HC ⊢
    go_enter Try.func11, Try.ntmps11
    go_wp2_with fail
    refine HC.mono ?_
    rintro e w1 ⟨⟨v, rfl⟩, h1, h2⟩
    exact ⟨rfl, ⟨v, rfl⟩, h1, h2⟩
  · simp only [if_neg hP] at HC ⊢
    clear hP
    obtain ⟨z, hz⟩ : ∃ z, wrap64 ((s.le : Nat) : Int) = z := ⟨_, rfl⟩
    obtain ⟨z', hz'⟩ : ∃ z', wrap64 ((s.le + 1 : Nat) : Int) = z' := ⟨_, rfl⟩
    have hzz : wrap64 (z + 1) = z' := by rw [← hz, ← hz', w64_next]
    have hrng : -9223372036854775808 ≤ z' ∧ z' < 9223372036854775808 := by rw [← hz']; unfold wrap64; omega
    have HO : Hid (Sp.opt l s.le = if z' ≤ 0 then none else some (l.getD (z'.toNat - 1) true)) := by
      show _ = _
      unfold Sp.opt
      rw [IntWalk.i64_left, hz']
    have HW : Hid (∀ w1, LwI w0 ob nb eb lb D ⟨s.calls ++ [(x, true)], s.en, s.le⟩ w1 → Kw (LM ob nb eb lb) W w1 → LwI w0 ob nb eb lb D ⟨s.calls ++ [(x, true)], s.en, s.le + 1⟩ (w1.setCell ⟨lb, 0, none⟩ (.int .i64 z')) ∧ Kw (LM ob nb eb lb) W (w1.setCell ⟨lb, 0, none⟩ (.int .i64 z'))) := fun w1 h1 h2 => by
      have := h1.llevPut HS.out
      simp only [hz'] at this
      exact ⟨this, h2.set (M := LM ob nb eb lb) (.inl (.inr (.inr (.inr rfl)))) _⟩
    have HFC : Hid (∀ w1, LwI w0 ob nb eb lb D ⟨s.calls ++ [(x, true)], s.en, s.le⟩ w1 → w1.cell? ⟨lb, 0, none⟩ = some (.int .i64 z) ∧ w1.frozen? ⟨lb, 0, none⟩ = false) := fun w1 h1 => by
      have := h1.le
      rw [hz] at this
      exact ⟨by simp [World.cell?, this], by simp [World.frozen?, this]⟩
    clear hz hz'
    generalize Sp.opt l s.le = RES at HO ⊢
    rcases Int.lt_or_le (l.length : Int) z' with hgt | hle
    · have HR : Hid (RES = some true) := by
        show _ = _
        rw [HO.out, if_neg (by omega), List.getD_eq_getElem?_getD, List.getElem?_eq_none (by omega)]; rfl
      clear HO HB
      go_enter Try.func11, Try.ntmps11
      go_wp2_with fail
      refine HC.mono ?_
      rintro e w1 ⟨rfl, h1, h2⟩
      obtain ⟨d1, d2⟩ := HFC.out w1 h1
      obtain ⟨w3, hw3⟩ : ∃ w3, w1.setCell ⟨lb, 0, none⟩ (.int .i64 z') = w3 := ⟨_, rfl⟩
      have HE := HW.out w1 h1 h2
      rw [hw3] at HE
      have d3 : w3.cell? ⟨xb, 0, none⟩ = some (.slice a l.length cp) := by rw [HE.1.st HX.out.2.1 HX.out.2.2]; exact HX.out.1
      have d4 : w3.cell? ⟨lb, 0, none⟩ = some (.int .i64 z') := by rw [← hw3]; simp [World.cell?, box_put h1.le]
      have HEE : Hid _ := HE
      clear h1 h2 HE HC k1
      go_wp2_with fail
      go_ret
      rw [HR.out]
      exact ⟨rfl, HEE.out⟩
    · have hng : ¬ (l.length : Int) < z' := by omega
      by_cases hz0 : z' ≤ 0
      · have HR : Hid (RES = none) := by
          show _ = _
          rw [HO.out, if_pos hz0]
        have hbad : ¬ (0 ≤ wrap64 (z' - 1) ∧ wrap64 (z' - 1) < (l.length : Int)) := by unfold wrap64; omega
        clear HO HB
        go_enter Try.func11, Try.ntmps11
        go_wp2_with fail
        refine HC.mono ?_
        rintro e w1 ⟨rfl, h1, h2⟩
        obtain ⟨d1, d2⟩ := HFC.out w1 h1
        obtain ⟨w3, hw3⟩ : ∃ w3, w1.setCell ⟨lb, 0, none⟩ (.int .i64 z') = w3 := ⟨_, rfl⟩
        have HE := HW.out w1 h1 h2
        rw [hw3] at HE
        have d3 : w3.cell? ⟨xb, 0, none⟩ = some (.slice a l.length cp) := by rw [HE.1.st HX.out.2.1 HX.out.2.2]; exact HX.out.1
        have d4 : w3.cell? ⟨lb, 0, none⟩ = some (.int .i64 z') := by rw [← hw3]; simp [World.cell?, box_put h1.le]
        obtain ⟨pv, w4, hix, hb4⟩ := idx_ob a l.length cp (wrap64 (z' - 1)) hbad w3
        have HEE : Hid (LwI w0 ob nb eb lb D ⟨s.calls ++ [(x, true)], s.en, s.le + 1⟩ w4 ∧ Kw (LM ob nb eb lb) W w4) := ⟨HE.1.keep HS.out hb4.size (fun k k1 _ => hb4.block k k1) hb4.os hb4.tape hb4.output, HE.2.trans ⟨hb4.os, hb4.tape, hb4.output, hb4.size, fun j j1 _ => hb4.block j j1⟩⟩
        clear h1 h2 HE HC k1 hb4
        go_wp2_with fail
        rw [HR.out]
        exact ⟨rfl, ⟨_, rfl⟩, HEE.out⟩
      · obtain ⟨t, ht⟩ : ∃ t : Nat, z' = (t : Int) + 1 := ⟨(z' - 1).toNat, by omega⟩
        have htl : t < l.length := by omega
        have htz : (t : Int) < (l.length : Int) := by omega
        obtain ⟨b, hbt⟩ : ∃ b, l[t]? = some b := ⟨_, List.getElem?_eq_getElem htl⟩
        obtain ⟨g, o, rfl, hg1, hg2, hg3⟩ := HB.out t b hbt
        have HG : Hid (g < w0.heap.size ∧ ¬ LM ob nb eb lb g ∧ w0.cell? ⟨g, o + t, none⟩ = some (.bool b)) := ⟨hg1, hg2, hg3⟩
        have HR : Hid (RES = some b) := by
          show _ = _
          rw [HO.out, if_neg hz0, ht, show ((t : Int) + 1).toNat - 1 = t by omega, List.getD_eq_getElem?_getD, hbt]; rfl
        clear HO HB hbt hg1 hg2 hg3 hz0 hle hrng
        subst ht
        have hngb : decide ((l.length : Int) < (t : Int) + 1) = false := decide_eq_false (by omega)
        go_enter Try.func11, Try.ntmps11
        go_wp2_with fail
        refine HC.mono ?_
        rintro e w1 ⟨rfl, h1, h2⟩
        obtain ⟨d1, d2⟩ := HFC.out w1 h1
        obtain ⟨w3, hw3⟩ : ∃ w3, w1.setCell ⟨lb, 0, none⟩ (.int .i64 ((t : Int) + 1)) = w3 := ⟨_, rfl⟩
        have HE := HW.out w1 h1 h2
        rw [hw3] at HE
        have d3 : w3.cell? ⟨xb, 0, none⟩ = some (.slice (some ⟨g, o, none⟩) l.length cp) := by rw [HE.1.st HX.out.2.1 HX.out.2.2]; exact HX.out.1
        have d4 : w3.cell? ⟨lb, 0, none⟩ = some (.int .i64 ((t : Int) + 1)) := by rw [← hw3]; simp [World.cell?, box_put h1.le]
        have d5 : w3.cell? ⟨g, o + t, none⟩ = some (.bool b) := by rw [HE.1.st HG.out.1 HG.out.2.1]; exact HG.out.2.2
        have HEE : Hid _ := HE
        clear h1 h2 HE HC k1
        go_wp2_with fail
        go_ret
        rw [HR.out]
        exact ⟨rfl, HEE.out⟩
end
end Go.Proofs.Ytghfikeakfiopaa


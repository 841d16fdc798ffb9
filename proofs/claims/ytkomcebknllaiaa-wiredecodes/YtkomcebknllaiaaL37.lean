/- tenonmake.Entries at two copies of whatever entries. -/
import Derived.Test.YtkomcebknllaiaaL36
import Derived.Deep.RegionHeld3
import Derived.Test.YtkomcebknllaiaaL34
import Derived.Test.YtkomcebknllaiaaL35
import Derived.Test.YtkomcebknllaiaaL3
namespace Go.Proofs.Ytkomcebknllaiaa
open Go.RowKit

set_option maxRecDepth 100000 in
set_option maxHeartbeats 2000000 in
theorem gmentries_any (N : Nat) (HC : GSmC N) (A : TmF) (hN : A.sz ≤ N) (a b : Option Addr) (ca cb : Nat) (S : Nat → Prop) (w : World) (ha : A.In w S a 0) (hb : A.In w S b 0) (hS : Sub S w) (la : A.len * 168 ≤ 140737488355328) :
    Calls Try.prog 49 #[.slice a A.len ca, .slice b A.len cb] w fun e w' => e = .returned (.bool A.tame) ∧ Below w.heap.size w w' := by
  have HCH : Hid (GSmC N) := HC
  have H0 : Hid (A.In w S a 0 ∧ A.In w S b 0) := ⟨ha, hb⟩
  clear HC ha hb
  go_enter Try.func49, Try.ntmps49
  go_wp2_with fail
  go_loopw [5] (fun x wr => ∃ (k : Nat) (l : TmF), x = .int .i64 k ∧ l.len + k = A.len ∧ l.sz ≤ N ∧ Hid (l.In w S a k ∧ l.In w S b k) ∧ Hid (A.tame = l.tame) ∧ Hid (Below w.heap.size w wr)) (fun x _ => A.len - (intOf x).toNat)
  case atStart => exact ⟨0, A, rfl, rfl, hN, H0.out, rfl, Below.refl _ _⟩
  case round =>
    obtain ⟨k, l, rfl, hl, hlN, HI, HT, HW⟩ := hrel
    clear H0
    cases l with
    | nil =>
      have h1 : A.len ≤ k := by simp [TmF.len] at hl; omega
      clear hl
      go_wp2_with fail
      go_ret
      exact ⟨ret_bool (HT.out.symm), HW.out⟩
    | cons n1 t l =>
      cases hT : t.tame with
      | true =>
        obtain ⟨hv1, hv2⟩ := HI.out
        simp only [TmF.In] at hv1 hv2
        obtain ⟨g1, o1, cs1, rfl, hg1, a1, _, c1, ht, hl'⟩ := hv1
        obtain ⟨g2, o2, cs2, rfl, hg2, a2, _, c2, hu, hr'⟩ := hv2
        have hk1 : k < A.len := by simp only [TmF.len] at hl; omega
        have hi0 : (0 : Int) ≤ (k : Int) := Int.natCast_nonneg _
        have hi1 : (k : Int) < (A.len : Int) := by omega
        have HL : Hid (l.len + (k + 1) = A.len) := by show _ = _; simp only [TmF.len] at hl; omega
        have htN : t.sz ≤ N ∧ l.sz ≤ N := by simp [TmF.sz] at hlN; omega
        have hs : Same S w wr := hS.same HW.out
        have HTT : Hid (A.tame = l.tame) := by show _ = _; rw [HT.out, TmF.tame, hT, Bool.true_and]
        have HO : Hid (∀ W, Below wr.heap.size wr W → Calls Try.prog 22 #[.agg cs1, .agg cs2] W fun e w' => e = .returned (.bool true) ∧ Below W.heap.size W w') :=
          HCH.out.at htN.1 hT (t.In_same hs (fun _ h => h) cs1 ht) (t.In_same hs (fun _ h => h) cs2 hu) (hS.later HW.out)
        obtain ⟨k1, b1, i1, f1, tx1, vb1, rf1, vl1, vf1, cl1, vr1, rfl⟩ := Tm.In_tc ht
        obtain ⟨k2, b2, i2, f2, tx2, vb2, rf2, vl2, vf2, cl2, vr2, rfl⟩ := Tm.In_tc hu
        obtain ⟨e0, e1, e2, e3, e4, e5, e6, e7, e8, e9, e10⟩ := eleven (w := wr) (g := g1) (o := o1 + k * 12 + 1) (fun x hx => by rw [hs.cell (p := ⟨g1, o1 + k * 12 + 1 + x, none⟩) hg1]; exact c1 x hx)
        obtain ⟨d0, d1, d2, d3, d4, d5, d6, d7, d8, d9, d10⟩ := eleven (w := wr) (g := g2) (o := o2 + k * 12 + 1) (fun x hx => by rw [hs.cell (p := ⟨g2, o2 + k * 12 + 1 + x, none⟩) hg2]; exact c2 x hx)
        have a1 : wr.cell? ⟨g1, o1 + k * 12, none⟩ = some (.string n1) := by rw [hs.cell (p := ⟨g1, o1 + k * 12, none⟩) hg1]; exact a1
        have a2 : wr.cell? ⟨g2, o2 + k * 12, none⟩ = some (.string n1) := by rw [hs.cell (p := ⟨g2, o2 + k * 12, none⟩) hg2]; exact a2
        have HN : Hid (l.In w S (some ⟨g1, o1, none⟩) (k + 1) ∧ l.In w S (some ⟨g2, o2, none⟩) (k + 1)) := ⟨hl', hr'⟩
        unfold tcells at HO
        clear hT hl hlN HI hl' hr' ht hu hs c1 c2
        have HX : Hid (∀ W, Below wr.heap.size wr W → W.cell? ⟨g1, o1 + k * 12, none⟩ = some (.string n1) ∧ W.cell? ⟨g2, o2 + k * 12, none⟩ = some (.string n1) ∧ W.cell? ⟨g1, o1 + k * 12 + 1, none⟩ = some (.int .i64 k1) ∧ W.cell? ⟨g1, o1 + k * 12 + 1 + 1, none⟩ = some (.bool b1) ∧ W.cell? ⟨g1, o1 + k * 12 + 1 + 2, none⟩ = some (.int .i64 i1) ∧ W.cell? ⟨g1, o1 + k * 12 + 1 + 3, none⟩ = some (.float .f64 f1) ∧ W.cell? ⟨g1, o1 + k * 12 + 1 + 4, none⟩ = some (.string tx1) ∧ W.cell? ⟨g1, o1 + k * 12 + 1 + 5, none⟩ = some (vb1) ∧ W.cell? ⟨g1, o1 + k * 12 + 1 + 6, none⟩ = some (.int .u64 rf1) ∧ W.cell? ⟨g1, o1 + k * 12 + 1 + 7, none⟩ = some (vl1) ∧ W.cell? ⟨g1, o1 + k * 12 + 1 + 8, none⟩ = some (vf1) ∧ W.cell? ⟨g1, o1 + k * 12 + 1 + 9, none⟩ = some (.string cl1) ∧ W.cell? ⟨g1, o1 + k * 12 + 1 + 10, none⟩ = some (.int .i64 vr1) ∧ W.cell? ⟨g2, o2 + k * 12 + 1, none⟩ = some (.int .i64 k2) ∧ W.cell? ⟨g2, o2 + k * 12 + 1 + 1, none⟩ = some (.bool b2) ∧ W.cell? ⟨g2, o2 + k * 12 + 1 + 2, none⟩ = some (.int .i64 i2) ∧ W.cell? ⟨g2, o2 + k * 12 + 1 + 3, none⟩ = some (.float .f64 f2) ∧ W.cell? ⟨g2, o2 + k * 12 + 1 + 4, none⟩ = some (.string tx2) ∧ W.cell? ⟨g2, o2 + k * 12 + 1 + 5, none⟩ = some (vb2) ∧ W.cell? ⟨g2, o2 + k * 12 + 1 + 6, none⟩ = some (.int .u64 rf2) ∧ W.cell? ⟨g2, o2 + k * 12 + 1 + 7, none⟩ = some (vl2) ∧ W.cell? ⟨g2, o2 + k * 12 + 1 + 8, none⟩ = some (vf2) ∧ W.cell? ⟨g2, o2 + k * 12 + 1 + 9, none⟩ = some (.string cl2) ∧ W.cell? ⟨g2, o2 + k * 12 + 1 + 10, none⟩ = some (.int .i64 vr2)) := fun W hW => by
          have h1 : ∀ j, W.cell? ⟨g1, j, none⟩ = wr.cell? ⟨g1, j, none⟩ := fun j => hW.cell (p := ⟨g1, j, none⟩) (hS.later HW.out _ hg1)
          have h2 : ∀ j, W.cell? ⟨g2, j, none⟩ = wr.cell? ⟨g2, j, none⟩ := fun j => hW.cell (p := ⟨g2, j, none⟩) (hS.later HW.out _ hg2)
          simp only [h1, h2]
          exact ⟨a1, a2, e0, e1, e2, e3, e4, e5, e6, e7, e8, e9, e10, d0, d1, d2, d3, d4, d5, d6, d7, d8, d9, d10⟩
        clear a1 a2 e0 e1 e2 e3 e4 e5 e6 e7 e8 e9 e10 d0 d1 d2 d3 d4 d5 d6 d7 d8 d9 d10
        go_wp2_with fail
        go_region_held3 (fun W => W.cell? ⟨g1, o1 + k * 12, none⟩ = some (.string n1) ∧ W.cell? ⟨g2, o2 + k * 12, none⟩ = some (.string n1) ∧ W.cell? ⟨g1, o1 + k * 12 + 1, none⟩ = some (.int .i64 k1) ∧ W.cell? ⟨g1, o1 + k * 12 + 1 + 1, none⟩ = some (.bool b1) ∧ W.cell? ⟨g1, o1 + k * 12 + 1 + 2, none⟩ = some (.int .i64 i1) ∧ W.cell? ⟨g1, o1 + k * 12 + 1 + 3, none⟩ = some (.float .f64 f1) ∧ W.cell? ⟨g1, o1 + k * 12 + 1 + 4, none⟩ = some (.string tx1) ∧ W.cell? ⟨g1, o1 + k * 12 + 1 + 5, none⟩ = some (vb1) ∧ W.cell? ⟨g1, o1 + k * 12 + 1 + 6, none⟩ = some (.int .u64 rf1) ∧ W.cell? ⟨g1, o1 + k * 12 + 1 + 7, none⟩ = some (vl1) ∧ W.cell? ⟨g1, o1 + k * 12 + 1 + 8, none⟩ = some (vf1) ∧ W.cell? ⟨g1, o1 + k * 12 + 1 + 9, none⟩ = some (.string cl1) ∧ W.cell? ⟨g1, o1 + k * 12 + 1 + 10, none⟩ = some (.int .i64 vr1) ∧ W.cell? ⟨g2, o2 + k * 12 + 1, none⟩ = some (.int .i64 k2) ∧ W.cell? ⟨g2, o2 + k * 12 + 1 + 1, none⟩ = some (.bool b2) ∧ W.cell? ⟨g2, o2 + k * 12 + 1 + 2, none⟩ = some (.int .i64 i2) ∧ W.cell? ⟨g2, o2 + k * 12 + 1 + 3, none⟩ = some (.float .f64 f2) ∧ W.cell? ⟨g2, o2 + k * 12 + 1 + 4, none⟩ = some (.string tx2) ∧ W.cell? ⟨g2, o2 + k * 12 + 1 + 5, none⟩ = some (vb2) ∧ W.cell? ⟨g2, o2 + k * 12 + 1 + 6, none⟩ = some (.int .u64 rf2) ∧ W.cell? ⟨g2, o2 + k * 12 + 1 + 7, none⟩ = some (vl2) ∧ W.cell? ⟨g2, o2 + k * 12 + 1 + 8, none⟩ = some (vf2) ∧ W.cell? ⟨g2, o2 + k * 12 + 1 + 9, none⟩ = some (.string cl2) ∧ W.cell? ⟨g2, o2 + k * 12 + 1 + 10, none⟩ = some (.int .i64 vr2))
          (first | with_reducible exact HX.out w4 HB4.out | with_reducible exact HX.out _ (Below.refl _ _) | with_reducible exact HX.out _ (Below.refl _ _).drew)
          ((first
            | (go_at_call 22; refine (HO.out _ ?_).mono ?_; exact (Below.refl _ _).drew; rintro e w4 ⟨rfl, hb4⟩; have HB4 : Hid (Below wr.heap.size wr w4) := (Below.refl _ _).drew.trans hb4; clear hb4)))
        have HB5 : Hid (Below w.heap.size w w4) := HW.out.trans (HB4.out.mono HW.out.size)
        go_wp2_with fail
        go_roundw
        case rel => exact ⟨k + 1, l, by go_num, HL.out, htN.2, HN.out, HTT.out, HB5.out⟩
        case measure => simp [intOf]; omega
      | false =>
        obtain ⟨hv1, hv2⟩ := HI.out
        simp only [TmF.In] at hv1 hv2
        obtain ⟨g1, o1, cs1, rfl, hg1, a1, _, c1, ht, hl'⟩ := hv1
        obtain ⟨g2, o2, cs2, rfl, hg2, a2, _, c2, hu, hr'⟩ := hv2
        have hk1 : k < A.len := by simp only [TmF.len] at hl; omega
        have hi0 : (0 : Int) ≤ (k : Int) := Int.natCast_nonneg _
        have hi1 : (k : Int) < (A.len : Int) := by omega
        have HL : Hid (l.len + (k + 1) = A.len) := by show _ = _; simp only [TmF.len] at hl; omega
        have htN : t.sz ≤ N ∧ l.sz ≤ N := by simp [TmF.sz] at hlN; omega
        have hs : Same S w wr := hS.same HW.out
        have HTT : Hid (A.tame = false) := by show _ = _; rw [HT.out, TmF.tame, hT, Bool.false_and]
        have HO : Hid (∀ W, Below wr.heap.size wr W → Calls Try.prog 22 #[.agg cs1, .agg cs2] W fun e w' => e = .returned (.bool false) ∧ Below W.heap.size W w') :=
          HCH.out.at htN.1 hT (t.In_same hs (fun _ h => h) cs1 ht) (t.In_same hs (fun _ h => h) cs2 hu) (hS.later HW.out)
        obtain ⟨k1, b1, i1, f1, tx1, vb1, rf1, vl1, vf1, cl1, vr1, rfl⟩ := Tm.In_tc ht
        obtain ⟨k2, b2, i2, f2, tx2, vb2, rf2, vl2, vf2, cl2, vr2, rfl⟩ := Tm.In_tc hu
        obtain ⟨e0, e1, e2, e3, e4, e5, e6, e7, e8, e9, e10⟩ := eleven (w := wr) (g := g1) (o := o1 + k * 12 + 1) (fun x hx => by rw [hs.cell (p := ⟨g1, o1 + k * 12 + 1 + x, none⟩) hg1]; exact c1 x hx)
        obtain ⟨d0, d1, d2, d3, d4, d5, d6, d7, d8, d9, d10⟩ := eleven (w := wr) (g := g2) (o := o2 + k * 12 + 1) (fun x hx => by rw [hs.cell (p := ⟨g2, o2 + k * 12 + 1 + x, none⟩) hg2]; exact c2 x hx)
        have a1 : wr.cell? ⟨g1, o1 + k * 12, none⟩ = some (.string n1) := by rw [hs.cell (p := ⟨g1, o1 + k * 12, none⟩) hg1]; exact a1
        have a2 : wr.cell? ⟨g2, o2 + k * 12, none⟩ = some (.string n1) := by rw [hs.cell (p := ⟨g2, o2 + k * 12, none⟩) hg2]; exact a2
        have HN : Hid (l.In w S (some ⟨g1, o1, none⟩) (k + 1) ∧ l.In w S (some ⟨g2, o2, none⟩) (k + 1)) := ⟨hl', hr'⟩
        unfold tcells at HO
        clear hT hl hlN HI hl' hr' ht hu hs c1 c2
        have HX : Hid (∀ W, Below wr.heap.size wr W → W.cell? ⟨g1, o1 + k * 12, none⟩ = some (.string n1) ∧ W.cell? ⟨g2, o2 + k * 12, none⟩ = some (.string n1) ∧ W.cell? ⟨g1, o1 + k * 12 + 1, none⟩ = some (.int .i64 k1) ∧ W.cell? ⟨g1, o1 + k * 12 + 1 + 1, none⟩ = some (.bool b1) ∧ W.cell? ⟨g1, o1 + k * 12 + 1 + 2, none⟩ = some (.int .i64 i1) ∧ W.cell? ⟨g1, o1 + k * 12 + 1 + 3, none⟩ = some (.float .f64 f1) ∧ W.cell? ⟨g1, o1 + k * 12 + 1 + 4, none⟩ = some (.string tx1) ∧ W.cell? ⟨g1, o1 + k * 12 + 1 + 5, none⟩ = some (vb1) ∧ W.cell? ⟨g1, o1 + k * 12 + 1 + 6, none⟩ = some (.int .u64 rf1) ∧ W.cell? ⟨g1, o1 + k * 12 + 1 + 7, none⟩ = some (vl1) ∧ W.cell? ⟨g1, o1 + k * 12 + 1 + 8, none⟩ = some (vf1) ∧ W.cell? ⟨g1, o1 + k * 12 + 1 + 9, none⟩ = some (.string cl1) ∧ W.cell? ⟨g1, o1 + k * 12 + 1 + 10, none⟩ = some (.int .i64 vr1) ∧ W.cell? ⟨g2, o2 + k * 12 + 1, none⟩ = some (.int .i64 k2) ∧ W.cell? ⟨g2, o2 + k * 12 + 1 + 1, none⟩ = some (.bool b2) ∧ W.cell? ⟨g2, o2 + k * 12 + 1 + 2, none⟩ = some (.int .i64 i2) ∧ W.cell? ⟨g2, o2 + k * 12 + 1 + 3, none⟩ = some (.float .f64 f2) ∧ W.cell? ⟨g2, o2 + k * 12 + 1 + 4, none⟩ = some (.string tx2) ∧ W.cell? ⟨g2, o2 + k * 12 + 1 + 5, none⟩ = some (vb2) ∧ W.cell? ⟨g2, o2 + k * 12 + 1 + 6, none⟩ = some (.int .u64 rf2) ∧ W.cell? ⟨g2, o2 + k * 12 + 1 + 7, none⟩ = some (vl2) ∧ W.cell? ⟨g2, o2 + k * 12 + 1 + 8, none⟩ = some (vf2) ∧ W.cell? ⟨g2, o2 + k * 12 + 1 + 9, none⟩ = some (.string cl2) ∧ W.cell? ⟨g2, o2 + k * 12 + 1 + 10, none⟩ = some (.int .i64 vr2)) := fun W hW => by
          have h1 : ∀ j, W.cell? ⟨g1, j, none⟩ = wr.cell? ⟨g1, j, none⟩ := fun j => hW.cell (p := ⟨g1, j, none⟩) (hS.later HW.out _ hg1)
          have h2 : ∀ j, W.cell? ⟨g2, j, none⟩ = wr.cell? ⟨g2, j, none⟩ := fun j => hW.cell (p := ⟨g2, j, none⟩) (hS.later HW.out _ hg2)
          simp only [h1, h2]
          exact ⟨a1, a2, e0, e1, e2, e3, e4, e5, e6, e7, e8, e9, e10, d0, d1, d2, d3, d4, d5, d6, d7, d8, d9, d10⟩
        clear a1 a2 e0 e1 e2 e3 e4 e5 e6 e7 e8 e9 e10 d0 d1 d2 d3 d4 d5 d6 d7 d8 d9 d10
        go_wp2_with fail
        go_region_held3 (fun W => W.cell? ⟨g1, o1 + k * 12, none⟩ = some (.string n1) ∧ W.cell? ⟨g2, o2 + k * 12, none⟩ = some (.string n1) ∧ W.cell? ⟨g1, o1 + k * 12 + 1, none⟩ = some (.int .i64 k1) ∧ W.cell? ⟨g1, o1 + k * 12 + 1 + 1, none⟩ = some (.bool b1) ∧ W.cell? ⟨g1, o1 + k * 12 + 1 + 2, none⟩ = some (.int .i64 i1) ∧ W.cell? ⟨g1, o1 + k * 12 + 1 + 3, none⟩ = some (.float .f64 f1) ∧ W.cell? ⟨g1, o1 + k * 12 + 1 + 4, none⟩ = some (.string tx1) ∧ W.cell? ⟨g1, o1 + k * 12 + 1 + 5, none⟩ = some (vb1) ∧ W.cell? ⟨g1, o1 + k * 12 + 1 + 6, none⟩ = some (.int .u64 rf1) ∧ W.cell? ⟨g1, o1 + k * 12 + 1 + 7, none⟩ = some (vl1) ∧ W.cell? ⟨g1, o1 + k * 12 + 1 + 8, none⟩ = some (vf1) ∧ W.cell? ⟨g1, o1 + k * 12 + 1 + 9, none⟩ = some (.string cl1) ∧ W.cell? ⟨g1, o1 + k * 12 + 1 + 10, none⟩ = some (.int .i64 vr1) ∧ W.cell? ⟨g2, o2 + k * 12 + 1, none⟩ = some (.int .i64 k2) ∧ W.cell? ⟨g2, o2 + k * 12 + 1 + 1, none⟩ = some (.bool b2) ∧ W.cell? ⟨g2, o2 + k * 12 + 1 + 2, none⟩ = some (.int .i64 i2) ∧ W.cell? ⟨g2, o2 + k * 12 + 1 + 3, none⟩ = some (.float .f64 f2) ∧ W.cell? ⟨g2, o2 + k * 12 + 1 + 4, none⟩ = some (.string tx2) ∧ W.cell? ⟨g2, o2 + k * 12 + 1 + 5, none⟩ = some (vb2) ∧ W.cell? ⟨g2, o2 + k * 12 + 1 + 6, none⟩ = some (.int .u64 rf2) ∧ W.cell? ⟨g2, o2 + k * 12 + 1 + 7, none⟩ = some (vl2) ∧ W.cell? ⟨g2, o2 + k * 12 + 1 + 8, none⟩ = some (vf2) ∧ W.cell? ⟨g2, o2 + k * 12 + 1 + 9, none⟩ = some (.string cl2) ∧ W.cell? ⟨g2, o2 + k * 12 + 1 + 10, none⟩ = some (.int .i64 vr2))
          (first | with_reducible exact HX.out w4 HB4.out | with_reducible exact HX.out _ (Below.refl _ _) | with_reducible exact HX.out _ (Below.refl _ _).drew)
          ((first
            | (go_at_call 22; refine (HO.out _ ?_).mono ?_; exact (Below.refl _ _).drew; rintro e w4 ⟨rfl, hb4⟩; have HB4 : Hid (Below wr.heap.size wr w4) := (Below.refl _ _).drew.trans hb4; clear hb4)))
        have HB5 : Hid (Below w.heap.size w w4) := HW.out.trans (HB4.out.mono HW.out.size)
        go_wp2_with fail
        go_ret
        exact ⟨ret_bool HTT.out.symm, HB5.out⟩
end Go.Proofs.Ytkomcebknllaiaa

/- tenonmake.Same at two copies of whatever term. -/
namespace Go.Proofs.Ytkomcebknllaiaa
open Go.RowKit

section
variable (b : Bool) (i : Int) (f : Nat) (tx : ByteArray) (vb : Value) (rf : Int) (vl vf : Value) (c : ByteArray) (vr : Int)
variable (b2 : Bool) (i2 : Int) (f2 : Nat) (tx2 : ByteArray) (vb2 : Value) (rf2 : Int) (vl2 vf2 : Value) (c2 : ByteArray) (vr2 : Int) (w : World)
set_option maxRecDepth 100000 in
set_option maxHeartbeats 1000000 in
theorem gmsame_8 (r : Bool) (h : ∀ W, Below w.heap.size w W → Calls Try.prog 48 #[vl, vl2] W fun e w' => e = .returned (.bool r) ∧ Below W.heap.size W w') : Calls Try.prog 22 #[.agg (tcells 8 b i f tx vb rf vl vf c vr), .agg (tcells 8 b2 i2 f2 tx2 vb2 rf2 vl2 vf2 c2 vr2)] w fun e w' => e = .returned (.bool r) ∧ Below w.heap.size w w' := by
  unfold tcells
  have HX : Hid _ := h
  clear h
  have HB := two_below w
  have HB : Hid _ := HB
  go_enter Try.func22, Try.ntmps22
  go_wp2_with (go_at_call 48; refine (HX.out _ (HB.out _ _)).mono ?_; rintro e w1 ⟨rfl, hb1⟩)
  go_ret
  exact ⟨rfl, below_to (HB.out _ _) hb1⟩
set_option maxRecDepth 100000 in
set_option maxHeartbeats 1000000 in
theorem gmsame_9 (r : Bool) (h : ∀ W, Below w.heap.size w W → Calls Try.prog 49 #[vf, vf2] W fun e w' => e = .returned (.bool r) ∧ Below W.heap.size W w') : Calls Try.prog 22 #[.agg (tcells 9 b i f tx vb rf vl vf c vr), .agg (tcells 9 b2 i2 f2 tx2 vb2 rf2 vl2 vf2 c2 vr2)] w fun e w' => e = .returned (.bool r) ∧ Below w.heap.size w w' := by
  unfold tcells
  have HX : Hid _ := h
  clear h
  have HB := two_below w
  have HB : Hid _ := HB
  go_enter Try.func22, Try.ntmps22
  go_wp2_with (go_at_call 49; refine (HX.out _ (HB.out _ _)).mono ?_; rintro e w1 ⟨rfl, hb1⟩)
  go_ret
  exact ⟨rfl, below_to (HB.out _ _) hb1⟩
set_option maxRecDepth 100000 in
set_option maxHeartbeats 1000000 in
theorem gmsame_10 (r : Bool) (h : ∀ W, Below w.heap.size w W → Calls Try.prog 49 #[vf, vf2] W fun e w' => e = .returned (.bool r) ∧ Below W.heap.size W w') : Calls Try.prog 22 #[.agg (tcells 10 b i f tx vb rf vl vf c vr), .agg (tcells 10 b2 i2 f2 tx2 vb2 rf2 vl2 vf2 c vr)] w fun e w' => e = .returned (.bool r) ∧ Below w.heap.size w w' := by
  unfold tcells
  have HX : Hid _ := h
  clear h
  have HB := two_below w
  have HB : Hid _ := HB
  go_enter Try.func22, Try.ntmps22
  go_wp2_with (go_at_call 49; refine (HX.out _ (HB.out _ _)).mono ?_; rintro e w1 ⟨rfl, hb1⟩)
  go_ret
  exact ⟨rfl, below_to (HB.out _ _) hb1⟩
set_option maxRecDepth 100000 in
set_option maxHeartbeats 1000000 in
theorem msame_11 : Calls Try.prog 22 #[.agg (tcells 11 b i f tx vb rf vl vf c vr), .agg (tcells 11 b2 i2 f2 tx2 vb2 rf2 vl2 vf2 c2 vr2)] w fun e w' => e = .returned (.bool true) ∧ Below w.heap.size w w' := by
  unfold tcells
  have HB := two_below w
  have HB : Hid _ := HB
  go_enter Try.func22, Try.ntmps22
  go_wp2_with fail
  go_ret
  exact ⟨rfl, HB.out _ _⟩
set_option maxRecDepth 100000 in
set_option maxHeartbeats 1000000 in
theorem msame_alien (k : Int) (hk : k < 1 ∨ 11 < k) : Calls Try.prog 22 #[.agg (tcells k b i f tx vb rf vl vf c vr), .agg (tcells k b2 i2 f2 tx2 vb2 rf2 vl2 vf2 c2 vr2)] w fun e w' => e = .returned (.bool false) ∧ Below w.heap.size w w' := by
  have b1 : (k == 1) = false := by simp; omega
  have b2' : (k == 2) = false := by simp; omega
  have b3 : (k == 3) = false := by simp; omega
  have b4 : (k == 4) = false := by simp; omega
  have b5 : (k == 5) = false := by simp; omega
  have b6 : (k == 6) = false := by simp; omega
  have b7 : (k == 7) = false := by simp; omega
  have b8 : (k == 8) = false := by simp; omega
  have b9 : (k == 9) = false := by simp; omega
  have b10 : (k == 10) = false := by simp; omega
  have b11 : (k == 11) = false := by simp; omega
  clear hk
  unfold tcells
  have HB := two_below w
  have HB : Hid _ := HB
  go_enter Try.func22, Try.ntmps22
  go_wp2_with fail
  go_ret
  exact ⟨rfl, HB.out _ _⟩
end

set_option maxHeartbeats 1000000 in
theorem gmsame_any (N : Nat) : GSmC N := by
  induction N with
  | zero => intro t ht; cases t; simp [Tm.sz] at ht
  | succ N ih =>
    intro s hN cs ct S w hs ht hS
    cases s with
    | mk k b i f tx by' rf l fs c v =>
      have hlN : l.sz ≤ N ∧ fs.sz ≤ N := by simp [Tm.sz] at hN; omega
      simp only [Tm.In] at hs ht
      obtain ⟨ab, cb, al, cl, af, cf, rfl, bd, h1, h2, h3⟩ := hs
      obtain ⟨ab2, cb2, al2, cl2, af2, cf2, rfl, bd2, g1, g2, g3⟩ := ht
      have HF : ∀ W, Below w.heap.size w W → Calls Try.prog 49 #[.slice af fs.len cf, .slice af2 fs.len cf2] W fun e w' => e = .returned (.bool fs.tame) ∧ Below W.heap.size W w' := fun W hW =>
        gmentries_any N ih fs hlN.2 af af2 cf cf2 S W (fs.In_same (hS.same hW) (fun _ h => h) af 0 h3) (fs.In_same (hS.same hW) (fun _ h => h) af2 0 g3) (hS.later hW) bd.nf
      have ht : (Tm.mk k b i f tx by' rf l fs c v).tame = if k = 8 then l.tame else if k = 9 ∨ k = 10 then fs.tame else decide (1 ≤ k ∧ k ≤ 11) := by simp only [Tm.tame]
      rw [ht]
      clear ht
      by_cases k1 : k = 1
      · subst k1; exact msame_1 _ _ _ _ _ _ _ _ _ _ _ _ _ _ _ _ _ _ _ _ w
      by_cases k2 : k = 2
      · subst k2; exact msame_2 _ _ _ _ _ _ _ _ _ _ _ _ _ _ _ _ _ _ _ w
      by_cases k3 : k = 3
      · subst k3; exact msame_3 _ _ _ _ _ _ _ _ _ _ _ _ _ _ _ _ _ _ _ w
      by_cases k4 : k = 4
      · subst k4; exact msame_4 _ _ _ _ _ _ _ _ _ _ _ _ _ _ _ _ _ _ _ w
      by_cases k5 : k = 5
      · subst k5; exact msame_5 _ _ _ _ _ _ _ _ _ _ _ _ _ _ _ _ _ _ _ w
      by_cases k6 : k = 6
      · subst k6; exact msame_6 _ _ _ _ _ _ _ _ _ _ _ _ _ _ _ _ _ _ w by' ab ab2 cb cb2 S h1 g1 hS
      by_cases k7 : k = 7
      · subst k7; exact msame_7 _ _ _ _ _ _ _ _ _ _ _ _ _ _ _ _ _ _ _ w
      by_cases k8 : k = 8
      · subst k8
        rw [if_pos rfl]
        exact gmsame_8 _ _ _ _ _ _ _ _ _ _ _ _ _ _ _ _ _ _ _ _ w l.tame (fun W hW => glists_any N ih l hlN.1 al al2 cl cl2 S W (l.In_same (hS.same hW) (fun _ h => h) al 0 h2) (l.In_same (hS.same hW) (fun _ h => h) al2 0 g2) (hS.later hW) bd.nl)
      by_cases k9 : k = 9
      · subst k9; exact gmsame_9 _ _ _ _ _ _ _ _ _ _ _ _ _ _ _ _ _ _ _ _ w fs.tame HF
      by_cases k10 : k = 10
      · subst k10; exact gmsame_10 _ _ _ _ _ _ _ _ _ _ _ _ _ _ _ _ _ _ w fs.tame HF
      by_cases k11 : k = 11
      · subst k11; exact msame_11 _ _ _ _ _ _ _ _ _ _ _ _ _ _ _ _ _ _ _ _ w
      have hk : k < 1 ∨ 11 < k := k_alien k1 k2 k3 k4 k5 k6 k7 k8 k9 k10 k11
      rw [if_neg k8, if_neg (by omega), decide_eq_false (by omega)]
      exact msame_alien _ _ _ _ _ _ _ _ _ _ _ _ _ _ _ _ _ _ _ _ w k hk
end Go.Proofs.Ytkomcebknllaiaa

/- Encode, the document's and the program's, in one form; tenonmake.Plain at whatever value; what a term that can be comes to. -/
namespace Go.Proofs.Ytkomcebknllaiaa
open Go.RowKit

theorem refEncode_all (t : Tm) (cs : Array Value) (B : Nat → Prop) (w : World) (h : t.In w B cs) (hB : Sub B w) : Calls Try.prog 24 #[.agg cs] w (EncE t w) := by
  by_cases he : t.all.e = 0
  · refine (refEncode_ok t cs B w h hB he).mono ?_
    rintro e w' ⟨g, cap, rfl, h1, h2⟩
    have e1 : t.encE = t.enc := by unfold Tm.encE; rw [if_pos he]
    exact ⟨_, _, cap, by rw [he], by rw [e1], by rw [e1]; exact h1, h2⟩
  · refine (refEncode_bad t cs B w h hB he).mono ?_
    rintro e w' ⟨rfl, h2⟩
    have e1 : t.encE = [] := by unfold Tm.encE; rw [if_neg he]
    exact ⟨0, none, 0, rfl, by rw [e1]; rfl, by rw [e1]; exact outs_nil _ _ h2.size, h2⟩
theorem wsame_at (xs : List Int) (a b : Option Addr) (ca cb : Nat) (w : World) (m n : Nat) (hm : m = xs.length) (hn : n = xs.length) (hl : xs.length ≤ 140737488355328) (ha : Rd w a xs) (hb : Rd w b xs) :
    Calls Try.prog 25 #[.slice a m ca, .slice b n cb] w fun e w' => e = .returned (.bool true) ∧ Below w.heap.size w w' := by subst hm; subst hn; exact wsame_any xs a b ca cb w hl ha hb
theorem full_at (xs : List Int) (a : Option Addr) (cap base : Nat) (c : Int) (w : World) (m : Nat) (hm : m = xs.length) (hl : xs.length ≤ 140737488351232) (h : Outs w base a cap xs) :
    Calls Try.prog 27 #[.slice a m cap, .int .u8 c] w fun e w' => e = .returned (.tuple #[]) ∧ ∃ a', Gr base a a' w w' := by subst hm; exact full_any xs a cap base c w hl h
/-- one row written over, another one made later stands -/
theorem Rd.gr {w w' : World} {base : Nat} {a a' b : Option Addr} {xs : List Int} (h : Rd w b xs) (hg : Gr base a a' w w') (hne : ∀ k, a.map Addr.block = some k → b.map Addr.block ≠ some k) : Rd w' b xs := fun j u hu => by
  obtain ⟨g, rfl, hlt, hc⟩ := h j u hu
  refine ⟨g, rfl, Nat.lt_of_lt_of_le hlt hg.1.size, ?_⟩
  rw [World.cell?_of_block (w := w) (a := ⟨g, j, none⟩) (hg.2.1 g hlt (fun e => hne g e rfl))]
  exact hc

mutual
theorem Tm.pl_tame : (t : Tm) → ∀ n p d deep, (t.wk n p d).e = 0 → deep ≤ n → (t.pl deep).tame = true
  | .mk k b i f tx by' rf l fs c v, n, p, d, deep, h, hd => by
    have ho : Tm.Ok (.mk k b i f tx by' rf l fs c v) := ⟨n, p, d, h⟩
    obtain ⟨p1, p2, -, -⟩ := ho.parts
    have e : (Tm.mk k b i f tx by' rf l fs c v).own p n = 0 := by
      by_cases e : (Tm.mk k b i f tx by' rf l fs c v).own p n ≠ 0
      · rw [Tm.wk, if_pos e] at h; exact absurd h e
      · exact Decidable.not_not.1 e
    have hz := Sp.ent_zero (Tm.own_ent _ _ _ e)
    have hn : n ≤ 64 := hz.2.2.2
    rw [Tm.wk, if_neg (by simp [e])] at h
    simp only [Tm.pl]
    rw [if_neg (by omega), if_pos (by omega)]
    simp only [Tm.tame]
    by_cases k8 : k = 8
    · rw [if_pos k8, if_pos k8]; rw [if_pos k8] at h
      exact TmL.pl_tame l (n + 1) _ _ (deep + 1) h (by omega)
    · rw [if_neg k8] at h; rw [if_neg k8]
      by_cases k9 : k = 9 ∨ k = 10
      · rw [if_pos k9, if_pos k9]; rw [if_pos k9] at h
        exact TmF.pl_tame fs (n + 1) _ _ (deep + 1) h (by omega)
      · rw [if_neg k9]; exact decide_eq_true (by omega)
theorem TmL.pl_tame : (l : TmL) → ∀ n p d deep, (l.wk n p d).e = 0 → deep ≤ n → (l.pl deep).tame = true
  | .nil, _, _, _, _, _, _ => rfl
  | .cons t l, n, p, d, deep, h, hd => by
    rw [TmL.wk] at h
    by_cases e : (t.wk n p d).e ≠ 0
    · rw [if_pos e] at h; exact absurd h e
    · rw [if_neg e] at h
      simp only [TmL.pl, TmL.tame, Tm.pl_tame t n p d deep (Decidable.not_not.1 e) hd, TmL.pl_tame l n _ _ deep h hd, Bool.true_and]
theorem TmF.pl_tame : (l : TmF) → ∀ n p d deep, (l.wk n p d).e = 0 → deep ≤ n → (l.pl deep).tame = true
  | .nil, _, _, _, _, _, _ => rfl
  | .cons m t l, n, p, d, deep, h, hd => by
    rw [TmF.wk] at h
    by_cases e : (t.wk n p d).e ≠ 0
    · rw [if_pos e] at h; exact absurd h e
    · rw [if_neg e] at h
      simp only [TmF.pl, TmF.tame, Tm.pl_tame t n p d deep (Decidable.not_not.1 e) hd, TmF.pl_tame l n _ _ deep h hd, Bool.true_and]
end

set_option maxRecDepth 100000 in
set_option maxHeartbeats 1000000 in
theorem gmPlain_any (t : Tm) (v : Value) (w : World) (S : Nat → Prop) (h : t.V w S v) (hS : Sub S w) (hb : t.Sm) :
    Calls Try.prog 26 #[v] w fun e w' => ∃ k b i f tx ab nb cb rf al nl cl af nf cf c vr, e = .returned (.agg (tcells k b i f tx (.slice ab nb cb) rf (.slice al nl cl) (.slice af nf cf) c vr)) ∧ Below w.heap.size w w' ∧ (t.pl 0).In w' (Fr w w') (tcells k b i f tx (.slice ab nb cb) rf (.slice al nl cl) (.slice af nf cf) c vr) := by
  have HT := (gplain_any t.sz).at (deep := 0) (Nat.le_refl _) h hS hb (by decide) (by decide)
  have HT : Hid _ := HT
  unfold tcells at HT
  clear h hb
  unfold tcells
  go_enter Try.func26, Try.ntmps26
  go_wp2_with fail
  refine (HT.out _ ((Below.refl _ _).alloc (Nat.le_refl _) _)).mono ?_
  rintro e w1 ⟨k1, b1, i1, f1, tx1, ab1, nb1, cb1, rf1, al1, nl1, cl1, af1, nf1, cf1, cc1, vr1, rfl, hb1, hv1⟩
  obtain ⟨hR, hbw, hsz⟩ := box_at1 hb1
  obtain ⟨r0, r1, r2, r3, r4, r5, r6, r7, r8, r9, r10⟩ := tbox hR
  have hf := box_writes hR
  have z0 := hf 0; have z1 := hf 1; have z2 := hf 2; have z3 := hf 3; have z4 := hf 4; have z5 := hf 5; have z6 := hf 6; have z7 := hf 7; have z8 := hf 8; have z9 := hf 9; have z10 := hf 10
  have HE : Hid (Below w.heap.size w (setN w1 w.heap.size 0 [.int .i64 k1, .bool b1, .int .i64 i1, .float .f64 f1, .string tx1, .slice ab1 nb1 cb1, .int .u64 rf1, .slice al1 nl1 cl1, .slice af1 nf1 cf1, .string cc1, .int .i64 vr1]) ∧ (t.pl 0).In (setN w1 w.heap.size 0 [.int .i64 k1, .bool b1, .int .i64 i1, .float .f64 f1, .string tx1, .slice ab1 nb1 cb1, .int .u64 rf1, .slice al1 nl1 cl1, .slice af1 nf1 cf1, .string cc1, .int .i64 vr1]) (Fr w (setN w1 w.heap.size 0 [.int .i64 k1, .bool b1, .int .i64 i1, .float .f64 f1, .string tx1, .slice ab1 nb1 cb1, .int .u64 rf1, .slice al1 nl1 cl1, .slice af1 nf1 cf1, .string cc1, .int .i64 vr1])) #[.int .i64 k1, .bool b1, .int .i64 i1, .float .f64 f1, .string tx1, .slice ab1 nb1 cb1, .int .u64 rf1, .slice al1 nl1 cl1, .slice af1 nf1 cf1, .string cc1, .int .i64 vr1]) := by
    refine ⟨setN_below (Nat.le_refl _) _ _ _ _ hbw, (t.pl 0).In_same (fun k hk => setN_other (by have := hk.1; simp at this; omega) _ _ _) (fun k hk => ⟨by have := hk.1; simp at this; omega, by rw [setN_size]; exact hk.2⟩) _ hv1⟩
  clear hb1 hv1 hR hbw hf
  go_wp2_with fail
  refine bodyPost_ret (v := .agg #[.int .i64 k1, .bool b1, .int .i64 i1, .float .f64 f1, .string tx1, .slice ab1 nb1 cb1, .int .u64 rf1, .slice al1 nl1 cl1, .slice af1 nf1 cf1, .string cc1, .int .i64 vr1]) (by simp [results, Try.results26, go_sem, r0, r1, r2, r3, r4, r5, r6, r7, r8, r9, r10]) rfl ⟨k1, b1, i1, f1, tx1, ab1, nb1, cb1, rf1, al1, nl1, cl1, af1, nf1, cf1, cc1, vr1, rfl, HE.out.1, HE.out.2⟩

end Go.Proofs.Ytkomcebknllaiaa

/- What writing over a value does to memory: cells of its rows are as they were, or hold something plain of the row's own type. -/
namespace Go.Proofs.Ytkomcebknllaiaa
open Go.RowKit

/-- a value that holds no memory -/
def Lf (v : Value) : Prop := v = .nilIface ∨ (∃ T x, v = .iface T x ∧ T ≠ 23 ∧ T ≠ 71 ∧ T ≠ 73 ∧ T ≠ 75) ∨ v = .iface 75 (.pointer none)
/-- what may be written into a cell of a row of type e -/
def Fits (e : TypeId) (j : Nat) (y : Value) : Prop :=
  (e = 20 ∧ Lf y) ∨ (e = 5 ∧ ∃ b, y = .int .u8 b ∧ 0 ≤ b ∧ b ≤ 255) ∨ (e = 112 ∧ ((j % 2 = 0 ∧ ∃ s, y = .string s) ∨ (j % 2 = 1 ∧ Lf y))) ∨
  (e = 77 ∧ ((j = 0 ∧ ∃ s, y = .string s) ∨ (j = 1 ∧ ∃ i, y = .int .i64 i)))
/-- a block of cells whose cells are as they were, or fit -/
def DgB (o o' : Option Obj) : Prop := o' = o ∨ ∃ cur cur' e, o = some (.cells cur e (0, 0)) ∧ o' = some (.cells cur' e (0, 0)) ∧ cur'.size = cur.size ∧ ∀ j y, cur'[j]? = some y → cur[j]? = some y ∨ Fits e j y
/-- w' is w, but that the blocks of B may have been written over -/
structure Dg (B : Nat → Prop) (w w' : World) : Prop where
  os : w'.os = w.os
  tape : w'.tape = w.tape
  output : w'.output = w.output
  size : w.heap.size ≤ w'.heap.size
  far : ∀ k, k < w.heap.size → ¬ B k → w'.heap[k]? = w.heap[k]?
  near : ∀ k, B k → DgB w.heap[k]? w'.heap[k]?

theorem DgB.refl (o : Option Obj) : DgB o o := .inl rfl
theorem DgB.trans {a b c : Option Obj} (h : DgB a b) (k : DgB b c) : DgB a c := by
  rcases h with rfl | ⟨cur, cur', e, h1, h2, h3, h4⟩
  · exact k
  · rcases k with rfl | ⟨cu, cu', e', k1, k2, k3, k4⟩
    · exact .inr ⟨cur, cur', e, h1, h2, h3, h4⟩
    · rw [h2] at k1
      simp only [Option.some.injEq, Obj.cells.injEq] at k1
      obtain ⟨rfl, rfl, _⟩ := k1
      refine .inr ⟨cur, cu', e, h1, k2, by omega, fun j y hy => ?_⟩
      rcases k4 j y hy with k5 | k5
      · exact h4 j y k5
      · exact .inr k5
theorem Dg.refl (B : Nat → Prop) (w : World) : Dg B w w := ⟨rfl, rfl, rfl, Nat.le_refl _, fun _ _ _ => rfl, fun _ _ => .inl rfl⟩
theorem Dg.trans {B : Nat → Prop} {a b c : World} (h : Dg B a b) (k : Dg B b c) : Dg B a c :=
  ⟨k.os.trans h.os, k.tape.trans h.tape, k.output.trans h.output, Nat.le_trans h.size k.size, fun i hi hn => (k.far i (Nat.lt_of_lt_of_le hi h.size) hn).trans (h.far i hi hn), fun i hi => (h.near i hi).trans (k.near i hi)⟩
theorem Dg.of_below {B : Nat → Prop} {w w' : World} (h : Below w.heap.size w w') (hB : Sub B w) : Dg B w w' :=
  ⟨h.os, h.tape, h.output, h.size, fun k hk _ => h.block k hk, fun k hk => .inl (h.block k (hB k hk))⟩
theorem Dg.sub {B : Nat → Prop} {w w' : World} (h : Dg B w w') (hB : Sub B w) : Sub B w' := fun k hk => Nat.lt_of_lt_of_le (hB k hk) h.size
/-- one cell of a row written over -/
theorem Dg.set {B : Nat → Prop} {w : World} {g j : Nat} {cur : Array Value} {e : TypeId} {v : Value} (hg : B g) (h : w.heap[g]? = some (.cells cur e (0, 0))) (hf : Fits e j v) : Dg B w (w.setCell ⟨g, j, none⟩ v) := by
  refine ⟨rfl, rfl, rfl, by simp, fun k hk hn => Below.heap_setCell w ⟨g, j, none⟩ v k (fun e => hn (by rw [e]; exact hg)), fun k hk => ?_⟩
  by_cases hkg : k = g
  · subst hkg
    refine .inr ⟨cur, _, e, h, heap_setCell_same w k j _ _ v h, by simp, fun i y hy => ?_⟩
    by_cases hij : i = j
    · subst hij
      have hi : i < cur.size := by
        have := (Array.getElem?_eq_some_iff.1 hy).1
        simpa using this
      have : (cur.setIfInBounds i v)[i]? = some v := by simp [hi]
      rw [this] at hy
      injection hy with hy
      subst hy
      exact .inr hf
    · left
      rw [Array.getElem?_setIfInBounds_ne (fun e => hij e.symm)] at hy
      exact hy
  · exact .inl (Below.heap_setCell w ⟨g, j, none⟩ v k hkg)

/-- an append onto a row that is owned: old blocks are as they were but the row's own, of which only the cells behind it are written -/
theorem run_app2 {P : Program} (w : World) (t ty e : TypeId) (i : TypeInfo) (z : Value) (size bytes : Nat) (ht : P.underlying t = some (.slice e)) (hi : P.info? e = some i) (hz : i.zero = some z)
    (hsize : i.size = size) (hby : i.bytes = bytes) (hzs : z.cells.size = size) (hsz : 0 < size)
    (v : Value) (n : Nat) (xs : List Value) (hown : w.ownsRow 0 e size v n xs)
    (a : Addr) (m c : Nat) (news : List Value) (hl : news.length = m * size) (hnews : ∀ j u, news[j]? = some u → w.cell? (a.add j) = some u) (h1 : ∀ u ∈ news, u.oneCell' = true) (hm : 0 < m)
    (h63 : n + m ≤ maxLen) (hbytes : (n + m) * bytes ≤ 140737488355328) (hfit : ∀ j u, news[j]? = some u → Fits e (n * size + j) u) :
    ∃ g cap w', (Builtin.append_ #[t, t] ty #[v, .slice (some a) m c]).run P w = .ok (.slice (some ⟨g, 0, none⟩) (n + m) cap) w' ∧ w'.ownsRow 0 e size (.slice (some ⟨g, 0, none⟩) (n + m) cap) (n + m) (xs ++ news) ∧
      (v.ownBlock = some g ∨ w.heap.size ≤ g) ∧ ∀ (B : Nat → Prop) (w0 : World), Dg B w0 w → (∀ k, v.ownBlock = some k → B k ∨ w0.heap.size ≤ k) → Sub B w0 → Dg B w0 w' := by
  obtain ⟨g, cap, w', hr, h2, h3, h4⟩ := run_app (P := P) w 0 t ty e i z size bytes ht hi hz hsize hby hzs hsz v n xs hown a m c news hl hnews h1 hm h63 hbytes (Nat.zero_le _)
  refine ⟨g, cap, w', hr, h2, h4.imp id (fun h => by omega), fun B w0 h0 hB hS => ?_⟩
  have key : ∀ k, v.ownBlock = some k → DgB w.heap[k]? w'.heap[k]? := by
    intro k hk
    subst hsize
    rcases hown.2 with ⟨rfl, rfl⟩ | ⟨g1, cap1, cur, rfl, hbg, hg1, hnc, hcm, hcs, htake⟩
    · simp [Value.ownBlock] at hk
    · simp only [Value.ownBlock, Option.some.injEq] at hk
      subst hk
      by_cases hroom : n + m ≤ cap1
      · have hfit' : n * i.size + news.length ≤ cur.size := by rw [hl, hcs, ← Nat.add_mul]; exact Nat.mul_le_mul_right _ hroom
        have hr' := run_append_room (P := P) w t ty e i ht hi g1 n cap1 cur hg1 a m c news hl hnews h1 hroom hfit'
        rw [hr] at hr'
        injection hr' with _ hw
        rw [hw]
        refine .inr ⟨cur, _, e, hg1, setRow_heap w g1 cur _ e _ hg1, ?_, fun j y hy => ?_⟩
        · simp only [List.size_toArray, List.length_append, List.length_take, List.length_drop, Array.length_toList]; omega
        · simp only [List.getElem?_toArray] at hy
          have hlt : (cur.toList.take (n * i.size)).length = n * i.size := by simp only [List.length_take, Array.length_toList]; omega
          by_cases hj : j < n * i.size
          · left
            rw [List.append_assoc, List.getElem?_append_left (by rw [hlt]; exact hj), List.getElem?_take, if_pos hj] at hy
            simpa using hy
          · by_cases hj2 : j < n * i.size + news.length
            · right
              rw [List.append_assoc, List.getElem?_append_right (by rw [hlt]; omega), hlt, List.getElem?_append_left (by omega)] at hy
              have := hfit _ y hy
              rwa [show n * i.size + (j - n * i.size) = j by omega] at this
            · left
              rw [List.getElem?_append_right (by rw [List.length_append, hlt]; omega), List.length_append, hlt, List.getElem?_drop, show n * i.size + news.length + (j - (n * i.size + news.length)) = j by omega] at hy
              simpa using hy
      · have holds : ∀ j u, xs[j]? = some u → w.cell? ((⟨g1, 0, none⟩ : Addr).add j) = some u := hown.cells (g := g1) rfl
        subst hby
        have hr' := run_append_grow (P := P) w t ty e i z ht hi hz ⟨g1, 0, none⟩ n cap1 xs hown.1 holds a m c news hl hnews (by omega) (by simp only [maxLen] at h63; omega) (growslice_fits (by omega) hbytes)
        rw [hr] at hr'
        injection hr' with _ hw
        rw [hw]
        exact .inl (heap_alloc_old w.drew _ (by
          rcases Nat.lt_or_ge g1 w.heap.size with h | h
          · exact h
          · rw [Array.getElem?_eq_none h] at hg1; simp at hg1))
  refine ⟨h3.os.trans h0.os, h3.tape.trans h0.tape, h3.output.trans h0.output, Nat.le_trans h0.size h3.size, fun k hk hn => (h3.block k (Nat.lt_of_lt_of_le hk h0.size) (fun e => ?_)).trans (h0.far k hk hn), fun k hk => (h0.near k hk).trans ?_⟩
  · rcases hB k e.symm with h | h
    · exact hn h
    · omega
  · by_cases e : some k = v.ownBlock
    · exact key k e.symm
    · exact .inl (h3.block k (Nat.lt_of_lt_of_le (hS k hk) h0.size) e)

theorem wpList_app2 {P : Program} (w : World) {ops : Array Oper} {rest : List Oper} {o : Oper} {a : Act} {Q : Exit → Act → World → Prop} (hgd : o.guard = none) (s x : Operand) (t : TypeId)
    (ho : o.op = .call { callee := .builtin .append, args := #[s, x], argTypes := #[t, t] })
    (e : TypeId) (i : TypeInfo) (z : Value) (size bytes : Nat) (ht : P.underlying t = some (.slice e)) (hi : P.info? e = some i) (hz : i.zero = some z)
    (hsize : i.size = size) (hby : i.bytes = bytes) (hzs : z.cells.size = size) (hsz : 0 < size)
    (v : Value) (n : Nat) (xs : List Value) (hs : a.eval s = v) (hown : w.ownsRow 0 e size v n xs)
    (ad : Addr) (m c : Nat) (news : List Value) (hx : a.eval x = .slice (some ad) m c) (hl : news.length = m * size) (hnews : ∀ j u, news[j]? = some u → w.cell? (ad.add j) = some u) (h1 : ∀ u ∈ news, u.oneCell' = true) (hm : 0 < m)
    (h63 : n + m ≤ maxLen) (hbytes : (n + m) * bytes ≤ 140737488355328) (hfit : ∀ j u, news[j]? = some u → Fits e (n * size + j) u)
    (h : ∀ g cap w', w'.ownsRow 0 e size (.slice (some ⟨g, 0, none⟩) (n + m) cap) (n + m) (xs ++ news) → (v.ownBlock = some g ∨ w.heap.size ≤ g) → (∀ (B : Nat → Prop) (w0 : World), Dg B w0 w → (∀ k, v.ownBlock = some k → B k ∨ w0.heap.size ≤ k) → Sub B w0 → Dg B w0 w') → wpList P ops Q rest (a.put o.dst (.slice (some ⟨g, 0, none⟩) (n + m) cap)) w') : wpList P ops Q (o :: rest) a w := by
  refine wpList_plain hgd fun K hK => ?_
  obtain ⟨g, cap, w', hr, h2, h3, h4⟩ := run_app2 (P := P) w t o.type e i z size bytes ht hi hz hsize hby hzs hsz v n xs hown ad m c news hl hnews h1 hm h63 hbytes hfit
  unfold Oper.wp execOp
  simp only [ho, resolve, invoke, builtin, Sem.run_bind, Sem.run_pure, Result.andThen_ok, List.map_toArray, List.map_cons, List.map_nil, hs, hx, hr]
  exact hK _ _ (h g cap w' h2 h3 h4)

/-- a slice that is a whole row of B, each of its values with P -/
def Rowk (w : World) (B : Nat → Prop) (e : TypeId) (size : Nat) (a : Option Addr) (n cap : Nat) (P : Nat → Value → Prop) : Prop :=
  (a = none ∧ n = 0 ∧ cap = 0) ∨ ∃ g cur, a = some ⟨g, 0, none⟩ ∧ B g ∧ w.heap[g]? = some (.cells cur e (0, 0)) ∧ n ≤ cap ∧ cap ≤ maxLen ∧ cur.size = cap * size ∧ ∀ j, j < n * size → ∃ x, cur[j]? = some x ∧ P j x
theorem Rowk.dg {w w' : World} {B : Nat → Prop} {e : TypeId} {size : Nat} {a : Option Addr} {n cap : Nat} {P P' : Nat → Value → Prop} (h : Rowk w B e size a n cap P) (hd : Dg B w w') (hP : ∀ j x, P j x → P' j x) (hF : ∀ j y, Fits e j y → P' j y) : Rowk w' B e size a n cap P' := by
  rcases h with h | ⟨g, cur, h1, h2, h3, h4, h5, h6, h7⟩
  · exact .inl h
  · right
    rcases hd.near g h2 with e1 | ⟨c0, c1, e', e1, e2, e3, e4⟩
    · exact ⟨g, cur, h1, h2, e1.trans h3, h4, h5, h6, fun j hj => by obtain ⟨x, hx, hp⟩ := h7 j hj; exact ⟨x, hx, hP j x hp⟩⟩
    · rw [h3] at e1
      simp only [Option.some.injEq, Obj.cells.injEq] at e1
      obtain ⟨rfl, rfl, _⟩ := e1
      refine ⟨g, c1, h1, h2, e2, h4, h5, e3.trans h6, fun j hj => ?_⟩
      obtain ⟨x, hx, hp⟩ := h7 j hj
      have hlt : j < c1.size := by rw [e3]; exact (Array.getElem?_eq_some_iff.1 hx).1
      refine ⟨c1[j], by simp [hlt], ?_⟩
      rcases e4 j c1[j] (by simp [hlt]) with k | k
      · rw [hx] at k; injection k with k; rw [← k]; exact hP j x hp
      · exact hF j _ k
theorem Rowk.owns {w : World} {B : Nat → Prop} {e : TypeId} {size : Nat} {a : Option Addr} {n cap : Nat} {P : Nat → Value → Prop} (h : Rowk w B e size a n cap P) : ∃ xs, w.ownsRow 0 e size (.slice a n cap) n xs := by
  rcases h with ⟨rfl, rfl, rfl⟩ | ⟨g, cur, rfl, h2, h3, h4, h5, h6, h7⟩
  · exact ⟨[], by simp, .inl ⟨rfl, rfl⟩⟩
  · refine ⟨cur.toList.take (n * size), ?_, .inr ⟨g, cap, cur, rfl, Nat.zero_le _, h3, h4, h5, h6, rfl⟩⟩
    rw [List.length_take, Array.length_toList, h6]
    have : n * size ≤ cap * size := Nat.mul_le_mul_right _ h4
    omega
theorem Rowk.own {w : World} {B : Nat → Prop} {e : TypeId} {size : Nat} {a : Option Addr} {n cap : Nat} {P : Nat → Value → Prop} (h : Rowk w B e size a n cap P) : ∀ k, (Value.slice a n cap).ownBlock = some k → B k := by
  intro k hk
  rcases h with ⟨rfl, rfl, rfl⟩ | ⟨g, cur, rfl, h2, _⟩
  · simp [Value.ownBlock] at hk
  · simp only [Value.ownBlock, Option.some.injEq] at hk; subst hk; exact h2

/-- the value is nil or of some type -/
def Shp (x : Value) : Prop := x = .nilIface ∨ ∃ T y, x = .iface T y
def isU8 (_ : Nat) (x : Value) : Prop := ∃ b, x = .int .u8 b ∧ 0 ≤ b ∧ b ≤ 255
theorem Lf.shp {v : Value} (h : Lf v) : Shp v := by
  rcases h with h | ⟨T, x, h, _⟩ | h
  · exact .inl h
  · exact .inr ⟨T, x, h⟩
  · exact .inr ⟨_, _, h⟩
/-- a value that can be written over, at most n deep -/
def Ws (w : World) (B : Nat → Prop) : Nat → Value → Prop
  | 0, v => Lf v
  | n + 1, v => Lf v ∨ (∃ a len cap, v = .iface 23 (.slice a len cap) ∧ len ≤ 65536 ∧ Rowk w B 5 1 a len cap isU8) ∨
    (∃ a len cap, v = .iface 71 (.slice a len cap) ∧ len ≤ 4096 ∧ Rowk w B 20 1 a len cap (fun _ x => Ws w B n x ∧ Shp x)) ∨
    (∃ a len cap, v = .iface 73 (.slice a len cap) ∧ len ≤ 4096 ∧ Rowk w B 112 2 a len cap (fun j x => (j % 2 = 0 → ∃ s, x = .string s) ∧ (j % 2 = 1 → Ws w B n x ∧ Shp x))) ∨
    (∃ g cur a len cap, v = .iface 75 (.pointer (some ⟨g, 0, none⟩)) ∧ B g ∧ w.heap[g]? = some (.cells cur 77 (0, 0)) ∧ (∃ s, cur[0]? = some (.string s)) ∧ (∃ i, cur[1]? = some (.int .i64 i)) ∧ cur[2]? = some (.slice a len cap) ∧ len ≤ 4096 ∧
      Rowk w B 112 2 a len cap (fun j x => (j % 2 = 0 → ∃ s, x = .string s) ∧ (j % 2 = 1 → Ws w B n x ∧ Shp x)))
def WsF (w : World) (B : Nat → Prop) (n : Nat) (a : Option Addr) (len cap : Nat) : Prop := Rowk w B 112 2 a len cap (fun j x => (j % 2 = 0 → ∃ s, x = .string s) ∧ (j % 2 = 1 → Ws w B n x ∧ Shp x))
theorem Ws.lf {w : World} {B : Nat → Prop} {n : Nat} {v : Value} (h : Lf v) : Ws w B n v := by
  cases n with
  | zero => exact h
  | succ n => exact .inl h
theorem fits_list {w : World} {B : Nat → Prop} {n j : Nat} {y : Value} (h : Fits 20 j y) : Ws w B n y ∧ Shp y := by
  rcases h with ⟨_, h⟩ | ⟨h, _⟩ | ⟨h, _⟩ | ⟨h, _⟩
  · exact ⟨Ws.lf h, h.shp⟩
  all_goals exact absurd h (by decide)
theorem fits_field {w : World} {B : Nat → Prop} {n j : Nat} {y : Value} (h : Fits 112 j y) : (j % 2 = 0 → ∃ s, y = .string s) ∧ (j % 2 = 1 → Ws w B n y ∧ Shp y) := by
  rcases h with ⟨h, _⟩ | ⟨h, _⟩ | ⟨_, h⟩ | ⟨h, _⟩
  · exact absurd h (by decide)
  · exact absurd h (by decide)
  · rcases h with ⟨h1, h2⟩ | ⟨h1, h2⟩
    · exact ⟨fun _ => h2, fun h => by omega⟩
    · exact ⟨fun h => by omega, fun _ => ⟨Ws.lf h2, h2.shp⟩⟩
  · exact absurd h (by decide)
theorem fits_u8 {j : Nat} {y : Value} (h : Fits 5 j y) : isU8 j y := by
  rcases h with ⟨h, _⟩ | ⟨_, h⟩ | ⟨h, _⟩ | ⟨h, _⟩
  · exact absurd h (by decide)
  · exact h
  · exact absurd h (by decide)
  · exact absurd h (by decide)
theorem Ws.dg {w w' : World} {B : Nat → Prop} (hd : Dg B w w') : ∀ n v, Ws w B n v → Ws w' B n v
  | 0, _, h => h
  | n + 1, v, h => by
    have hl : ∀ (j : Nat) x, Ws w B n x ∧ Shp x → Ws w' B n x ∧ Shp x := fun _ x hx => ⟨Ws.dg hd n x hx.1, hx.2⟩
    have hf : ∀ (j : Nat) x, ((j % 2 = 0 → ∃ s, x = .string s) ∧ (j % 2 = 1 → Ws w B n x ∧ Shp x)) → ((j % 2 = 0 → ∃ s, x = .string s) ∧ (j % 2 = 1 → Ws w' B n x ∧ Shp x)) := fun j x hx => ⟨hx.1, fun e => hl j x (hx.2 e)⟩
    rcases h with h | ⟨a, len, cap, h1, h2, h3⟩ | ⟨a, len, cap, h1, h2, h3⟩ | ⟨a, len, cap, h1, h2, h3⟩ | ⟨g, cur, a, len, cap, h1, h2, h3, h4, h5, h6, h7, h8⟩
    · exact .inl h
    · exact .inr (.inl ⟨a, len, cap, h1, h2, h3.dg hd (fun _ _ h => h) (fun _ _ h => fits_u8 h)⟩)
    · exact .inr (.inr (.inl ⟨a, len, cap, h1, h2, h3.dg hd hl (fun _ _ h => fits_list h)⟩))
    · exact .inr (.inr (.inr (.inl ⟨a, len, cap, h1, h2, h3.dg hd hf (fun _ _ h => fits_field h)⟩)))
    · refine .inr (.inr (.inr (.inr ?_)))
      rcases hd.near g h2 with e1 | ⟨c0, c1, e', e1, e2, e3, e4⟩
      · exact ⟨g, cur, a, len, cap, h1, h2, e1.trans h3, h4, h5, h6, h7, h8.dg hd hf (fun _ _ h => fits_field h)⟩
      · rw [h3] at e1
        simp only [Option.some.injEq, Obj.cells.injEq] at e1
        obtain ⟨rfl, rfl, _⟩ := e1
        have hz : 2 < c1.size := by rw [e3]; exact (Array.getElem?_eq_some_iff.1 h6).1
        have key : ∀ j (hj : j < c1.size), cur[j]? = some c1[j] ∨ Fits 77 j c1[j] := fun j hj => e4 j _ (by simp [hj])
        refine ⟨g, c1, a, len, cap, h1, h2, e2, ?_, ?_, ?_, h7, h8.dg hd hf (fun _ _ h => fits_field h)⟩
        · obtain ⟨s, hs⟩ := h4
          rcases key 0 (by omega) with k | k
          · exact ⟨s, by rw [hs] at k; injection k with k; rw [k]; simp⟩
          · rcases k with ⟨k, _⟩ | ⟨k, _⟩ | ⟨k, _⟩ | ⟨_, ⟨_, s', k⟩ | ⟨k, _⟩⟩
            · exact absurd k (by decide)
            · exact absurd k (by decide)
            · exact absurd k (by decide)
            · exact ⟨s', by rw [← k]; simp⟩
            · omega
        · obtain ⟨s, hs⟩ := h5
          rcases key 1 (by omega) with k | k
          · exact ⟨s, by rw [hs] at k; injection k with k; rw [k]; simp⟩
          · rcases k with ⟨k, _⟩ | ⟨k, _⟩ | ⟨k, _⟩ | ⟨_, ⟨k, _⟩ | ⟨_, s', k⟩⟩
            · exact absurd k (by decide)
            · exact absurd k (by decide)
            · exact absurd k (by decide)
            · omega
            · exact ⟨s', by rw [← k]; simp⟩
        · rcases key 2 hz with k | k
          · rw [h6] at k; injection k with k; rw [k]; simp [hz]
          · rcases k with ⟨k, _⟩ | ⟨k, _⟩ | ⟨k, _⟩ | ⟨_, ⟨k, _⟩ | ⟨k, _⟩⟩
            · exact absurd k (by decide)
            · exact absurd k (by decide)
            · exact absurd k (by decide)
            · omega
            · omega
end Go.Proofs.Ytkomcebknllaiaa

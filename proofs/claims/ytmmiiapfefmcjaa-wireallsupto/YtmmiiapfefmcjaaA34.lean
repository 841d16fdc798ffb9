/- tenonmake.Entries. -/
import Derived.Test.YtmmiiapfefmcjaaA33
import Derived.Deep.RegionHeld3
import Derived.Test.YtmmiiapfefmcjaaA3
namespace Go.Proofs.Ytmmiiapfefmcjaa
open Go.RowKit

set_option maxRecDepth 100000 in
set_option maxHeartbeats 2000000 in
theorem mentries_any (N : Nat) (HC : SmC N) (A B : TmF) (hN : A.sz ≤ N) (hE : A.eqv B) (a b : Option Addr) (ca cb : Nat) (S : Nat → Prop) (w : World) (ha : A.In w S a 0) (hb : B.In w S b 0) (hS : Sub S w) (la : A.len * 168 ≤ 140737488355328) :
    Calls Try.prog 46 #[.slice a A.len ca, .slice b B.len cb] w fun e w' => e = .returned (.bool true) ∧ Below w.heap.size w w' := by
  have hlen := TmF.eqv_len A B hE
  rw [← hlen]
  clear hlen
  have HCH : Hid (SmC N) := HC
  have H0 : Hid (A.In w S a 0 ∧ B.In w S b 0 ∧ A.eqv B) := ⟨ha, hb, hE⟩
  clear HC ha hb hE
  go_enter Try.func46, Try.ntmps46
  go_wp2_with fail
  go_loopw [5] (fun x wr => ∃ (k : Nat) (l r : TmF), x = .int .i64 k ∧ l.len + k = A.len ∧ l.sz ≤ N ∧ Hid (l.In w S a k ∧ r.In w S b k ∧ l.eqv r) ∧ Hid (Below w.heap.size w wr)) (fun x _ => A.len - (intOf x).toNat)
  case atStart => exact ⟨0, A, B, rfl, rfl, hN, H0.out, Below.refl _ _⟩
  case round =>
    obtain ⟨k, l, r, rfl, hl, hlN, HI, HW⟩ := hrel
    clear H0
    cases l with
    | nil =>
      have h1 : A.len ≤ k := by simp [TmF.len] at hl; omega
      clear hl
      go_wp2_with fail
      go_ret
      exact ⟨rfl, HW.out⟩
    | cons n1 t l =>
      cases r with
      | nil => exact absurd HI.out.2.2 (by simp [TmF.eqv])
      | cons n2 u r =>
        obtain ⟨hv1, hv2, he⟩ := HI.out
        simp only [TmF.eqv] at he
        simp only [TmF.In] at hv1 hv2
        obtain ⟨g1, o1, cs1, rfl, hg1, a1, _, c1, ht, hl'⟩ := hv1
        obtain ⟨g2, o2, cs2, rfl, hg2, a2, _, c2, hu, hr'⟩ := hv2
        obtain ⟨rfl, he⟩ := he
        have hk1 : k < A.len := by simp only [TmF.len] at hl; omega
        have hi0 : (0 : Int) ≤ (k : Int) := Int.natCast_nonneg _
        have hi1 : (k : Int) < (A.len : Int) := by omega
        have HL : Hid (l.len + (k + 1) = A.len) := by show _ = _; simp only [TmF.len] at hl; omega
        have htN : t.sz ≤ N ∧ l.sz ≤ N := by simp [TmF.sz] at hlN; omega
        have hs : Same S w wr := hS.same HW.out
        have HO : Hid (∀ W, Below wr.heap.size wr W → Calls Try.prog 22 #[.agg cs1, .agg cs2] W fun e w' => e = .returned (.bool true) ∧ Below W.heap.size W w') :=
          HCH.out.at htN.1 he.1 (t.In_same hs (fun _ h => h) cs1 ht) (u.In_same hs (fun _ h => h) cs2 hu) (hS.later HW.out)
        obtain ⟨k1, b1, i1, f1, tx1, vb1, rf1, vl1, vf1, cl1, vr1, rfl⟩ := Tm.In_tc ht
        obtain ⟨k2, b2, i2, f2, tx2, vb2, rf2, vl2, vf2, cl2, vr2, rfl⟩ := Tm.In_tc hu
        obtain ⟨e0, e1, e2, e3, e4, e5, e6, e7, e8, e9, e10⟩ := eleven (w := wr) (g := g1) (o := o1 + k * 12 + 1) (fun x hx => by rw [hs.cell (p := ⟨g1, o1 + k * 12 + 1 + x, none⟩) hg1]; exact c1 x hx)
        obtain ⟨d0, d1, d2, d3, d4, d5, d6, d7, d8, d9, d10⟩ := eleven (w := wr) (g := g2) (o := o2 + k * 12 + 1) (fun x hx => by rw [hs.cell (p := ⟨g2, o2 + k * 12 + 1 + x, none⟩) hg2]; exact c2 x hx)
        have a1 : wr.cell? ⟨g1, o1 + k * 12, none⟩ = some (.string n1) := by rw [hs.cell (p := ⟨g1, o1 + k * 12, none⟩) hg1]; exact a1
        have a2 : wr.cell? ⟨g2, o2 + k * 12, none⟩ = some (.string n1) := by rw [hs.cell (p := ⟨g2, o2 + k * 12, none⟩) hg2]; exact a2
        have HN : Hid (l.In w S (some ⟨g1, o1, none⟩) (k + 1) ∧ r.In w S (some ⟨g2, o2, none⟩) (k + 1) ∧ l.eqv r) := ⟨hl', hr', he.2⟩
        unfold tcells at HO
        clear hl hlN HI hl' hr' he ht hu hs c1 c2
        have HX : Hid (∀ W, Below wr.heap.size wr W → W.cell? ⟨g1, o1 + k * 12, none⟩ = some (.string n1) ∧ W.cell? ⟨g2, o2 + k * 12, none⟩ = some (.string n1) ∧ W.cell? ⟨g1, o1 + k * 12 + 1, none⟩ = some (.int .i64 k1) ∧ W.cell? ⟨g1, o1 + k * 12 + 1 + 1, none⟩ = some (.bool b1) ∧ W.cell? ⟨g1, o1 + k * 12 + 1 + 2, none⟩ = some (.int .i64 i1) ∧ W.cell? ⟨g1, o1 + k * 12 + 1 + 3, none⟩ = some (.float .f64 f1) ∧ W.cell? ⟨g1, o1 + k * 12 + 1 + 4, none⟩ = some (.string tx1) ∧ W.cell? ⟨g1, o1 + k * 12 + 1 + 5, none⟩ = some (vb1) ∧ W.cell? ⟨g1, o1 + k * 12 + 1 + 6, none⟩ = some (.int .u64 rf1) ∧ W.cell? ⟨g1, o1 + k * 12 + 1 + 7, none⟩ = some (vl1) ∧ W.cell? ⟨g1, o1 + k * 12 + 1 + 8, none⟩ = some (vf1) ∧ W.cell? ⟨g1, o1 + k * 12 + 1 + 9, none⟩ = some (.string cl1) ∧ W.cell? ⟨g1, o1 + k * 12 + 1 + 10, none⟩ = some (.int .i64 vr1) ∧ W.cell? ⟨g2, o2 + k * 12 + 1, none⟩ = some (.int .i64 k2) ∧ W.cell? ⟨g2, o2 + k * 12 + 1 + 1, none⟩ = some (.bool b2) ∧ W.cell? ⟨g2, o2 + k * 12 + 1 + 2, none⟩ = some (.int .i64 i2) ∧ W.cell? ⟨g2, o2 + k * 12 + 1 + 3, none⟩ = some (.float .f64 f2) ∧ W.cell? ⟨g2, o2 + k * 12 + 1 + 4, none⟩ = some (.string tx2) ∧ W.cell? ⟨g2, o2 + k * 12 + 1 + 5, none⟩ = some (vb2) ∧ W.cell? ⟨g2, o2 + k * 12 + 1 + 6, none⟩ = some (.int .u64 rf2) ∧ W.cell? ⟨g2, o2 + k * 12 + 1 + 7, none⟩ = some (vl2) ∧ W.cell? ⟨g2, o2 + k * 12 + 1 + 8, none⟩ = some (vf2) ∧ W.cell? ⟨g2, o2 + k * 12 + 1 + 9, none⟩ = some (.string cl2) ∧ W.cell? ⟨g2, o2 + k * 12 + 1 + 10, none⟩ = some (.int .i64 vr2)) := fun W hW => by
          have h1 : ∀ j, W.cell? ⟨g1, j, none⟩ = wr.cell? ⟨g1, j, none⟩ := fun j => hW.cell (p := ⟨g1, j, none⟩) (hS.later HW.out _ hg1)
          have h2 : ∀ j, W.cell? ⟨g2, j, none⟩ = wr.cell? ⟨g2, j, none⟩ := fun j => hW.cell (p := ⟨g2, j, none⟩) (hS.later HW.out _ hg2)
          simp only [h1, h2]
          exact ⟨a1, a2, e0, e1, e2, e3, e4, e5, e6, e7, e8, e9, e10, d0, d1, d2, d3, d4, d5, d6, d7, d8, d9, d10⟩
        clear a1 a2 e0 e1 e2 e3 e4 e5 e6 e7 e8 e9 e10 d0 d1 d2 d3 d4 d5 d6 d7 d8 d9 d10
        go_wp2_with fail
        go_region_held3 (fun W => W.cell? ⟨g1, o1 + k * 12, none⟩ = some (.string n1) ∧ W.cell? ⟨g2, o2 + k * 12, none⟩ = some (.string n1) ∧ W.cell? ⟨g1, o1 + k * 12 + 1, none⟩ = some (.int .i64 k1) ∧ W.cell? ⟨g1, o1 + k * 12 + 1 + 1, none⟩ = some (.bool b1) ∧ W.cell? ⟨g1, o1 + k * 12 + 1 + 2, none⟩ = some (.int .i64 i1) ∧ W.cell? ⟨g1, o1 + k * 12 + 1 + 3, none⟩ = some (.float .f64 f1) ∧ W.cell? ⟨g1, o1 + k * 12 + 1 + 4, none⟩ = some (.string tx1) ∧ W.cell? ⟨g1, o1 + k * 12 + 1 + 5, none⟩ = some (vb1) ∧ W.cell? ⟨g1, o1 + k * 12 + 1 + 6, none⟩ = some (.int .u64 rf1) ∧ W.cell? ⟨g1, o1 + k * 12 + 1 + 7, none⟩ = some (vl1) ∧ W.cell? ⟨g1, o1 + k * 12 + 1 + 8, none⟩ = some (vf1) ∧ W.cell? ⟨g1, o1 + k * 12 + 1 + 9, none⟩ = some (.string cl1) ∧ W.cell? ⟨g1, o1 + k * 12 + 1 + 10, none⟩ = some (.int .i64 vr1) ∧ W.cell? ⟨g2, o2 + k * 12 + 1, none⟩ = some (.int .i64 k2) ∧ W.cell? ⟨g2, o2 + k * 12 + 1 + 1, none⟩ = some (.bool b2) ∧ W.cell? ⟨g2, o2 + k * 12 + 1 + 2, none⟩ = some (.int .i64 i2) ∧ W.cell? ⟨g2, o2 + k * 12 + 1 + 3, none⟩ = some (.float .f64 f2) ∧ W.cell? ⟨g2, o2 + k * 12 + 1 + 4, none⟩ = some (.string tx2) ∧ W.cell? ⟨g2, o2 + k * 12 + 1 + 5, none⟩ = some (vb2) ∧ W.cell? ⟨g2, o2 + k * 12 + 1 + 6, none⟩ = some (.int .u64 rf2) ∧ W.cell? ⟨g2, o2 + k * 12 + 1 + 7, none⟩ = some (vl2) ∧ W.cell? ⟨g2, o2 + k * 12 + 1 + 8, none⟩ = some (vf2) ∧ W.cell? ⟨g2, o2 + k * 12 + 1 + 9, none⟩ = some (.string cl2) ∧ W.cell? ⟨g2, o2 + k * 12 + 1 + 10, none⟩ = some (.int .i64 vr2))
          (first | with_reducible exact HX.out w4 HB4.out | with_reducible exact HX.out _ (Below.refl _ _) | with_reducible exact HX.out _ (Below.refl _ _).drew)
          ((first
            | (go_at_call 22; refine (HO.out _ ?_).mono ?_; exact (Below.refl _ _).drew; rintro e w4 ⟨rfl, hb4⟩; have HB4 : Hid (Below wr.heap.size wr w4) := (Below.refl _ _).drew.trans hb4; clear hb4)))
        have HB5 : Hid (Below w.heap.size w w4) := HW.out.trans (HB4.out.mono HW.out.size)
        go_wp2_with fail
        go_roundw
        case rel => exact ⟨k + 1, l, r, by go_num, HL.out, htN.2, HN.out, HB5.out⟩
        case measure => simp [intOf]; omega
end Go.Proofs.Ytmmiiapfefmcjaa

/- tenonmake.Same, kind by kind. -/
namespace Go.Proofs.Ytmmiiapfefmcjaa
open Go.RowKit

section
variable (b : Bool) (i : Int) (f : Nat) (tx : ByteArray) (vb : Value) (rf : Int) (vl vf : Value) (c : ByteArray) (vr : Int)
variable (b2 : Bool) (i2 : Int) (f2 : Nat) (tx2 : ByteArray) (vb2 : Value) (rf2 : Int) (vl2 vf2 : Value) (c2 : ByteArray) (vr2 : Int) (w : World)
set_option maxRecDepth 100000 in
set_option maxHeartbeats 1000000 in
theorem msame_1 : Calls Try.prog 22 #[.agg (tcells 1 b i f tx vb rf vl vf c vr), .agg (tcells 1 b2 i2 f2 tx2 vb2 rf2 vl2 vf2 c2 vr2)] w fun e w' => e = .returned (.bool true) ∧ Below w.heap.size w w' := by
  unfold tcells
  have HB := two_below w
  have HB : Hid _ := HB
  go_enter Try.func22, Try.ntmps22
  go_wp2_with fail
  go_ret
  exact ⟨rfl, HB.out _ _⟩
set_option maxRecDepth 100000 in
set_option maxHeartbeats 1000000 in
theorem msame_2 : Calls Try.prog 22 #[.agg (tcells 2 b i f tx vb rf vl vf c vr), .agg (tcells 2 b i2 f2 tx2 vb2 rf2 vl2 vf2 c2 vr2)] w fun e w' => e = .returned (.bool true) ∧ Below w.heap.size w w' := by
  unfold tcells
  have HB := two_below w
  have HB : Hid _ := HB
  go_enter Try.func22, Try.ntmps22
  go_wp2_with fail
  go_ret
  exact ⟨by simp, HB.out _ _⟩
set_option maxRecDepth 100000 in
set_option maxHeartbeats 1000000 in
theorem msame_3 : Calls Try.prog 22 #[.agg (tcells 3 b i f tx vb rf vl vf c vr), .agg (tcells 3 b2 i f2 tx2 vb2 rf2 vl2 vf2 c2 vr2)] w fun e w' => e = .returned (.bool true) ∧ Below w.heap.size w w' := by
  unfold tcells
  have HB := two_below w
  have HB : Hid _ := HB
  go_enter Try.func22, Try.ntmps22
  go_wp2_with fail
  go_ret
  exact ⟨by simp, HB.out _ _⟩
set_option maxRecDepth 100000 in
set_option maxHeartbeats 1000000 in
theorem msame_4 : Calls Try.prog 22 #[.agg (tcells 4 b i f tx vb rf vl vf c vr), .agg (tcells 4 b2 i2 f tx2 vb2 rf2 vl2 vf2 c2 vr2)] w fun e w' => e = .returned (.bool true) ∧ Below w.heap.size w w' := by
  unfold tcells
  have hb := bits_run f
  have HB := two_below w
  have HB : Hid _ := HB
  go_enter Try.func22, Try.ntmps22
  go_wp2_with fail
  go_quiet (fail)
  go_wp2_with fail
  go_ret
  exact ⟨by simp, (HB.out _ _).trans (below_drewN' _ _ _)⟩
set_option maxRecDepth 100000 in
set_option maxHeartbeats 1000000 in
theorem msame_5 : Calls Try.prog 22 #[.agg (tcells 5 b i f tx vb rf vl vf c vr), .agg (tcells 5 b2 i2 f2 tx vb2 rf2 vl2 vf2 c2 vr2)] w fun e w' => e = .returned (.bool true) ∧ Below w.heap.size w w' := by
  unfold tcells
  have HB := two_below w
  have HB : Hid _ := HB
  go_enter Try.func22, Try.ntmps22
  go_wp2_with fail
  go_ret
  exact ⟨by simp, HB.out _ _⟩
set_option maxRecDepth 100000 in
set_option maxHeartbeats 1000000 in
theorem msame_6 (x : ByteArray) (a a2 : Option Addr) (ca cb : Nat) (S : Nat → Prop) (ha : BytesAt w S a x) (hb : BytesAt w S a2 x) (hS : Sub S w) : Calls Try.prog 22 #[.agg (tcells 6 b i f tx (.slice a x.size ca) rf vl vf c vr), .agg (tcells 6 b2 i2 f2 tx2 (.slice a2 x.size cb) rf2 vl2 vf2 c2 vr2)] w fun e w' => e = .returned (.bool true) ∧ Below w.heap.size w w' := by
  unfold tcells
  have HL1 : ∀ o p, (convert 23 9 (.slice a x.size ca)).run Try.prog ((w.alloc o).alloc p) = .ok (.string x) ((w.alloc o).alloc p) := fun o p => conv_run x a ca S _ (ha.same (hS.same (two_below w o p)) (fun _ h => h))
  have HL2 : ∀ o p, (convert 23 9 (.slice a2 x.size cb)).run Try.prog ((w.alloc o).alloc p) = .ok (.string x) ((w.alloc o).alloc p) := fun o p => conv_run x a2 cb S _ (hb.same (hS.same (two_below w o p)) (fun _ h => h))
  clear ha hb
  have HB := two_below w
  have HB : Hid _ := HB
  go_enter Try.func22, Try.ntmps22
  go_wp2_with fail
  go_ret
  exact ⟨by simp, HB.out _ _⟩
set_option maxRecDepth 100000 in
set_option maxHeartbeats 1000000 in
theorem msame_7 : Calls Try.prog 22 #[.agg (tcells 7 b i f tx vb rf vl vf c vr), .agg (tcells 7 b2 i2 f2 tx2 vb2 rf vl2 vf2 c2 vr2)] w fun e w' => e = .returned (.bool true) ∧ Below w.heap.size w w' := by
  unfold tcells
  have HB := two_below w
  have HB : Hid _ := HB
  go_enter Try.func22, Try.ntmps22
  go_wp2_with fail
  go_ret
  exact ⟨by simp, HB.out _ _⟩
set_option maxRecDepth 100000 in
set_option maxHeartbeats 1000000 in
theorem msame_8 (h : ∀ W, Below w.heap.size w W → Calls Try.prog 45 #[vl, vl2] W fun e w' => e = .returned (.bool true) ∧ Below W.heap.size W w') : Calls Try.prog 22 #[.agg (tcells 8 b i f tx vb rf vl vf c vr), .agg (tcells 8 b2 i2 f2 tx2 vb2 rf2 vl2 vf2 c2 vr2)] w fun e w' => e = .returned (.bool true) ∧ Below w.heap.size w w' := by
  unfold tcells
  have HX : Hid _ := h
  clear h
  have HB := two_below w
  have HB : Hid _ := HB
  go_enter Try.func22, Try.ntmps22
  go_wp2_with (go_at_call 45; refine (HX.out _ (HB.out _ _)).mono ?_; rintro e w1 ⟨rfl, hb1⟩)
  go_ret
  exact ⟨rfl, below_to (HB.out _ _) hb1⟩
set_option maxRecDepth 100000 in
set_option maxHeartbeats 1000000 in
theorem msame_9 (h : ∀ W, Below w.heap.size w W → Calls Try.prog 46 #[vf, vf2] W fun e w' => e = .returned (.bool true) ∧ Below W.heap.size W w') : Calls Try.prog 22 #[.agg (tcells 9 b i f tx vb rf vl vf c vr), .agg (tcells 9 b2 i2 f2 tx2 vb2 rf2 vl2 vf2 c2 vr2)] w fun e w' => e = .returned (.bool true) ∧ Below w.heap.size w w' := by
  unfold tcells
  have HX : Hid _ := h
  clear h
  have HB := two_below w
  have HB : Hid _ := HB
  go_enter Try.func22, Try.ntmps22
  go_wp2_with (go_at_call 46; refine (HX.out _ (HB.out _ _)).mono ?_; rintro e w1 ⟨rfl, hb1⟩)
  go_ret
  exact ⟨rfl, below_to (HB.out _ _) hb1⟩
set_option maxRecDepth 100000 in
set_option maxHeartbeats 1000000 in
theorem msame_10 (h : ∀ W, Below w.heap.size w W → Calls Try.prog 46 #[vf, vf2] W fun e w' => e = .returned (.bool true) ∧ Below W.heap.size W w') : Calls Try.prog 22 #[.agg (tcells 10 b i f tx vb rf vl vf c vr), .agg (tcells 10 b2 i2 f2 tx2 vb2 rf2 vl2 vf2 c vr)] w fun e w' => e = .returned (.bool true) ∧ Below w.heap.size w w' := by
  unfold tcells
  have HX : Hid _ := h
  clear h
  have HB := two_below w
  have HB : Hid _ := HB
  go_enter Try.func22, Try.ntmps22
  go_wp2_with (go_at_call 46; refine (HX.out _ (HB.out _ _)).mono ?_; rintro e w1 ⟨rfl, hb1⟩)
  go_ret
  exact ⟨rfl, below_to (HB.out _ _) hb1⟩
end
end Go.Proofs.Ytmmiiapfefmcjaa

/- tenonmake.Same at two terms of one value. -/
namespace Go.Proofs.Ytmmiiapfefmcjaa
open Go.RowKit

set_option maxHeartbeats 1000000 in
theorem msame_any (N : Nat) : SmC N := by
  induction N with
  | zero => intro t u ht; cases t; simp [Tm.sz] at ht
  | succ N ih =>
    intro s t hN hE cs ct S w hs ht hS
    cases s with
    | mk k b i f tx by' rf l fs c v =>
      cases t with
      | mk k2 b2 i2 f2 tx2 by2 rf2 l2 fs2 c2 v2 =>
        have hlN : l.sz ≤ N ∧ fs.sz ≤ N := by simp [Tm.sz] at hN; omega
        simp only [Tm.eqv] at hE
        obtain ⟨rfl, hk, x2, x3, x4, x5, x6, x7, x8, x9, x10⟩ := hE
        simp only [Tm.In] at hs ht
        obtain ⟨ab, cb, al, cl, af, cf, rfl, bd, h1, h2, h3⟩ := hs
        obtain ⟨ab2, cb2, al2, cl2, af2, cf2, rfl, bd2, g1, g2, g3⟩ := ht
        have HF : ∀ (hk : k = 9 ∨ k = 10), ∀ W, Below w.heap.size w W → Calls Try.prog 46 #[.slice af fs.len cf, .slice af2 fs2.len cf2] W fun e w' => e = .returned (.bool true) ∧ Below W.heap.size W w' := fun hk W hW =>
          mentries_any N ih fs fs2 hlN.2 (x9 hk) af af2 cf cf2 S W (fs.In_same (hS.same hW) (fun _ h => h) af 0 h3) (fs2.In_same (hS.same hW) (fun _ h => h) af2 0 g3) (hS.later hW) bd.nf
        by_cases k1 : k = 1
        · subst k1; exact msame_1 _ _ _ _ _ _ _ _ _ _ _ _ _ _ _ _ _ _ _ _ w
        by_cases k2 : k = 2
        · subst k2; obtain rfl := x2 rfl; exact msame_2 _ _ _ _ _ _ _ _ _ _ _ _ _ _ _ _ _ _ _ w
        by_cases k3 : k = 3
        · subst k3; obtain rfl := x3 rfl; exact msame_3 _ _ _ _ _ _ _ _ _ _ _ _ _ _ _ _ _ _ _ w
        by_cases k4 : k = 4
        · subst k4; obtain rfl := x4 rfl; exact msame_4 _ _ _ _ _ _ _ _ _ _ _ _ _ _ _ _ _ _ _ w
        by_cases k5 : k = 5
        · subst k5; obtain rfl := x5 rfl; exact msame_5 _ _ _ _ _ _ _ _ _ _ _ _ _ _ _ _ _ _ _ w
        by_cases k6 : k = 6
        · subst k6; obtain rfl := x6 rfl; exact msame_6 _ _ _ _ _ _ _ _ _ _ _ _ _ _ _ _ _ _ w by' ab ab2 cb cb2 S h1 g1 hS
        by_cases k7 : k = 7
        · subst k7; obtain rfl := x7 rfl; exact msame_7 _ _ _ _ _ _ _ _ _ _ _ _ _ _ _ _ _ _ _ w
        by_cases k8 : k = 8
        · subst k8
          exact msame_8 _ _ _ _ _ _ _ _ _ _ _ _ _ _ _ _ _ _ _ _ w (fun W hW => lists_any N ih l l2 hlN.1 (x8 rfl) al al2 cl cl2 S W (l.In_same (hS.same hW) (fun _ h => h) al 0 h2) (l2.In_same (hS.same hW) (fun _ h => h) al2 0 g2) (hS.later hW) bd.nl)
        by_cases k9 : k = 9
        · subst k9; exact msame_9 _ _ _ _ _ _ _ _ _ _ _ _ _ _ _ _ _ _ _ _ w (HF (.inl rfl))
        have k10 : k = 10 := by omega
        subst k10
        obtain ⟨rfl, rfl⟩ := x10 rfl
        exact msame_10 _ _ _ _ _ _ _ _ _ _ _ _ _ _ _ _ _ _ w (HF (.inr rfl))
end Go.Proofs.Ytmmiiapfefmcjaa

/- tenonmake.plain at bytes, and whole; tenonmake.Is. -/
namespace Go.Proofs.Ytmmiiapfefmcjaa
open Go.RowKit

set_option maxRecDepth 100000 in
set_option maxHeartbeats 1000000 in
theorem pl_6 (ab : Option Addr) (L : ByteArray) (cb : Nat) (B : Nat → Prop) (w : World) (deep : Int) (hd : deep ≤ 400) (hB : Sub B w) (hl : BytesAt w B ab L) (hlen : L.size ≤ 140737488355328) :
    Calls Try.prog 65 #[.iface 23 (.slice ab L.size cb), .int .i64 deep] w fun e w' => ∃ a cap, e = .returned (.agg (tcells 6 false 0 0 ByteArray.empty (.slice a L.size cap) 0 (.slice none 0 0) (.slice none 0 0) ByteArray.empty 0)) ∧ Below w.heap.size w w' ∧ BytesAt w' (Fr w w') a L := by
  have hd' : decide (400 < deep) = false := by simp; omega
  obtain ⟨i0, hi, hz0, hz1, hz2⟩ := info_parts Try.infoB
  by_cases h0 : L.size = 0
  · have hl' : Hid (∀ W S a, BytesAt W S a L) := fun W S a j hj => by omega
    rw [h0]
    clear h0 hl hlen
    go_enter Try.func65, Try.ntmps65
    go_wp2_with (at_builtin; refine wpList_ran _ rfl _ _ 23 rfl _ _ _ _ rfl rfl (app_zero _ _ _ _ _) ?_)
    refine bodyPost_ret (v := .agg (tcells 6 false 0 0 ByteArray.empty (.slice (some ⟨w.heap.size + 1, 0, none⟩) 0 0) 0 (.slice none 0 0) (.slice none 0 0) ByteArray.empty 0)) (by simp [results, Try.results65, go_sem, tcells] <;> rfl) rfl ⟨_, _, rfl, ?_, hl'.out _ _ _⟩
    exact ((Below.refl _ _).alloc (Nat.le_refl _) _).alloc (by simp) _
  · obtain ⟨g, o, rfl, hg, _⟩ := hl 0 (by omega)
    have hg := hB _ hg
    have h0 : 0 < L.size := by omega
    have hc' : Hid (∀ W, Below w.heap.size w W → ∀ j u, (bcells L)[j]? = some u → W.cell? ((⟨g, o, none⟩ : Addr).add j) = some u) := fun W hW j u hj => by
      obtain ⟨hj', rfl⟩ := bcells_at L j u hj
      obtain ⟨g', o', e, _, hc⟩ := hl j hj'
      simp only [Option.some.injEq, Addr.mk.injEq, and_true] at e
      obtain ⟨rfl, rfl⟩ := e
      rw [addr_add, hW.cell (p := ⟨g, o + j, none⟩) (by show g < _; omega)]; exact hc
    clear hl
    go_enter Try.func65, Try.ntmps65
    go_wp2_with (at_builtin; refine wpList_app _ rfl _ _ 23 rfl (w.heap.size + 1) 5 i0 (.int .u8 0) 1 1 Try.undB hi hz0 hz1 hz2 rfl (by decide) _ 0 [] rfl ⟨rfl, .inr ⟨w.heap.size + 1, 0, #[], rfl, Nat.le_refl _, by simpa using heap_alloc_new (w.alloc _) (.cells #[] 5), Nat.le_refl _, by simp [maxLen], rfl, rfl⟩⟩ ⟨g, o, none⟩ L.size cb (bcells L) rfl (by simp [bcells]) (hc'.out _ (((Below.refl _ _).alloc (Nat.le_refl _) _).alloc (by simp) _)) (bcells_one L) h0 (by unfold maxLen; omega) (by omega) (by simp) ?_; intro g' cap' w3 hown' hgrow hor; have hgr : ((w.alloc (.cells #[.int .i64 0, .bool false, .int .i64 0, .float .f64 0, .string ByteArray.empty, .slice none 0 0, .int .u64 0, .slice none 0 0, .slice none 0 0, .string ByteArray.empty, .int .i64 0] 29)).alloc (.cells #[] 5)).grownBy w3 (some (w.heap.size + 1)) := hgrow; have hR : w3.heap[w.heap.size]? = some (.cells #[.int .i64 0, .bool false, .int .i64 0, .float .f64 0, .string ByteArray.empty, .slice none 0 0, .int .u64 0, .slice none 0 0, .slice none 0 0, .string ByteArray.empty, .int .i64 0] 29 (0, 0)) := (hgr.block w.heap.size (by rw [World.size_alloc, World.size_alloc]; omega) (by simp)).trans ((Below.heap_alloc _ _ _ (by simp)).trans (heap_alloc_new w _)); obtain ⟨r0, r1, r2, r3, r4, r5, r6, r7, r8, r9, r10⟩ := tbox hR; have hf := box_writes hR; have f0 := hf 0; have f1 := hf 1; have f2 := hf 2; have f3 := hf 3; have f4 := hf 4; have f5 := hf 5; have f6 := hf 6; have f7 := hf 7; have f8 := hf 8; have f9 := hf 9; have f10 := hf 10)
    have hlt := hown'.lt g' rfl
    have hbw : Below w.heap.size w w3 := (((Below.refl _ _).alloc (Nat.le_refl _) _).alloc (by simp) _).grown hgr (by simp; omega) (fun k e => by have e' : some (w.heap.size + 1) = some k := e; injection e' with e'; omega)
    have HB3 : Hid (BytesAt w3 (fun k => w.heap.size + 1 ≤ k ∧ k < w3.heap.size) (some ⟨g', 0, none⟩) L) := fun j hj => by
      refine ⟨g', 0, rfl, ⟨by omega, hlt.2⟩, ?_⟩
      have hc2 := hown'.cells (g := g') rfl j (.int .u8 (Sp.byte L j)) (by simp [bcells, hj])
      rw [addr_add] at hc2; exact hc2
    have HE : Hid (Below w.heap.size w (setN w3 w.heap.size 0 [.int .i64 6, .bool false, .int .i64 0, .float .f64 0, .string ByteArray.empty, .slice (some ⟨g', 0, none⟩) L.size cap', .int .u64 0, .slice none 0 0, .slice none 0 0, .string ByteArray.empty, .int .i64 0]) ∧ BytesAt (setN w3 w.heap.size 0 [.int .i64 6, .bool false, .int .i64 0, .float .f64 0, .string ByteArray.empty, .slice (some ⟨g', 0, none⟩) L.size cap', .int .u64 0, .slice none 0 0, .slice none 0 0, .string ByteArray.empty, .int .i64 0]) (Fr w (setN w3 w.heap.size 0 [.int .i64 6, .bool false, .int .i64 0, .float .f64 0, .string ByteArray.empty, .slice (some ⟨g', 0, none⟩) L.size cap', .int .u64 0, .slice none 0 0, .slice none 0 0, .string ByteArray.empty, .int .i64 0])) (some ⟨g', 0, none⟩) L) := ⟨setN_below (Nat.le_refl _) _ _ _ _ hbw, HB3.out.same (fun k hk => setN_other (by have := hk.1; omega) _ _ _) (fun k hk => ⟨by have := hk.1; omega, by rw [setN_size]; exact hk.2⟩)⟩
    clear hown' hgrow hgr hR hf hor hbw
    refine bodyPost_ret (v := .agg (tcells 6 false 0 0 ByteArray.empty (.slice (some ⟨g', 0, none⟩) L.size cap') 0 (.slice none 0 0) (.slice none 0 0) ByteArray.empty 0)) (by simp [results, Try.results65, go_sem, tcells, r0, r1, r2, r3, r4, r5, r6, r7, r8, r9, r10] <;> rfl) rfl ⟨_, _, rfl, HE.out.1, HE.out.2⟩

set_option maxHeartbeats 1000000 in
theorem plain_any (N : Nat) : PlC N := by
  induction N with
  | zero => intro t ht; cases t; simp [Tm.sz] at ht
  | succ N ih =>
    intro t hN v B w deep n hv hB hoa hbd hd0 hd1
    cases t with
    | mk k b i f tx by' rf l fs c vr =>
      have ho := hoa.ok
      have hlN : l.sz ≤ N ∧ fs.sz ≤ N := by simp [Tm.sz] at hN; omega
      obtain ⟨p1, p2, p3, p4⟩ := ho.parts
      obtain ⟨q1, q2, q3, q4, q5⟩ := ho.bounds
      obtain ⟨s1, s2, s3⟩ := hoa.parts
      have hd : deep ≤ 400 := by omega
      simp only [Tm.Bdd] at hbd
      obtain ⟨bi, bf, br, bv, bl, bfs⟩ := hbd
      simp only [Tm.V] at hv
      obtain ⟨h1, h2, h3, h4, h5, h6, h7, h8, h9, h10, h11, h12⟩ := hv
      have HF : ∀ (hk : k = 9 ∨ k = 10) (al : Option Addr) (cl : Nat), fs.V w B al 0 → ∀ W, Below w.heap.size w W → Calls Try.prog 108 #[.slice al fs.len cl, .int .i64 deep] W fun e w' => ∃ a cap, e = .returned (.slice a fs.len cap) ∧ Below W.heap.size W w' ∧ fs.clean.In w' (Fr W w') a 0 := fun hk al cl hfs W hW =>
        plEntries_any N ih al fs cl W deep n hlN.2 B (hB.later hW) (fs.V_same (hB.same hW) (fun _ h => h) al 0 hfs) (TmF.nm (q4 hk)).1 (TmF.nm (q4 hk)).2 (s3 hk) bfs hd0 hd1 s1
      have z : ByteArray.empty.size ≤ 65536 := by rw [empty_size]; omega
      by_cases k1 : k = 1
      · subst k1; rw [h1 rfl]; refine (pl_1 w deep hd).mono ?_
        rintro e w' ⟨rfl, hb⟩
        refine ⟨_, rfl, hb, ?_⟩
        rw [Tm.clean_1]; simp only [Tm.In]
        exact ⟨none, 0, none, 0, none, 0, rfl, Bd.leaf (by decide) (by decide) (by decide) (by decide) (by decide) z z (by decide) (by decide) (by decide), fun j hj => absurd hj (Nat.not_lt_zero _), trivial, trivial⟩
      by_cases k2 : k = 2
      · subst k2; rw [h2 rfl]; refine (pl_2 b w deep hd).mono ?_
        rintro e w' ⟨rfl, hb⟩
        refine ⟨_, rfl, hb, ?_⟩
        rw [Tm.clean_2]; simp only [Tm.In]
        exact ⟨none, 0, none, 0, none, 0, rfl, Bd.leaf (by decide) (by decide) (by decide) (by decide) (by decide) z z (by decide) (by decide) (by decide), fun j hj => absurd hj (Nat.not_lt_zero _), trivial, trivial⟩
      by_cases k3 : k = 3
      · subst k3; rw [h3 rfl]; refine (pl_3 i w deep hd).mono ?_
        rintro e w' ⟨rfl, hb⟩
        refine ⟨_, rfl, hb, ?_⟩
        rw [Tm.clean_3]; simp only [Tm.In]
        exact ⟨none, 0, none, 0, none, 0, rfl, Bd.leaf (by decide) bi (by decide) (by decide) (by decide) z z (by decide) (by decide) (by decide), fun j hj => absurd hj (Nat.not_lt_zero _), trivial, trivial⟩
      by_cases k4 : k = 4
      · subst k4; rw [(h4 rfl).1]; refine (pl_4 f w deep hd).mono ?_
        rintro e w' ⟨rfl, hb⟩
        refine ⟨_, rfl, hb, ?_⟩
        rw [Tm.clean_4]; simp only [Tm.In]
        exact ⟨none, 0, none, 0, none, 0, rfl, Bd.leaf (by decide) (by decide) bf (by decide) (by decide) z z (by decide) (by decide) (by decide), fun j hj => absurd hj (Nat.not_lt_zero _), trivial, trivial⟩
      by_cases k5 : k = 5
      · subst k5; rw [(h5 rfl).1]; refine (pl_5 tx w deep hd).mono ?_
        rintro e w' ⟨rfl, hb⟩
        refine ⟨_, rfl, hb, ?_⟩
        rw [Tm.clean_5]; simp only [Tm.In]
        exact ⟨none, 0, none, 0, none, 0, rfl, Bd.leaf (by decide) (by decide) (by decide) (by decide) (by decide) (q1 rfl) z (by decide) (by decide) (by decide), fun j hj => absurd hj (Nat.not_lt_zero _), trivial, trivial⟩
      by_cases k6 : k = 6
      · subst k6
        obtain ⟨a, cap, rfl, _, hby⟩ := h6 rfl
        refine (pl_6 a by' cap B w deep hd hB hby (by have := q2 rfl; omega)).mono ?_
        rintro e w' ⟨a', cap', rfl, hb, hl⟩
        refine ⟨_, rfl, hb, ?_⟩
        rw [Tm.clean_6]; simp only [Tm.In]
        exact ⟨a', cap', none, 0, none, 0, rfl, Bd.leaf (by decide) (by decide) (by decide) (by decide) (by decide) z z (q2 rfl) (by decide) (by decide), hl, trivial, trivial⟩
      by_cases k7 : k = 7
      · subst k7; rw [h7 rfl]; refine (pl_7 rf w deep hd).mono ?_
        rintro e w' ⟨rfl, hb⟩
        refine ⟨_, rfl, hb, ?_⟩
        rw [Tm.clean_7]; simp only [Tm.In]
        exact ⟨none, 0, none, 0, none, 0, rfl, Bd.leaf (by decide) (by decide) (by decide) br (by decide) z z (by decide) (by decide) (by decide), fun j hj => absurd hj (Nat.not_lt_zero _), trivial, trivial⟩
      by_cases k8 : k = 8
      · subst k8
        obtain ⟨a, cap, rfl, _, hl⟩ := h8 rfl
        refine (pl_8 N ih a l cap w deep n hlN.1 B hB hl (q3 rfl) (s2 rfl) bl hd0 hd1 s1).mono ?_
        rintro e w' ⟨a', cap', rfl, hb, hl'⟩
        refine ⟨_, rfl, hb, ?_⟩
        rw [Tm.clean_8]; simp only [Tm.In]
        refine ⟨none, 0, a', cap', none, 0, by simp [TmL.clean_len, TmF.len], Bd.leaf (by decide) (by decide) (by decide) (by decide) (by decide) z z (by decide) (by simp [TmL.clean_len]; exact q3 rfl) (by decide), fun j hj => absurd hj (Nat.not_lt_zero _), hl', trivial⟩
      by_cases k9 : k = 9
      · subst k9
        obtain ⟨a, cap, rfl, _, hl⟩ := h9 rfl
        refine (pl_9 a fs fs.clean cap w deep hd (HF (.inl rfl) a cap hl)).mono ?_
        rintro e w' ⟨a', cap', rfl, hb, hl'⟩
        refine ⟨_, rfl, hb, ?_⟩
        rw [Tm.clean_9]; simp only [Tm.In]
        refine ⟨none, 0, none, 0, a', cap', by simp [TmF.clean_len, TmL.len], Bd.leaf (by decide) (by decide) (by decide) (by decide) (by decide) z z (by decide) (by decide) (by simp [TmF.clean_len]; exact (TmF.nm (q4 (.inl rfl))).1), fun j hj => absurd hj (Nat.not_lt_zero _), trivial, hl'⟩
      have k10 : k = 10 := by clear h1 h2 h3 h4 h5 h6 h7 h8 h9 h10 h11 h12 HF s2 s3; omega
      subst k10
      obtain ⟨g, a, cap, rfl, hg, c0, c1, c2, _, _, hl⟩ := h10 rfl
      have hcs := head_len (q5 rfl)
      refine (pl_10 g c vr a fs fs.clean cap w deep hd (hB g hg) c0 c1 c2 (HF (.inr rfl) a cap hl)).mono ?_
      rintro e w' ⟨a', cap', rfl, hb, hl'⟩
      refine ⟨_, rfl, hb, ?_⟩
      rw [Tm.clean_10]; simp only [Tm.In]
      refine ⟨none, 0, none, 0, a', cap', by simp [TmF.clean_len, TmL.len], Bd.leaf (by decide) (by decide) (by decide) (by decide) bv z (by omega) (by decide) (by decide) (by simp [TmF.clean_len]; exact (TmF.nm (q4 (.inr rfl))).1), fun j hj => absurd hj (Nat.not_lt_zero _), trivial, hl'⟩
end Go.Proofs.Ytmmiiapfefmcjaa

/- Plain mathematics: the order of terms is turned about by turning about, lies in -1, 0, 1, and goes through a third. -/
namespace Go.Proofs.Ytmmiiapfefmcjaa

def Tri (ab bc ac : Int) : Prop := (ab = 0 → bc = 0 → ac = 0) ∧ (ab < 0 → bc ≤ 0 → ac < 0) ∧ (ab ≤ 0 → bc < 0 → ac < 0)
def Lex (x y : Int) : Int := if x ≠ 0 then x else y
/-- the order of terms as one lexicographic row -/
def Tm.tail : Tm → Tm → Int
  | .mk k b i f tx by' rf l fs c v, .mk _ b2 i2 f2 tx2 by2 rf2 l2 fs2 c2 v2 =>
    if k = 2 then Sp.cmpI (Sp.rank b) (Sp.rank b2)
    else if k = 3 then Sp.cmpI i i2
    else if k = 4 then Sp.cmpI (Sp.frank f) (Sp.frank f2)
    else if k = 5 then Sp.cmpS tx tx2
    else if k = 6 then Sp.cmpS by' by2
    else if k = 7 then Sp.cmpI rf rf2
    else if k = 8 then l.cmp l2
    else if k = 9 then fs.cmp fs2
    else if k = 10 then Lex (Sp.cmpS c c2) (Lex (Sp.cmpI v v2) (fs.cmp fs2))
    else 0

end Go.Proofs.Ytmmiiapfefmcjaa

/- Plain mathematics: a term and its clean one: the same walk, the same value, told the same. -/
namespace Go.Proofs.Ytmmiiapfefmcjaa


mutual
theorem Tm.clean_eqv : (t : Tm) → t.Ok → t.clean.eqv t
  | .mk k b i f tx by' rf l fs c v, h => by
    obtain ⟨p1, p2, p3, p4⟩ := h.parts
    rw [Tm.clean]
    simp only [Tm.eqv]
    refine ⟨trivial, ⟨p1, p2⟩, fun e => ?_, fun e => ?_, fun e => ?_, fun e => ?_, fun e => ?_, fun e => ?_, fun e => ?_, fun e => ?_, fun e => ?_⟩
    · rw [if_pos e]
    · rw [if_pos e]
    · rw [if_pos e]
    · rw [if_pos e]
    · rw [if_pos e]
    · rw [if_pos e]
    · rw [if_pos e]; exact TmL.clean_eqv l (p3 e)
    · rw [if_pos e]; exact TmF.clean_eqv fs (p4 e)
    · rw [if_pos e, if_pos e]; exact ⟨rfl, rfl⟩
theorem TmL.clean_eqv : (l : TmL) → l.Ok → l.clean.eqv l
  | .nil, _ => trivial
  | .cons t l, h => ⟨Tm.clean_eqv t h.head.1, TmL.clean_eqv l h.head.2⟩
theorem TmF.clean_eqv : (l : TmF) → l.Ok → l.clean.eqv l
  | .nil, _ => trivial
  | .cons _ t l, h => ⟨rfl, Tm.clean_eqv t h.head.1, TmF.clean_eqv l h.head.2⟩
end

end Go.Proofs.Ytmmiiapfefmcjaa


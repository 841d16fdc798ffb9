/- tenonref01.seen.part, Check and Size: the reference's walk through a term comes to the plain walk. -/
import Derived.Test.YtjdjpbdfchhcfaaGreatKE8
import Derived.Test.YtjdjpbdfchhcfaaGreatKE3
import Derived.Deep.RegionWith
namespace Go.Proofs.YtjdjpbdfchhcfaaGreat
open Go.RowKit

def Seen (at' : Int) (r : Wr) (n d a : Int) : Prop := (r.e = 0 → n = r.p ∧ d = r.d ∧ a = at') ∧ (r.e ≠ 0 → a = r.p - 1)

def Bx (w : World) (g : Nat) (n d a e : Int) : Prop := w.heap[g]? = some (.cells #[.int .i64 n, .int .i64 d, .int .i64 a, .int .i64 e] 94 (0, 0))
theorem Bx.cells {w : World} {g : Nat} {n d a e : Int} (h : Bx w g n d a e) : (w.cell? ⟨g, 0, none⟩ = some (.int .i64 n) ∧ w.cell? ⟨g, 1, none⟩ = some (.int .i64 d) ∧ w.cell? ⟨g, 2, none⟩ = some (.int .i64 a) ∧ w.cell? ⟨g, 3, none⟩ = some (.int .i64 e)) ∧ (w.frozen? ⟨g, 0, none⟩ = false ∧ w.frozen? ⟨g, 1, none⟩ = false ∧ w.frozen? ⟨g, 2, none⟩ = false ∧ w.frozen? ⟨g, 3, none⟩ = false) := by
  unfold Bx at h
  refine ⟨⟨?_, ?_, ?_, ?_⟩, ?_, ?_, ?_, ?_⟩
  · rw [cell_of_row w g 0 _ _ _ h]; rfl
  · rw [cell_of_row w g 1 _ _ _ h]; rfl
  · rw [cell_of_row w g 2 _ _ _ h]; rfl
  · rw [cell_of_row w g 3 _ _ _ h]; rfl
  · exact frozen_of_row w g 0 _ _ h
  · exact frozen_of_row w g 1 _ _ h
  · exact frozen_of_row w g 2 _ _ h
  · exact frozen_of_row w g 3 _ _ h
theorem Bx.later {w w' : World} {g : Nat} {n d a e : Int} (h : Bx w g n d a e) (hb : Below w.heap.size w w') : Bx w' g n d a e := by
  have hg : g < w.heap.size := World.block_lt_of_cell? _ _ h.cells.1.1
  unfold Bx at h ⊢; rw [hb.block g hg]; exact h

theorem Bx.set0 {w : World} {g : Nat} {n d a e : Int} (h : Bx w g n d a e) (x : Int) : Bx (w.setCell ⟨g, 0, none⟩ (.int .i64 x)) g x d a e := by
  unfold Bx at h ⊢; exact heap_setCell_same w g 0 _ _ _ h
theorem Bx.set1 {w : World} {g : Nat} {n d a e : Int} (h : Bx w g n d a e) (x : Int) : Bx (w.setCell ⟨g, 1, none⟩ (.int .i64 x)) g n x a e := by
  unfold Bx at h ⊢; exact heap_setCell_same w g 1 _ _ _ h
theorem Bx.set2 {w : World} {g : Nat} {n d a e : Int} (h : Bx w g n d a e) (x : Int) : Bx (w.setCell ⟨g, 2, none⟩ (.int .i64 x)) g n d x e := by
  unfold Bx at h ⊢; exact heap_setCell_same w g 2 _ _ _ h
theorem Bx.set3 {w : World} {g : Nat} {n d a e : Int} (h : Bx w g n d a e) (x : Int) : Bx (w.setCell ⟨g, 3, none⟩ (.int .i64 x)) g n d a x := by
  unfold Bx at h ⊢; exact heap_setCell_same w g 3 _ _ _ h
theorem Bx.other {w : World} {g : Nat} {n d a e : Int} (h : Bx w g n d a e) {p : Addr} (hp : g ≠ p.block) (v : Value) : Bx (w.setCell p v) g n d a e := by
  unfold Bx at h ⊢; rw [heap_setCell_other _ _ _ _ hp]; exact h
theorem Same.set {S : Nat → Prop} {w w' : World} (h : Same S w w') {p : Addr} (hp : ¬ S p.block) (v : Value) : Same S w (w'.setCell p v) := fun k hk => by
  rw [heap_setCell_other _ _ _ _ (fun e => hp (e ▸ hk))]; exact h k hk

theorem tbox {w : World} {g : Nat} {k : Int} {b : Bool} {i : Int} {f : Nat} {tx : ByteArray} {vb : Value} {rf : Int} {vl vf : Value} {c : ByteArray} {vr : Int}
    (h : w.heap[g]? = some (.cells (tcells k b i f tx vb rf vl vf c vr) 29 (0, 0))) :
    w.cell? ⟨g, 0, none⟩ = some (.int .i64 k) ∧ w.cell? ⟨g, 1, none⟩ = some (.bool b) ∧ w.cell? ⟨g, 2, none⟩ = some (.int .i64 i) ∧ w.cell? ⟨g, 3, none⟩ = some (.float .f64 f) ∧ w.cell? ⟨g, 4, none⟩ = some (.string tx) ∧ w.cell? ⟨g, 5, none⟩ = some vb ∧ w.cell? ⟨g, 6, none⟩ = some (.int .u64 rf) ∧ w.cell? ⟨g, 7, none⟩ = some vl ∧ w.cell? ⟨g, 8, none⟩ = some vf ∧ w.cell? ⟨g, 9, none⟩ = some (.string c) ∧ w.cell? ⟨g, 10, none⟩ = some (.int .i64 vr) := by
  have hh := fun j => cell_of_row w g j _ _ _ h
  exact ⟨hh 0, hh 1, hh 2, hh 3, hh 4, hh 5, hh 6, hh 7, hh 8, hh 9, hh 10⟩

theorem wrap_small {n : Int} (h0 : 0 ≤ n) (h1 : n ≤ 1000000) : IntKind.i64.wrap n = n := by
  rw [IntKind.wrap_i64]; omega

def PartC (N : Nat) : Prop := ∀ (t : Tm), t.sz ≤ N → ∀ (cs : Array Value) (B : Nat → Prop) (p d a n : Int) (w : World), t.In w B cs → Sub B w → 0 ≤ p → p ≤ 16384 → 1 ≤ n → n ≤ 65 →
  Calls Tryz.prog 44 #[.agg #[.int .i64 p, .int .i64 d, .int .i64 a, .int .i64 0], .agg cs, .int .i64 n] w fun e w' => ∃ n' d' a', e = .returned (.agg #[.int .i64 n', .int .i64 d', .int .i64 a', .int .i64 (t.wk n p d).e]) ∧ Below w.heap.size w w' ∧ Seen a (t.wk n p d) n' d' a'

set_option maxRecDepth 100000 in
set_option maxHeartbeats 1000000 in
theorem part_any (N : Nat) (HC : PartC N) (t : Tm) (hN : t.sz ≤ N + 1) (cs : Array Value) (B : Nat → Prop) (p d a n : Int) (w : World) (h : t.In w B cs) (hB : Sub B w) (hp : 0 ≤ p) (hp' : p ≤ 16384) (hn : 1 ≤ n) (hn' : n ≤ 65) :
    Calls Tryz.prog 44 #[.agg #[.int .i64 p, .int .i64 d, .int .i64 a, .int .i64 0], .agg cs, .int .i64 n] w fun e w' => ∃ n' d' a', e = .returned (.agg #[.int .i64 n', .int .i64 d', .int .i64 a', .int .i64 (t.wk n p d).e]) ∧ Below w.heap.size w w' ∧ Seen a (t.wk n p d) n' d' a' := by
  have HO : Hid (∀ W, Below w.heap.size w W → Calls Tryz.prog 81 #[.agg cs, .int .i64 p, .int .i64 n] W fun e w' => e = .returned (.int .i64 (t.own p n)) ∧ Below W.heap.size W w') :=
    fun W hW => own_any t cs B p n W (t.In_same (hB.same hW) (fun _ h => h) cs h) (hB.later hW)
  have HP : Hid (∀ W, Below w.heap.size w W → Calls Tryz.prog 82 #[.agg cs] W fun e w' => ∃ a cap, e = .returned (.slice a t.parts.len cap) ∧ Below W.heap.size W w' ∧ t.parts.In w' (Up B W w') a 0 ∧ t.parts.len ≤ 140737488355328) :=
    fun W hW => parts_any t cs B W (t.In_same (hB.same hW) (fun _ h => h) cs h) (hB.later hW)
  obtain ⟨k, b, i, f, tx, vb, rf, vl, vf, c, vr, rfl⟩ : ∃ k b i f tx vb rf vl vf c vr, cs = tcells k b i f tx vb rf vl vf c vr := by
    cases t; simp only [Tm.In] at h; obtain ⟨_, _, _, _, _, _, rfl, _⟩ := h; exact ⟨_, _, _, _, _, _, _, _, _, _, _, rfl⟩
  have HCH : Hid (PartC N) := HC
  clear h HC
  have HX1 : Hid (∀ {o : Obj} {w1 : World}, Below (((w.alloc (.cells #[.int .i64 p, .int .i64 d, .int .i64 a, .int .i64 0] 94)).alloc o).alloc (.cells #[.int .i64 0, .int .i64 0, .int .i64 0, .int .i64 0] 94)).heap.size (((w.alloc (.cells #[.int .i64 p, .int .i64 d, .int .i64 a, .int .i64 0] 94)).alloc o).alloc (.cells #[.int .i64 0, .int .i64 0, .int .i64 0, .int .i64 0] 94)) w1 → Bx w1 w.heap.size p d a 0 ∧ Bx w1 (w.heap.size + 2) 0 0 0 0 ∧ w1.heap[w.heap.size + 1]? = some o) := by
    intro o w1 hb
    have a0 := heap_alloc_new w (.cells #[.int .i64 p, .int .i64 d, .int .i64 a, .int .i64 0] 94)
    have a1 := Below.heap_alloc (w.alloc (.cells #[.int .i64 p, .int .i64 d, .int .i64 a, .int .i64 0] 94)) o w.heap.size (by simp)
    have a2 := Below.heap_alloc ((w.alloc (.cells #[.int .i64 p, .int .i64 d, .int .i64 a, .int .i64 0] 94)).alloc o) (.cells #[.int .i64 0, .int .i64 0, .int .i64 0, .int .i64 0] 94) w.heap.size (by simp; omega)
    have a3 := heap_alloc_new ((w.alloc (.cells #[.int .i64 p, .int .i64 d, .int .i64 a, .int .i64 0] 94)).alloc o) (.cells #[.int .i64 0, .int .i64 0, .int .i64 0, .int .i64 0] 94)
    have a4 := heap_alloc_new (w.alloc (.cells #[.int .i64 p, .int .i64 d, .int .i64 a, .int .i64 0] 94)) o
    have a5 := Below.heap_alloc ((w.alloc (.cells #[.int .i64 p, .int .i64 d, .int .i64 a, .int .i64 0] 94)).alloc o) (.cells #[.int .i64 0, .int .i64 0, .int .i64 0, .int .i64 0] 94) (w.heap.size + 1) (by simp only [World.size_alloc]; omega)
    refine ⟨Bx.later (by unfold Bx; rw [a2, a1, a0]) hb, Bx.later ?_ hb, ?_⟩
    · simp only [World.size_alloc] at a3
      unfold Bx; exact a3
    · rw [hb.block (w.heap.size + 1) (by simp only [World.size_alloc]; omega), a5]
      simp only [World.size_alloc] at a4; exact a4
  unfold tcells at HO HP ⊢
  by_cases ho : t.own p n ≠ 0
  · have HR : Hid (t.wk n p d = ⟨p + 1, max d n, t.own p n⟩) := t.wk_own n p d ho
    have ho' := ne_bool ho
    clear ho HP
    go_enter Tryz.func44, Tryz.ntmps44
    go_wp2_with (go_at_call 81; refine (HO.out _ ?_).mono ?_; exact (((Below.refl _ _).alloc (Nat.le_refl _) _).alloc (by simp only [World.size_alloc]; omega) _).alloc (by simp only [World.size_alloc]; omega) _; rintro e w1 ⟨rfl, hb1⟩; obtain ⟨⟨c0, c1, c2, c3⟩, ⟨f0, f1, f2, f3⟩⟩ := (HX1.out hb1).1.cells; obtain ⟨⟨d0, d1, d2, d3⟩, ⟨g0, g1, g2, g3⟩⟩ := (HX1.out hb1).2.1.cells; have hz1 := hb1.size)
    have hzz : w.heap.size + 3 ≤ w1.heap.size := by simpa using hz1
    have hbw : Below w.heap.size w w1 := ((((Below.refl _ _).alloc (Nat.le_refl _) _).alloc (by simp only [World.size_alloc]; omega) _).alloc (by simp only [World.size_alloc]; omega) _).trans (hb1.mono (by simp only [World.size_alloc]; omega))
    refine bodyPost_ret (v := .agg #[.int .i64 p, .int .i64 d, .int .i64 p, .int .i64 (t.own p n)]) (by simp [results, Tryz.results44, go_sem, d0, d1, d2, d3]) rfl ⟨p, d, p, by rw [HR.out], ?_, ?_⟩
    · exact (((((hbw.setCell (Nat.le_refl w.heap.size) _).setCell (Nat.le_refl w.heap.size) _).setCell (Nat.le_add_right w.heap.size 2) _).setCell (Nat.le_add_right w.heap.size 2) _).setCell (Nat.le_add_right w.heap.size 2) _).setCell (Nat.le_add_right w.heap.size 2) _
    · rw [HR.out]; exact ⟨fun e => absurd e (by simpa using ho'), fun _ => by simp⟩
  · have ho0 : t.own p n = 0 := Decidable.not_not.1 ho
    have HR : Hid (t.wk n p d = t.parts.wk (n + 1) (p + 1) (max d n)) := TmL.wk_parts t n p d ho0
    have hz := Sp.ent_zero (Tm.own_ent t p n ho0)
    have hps : t.parts.sz ≤ N := by have := t.parts_sz; omega
    have H16 : Hid (0 ≤ p + 1 ∧ p + 1 ≤ 16384) := by show _ ∧ _; omega
    have hn64 : n ≤ 64 := hz.2.2.2
    have hp16 : p < 16384 := hz.2.2.1
    clear ho hz
    by_cases hd : d < n
    all_goals
      go_enter Tryz.func44, Tryz.ntmps44
      go_wp2_with (go_at_call 81; refine (HO.out _ ?_).mono ?_; exact (((Below.refl _ _).alloc (Nat.le_refl _) _).alloc (by simp only [World.size_alloc]; omega) _).alloc (by simp only [World.size_alloc]; omega) _; rintro e w1 ⟨rfl, hb1⟩; obtain ⟨⟨c0, c1, c2, c3⟩, ⟨f0, f1, f2, f3⟩⟩ := (HX1.out hb1).1.cells; obtain ⟨t0, t1, t2, t3, t4, t5, t6, t7, t8, t9, t10⟩ := tbox (HX1.out hb1).2.2; have hz1 := hb1.size)
    all_goals
      have hzz : w.heap.size + 3 ≤ w1.heap.size := by simpa using hz1
      have hbw : Below w.heap.size w w1 := ((((Below.refl _ _).alloc (Nat.le_refl _) _).alloc (by simp only [World.size_alloc]; omega) _).alloc (by simp only [World.size_alloc]; omega) _).trans (hb1.mono (by simp only [World.size_alloc]; omega))
      have HXs : Hid (Bx w1 w.heap.size p d a 0) := (HX1.out hb1).1
      have HXr : Hid (Bx w1 (w.heap.size + 2) 0 0 0 0) := (HX1.out hb1).2.1
      clear c0 c1 c2 c3 f0 f1 f2 f3 t0 t1 t2 t3 t4 t5 t6 t7 t8 t9 t10 hb1 hz1 HX1
    all_goals
      first
      | (have hd' : d < n := hd
         have HS2 : Hid (Bx ((w1.setCell ⟨w.heap.size, 0, none⟩ (.int .i64 (p + 1))).setCell ⟨w.heap.size, 1, none⟩ (.int .i64 n)) w.heap.size (p + 1) (max d n) a 0) := by
           have e : max d n = n := by omega
           rw [e]; exact Bx.set1 (Bx.set0 HXs.out _) _
         have HR2 : Hid (Bx ((w1.setCell ⟨w.heap.size, 0, none⟩ (.int .i64 (p + 1))).setCell ⟨w.heap.size, 1, none⟩ (.int .i64 n)) (w.heap.size + 2) 0 0 0 0) := Bx.other (Bx.other HXr.out (p := ⟨w.heap.size, 0, none⟩) (by simp) _) (p := ⟨w.heap.size, 1, none⟩) (by simp) _
         have HB2 : Hid (Below w.heap.size w ((w1.setCell ⟨w.heap.size, 0, none⟩ (.int .i64 (p + 1))).setCell ⟨w.heap.size, 1, none⟩ (.int .i64 n))) := (hbw.setCell (Nat.le_refl w.heap.size) _).setCell (Nat.le_refl w.heap.size) _
         have hz2 : w.heap.size + 3 ≤ ((w1.setCell ⟨w.heap.size, 0, none⟩ (.int .i64 (p + 1))).setCell ⟨w.heap.size, 1, none⟩ (.int .i64 n)).heap.size := by simpa using hzz
         generalize ((w1.setCell ⟨w.heap.size, 0, none⟩ (.int .i64 (p + 1))).setCell ⟨w.heap.size, 1, none⟩ (.int .i64 n)) = w2 at *)
      | (have HS2 : Hid (Bx (w1.setCell ⟨w.heap.size, 0, none⟩ (.int .i64 (p + 1))) w.heap.size (p + 1) (max d n) a 0) := by
           have e : max d n = d := by omega
           rw [e]; exact Bx.set0 HXs.out _
         have HR2 : Hid (Bx (w1.setCell ⟨w.heap.size, 0, none⟩ (.int .i64 (p + 1))) (w.heap.size + 2) 0 0 0 0) := Bx.other HXr.out (p := ⟨w.heap.size, 0, none⟩) (by simp) _
         have HB2 : Hid (Below w.heap.size w (w1.setCell ⟨w.heap.size, 0, none⟩ (.int .i64 (p + 1)))) := hbw.setCell (Nat.le_refl w.heap.size) _
         have hz2 : w.heap.size + 3 ≤ (w1.setCell ⟨w.heap.size, 0, none⟩ (.int .i64 (p + 1))).heap.size := by simpa using hzz
         generalize (w1.setCell ⟨w.heap.size, 0, none⟩ (.int .i64 (p + 1))) = w2 at *)
    all_goals
      clear HXs HXr hbw hzz HO
      refine (HP.out _ HB2.out).mono ?_
      rintro e w3 ⟨al, cap, rfl, hb3, hin, hpl⟩
      have HIN : Hid (t.parts.In w3 (Up B w2 w3) al 0) := hin
      have hz3 := hb3.size
      have HS3 : Hid (Bx w3 w.heap.size (p + 1) (max d n) a 0) := Bx.later HS2.out hb3
      have HR3 : Hid (Bx w3 (w.heap.size + 2) 0 0 0 0) := Bx.later HR2.out hb3
      have HB3 : Hid (Below w.heap.size w w3) := HB2.out.trans (hb3.mono (by omega))
      have HU : Hid (∀ k, Up B w2 w3 k → k < w3.heap.size ∧ k ≠ w.heap.size ∧ k ≠ w.heap.size + 2) := by
        intro k hk
        rcases hk with hk | hk
        · have := hB k hk; omega
        · have := hk.1; have := hk.2; omega
      clear hin hb3 HS2 HR2 HB2 HP
      go_wp2_with fail
      go_loopw [9] (fun x wr => ∃ (j : Nat) (l : TmL) (p' d' : Int), x = .int .i64 j ∧ l.len + j = t.parts.len ∧ l.sz ≤ N ∧ Hid (l.In w3 (Up B w2 w3) al j) ∧ Hid (t.parts.wk (n + 1) (p + 1) (max d n) = l.wk (n + 1) p' d') ∧ 0 ≤ p' ∧ p' ≤ 16384 ∧ Hid (Bx wr w.heap.size p' d' a 0) ∧ Hid (Bx wr (w.heap.size + 2) 0 0 0 0) ∧ Hid (Below w.heap.size w wr) ∧ Hid (Same (Up B w2 w3) w3 wr) ∧ w3.heap.size ≤ wr.heap.size) (fun x _ => t.parts.len - (intOf x).toNat)
      case atStart => exact ⟨0, t.parts, p + 1, max d n, rfl, rfl, hps, HIN, rfl, H16.out.1, H16.out.2, HS3, HR3, HB3, Same.refl _ _, Nat.le_refl _⟩
      case round =>
        obtain ⟨j, l, p', d', rfl, hj, hlN, HL, HE, hq, hq', HXs, HXr, HBr, HSr, hzr⟩ := hrel
        obtain ⟨⟨c0, c1, c2, c3⟩, ⟨f0, f1, f2, f3⟩⟩ := Bx.cells HXs.out
        obtain ⟨⟨d0, d1, d2, d3⟩, ⟨z0, z1, z2, z3⟩⟩ := Bx.cells HXr.out
        cases l with
        | nil =>
          have h1 : t.parts.len ≤ j := by simp [TmL.len] at hj; omega
          clear hj
          go_wp2_with fail
          refine bodyPost_ret (v := .agg #[.int .i64 p', .int .i64 d', .int .i64 a, .int .i64 0]) (by simp [results, Tryz.results44, go_sem, d0, d1, d2, d3]) rfl ⟨p', d', a, by rw [HR.out, HE.out]; rfl, ?_, ?_⟩
          · exact (((HBr.out.setCell (Nat.le_add_right w.heap.size 2) _).setCell (Nat.le_add_right w.heap.size 2) _).setCell (Nat.le_add_right w.heap.size 2) _).setCell (Nat.le_add_right w.heap.size 2) _
          · rw [HR.out, HE.out]; exact ⟨fun _ => ⟨rfl, rfl, rfl⟩, fun h => absurd rfl h⟩
        | cons u l =>
          have hsrc := HL.out
          simp only [TmL.In] at hsrc
          obtain ⟨g1, o1, cs', rfl, hg1, hc, hu, hl'⟩ := hsrc
          have hlt : j < t.parts.len := by simp [TmL.len] at hj; omega
          have HJ : Hid (l.len + (j + 1) = t.parts.len) := by show _ = _; simp [TmL.len] at hj; omega
          have huN : u.sz ≤ N ∧ l.sz ≤ N := by simp [TmL.sz] at hlN; omega
          have hg1' := HU.out g1 hg1
          have hbd := u.wk_bd (n + 1) p' d' hq hq'
          have HSub : Hid (∀ W, Below wr.heap.size wr W → Sub (Up B w2 w3) W) := fun W hW k hk => by have := (HU.out k hk).1; have := hW.size; omega
          have HCT : Hid (∀ W, Below wr.heap.size wr W → Calls Tryz.prog 44 #[.agg #[.int .i64 p', .int .i64 d', .int .i64 a, .int .i64 0], .agg cs', .int .i64 (n + 1)] W fun e w' => ∃ n' d'' a', e = .returned (.agg #[.int .i64 n', .int .i64 d'', .int .i64 a', .int .i64 (u.wk (n + 1) p' d').e]) ∧ Below W.heap.size W w' ∧ Seen a (u.wk (n + 1) p' d') n' d'' a') := fun W hW =>
            HCH.out u huN.1 cs' (Up B w2 w3) p' d' a (n + 1) W (u.In_same (HSr.out.trans (fun k hk => hW.block k (by have := (HU.out k hk).1; omega))) (fun _ h => h) cs' hu) (HSub.out W hW) hq hq' (by omega) (by omega)
          obtain ⟨k', b', i', f', tx', vb', rf', vl', vf', c', vr', rfl⟩ : ∃ k b i f tx vb rf vl vf c vr, cs' = tcells k b i f tx vb rf vl vf c vr := by
            cases u; simp only [Tm.In] at hu; obtain ⟨_, _, _, _, _, _, rfl, _⟩ := hu; exact ⟨_, _, _, _, _, _, _, _, _, _, _, rfl⟩
          obtain ⟨e0, e1, e2, e3, e4, e5, e6, e7, e8, e9, e10⟩ := eleven (w := wr) (g := g1) (o := o1 + j * 11) (fun x hx => by rw [HSr.out.cell (p := ⟨g1, o1 + j * 11 + x, none⟩) hg1]; exact hc x hx)
          have HL' : Hid (l.In w3 (Up B w2 w3) (some ⟨g1, o1, none⟩) (j + 1)) := hl'
          unfold tcells at HCT
          have hwr : IntKind.i64.wrap (n + 1) = n + 1 := wrap_small (by omega) (by omega)
          clear hc hu hl' hj hlN HL d0 d1 d2 d3 z0 z1 z2 z3
          go_wp2_with fail
          go_region_with ((go_at_call 44; refine (HCT.out _ ?_).mono ?_; exact (Below.refl _ _).drew; rintro e w4 ⟨n4, d4, a4, rfl, hb4, hs4⟩; have hb4' : Below wr.heap.size wr w4 := (Below.refl _ _).drew.trans hb4; obtain ⟨⟨c0, c1, c2, c3⟩, ⟨f0, f1, f2, f3⟩⟩ := Bx.cells (Bx.later HXs.out hb4'); obtain ⟨⟨d0, d1, d2, d3⟩, ⟨z0, z1, z2, z3⟩⟩ := Bx.cells (Bx.later HXr.out hb4')))
          all_goals
            have HB4 : Hid (Below wr.heap.size wr w4) := hb4'
            have HS4 : Hid (Seen a (u.wk (n + 1) p' d') n4 d4 a4) := hs4
            have hz4 := hb4'.size
            clear hb4 hb4' hs4
            by_cases he : (u.wk (n + 1) p' d').e ≠ 0
            · have he' := ne_bool he
              have HR' : Hid (TmL.wk (.cons u l) (n + 1) p' d' = u.wk (n + 1) p' d') := by show _ = _; rw [TmL.wk, if_pos he]
              have HA : Hid (a4 = (u.wk (n + 1) p' d').p - 1) := HS4.out.2 he
              clear he
              go_wp2_with fail
              refine bodyPost_ret (v := .agg #[.int .i64 n4, .int .i64 d4, .int .i64 a4, .int .i64 (u.wk (n + 1) p' d').e]) (by simp [results, Tryz.results44, go_sem, d0, d1, d2, d3]) rfl ⟨n4, d4, a4, by rw [HR.out, HE.out, HR'.out], ?_, ?_⟩
              · exact (((((((((HBr.out.trans (HB4.out.mono HBr.out.size)).setCell (Nat.le_refl w.heap.size) _).setCell (Nat.le_refl w.heap.size) _).setCell (Nat.le_refl w.heap.size) _).setCell (Nat.le_refl w.heap.size) _).setCell (Nat.le_add_right w.heap.size 2) _).setCell (Nat.le_add_right w.heap.size 2) _).setCell (Nat.le_add_right w.heap.size 2) _).setCell (Nat.le_add_right w.heap.size 2) _)
              · rw [HR.out, HE.out, HR'.out]; exact ⟨fun e => absurd e (by simpa using he'), fun _ => HA.out⟩
            · have he0 : (u.wk (n + 1) p' d').e = 0 := Decidable.not_not.1 he
              have HR' : Hid (TmL.wk (.cons u l) (n + 1) p' d' = l.wk (n + 1) (u.wk (n + 1) p' d').p (u.wk (n + 1) p' d').d) := by show _ = _; rw [TmL.wk, if_neg he]
              obtain ⟨rfl, rfl, rfl⟩ := HS4.out.1 he0
              have hpq := hbd.2.2 he0
              have HXs' := Bx.set3 (Bx.set2 (Bx.set1 (Bx.set0 (Bx.later HXs.out HB4.out) (u.wk (n + 1) p' d').p) (u.wk (n + 1) p' d').d) a4) 0
              have HXr' := Bx.other (Bx.other (Bx.other (Bx.other (Bx.later HXr.out HB4.out) (p := ⟨w.heap.size, 0, none⟩) (by simp) (.int .i64 (u.wk (n + 1) p' d').p)) (p := ⟨w.heap.size, 1, none⟩) (by simp) (.int .i64 (u.wk (n + 1) p' d').d)) (p := ⟨w.heap.size, 2, none⟩) (by simp) (.int .i64 a4)) (p := ⟨w.heap.size, 3, none⟩) (by simp) (.int .i64 0)
              have HXs' : Hid _ := HXs'
              have HXr' : Hid _ := HXr'
              clear he
              go_wp2_with fail
              go_roundw
              case rel =>
                refine ⟨j + 1, l, (u.wk (n + 1) p' d').p, (u.wk (n + 1) p' d').d, by go_num, HJ.out, huN.2, HL', HE.out.trans HR'.out, by omega, hpq, HXs', HXr', ?_, ?_, by simp; omega⟩
                · exact ((((HBr.out.trans (HB4.out.mono HBr.out.size)).setCell (Nat.le_refl w.heap.size) _).setCell (Nat.le_refl w.heap.size) _).setCell (Nat.le_refl w.heap.size) _).setCell (Nat.le_refl w.heap.size) _
                · have hns : ¬ Up B w2 w3 w.heap.size := fun h => (HU.out _ h).2.1 rfl
                  have h1 : Same (Up B w2 w3) w3 w4 := HSr.out.trans (fun k hk => HB4.out.block k (by have := (HU.out k hk).1; omega))
                  exact (((h1.set (p := ⟨w.heap.size, 0, none⟩) hns _).set (p := ⟨w.heap.size, 1, none⟩) hns _).set (p := ⟨w.heap.size, 2, none⟩) hns _).set (p := ⟨w.heap.size, 3, none⟩) hns _
              case measure => simp [intOf]; omega
end Go.Proofs.YtjdjpbdfchhcfaaGreat

/- tenonref01.Check at a term: what the plain walk through it says. -/
namespace Go.Proofs.YtjdjpbdfchhcfaaGreat
open Go.RowKit

theorem part_all (N : Nat) : PartC N := by
  induction N with
  | zero => intro t ht; cases t; simp [Tm.sz] at ht
  | succ N ih => intro t hN cs B p d a n w h hB h1 h2 h3 h4; exact part_any N ih t hN cs B p d a n w h hB h1 h2 h3 h4

theorem part_top (t : Tm) (cs : Array Value) (B : Nat → Prop) (w : World) (h : t.In w B cs) (hB : Sub B w) : ∀ W, Below w.heap.size w W →
    Calls Tryz.prog 44 #[.agg #[.int .i64 0, .int .i64 0, .int .i64 0, .int .i64 0], .agg cs, .int .i64 1] W fun e w' => ∃ n d a, e = .returned (.agg #[.int .i64 n, .int .i64 d, .int .i64 a, .int .i64 t.all.e]) ∧ Below W.heap.size W w' ∧ Seen 0 t.all n d a :=
  fun W hW => part_all t.sz t (Nat.le_refl _) cs B 0 0 0 1 W (t.In_same (hB.same hW) (fun _ h => h) cs h) (hB.later hW) (by decide) (by decide) (by decide) (by decide)

set_option maxRecDepth 100000 in
set_option maxHeartbeats 400000 in
theorem refCheck_any (t : Tm) (cs : Array Value) (B : Nat → Prop) (w : World) (h : t.In w B cs) (hB : Sub B w) :
    Calls Tryz.prog 21 #[.agg cs] w fun e w' => e = .returned (.tuple #[.int .i64 t.cAt, .int .i64 t.all.e]) ∧ Below w.heap.size w w' := by
  have HP := part_top t cs B w h hB
  obtain ⟨k, b, i, f, tx, vb, rf, vl, vf, c, vr, rfl⟩ : ∃ k b i f tx vb rf vl vf c vr, cs = tcells k b i f tx vb rf vl vf c vr := by
    cases t; simp only [Tm.In] at h; obtain ⟨_, _, _, _, _, _, rfl, _⟩ := h; exact ⟨_, _, _, _, _, _, _, _, _, _, _, rfl⟩
  clear h
  unfold tcells at HP ⊢
  have HP : Hid _ := HP
  have HS : Hid (∀ n d a, Seen 0 t.all n d a → a = t.cAt) := fun n d a hs => by
    unfold Tm.cAt
    by_cases he : t.all.e ≠ 0
    · rw [if_pos he]; exact hs.2 he
    · rw [if_neg he]; exact (hs.1 (Decidable.not_not.1 he)).2.2
  go_enter Tryz.func21, Tryz.ntmps21
  go_wp2_with (go_at_call 44; refine (HP.out _ ?_).mono ?_; exact (Below.refl _ _).alloc (Nat.le_refl _) _; rintro e w1 ⟨n, d, a, rfl, hb1, hs⟩; obtain rfl := HS.out n d a hs)
  go_quiet (fail)
  go_wp2_with fail
  go_ret2
  have hz : w.heap.size ≤ w1.heap.size := by have := hb1.size; simp at this; omega
  exact ⟨rfl, ((((Below.refl _ _).alloc (Nat.le_refl _) _).trans (hb1.mono (by simp))).alloc hz _).trans (below_drewN' _ _ _)⟩
end Go.Proofs.YtjdjpbdfchhcfaaGreat


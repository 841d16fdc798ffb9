/- tenonref01.seen.part, Check and Size: the reference's walk through a term comes to the plain walk. -/
import Derived.Test.YtkomcebknllaiaaL5
import Derived.Test.YtkomcebknllaiaaL22
import Derived.Deep.RegionWith
namespace Go.Proofs.Ytkomcebknllaiaa
open Go.RowKit

/-- what the reference's walk answers, against the plain walk's numbers -/
def Seen (at' : Int) (r : Wr) (n d a : Int) : Prop := (r.e = 0 → n = r.p ∧ d = r.d ∧ a = at') ∧ (r.e ≠ 0 → a = r.p - 1)

/-- block g holds a 'seen' -/
def Bx (w : World) (g : Nat) (n d a e : Int) : Prop := w.heap[g]? = some (.cells #[.int .i64 n, .int .i64 d, .int .i64 a, .int .i64 e] 80 (0, 0))
theorem Bx.cells {w : World} {g : Nat} {n d a e : Int} (h : Bx w g n d a e) : (w.cell? ⟨g, 0, none⟩ = some (.int .i64 n) ∧ w.cell? ⟨g, 1, none⟩ = some (.int .i64 d) ∧ w.cell? ⟨g, 2, none⟩ = some (.int .i64 a) ∧ w.cell? ⟨g, 3, none⟩ = some (.int .i64 e)) ∧ (w.frozen? ⟨g, 0, none⟩ = false ∧ w.frozen? ⟨g, 1, none⟩ = false ∧ w.frozen? ⟨g, 2, none⟩ = false ∧ w.frozen? ⟨g, 3, none⟩ = false) := by
  unfold Bx at h
  refine ⟨⟨?_, ?_, ?_, ?_⟩, ?_, ?_, ?_, ?_⟩
  · rw [cell_of_row w g 0 _ _ _ h]; rfl
  · rw [cell_of_row w g 1 _ _ _ h]; rfl
  · rw [cell_of_row w g 2 _ _ _ h]; rfl
  · rw [cell_of_row w g 3 _ _ _ h]; rfl
  · exact frozen_of_row w g 0 _ _ h
  · exact frozen_of_row w g 1 _ _ h
  · exact frozen_of_row w g 2 _ _ h
  · exact frozen_of_row w g 3 _ _ h
theorem Bx.later {w w' : World} {g : Nat} {n d a e : Int} (h : Bx w g n d a e) (hb : Below w.heap.size w w') : Bx w' g n d a e := by
  have hg : g < w.heap.size := World.block_lt_of_cell? _ _ h.cells.1.1
  unfold Bx at h ⊢; rw [hb.block g hg]; exact h

theorem Bx.set0 {w : World} {g : Nat} {n d a e : Int} (h : Bx w g n d a e) (x : Int) : Bx (w.setCell ⟨g, 0, none⟩ (.int .i64 x)) g x d a e := by
  unfold Bx at h ⊢; exact heap_setCell_same w g 0 _ _ _ h
theorem Bx.set1 {w : World} {g : Nat} {n d a e : Int} (h : Bx w g n d a e) (x : Int) : Bx (w.setCell ⟨g, 1, none⟩ (.int .i64 x)) g n x a e := by
  unfold Bx at h ⊢; exact heap_setCell_same w g 1 _ _ _ h
theorem Bx.set2 {w : World} {g : Nat} {n d a e : Int} (h : Bx w g n d a e) (x : Int) : Bx (w.setCell ⟨g, 2, none⟩ (.int .i64 x)) g n d x e := by
  unfold Bx at h ⊢; exact heap_setCell_same w g 2 _ _ _ h
theorem Bx.set3 {w : World} {g : Nat} {n d a e : Int} (h : Bx w g n d a e) (x : Int) : Bx (w.setCell ⟨g, 3, none⟩ (.int .i64 x)) g n d a x := by
  unfold Bx at h ⊢; exact heap_setCell_same w g 3 _ _ _ h
theorem Bx.other {w : World} {g : Nat} {n d a e : Int} (h : Bx w g n d a e) {p : Addr} (hp : g ≠ p.block) (v : Value) : Bx (w.setCell p v) g n d a e := by
  unfold Bx at h ⊢; rw [heap_setCell_other _ _ _ _ hp]; exact h
theorem Same.set {S : Nat → Prop} {w w' : World} (h : Same S w w') {p : Addr} (hp : ¬ S p.block) (v : Value) : Same S w (w'.setCell p v) := fun k hk => by
  rw [heap_setCell_other _ _ _ _ (fun e => hp (e ▸ hk))]; exact h k hk

/-- the eleven cells of a term in a box -/
theorem tbox {w : World} {g : Nat} {k : Int} {b : Bool} {i : Int} {f : Nat} {tx : ByteArray} {vb : Value} {rf : Int} {vl vf : Value} {c : ByteArray} {vr : Int}
    (h : w.heap[g]? = some (.cells (tcells k b i f tx vb rf vl vf c vr) 29 (0, 0))) :
    w.cell? ⟨g, 0, none⟩ = some (.int .i64 k) ∧ w.cell? ⟨g, 1, none⟩ = some (.bool b) ∧ w.cell? ⟨g, 2, none⟩ = some (.int .i64 i) ∧ w.cell? ⟨g, 3, none⟩ = some (.float .f64 f) ∧ w.cell? ⟨g, 4, none⟩ = some (.string tx) ∧ w.cell? ⟨g, 5, none⟩ = some vb ∧ w.cell? ⟨g, 6, none⟩ = some (.int .u64 rf) ∧ w.cell? ⟨g, 7, none⟩ = some vl ∧ w.cell? ⟨g, 8, none⟩ = some vf ∧ w.cell? ⟨g, 9, none⟩ = some (.string c) ∧ w.cell? ⟨g, 10, none⟩ = some (.int .i64 vr) := by
  have hh := fun j => cell_of_row w g j _ _ _ h
  exact ⟨hh 0, hh 1, hh 2, hh 3, hh 4, hh 5, hh 6, hh 7, hh 8, hh 9, hh 10⟩

theorem wrap_small {n : Int} (h0 : 0 ≤ n) (h1 : n ≤ 1000000) : IntKind.i64.wrap n = n := by
  rw [IntKind.wrap_i64]; omega

def PartC (N : Nat) : Prop := ∀ (t : Tm), t.sz ≤ N → ∀ (cs : Array Value) (B : Nat → Prop) (p d a n : Int) (w : World), t.In w B cs → Sub B w → 0 ≤ p → p ≤ 16384 → 1 ≤ n → n ≤ 65 →
  Calls Try.prog 42 #[.agg #[.int .i64 p, .int .i64 d, .int .i64 a, .int .i64 0], .agg cs, .int .i64 n] w fun e w' => ∃ n' d' a', e = .returned (.agg #[.int .i64 n', .int .i64 d', .int .i64 a', .int .i64 (t.wk n p d).e]) ∧ Below w.heap.size w w' ∧ Seen a (t.wk n p d) n' d' a'

set_option maxRecDepth 100000 in
set_option maxHeartbeats 1000000 in
theorem part_any (N : Nat) (HC : PartC N) (t : Tm) (hN : t.sz ≤ N + 1) (cs : Array Value) (B : Nat → Prop) (p d a n : Int) (w : World) (h : t.In w B cs) (hB : Sub B w) (hp : 0 ≤ p) (hp' : p ≤ 16384) (hn : 1 ≤ n) (hn' : n ≤ 65) :
    Calls Try.prog 42 #[.agg #[.int .i64 p, .int .i64 d, .int .i64 a, .int .i64 0], .agg cs, .int .i64 n] w fun e w' => ∃ n' d' a', e = .returned (.agg #[.int .i64 n', .int .i64 d', .int .i64 a', .int .i64 (t.wk n p d).e]) ∧ Below w.heap.size w w' ∧ Seen a (t.wk n p d) n' d' a' := by
  have HO : Hid (∀ W, Below w.heap.size w W → Calls Try.prog 68 #[.agg cs, .int .i64 p, .int .i64 n] W fun e w' => e = .returned (.int .i64 (t.own p n)) ∧ Below W.heap.size W w') :=
    fun W hW => own_any t cs B p n W (t.In_same (hB.same hW) (fun _ h => h) cs h) (hB.later hW)
  have HP : Hid (∀ W, Below w.heap.size w W → Calls Try.prog 69 #[.agg cs] W fun e w' => ∃ a cap, e = .returned (.slice a t.parts.len cap) ∧ Below W.heap.size W w' ∧ t.parts.In w' (Up B W w') a 0 ∧ t.parts.len ≤ 140737488355328) :=
    fun W hW => parts_any t cs B W (t.In_same (hB.same hW) (fun _ h => h) cs h) (hB.later hW)
  obtain ⟨k, b, i, f, tx, vb, rf, vl, vf, c, vr, rfl⟩ : ∃ k b i f tx vb rf vl vf c vr, cs = tcells k b i f tx vb rf vl vf c vr := by
    cases t; simp only [Tm.In] at h; obtain ⟨_, _, _, _, _, _, rfl, _⟩ := h; exact ⟨_, _, _, _, _, _, _, _, _, _, _, rfl⟩
  have HCH : Hid (PartC N) := HC
  clear h HC
  have HX1 : Hid (∀ {o : Obj} {w1 : World}, Below (((w.alloc (.cells #[.int .i64 p, .int .i64 d, .int .i64 a, .int .i64 0] 80)).alloc o).alloc (.cells #[.int .i64 0, .int .i64 0, .int .i64 0, .int .i64 0] 80)).heap.size (((w.alloc (.cells #[.int .i64 p, .int .i64 d, .int .i64 a, .int .i64 0] 80)).alloc o).alloc (.cells #[.int .i64 0, .int .i64 0, .int .i64 0, .int .i64 0] 80)) w1 → Bx w1 w.heap.size p d a 0 ∧ Bx w1 (w.heap.size + 2) 0 0 0 0 ∧ w1.heap[w.heap.size + 1]? = some o) := by
    intro o w1 hb
    have a0 := heap_alloc_new w (.cells #[.int .i64 p, .int .i64 d, .int .i64 a, .int .i64 0] 80)
    have a1 := Below.heap_alloc (w.alloc (.cells #[.int .i64 p, .int .i64 d, .int .i64 a, .int .i64 0] 80)) o w.heap.size (by simp)
    have a2 := Below.heap_alloc ((w.alloc (.cells #[.int .i64 p, .int .i64 d, .int .i64 a, .int .i64 0] 80)).alloc o) (.cells #[.int .i64 0, .int .i64 0, .int .i64 0, .int .i64 0] 80) w.heap.size (by simp; omega)
    have a3 := heap_alloc_new ((w.alloc (.cells #[.int .i64 p, .int .i64 d, .int .i64 a, .int .i64 0] 80)).alloc o) (.cells #[.int .i64 0, .int .i64 0, .int .i64 0, .int .i64 0] 80)
    have a4 := heap_alloc_new (w.alloc (.cells #[.int .i64 p, .int .i64 d, .int .i64 a, .int .i64 0] 80)) o
    have a5 := Below.heap_alloc ((w.alloc (.cells #[.int .i64 p, .int .i64 d, .int .i64 a, .int .i64 0] 80)).alloc o) (.cells #[.int .i64 0, .int .i64 0, .int .i64 0, .int .i64 0] 80) (w.heap.size + 1) (by simp only [World.size_alloc]; omega)
    refine ⟨Bx.later (by unfold Bx; rw [a2, a1, a0]) hb, Bx.later ?_ hb, ?_⟩
    · simp only [World.size_alloc] at a3
      unfold Bx; exact a3
    · rw [hb.block (w.heap.size + 1) (by simp only [World.size_alloc]; omega), a5]
      simp only [World.size_alloc] at a4; exact a4
  unfold tcells at HO HP ⊢
  by_cases ho : t.own p n ≠ 0
  · have HR : Hid (t.wk n p d = ⟨p + 1, max d n, t.own p n⟩) := t.wk_own n p d ho
    have ho' := ne_bool ho
    clear ho HP
    go_enter Try.func42, Try.ntmps42
    go_wp2_with (go_at_call 68; refine (HO.out _ ?_).mono ?_; exact (((Below.refl _ _).alloc (Nat.le_refl _) _).alloc (by simp only [World.size_alloc]; omega) _).alloc (by simp only [World.size_alloc]; omega) _; rintro e w1 ⟨rfl, hb1⟩; obtain ⟨⟨c0, c1, c2, c3⟩, ⟨f0, f1, f2, f3⟩⟩ := (HX1.out hb1).1.cells; obtain ⟨⟨d0, d1, d2, d3⟩, ⟨g0, g1, g2, g3⟩⟩ := (HX1.out hb1).2.1.cells; have hz1 := hb1.size)
    have hzz : w.heap.size + 3 ≤ w1.heap.size := by simpa using hz1
    have hbw : Below w.heap.size w w1 := ((((Below.refl _ _).alloc (Nat.le_refl _) _).alloc (by simp only [World.size_alloc]; omega) _).alloc (by simp only [World.size_alloc]; omega) _).trans (hb1.mono (by simp only [World.size_alloc]; omega))
    refine bodyPost_ret (v := .agg #[.int .i64 p, .int .i64 d, .int .i64 p, .int .i64 (t.own p n)]) (by simp [results, Try.results42, go_sem, d0, d1, d2, d3]) rfl ⟨p, d, p, by rw [HR.out], ?_, ?_⟩
    · exact (((((hbw.setCell (Nat.le_refl w.heap.size) _).setCell (Nat.le_refl w.heap.size) _).setCell (Nat.le_add_right w.heap.size 2) _).setCell (Nat.le_add_right w.heap.size 2) _).setCell (Nat.le_add_right w.heap.size 2) _).setCell (Nat.le_add_right w.heap.size 2) _
    · rw [HR.out]; exact ⟨fun e => absurd e (by simpa using ho'), fun _ => by simp⟩
  · have ho0 : t.own p n = 0 := Decidable.not_not.1 ho
    have HR : Hid (t.wk n p d = t.parts.wk (n + 1) (p + 1) (max d n)) := TmL.wk_parts t n p d ho0
    have hz := Sp.ent_zero (Tm.own_ent t p n ho0)
    have hps : t.parts.sz ≤ N := by have := t.parts_sz; omega
    have H16 : Hid (0 ≤ p + 1 ∧ p + 1 ≤ 16384) := by show _ ∧ _; omega
    have hn64 : n ≤ 64 := hz.2.2.2
    have hp16 : p < 16384 := hz.2.2.1
    clear ho hz
    by_cases hd : d < n
    all_goals
      go_enter Try.func42, Try.ntmps42
      go_wp2_with (go_at_call 68; refine (HO.out _ ?_).mono ?_; exact (((Below.refl _ _).alloc (Nat.le_refl _) _).alloc (by simp only [World.size_alloc]; omega) _).alloc (by simp only [World.size_alloc]; omega) _; rintro e w1 ⟨rfl, hb1⟩; obtain ⟨⟨c0, c1, c2, c3⟩, ⟨f0, f1, f2, f3⟩⟩ := (HX1.out hb1).1.cells; obtain ⟨t0, t1, t2, t3, t4, t5, t6, t7, t8, t9, t10⟩ := tbox (HX1.out hb1).2.2; have hz1 := hb1.size)
    all_goals
      have hzz : w.heap.size + 3 ≤ w1.heap.size := by simpa using hz1
      have hbw : Below w.heap.size w w1 := ((((Below.refl _ _).alloc (Nat.le_refl _) _).alloc (by simp only [World.size_alloc]; omega) _).alloc (by simp only [World.size_alloc]; omega) _).trans (hb1.mono (by simp only [World.size_alloc]; omega))
      have HXs : Hid (Bx w1 w.heap.size p d a 0) := (HX1.out hb1).1
      have HXr : Hid (Bx w1 (w.heap.size + 2) 0 0 0 0) := (HX1.out hb1).2.1
      clear c0 c1 c2 c3 f0 f1 f2 f3 t0 t1 t2 t3 t4 t5 t6 t7 t8 t9 t10 hb1 hz1 HX1
    all_goals
      first
      | (have hd' : d < n := hd
         have HS2 : Hid (Bx ((w1.setCell ⟨w.heap.size, 0, none⟩ (.int .i64 (p + 1))).setCell ⟨w.heap.size, 1, none⟩ (.int .i64 n)) w.heap.size (p + 1) (max d n) a 0) := by
           have e : max d n = n := by omega
           rw [e]; exact Bx.set1 (Bx.set0 HXs.out _) _
         have HR2 : Hid (Bx ((w1.setCell ⟨w.heap.size, 0, none⟩ (.int .i64 (p + 1))).setCell ⟨w.heap.size, 1, none⟩ (.int .i64 n)) (w.heap.size + 2) 0 0 0 0) := Bx.other (Bx.other HXr.out (p := ⟨w.heap.size, 0, none⟩) (by simp) _) (p := ⟨w.heap.size, 1, none⟩) (by simp) _
         have HB2 : Hid (Below w.heap.size w ((w1.setCell ⟨w.heap.size, 0, none⟩ (.int .i64 (p + 1))).setCell ⟨w.heap.size, 1, none⟩ (.int .i64 n))) := (hbw.setCell (Nat.le_refl w.heap.size) _).setCell (Nat.le_refl w.heap.size) _
         have hz2 : w.heap.size + 3 ≤ ((w1.setCell ⟨w.heap.size, 0, none⟩ (.int .i64 (p + 1))).setCell ⟨w.heap.size, 1, none⟩ (.int .i64 n)).heap.size := by simpa using hzz
         generalize ((w1.setCell ⟨w.heap.size, 0, none⟩ (.int .i64 (p + 1))).setCell ⟨w.heap.size, 1, none⟩ (.int .i64 n)) = w2 at *)
      | (have HS2 : Hid (Bx (w1.setCell ⟨w.heap.size, 0, none⟩ (.int .i64 (p + 1))) w.heap.size (p + 1) (max d n) a 0) := by
           have e : max d n = d := by omega
           rw [e]; exact Bx.set0 HXs.out _
         have HR2 : Hid (Bx (w1.setCell ⟨w.heap.size, 0, none⟩ (.int .i64 (p + 1))) (w.heap.size + 2) 0 0 0 0) := Bx.other HXr.out (p := ⟨w.heap.size, 0, none⟩) (by simp) _
         have HB2 : Hid (Below w.heap.size w (w1.setCell ⟨w.heap.size, 0, none⟩ (.int .i64 (p + 1)))) := hbw.setCell (Nat.le_refl w.heap.size) _
         have hz2 : w.heap.size + 3 ≤ (w1.setCell ⟨w.heap.size, 0, none⟩ (.int .i64 (p + 1))).heap.size := by simpa using hzz
         generalize (w1.setCell ⟨w.heap.size, 0, none⟩ (.int .i64 (p + 1))) = w2 at *)
    all_goals
      clear HXs HXr hbw hzz HO
      refine (HP.out _ HB2.out).mono ?_
      rintro e w3 ⟨al, cap, rfl, hb3, hin, hpl⟩
      have HIN : Hid (t.parts.In w3 (Up B w2 w3) al 0) := hin
      have hz3 := hb3.size
      have HS3 : Hid (Bx w3 w.heap.size (p + 1) (max d n) a 0) := Bx.later HS2.out hb3
      have HR3 : Hid (Bx w3 (w.heap.size + 2) 0 0 0 0) := Bx.later HR2.out hb3
      have HB3 : Hid (Below w.heap.size w w3) := HB2.out.trans (hb3.mono (by omega))
      have HU : Hid (∀ k, Up B w2 w3 k → k < w3.heap.size ∧ k ≠ w.heap.size ∧ k ≠ w.heap.size + 2) := by
        intro k hk
        rcases hk with hk | hk
        · have := hB k hk; omega
        · have := hk.1; have := hk.2; omega
      clear hin hb3 HS2 HR2 HB2 HP
      go_wp2_with fail
      go_loopw [9] (fun x wr => ∃ (j : Nat) (l : TmL) (p' d' : Int), x = .int .i64 j ∧ l.len + j = t.parts.len ∧ l.sz ≤ N ∧ Hid (l.In w3 (Up B w2 w3) al j) ∧ Hid (t.parts.wk (n + 1) (p + 1) (max d n) = l.wk (n + 1) p' d') ∧ 0 ≤ p' ∧ p' ≤ 16384 ∧ Hid (Bx wr w.heap.size p' d' a 0) ∧ Hid (Bx wr (w.heap.size + 2) 0 0 0 0) ∧ Hid (Below w.heap.size w wr) ∧ Hid (Same (Up B w2 w3) w3 wr) ∧ w3.heap.size ≤ wr.heap.size) (fun x _ => t.parts.len - (intOf x).toNat)
      case atStart => exact ⟨0, t.parts, p + 1, max d n, rfl, rfl, hps, HIN, rfl, H16.out.1, H16.out.2, HS3, HR3, HB3, Same.refl _ _, Nat.le_refl _⟩
      case round =>
        obtain ⟨j, l, p', d', rfl, hj, hlN, HL, HE, hq, hq', HXs, HXr, HBr, HSr, hzr⟩ := hrel
        obtain ⟨⟨c0, c1, c2, c3⟩, ⟨f0, f1, f2, f3⟩⟩ := Bx.cells HXs.out
        obtain ⟨⟨d0, d1, d2, d3⟩, ⟨z0, z1, z2, z3⟩⟩ := Bx.cells HXr.out
        cases l with
        | nil =>
          have h1 : t.parts.len ≤ j := by simp [TmL.len] at hj; omega
          clear hj
          go_wp2_with fail
          refine bodyPost_ret (v := .agg #[.int .i64 p', .int .i64 d', .int .i64 a, .int .i64 0]) (by simp [results, Try.results42, go_sem, d0, d1, d2, d3]) rfl ⟨p', d', a, by rw [HR.out, HE.out]; rfl, ?_, ?_⟩
          · exact (((HBr.out.setCell (Nat.le_add_right w.heap.size 2) _).setCell (Nat.le_add_right w.heap.size 2) _).setCell (Nat.le_add_right w.heap.size 2) _).setCell (Nat.le_add_right w.heap.size 2) _
          · rw [HR.out, HE.out]; exact ⟨fun _ => ⟨rfl, rfl, rfl⟩, fun h => absurd rfl h⟩
        | cons u l =>
          have hsrc := HL.out
          simp only [TmL.In] at hsrc
          obtain ⟨g1, o1, cs', rfl, hg1, hc, hu, hl'⟩ := hsrc
          have hlt : j < t.parts.len := by simp [TmL.len] at hj; omega
          have HJ : Hid (l.len + (j + 1) = t.parts.len) := by show _ = _; simp [TmL.len] at hj; omega
          have huN : u.sz ≤ N ∧ l.sz ≤ N := by simp [TmL.sz] at hlN; omega
          have hg1' := HU.out g1 hg1
          have hbd := u.wk_bd (n + 1) p' d' hq hq'
          have HSub : Hid (∀ W, Below wr.heap.size wr W → Sub (Up B w2 w3) W) := fun W hW k hk => by have := (HU.out k hk).1; have := hW.size; omega
          have HCT : Hid (∀ W, Below wr.heap.size wr W → Calls Try.prog 42 #[.agg #[.int .i64 p', .int .i64 d', .int .i64 a, .int .i64 0], .agg cs', .int .i64 (n + 1)] W fun e w' => ∃ n' d'' a', e = .returned (.agg #[.int .i64 n', .int .i64 d'', .int .i64 a', .int .i64 (u.wk (n + 1) p' d').e]) ∧ Below W.heap.size W w' ∧ Seen a (u.wk (n + 1) p' d') n' d'' a') := fun W hW =>
            HCH.out u huN.1 cs' (Up B w2 w3) p' d' a (n + 1) W (u.In_same (HSr.out.trans (fun k hk => hW.block k (by have := (HU.out k hk).1; omega))) (fun _ h => h) cs' hu) (HSub.out W hW) hq hq' (by omega) (by omega)
          obtain ⟨k', b', i', f', tx', vb', rf', vl', vf', c', vr', rfl⟩ : ∃ k b i f tx vb rf vl vf c vr, cs' = tcells k b i f tx vb rf vl vf c vr := by
            cases u; simp only [Tm.In] at hu; obtain ⟨_, _, _, _, _, _, rfl, _⟩ := hu; exact ⟨_, _, _, _, _, _, _, _, _, _, _, rfl⟩
          obtain ⟨e0, e1, e2, e3, e4, e5, e6, e7, e8, e9, e10⟩ := eleven (w := wr) (g := g1) (o := o1 + j * 11) (fun x hx => by rw [HSr.out.cell (p := ⟨g1, o1 + j * 11 + x, none⟩) hg1]; exact hc x hx)
          have HL' : Hid (l.In w3 (Up B w2 w3) (some ⟨g1, o1, none⟩) (j + 1)) := hl'
          unfold tcells at HCT
          have hwr : IntKind.i64.wrap (n + 1) = n + 1 := wrap_small (by omega) (by omega)
          clear hc hu hl' hj hlN HL d0 d1 d2 d3 z0 z1 z2 z3
          go_wp2_with fail
          go_region_with ((go_at_call 42; refine (HCT.out _ ?_).mono ?_; exact (Below.refl _ _).drew; rintro e w4 ⟨n4, d4, a4, rfl, hb4, hs4⟩; have hb4' : Below wr.heap.size wr w4 := (Below.refl _ _).drew.trans hb4; obtain ⟨⟨c0, c1, c2, c3⟩, ⟨f0, f1, f2, f3⟩⟩ := Bx.cells (Bx.later HXs.out hb4'); obtain ⟨⟨d0, d1, d2, d3⟩, ⟨z0, z1, z2, z3⟩⟩ := Bx.cells (Bx.later HXr.out hb4')))
          all_goals
            have HB4 : Hid (Below wr.heap.size wr w4) := hb4'
            have HS4 : Hid (Seen a (u.wk (n + 1) p' d') n4 d4 a4) := hs4
            have hz4 := hb4'.size
            clear hb4 hb4' hs4
            by_cases he : (u.wk (n + 1) p' d').e ≠ 0
            · have he' := ne_bool he
              have HR' : Hid (TmL.wk (.cons u l) (n + 1) p' d' = u.wk (n + 1) p' d') := by show _ = _; rw [TmL.wk, if_pos he]
              have HA : Hid (a4 = (u.wk (n + 1) p' d').p - 1) := HS4.out.2 he
              clear he
              go_wp2_with fail
              refine bodyPost_ret (v := .agg #[.int .i64 n4, .int .i64 d4, .int .i64 a4, .int .i64 (u.wk (n + 1) p' d').e]) (by simp [results, Try.results42, go_sem, d0, d1, d2, d3]) rfl ⟨n4, d4, a4, by rw [HR.out, HE.out, HR'.out], ?_, ?_⟩
              · exact (((((((((HBr.out.trans (HB4.out.mono HBr.out.size)).setCell (Nat.le_refl w.heap.size) _).setCell (Nat.le_refl w.heap.size) _).setCell (Nat.le_refl w.heap.size) _).setCell (Nat.le_refl w.heap.size) _).setCell (Nat.le_add_right w.heap.size 2) _).setCell (Nat.le_add_right w.heap.size 2) _).setCell (Nat.le_add_right w.heap.size 2) _).setCell (Nat.le_add_right w.heap.size 2) _)
              · rw [HR.out, HE.out, HR'.out]; exact ⟨fun e => absurd e (by simpa using he'), fun _ => HA.out⟩
            · have he0 : (u.wk (n + 1) p' d').e = 0 := Decidable.not_not.1 he
              have HR' : Hid (TmL.wk (.cons u l) (n + 1) p' d' = l.wk (n + 1) (u.wk (n + 1) p' d').p (u.wk (n + 1) p' d').d) := by show _ = _; rw [TmL.wk, if_neg he]
              obtain ⟨rfl, rfl, rfl⟩ := HS4.out.1 he0
              have hpq := hbd.2.2 he0
              have HXs' := Bx.set3 (Bx.set2 (Bx.set1 (Bx.set0 (Bx.later HXs.out HB4.out) (u.wk (n + 1) p' d').p) (u.wk (n + 1) p' d').d) a4) 0
              have HXr' := Bx.other (Bx.other (Bx.other (Bx.other (Bx.later HXr.out HB4.out) (p := ⟨w.heap.size, 0, none⟩) (by simp) (.int .i64 (u.wk (n + 1) p' d').p)) (p := ⟨w.heap.size, 1, none⟩) (by simp) (.int .i64 (u.wk (n + 1) p' d').d)) (p := ⟨w.heap.size, 2, none⟩) (by simp) (.int .i64 a4)) (p := ⟨w.heap.size, 3, none⟩) (by simp) (.int .i64 0)
              have HXs' : Hid _ := HXs'
              have HXr' : Hid _ := HXr'
              clear he
              go_wp2_with fail
              go_roundw
              case rel =>
                refine ⟨j + 1, l, (u.wk (n + 1) p' d').p, (u.wk (n + 1) p' d').d, by go_num, HJ.out, huN.2, HL', HE.out.trans HR'.out, by omega, hpq, HXs', HXr', ?_, ?_, by simp; omega⟩
                · exact ((((HBr.out.trans (HB4.out.mono HBr.out.size)).setCell (Nat.le_refl w.heap.size) _).setCell (Nat.le_refl w.heap.size) _).setCell (Nat.le_refl w.heap.size) _).setCell (Nat.le_refl w.heap.size) _
                · have hns : ¬ Up B w2 w3 w.heap.size := fun h => (HU.out _ h).2.1 rfl
                  have h1 : Same (Up B w2 w3) w3 w4 := HSr.out.trans (fun k hk => HB4.out.block k (by have := (HU.out k hk).1; omega))
                  exact (((h1.set (p := ⟨w.heap.size, 0, none⟩) hns _).set (p := ⟨w.heap.size, 1, none⟩) hns _).set (p := ⟨w.heap.size, 2, none⟩) hns _).set (p := ⟨w.heap.size, 3, none⟩) hns _
              case measure => simp [intOf]; omega
end Go.Proofs.Ytkomcebknllaiaa

/- value.termOf at a list. -/
namespace Go.Proofs.Ytkomcebknllaiaa
open Go.RowKit

theorem RW.eleven {w wr : World} {g n : Nat} {xs : List Value} (h : RW 29 w wr g n xs) (o : Nat) (ho : o + 11 ≤ n) :
    ((∃ u, wr.cell? ⟨g, o, none⟩ = some u) ∧ wr.frozen? ⟨g, o, none⟩ = false) ∧ ((∃ u, wr.cell? ⟨g, o + 1, none⟩ = some u) ∧ wr.frozen? ⟨g, o + 1, none⟩ = false) ∧ ((∃ u, wr.cell? ⟨g, o + 2, none⟩ = some u) ∧ wr.frozen? ⟨g, o + 2, none⟩ = false) ∧ ((∃ u, wr.cell? ⟨g, o + 3, none⟩ = some u) ∧ wr.frozen? ⟨g, o + 3, none⟩ = false) ∧ ((∃ u, wr.cell? ⟨g, o + 4, none⟩ = some u) ∧ wr.frozen? ⟨g, o + 4, none⟩ = false) ∧ ((∃ u, wr.cell? ⟨g, o + 5, none⟩ = some u) ∧ wr.frozen? ⟨g, o + 5, none⟩ = false) ∧ ((∃ u, wr.cell? ⟨g, o + 6, none⟩ = some u) ∧ wr.frozen? ⟨g, o + 6, none⟩ = false) ∧ ((∃ u, wr.cell? ⟨g, o + 7, none⟩ = some u) ∧ wr.frozen? ⟨g, o + 7, none⟩ = false) ∧ ((∃ u, wr.cell? ⟨g, o + 8, none⟩ = some u) ∧ wr.frozen? ⟨g, o + 8, none⟩ = false) ∧ ((∃ u, wr.cell? ⟨g, o + 9, none⟩ = some u) ∧ wr.frozen? ⟨g, o + 9, none⟩ = false) ∧ ((∃ u, wr.cell? ⟨g, o + 10, none⟩ = some u) ∧ wr.frozen? ⟨g, o + 10, none⟩ = false) :=
  ⟨h.own o (by omega), h.own (o + 1) (by omega), h.own (o + 2) (by omega), h.own (o + 3) (by omega), h.own (o + 4) (by omega), h.own (o + 5) (by omega), h.own (o + 6) (by omega), h.own (o + 7) (by omega), h.own (o + 8) (by omega), h.own (o + 9) (by omega), h.own (o + 10) (by omega)⟩
/-- a box of a term's cells can be written -/
theorem box_writes {W : World} {g : Nat} {cs : Array Value} {e : TypeId} (h : W.heap[g]? = some (.cells cs e (0, 0))) : ∀ j, W.frozen? ⟨g, j, none⟩ = false := fun j => frozen_of_row _ _ j _ _ h

set_option maxRecDepth 100000 in
set_option maxHeartbeats 4000000 in
theorem tof_8 (N : Nat) (HC : TOfC N) (a : Option Addr) (L : TmL) (cl : Nat) (w : World) (hN : L.sz ≤ N) (B : Nat → Prop) (hB : Sub B w) (hL : L.V w B a 0) (hlen : L.len ≤ 4096) (ho : L.Ok) (hbd : L.Bdd) :
    Calls Try.prog 39 #[.iface 71 (.slice a L.len cl)] w fun e w' => ∃ a' cap, e = .returned (.agg (tcells 8 false 0 0 ByteArray.empty (.slice none 0 0) 0 (.slice a' L.len cap) (.slice none 0 0) ByteArray.empty 0)) ∧ Below w.heap.size w w' ∧ L.clean.In w' (FrS w w') a' 0 := by
  obtain ⟨i0, hi, hz0, hz1, hz2⟩ := info_parts Try.infoT
  have HCH : Hid (TOfC N) := HC
  clear HC
  obtain ⟨M, hM⟩ : ∃ M, M = madeCells (Value.agg (tcells 0 false 0 0 ByteArray.empty (.slice none 0 0) 0 (.slice none 0 0) (.slice none 0 0) ByteArray.empty 0)).cells (((L.len : Nat) : Int).toNat * i0.size) := ⟨_, rfl⟩
  have hMs : M.size = L.len * 11 := by rw [hM, size_madeCells, hz1]; simp
  have hmake : ∀ W : World, (Instr.makeSlice 26 (.int .i64 (L.len : Int)) (.int .i64 (L.len : Int))).run Try.prog W = .ok (.slice (some ⟨W.heap.size, 0, none⟩) L.len L.len) (W.alloc (.cells M 29)) := fun W => by
    have h := run_make (P := Try.prog) W 26 29 i0 _ Try.undT hi hz0 .i64 .i64 (L.len : Int) (L.len : Int) (by omega) (by omega) (by rw [hz2]; omega) (by omega)
    rw [← hM] at h; simpa using h
  clear hM hi hz0 hz1 hz2
  have H0 : Hid (∀ o p, RW 29 w (((w.alloc o).alloc p).alloc (.cells M 29)) (w.heap.size + 1 + 1) (L.len * 11) [] ∧ TPre (((w.alloc o).alloc p).alloc (.cells M 29)) (OwnS (w.heap.size + 1 + 1) (((w.alloc o).alloc p).alloc (.cells M 29)) (w.heap.size + 1 + 1)) L.clean [] L.clean ∧ L.V w B a 0 ∧ L.Ok ∧ L.Bdd ∧ (((w.alloc o).alloc p).alloc (.cells M 29)).heap[w.heap.size]? = some o ∧ (((w.alloc o).alloc p).alloc (.cells M 29)).heap[w.heap.size + 1]? = some p) := fun o p => by
    have hb : Below w.heap.size w ((w.alloc o).alloc p) := ((Below.refl _ _).alloc (Nat.le_refl _) _).alloc (by simp) _
    have h := RW.made (w := w) (w0 := (w.alloc o).alloc p) hb M 29
    rw [hMs] at h
    refine ⟨by simpa using h, (TPre_nil _ _).2 rfl, hL, ho, hbd, ?_, ?_⟩
    · rw [Below.heap_alloc _ _ _ (by simp; omega), Below.heap_alloc _ _ _ (by simp)]; exact heap_alloc_new w o
    · rw [Below.heap_alloc _ _ _ (by simp)]; have := heap_alloc_new (w.alloc o) p; simpa using this
  clear hL ho hbd
  go_enter Try.func39, Try.ntmps39
  go_wp2_with (go_at_call 65; refine (kindOf_list _ _).mono ?_; rintro e w' ⟨rfl, rfl⟩)
  go_loopw [60] (fun x wr => ∃ (k : Nat) (l : TmL) (xs : List (Array Value)), x = .int .i64 k ∧ l.len + k = L.len ∧ l.sz ≤ N ∧ (xs.flatMap (·.toList)).length = k * 11 ∧ Hid (RW 29 w wr (w.heap.size + 1 + 1) (L.len * 11) (xs.flatMap (·.toList)) ∧ TPre wr (OwnS (w.heap.size + 1 + 1) wr (w.heap.size + 1 + 1)) L.clean xs l.clean ∧ l.V w B a k ∧ l.Ok ∧ l.Bdd ∧ wr.heap[w.heap.size]? = some (.cells #[.int .i64 0, .bool false, .int .i64 0, .float .f64 0, .string ByteArray.empty, .slice none 0 0, .int .u64 0, .slice none 0 0, .slice none 0 0, .string ByteArray.empty, .int .i64 0] 29 (0, 0)) ∧ wr.heap[w.heap.size + 1]? = some (.cells #[.int .i64 8, .bool false, .int .i64 0, .float .f64 0, .string ByteArray.empty, .slice none 0 0, .int .u64 0, .slice (some ⟨w.heap.size + 1 + 1, 0, none⟩) L.len L.len, .slice none 0 0, .string ByteArray.empty, .int .i64 0] 29 (0, 0)))) (fun x _ => L.len - (intOf x).toNat)
  case atStart => exact ⟨0, L, [], rfl, rfl, hN, rfl, H0.out _ _⟩
  case round =>
    obtain ⟨k, l, xs, rfl, hl, hlN, hxs, HR⟩ := hrel
    clear H0
    cases l with
    | nil =>
      have h1 : L.len ≤ k := by simp [TmL.len] at hl; omega
      obtain ⟨r0, r1, r2, r3, r4, r5, r6, r7, r8, r9, r10⟩ := tbox HR.out.2.2.2.2.2.1
      obtain ⟨t0, t1, t2, t3, t4, t5, t6, t7, t8, t9, t10⟩ := tbox HR.out.2.2.2.2.2.2
      have hf := box_writes HR.out.2.2.2.2.2.1
      have f0 := hf 0; have f1 := hf 1; have f2 := hf 2; have f3 := hf 3; have f4 := hf 4; have f5 := hf 5; have f6 := hf 6; have f7 := hf 7; have f8 := hf 8; have f9 := hf 9; have f10 := hf 10
      clear hl hf
      have HE : Hid (Below w.heap.size w (setN wr w.heap.size 0 [.int .i64 8, .bool false, .int .i64 0, .float .f64 0, .string ByteArray.empty, .slice none 0 0, .int .u64 0, .slice (some ⟨w.heap.size + 1 + 1, 0, none⟩) L.len L.len, .slice none 0 0, .string ByteArray.empty, .int .i64 0]) ∧ L.clean.In (setN wr w.heap.size 0 [.int .i64 8, .bool false, .int .i64 0, .float .f64 0, .string ByteArray.empty, .slice none 0 0, .int .u64 0, .slice (some ⟨w.heap.size + 1 + 1, 0, none⟩) L.len L.len, .slice none 0 0, .string ByteArray.empty, .int .i64 0]) (FrS w (setN wr w.heap.size 0 [.int .i64 8, .bool false, .int .i64 0, .float .f64 0, .string ByteArray.empty, .slice none 0 0, .int .u64 0, .slice (some ⟨w.heap.size + 1 + 1, 0, none⟩) L.len L.len, .slice none 0 0, .string ByteArray.empty, .int .i64 0])) (some ⟨w.heap.size + 1 + 1, 0, none⟩) 0) := by
        refine ⟨setN_below (Nat.le_refl _) _ _ _ _ HR.out.1.bel, ?_⟩
        have h := TPre.done (B' := fun k => w.heap.size + 1 + 1 ≤ k ∧ k < wr.heap.size ∧ Soft wr k) (Same.refl _ wr) (fun k hk => ⟨hk.1, hk.2.1, hk.2.2.2⟩) (w.heap.size + 1 + 1) ⟨Nat.le_refl _, HR.out.1.lt.2, HR.out.1.soft⟩ L.clean xs 0 HR.out.2.1 (fun i x hx => by rw [Nat.zero_mul, Nat.zero_add]; exact HR.out.1.got i x hx)
        exact L.clean.In_same (fun k hk => setN_other (by have := hk.1; omega) _ _ _) (fun k hk => ⟨by have := hk.1; omega, by rw [setN_size]; exact hk.2.1, hk.2.2.same (setN_other (by have := hk.1; omega) _ _ _)⟩) _ _ h
      go_wp2_with fail
      refine bodyPost_ret (v := .agg (tcells 8 false 0 0 ByteArray.empty (.slice none 0 0) 0 (.slice (some ⟨w.heap.size + 1 + 1, 0, none⟩) L.len L.len) (.slice none 0 0) ByteArray.empty 0)) (by simp [results, Try.results39, go_sem, tcells, r0, r1, r2, r3, r4, r5, r6, r7, r8, r9, r10]) rfl ⟨_, _, rfl, HE.out.1, HE.out.2⟩
    | cons t l =>
      obtain ⟨hrw, hpre, hsrc, hok, hbdd, hR, hT⟩ := HR.out
      simp only [TmL.V] at hsrc
      obtain ⟨g1, o1, v1, rfl, hg1, hc, ht, hl'⟩ := hsrc
      have hk1 : k < L.len := by simp only [TmL.len] at hl; omega
      have HL : Hid (l.len + (k + 1) = L.len) := by show _ = _; simp only [TmL.len] at hl; omega
      have htN : t.sz ≤ N ∧ l.sz ≤ N := by simp [TmL.sz] at hlN; omega
      have hs : Same B w wr := hB.same hrw.bel
      have HO := HCH.out.at htN.1 (t.V_same hs (fun _ h => h) v1 ht) (hB.later hrw.bel) hok.head.1 hbdd.1
      have HO : Hid _ := HO
      have e0 : wr.cell? ⟨g1, o1 + k, none⟩ = some v1 := by rw [hs.cell (p := ⟨g1, o1 + k, none⟩) hg1]; exact hc
      have HN : Hid (l.V w B (some ⟨g1, o1, none⟩) (k + 1) ∧ l.Ok ∧ l.Bdd) := ⟨hl', hok.head.2, hbdd.2⟩
      have HS : Hid (∀ w1, Below wr.heap.size wr w1 → ((∃ u, w1.cell? ⟨w.heap.size + 1 + 1, k * 11, none⟩ = some u) ∧ w1.frozen? ⟨w.heap.size + 1 + 1, k * 11, none⟩ = false) ∧ ((∃ u, w1.cell? ⟨w.heap.size + 1 + 1, k * 11 + 1, none⟩ = some u) ∧ w1.frozen? ⟨w.heap.size + 1 + 1, k * 11 + 1, none⟩ = false) ∧ ((∃ u, w1.cell? ⟨w.heap.size + 1 + 1, k * 11 + 2, none⟩ = some u) ∧ w1.frozen? ⟨w.heap.size + 1 + 1, k * 11 + 2, none⟩ = false) ∧ ((∃ u, w1.cell? ⟨w.heap.size + 1 + 1, k * 11 + 3, none⟩ = some u) ∧ w1.frozen? ⟨w.heap.size + 1 + 1, k * 11 + 3, none⟩ = false) ∧ ((∃ u, w1.cell? ⟨w.heap.size + 1 + 1, k * 11 + 4, none⟩ = some u) ∧ w1.frozen? ⟨w.heap.size + 1 + 1, k * 11 + 4, none⟩ = false) ∧ ((∃ u, w1.cell? ⟨w.heap.size + 1 + 1, k * 11 + 5, none⟩ = some u) ∧ w1.frozen? ⟨w.heap.size + 1 + 1, k * 11 + 5, none⟩ = false) ∧ ((∃ u, w1.cell? ⟨w.heap.size + 1 + 1, k * 11 + 6, none⟩ = some u) ∧ w1.frozen? ⟨w.heap.size + 1 + 1, k * 11 + 6, none⟩ = false) ∧ ((∃ u, w1.cell? ⟨w.heap.size + 1 + 1, k * 11 + 7, none⟩ = some u) ∧ w1.frozen? ⟨w.heap.size + 1 + 1, k * 11 + 7, none⟩ = false) ∧ ((∃ u, w1.cell? ⟨w.heap.size + 1 + 1, k * 11 + 8, none⟩ = some u) ∧ w1.frozen? ⟨w.heap.size + 1 + 1, k * 11 + 8, none⟩ = false) ∧ ((∃ u, w1.cell? ⟨w.heap.size + 1 + 1, k * 11 + 9, none⟩ = some u) ∧ w1.frozen? ⟨w.heap.size + 1 + 1, k * 11 + 9, none⟩ = false) ∧ ((∃ u, w1.cell? ⟨w.heap.size + 1 + 1, k * 11 + 10, none⟩ = some u) ∧ w1.frozen? ⟨w.heap.size + 1 + 1, k * 11 + 10, none⟩ = false)) := fun w1 h => (HR.out.1.call h).eleven (k * 11) (by omega)
      have HX : Hid (∀ W, Below wr.heap.size wr W → W.heap[w.heap.size]? = some (.cells #[.int .i64 0, .bool false, .int .i64 0, .float .f64 0, .string ByteArray.empty, .slice none 0 0, .int .u64 0, .slice none 0 0, .slice none 0 0, .string ByteArray.empty, .int .i64 0] 29 (0, 0)) ∧ W.heap[w.heap.size + 1]? = some (.cells #[.int .i64 8, .bool false, .int .i64 0, .float .f64 0, .string ByteArray.empty, .slice none 0 0, .int .u64 0, .slice (some ⟨w.heap.size + 1 + 1, 0, none⟩) L.len L.len, .slice none 0 0, .string ByteArray.empty, .int .i64 0] 29 (0, 0)) ∧ W.cell? ⟨w.heap.size + 1, 7, none⟩ = some (.slice (some ⟨w.heap.size + 1 + 1, 0, none⟩) L.len L.len)) := fun W h => by
        have h0 := hrw.lt
        have e1 := h.block (w.heap.size + 1) (by omega)
        exact ⟨by rw [h.block w.heap.size (by omega)]; exact hR, by rw [e1]; exact hT, (tbox (by rw [e1]; exact hT)).2.2.2.2.2.2.2.1⟩
      have HXs : Hid (∀ w1 vs, Below wr.heap.size wr w1 → (setN w1 (w.heap.size + 1 + 1) (k * 11) vs).heap[w.heap.size]? = some (.cells #[.int .i64 0, .bool false, .int .i64 0, .float .f64 0, .string ByteArray.empty, .slice none 0 0, .int .u64 0, .slice none 0 0, .slice none 0 0, .string ByteArray.empty, .int .i64 0] 29 (0, 0)) ∧ (setN w1 (w.heap.size + 1 + 1) (k * 11) vs).heap[w.heap.size + 1]? = some (.cells #[.int .i64 8, .bool false, .int .i64 0, .float .f64 0, .string ByteArray.empty, .slice none 0 0, .int .u64 0, .slice (some ⟨w.heap.size + 1 + 1, 0, none⟩) L.len L.len, .slice none 0 0, .string ByteArray.empty, .int .i64 0] 29 (0, 0)) ∧ (setN w1 (w.heap.size + 1 + 1) (k * 11) vs).cell? ⟨w.heap.size + 1, 7, none⟩ = some (.slice (some ⟨w.heap.size + 1 + 1, 0, none⟩) L.len L.len)) := fun w1 vs h => by
        have hh := HX.out w1 h
        have e1 := setN_other (g := w.heap.size + 1 + 1) (k := w.heap.size + 1) (by omega) vs w1 (k * 11)
        exact ⟨by rw [setN_other (by omega)]; exact hh.1, by rw [e1]; exact hh.2.1, (tbox (by rw [e1]; exact hh.2.1)).2.2.2.2.2.2.2.1⟩
      have HNew : Hid (∀ w2 cs, Below wr.heap.size wr w2 → t.clean.In w2 (FrS wr w2) cs → cs.size = 11 → RW 29 w (setN w2 (w.heap.size + 1 + 1) (k * 11) cs.toList) (w.heap.size + 1 + 1) (L.len * 11) ((xs ++ [cs]).flatMap (·.toList)) ∧ TPre (setN w2 (w.heap.size + 1 + 1) (k * 11) cs.toList) (OwnS (w.heap.size + 1 + 1) (setN w2 (w.heap.size + 1 + 1) (k * 11) cs.toList) (w.heap.size + 1 + 1)) L.clean (xs ++ [cs]) l.clean ∧ ((xs ++ [cs]).flatMap (·.toList)).length = (k + 1) * 11) := fun w2 cs hb hv hz => by
        have hz' : cs.toList.length = 11 := by rw [Array.length_toList]; exact hz
        have h1 := (HR.out.1.call hb).set cs.toList (by rw [hxs, hz']; omega)
        rw [hxs] at h1
        have e2 : (xs ++ [cs]).flatMap (·.toList) = xs.flatMap (·.toList) ++ cs.toList := by rw [List.flatMap_append]; simp
        rw [e2]
        exact ⟨h1, TPre.stepS (o := k * 11) HR.out.2.1 hb hv hz ⟨Nat.le_refl _, HR.out.1.lt.2⟩ _, by rw [List.length_append, hxs, hz']; omega⟩
      have c7 := (HX.out wr (Below.refl _ _)).2.2
      have hi0 : (0 : Int) ≤ (k : Int) := Int.natCast_nonneg _
      have hi1 : (k : Int) < (L.len : Int) := by omega
      unfold tcells at HO
      clear hl hlN hc ht hl' hok hs hrw hpre hbdd hR hT
      go_wp2_with fail
      go_region_held3 (fun W => W.cell? ⟨w.heap.size + 1, 7, none⟩ = some (.slice (some ⟨w.heap.size + 1 + 1, 0, none⟩) L.len L.len))
        (first | ((repeat rw [World.cell?_setCell_other _ _ _ _ (by simp)]); exact (HX.out w1 HB1.out).2.2) | exact (HX.out _ (Below.refl wr.heap.size wr)).2.2 | exact (HX.out _ (Below.refl wr.heap.size wr).drew).2.2)
        ((first
          | (go_at_call 39; refine (HO.out _ ?_).mono ?_; exact (Below.refl _ _).drew; rintro e w1 ⟨k1, b1, i1, f1, tx1, ab1, nb1, cb1, rf1, al1, nl1, cl1, af1, nf1, cf1, cc1, vr1, rfl, hb1, hv1⟩; have HB1 : Hid (Below wr.heap.size wr w1) := (Below.refl _ _).drew.trans hb1; have HV1 : Hid _ := hv1; obtain ⟨⟨⟨u0, hu0⟩, hf0⟩, ⟨⟨u1, hu1⟩, hf1⟩, ⟨⟨u2, hu2⟩, hf2⟩, ⟨⟨u3, hu3⟩, hf3⟩, ⟨⟨u4, hu4⟩, hf4⟩, ⟨⟨u5, hu5⟩, hf5⟩, ⟨⟨u6, hu6⟩, hf6⟩, ⟨⟨u7, hu7⟩, hf7⟩, ⟨⟨u8, hu8⟩, hf8⟩, ⟨⟨u9, hu9⟩, hf9⟩, ⟨⟨u10, hu10⟩, hf10⟩⟩ := HS.out w1 HB1.out; clear hb1 hv1)))
      have HNw := HNew.out w1 #[.int .i64 k1, .bool b1, .int .i64 i1, .float .f64 f1, .string tx1, .slice ab1 nb1 cb1, .int .u64 rf1, .slice al1 nl1 cl1, .slice af1 nf1 cf1, .string cc1, .int .i64 vr1] HB1.out (t.clean.In_same (Same.refl _ _) (fun k hk => hk) _ HV1.out) rfl
      have HNx := HXs.out w1 [.int .i64 k1, .bool b1, .int .i64 i1, .float .f64 f1, .string tx1, .slice ab1 nb1 cb1, .int .u64 rf1, .slice al1 nl1 cl1, .slice af1 nf1 cf1, .string cc1, .int .i64 vr1] HB1.out
      have HNw : Hid _ := HNw
      have HNx : Hid _ := HNx
      go_wp2_with fail
      go_roundw
      case rel => exact ⟨k + 1, l, _, by go_num, HL.out, htN.2, HNw.out.2.2, HNw.out.1, HNw.out.2.1, HN.out.1, HN.out.2.1, HN.out.2.2, HNx.out.1, HNx.out.2.1⟩
      case measure => simp [intOf]; omega
end Go.Proofs.Ytkomcebknllaiaa

/- value.entriesOf: the entries of a dict that can be, in new memory. -/
namespace Go.Proofs.Ytkomcebknllaiaa
open Go.RowKit

theorem cell_far {w : World} {g o : Nat} {p : Addr} (h : p.block ≠ g) (v : Value) : (w.setCell ⟨g, o, none⟩ v).cell? p = w.cell? p := World.cell?_setCell_other _ _ _ _ (by intro e; exact h (by rw [← e]))

theorem RW.twelve {w wr : World} {g n : Nat} {xs : List Value} (h : RW 84 w wr g n xs) (o : Nat) (ho : o + 12 ≤ n) :
    ((∃ u, wr.cell? ⟨g, o, none⟩ = some u) ∧ wr.frozen? ⟨g, o, none⟩ = false) ∧ ((∃ u, wr.cell? ⟨g, o + 1, none⟩ = some u) ∧ wr.frozen? ⟨g, o + 1, none⟩ = false) ∧ ((∃ u, wr.cell? ⟨g, o + 2, none⟩ = some u) ∧ wr.frozen? ⟨g, o + 2, none⟩ = false) ∧ ((∃ u, wr.cell? ⟨g, o + 3, none⟩ = some u) ∧ wr.frozen? ⟨g, o + 3, none⟩ = false) ∧ ((∃ u, wr.cell? ⟨g, o + 4, none⟩ = some u) ∧ wr.frozen? ⟨g, o + 4, none⟩ = false) ∧ ((∃ u, wr.cell? ⟨g, o + 5, none⟩ = some u) ∧ wr.frozen? ⟨g, o + 5, none⟩ = false) ∧ ((∃ u, wr.cell? ⟨g, o + 6, none⟩ = some u) ∧ wr.frozen? ⟨g, o + 6, none⟩ = false) ∧ ((∃ u, wr.cell? ⟨g, o + 7, none⟩ = some u) ∧ wr.frozen? ⟨g, o + 7, none⟩ = false) ∧ ((∃ u, wr.cell? ⟨g, o + 8, none⟩ = some u) ∧ wr.frozen? ⟨g, o + 8, none⟩ = false) ∧ ((∃ u, wr.cell? ⟨g, o + 9, none⟩ = some u) ∧ wr.frozen? ⟨g, o + 9, none⟩ = false) ∧ ((∃ u, wr.cell? ⟨g, o + 10, none⟩ = some u) ∧ wr.frozen? ⟨g, o + 10, none⟩ = false) ∧ ((∃ u, wr.cell? ⟨g, o + 11, none⟩ = some u) ∧ wr.frozen? ⟨g, o + 11, none⟩ = false) :=
  ⟨h.own o (by omega), h.own (o + 1) (by omega), h.own (o + 2) (by omega), h.own (o + 3) (by omega), h.own (o + 4) (by omega), h.own (o + 5) (by omega), h.own (o + 6) (by omega), h.own (o + 7) (by omega), h.own (o + 8) (by omega), h.own (o + 9) (by omega), h.own (o + 10) (by omega), h.own (o + 11) (by omega)⟩
theorem Try.infoEn : (Try.prog.info? 84).map (fun i => (i.zero, i.size, i.bytes)) = some (some (.agg #[.string ByteArray.empty, .int .i64 0, .bool false, .int .i64 0, .float .f64 0, .string ByteArray.empty, .slice none 0 0, .int .u64 0, .slice none 0 0, .slice none 0 0, .string ByteArray.empty, .int .i64 0]), 12, 168) := by kernel_rfl
theorem Try.undEs : Try.prog.underlying 27 = some (.slice 84) := by kernel_rfl

set_option maxRecDepth 100000 in
set_option maxHeartbeats 4000000 in
theorem entriesOf_any (N : Nat) (HC : TOfC N) (al : Option Addr) (L : TmF) (cl : Nat) (w : World) (hN : L.sz ≤ N) (B : Nat → Prop) (hB : Sub B w) (hL : L.V w B al 0) (hlen : L.len ≤ 4096) (hnm : L.Nm) (ho : L.Ok) (hbd : L.Bdd) :
    Calls Try.prog 66 #[.slice al L.len cl] w fun e w' => ∃ a cap, e = .returned (.slice a L.len cap) ∧ Below w.heap.size w w' ∧ L.clean.In w' (FrS w w') a 0 := by
  obtain ⟨i0, hi, hz0, hz1, hz2⟩ := info_parts Try.infoEn
  have HCH : Hid (TOfC N) := HC
  clear HC
  obtain ⟨M, hM⟩ : ∃ M, M = madeCells (Value.agg #[.string ByteArray.empty, .int .i64 0, .bool false, .int .i64 0, .float .f64 0, .string ByteArray.empty, .slice none 0 0, .int .u64 0, .slice none 0 0, .slice none 0 0, .string ByteArray.empty, .int .i64 0]).cells (((L.len : Nat) : Int).toNat * i0.size) := ⟨_, rfl⟩
  have hMs : M.size = L.len * 12 := by rw [hM, size_madeCells, hz1]; simp
  have hmake : ∀ W : World, (Instr.makeSlice 27 (.int .i64 (L.len : Int)) (.int .i64 (L.len : Int))).run Try.prog W = .ok (.slice (some ⟨W.heap.size, 0, none⟩) L.len L.len) (W.alloc (.cells M 84)) := fun W => by
    have h := run_make (P := Try.prog) W 27 84 i0 _ Try.undEs hi hz0 .i64 .i64 (L.len : Int) (L.len : Int) (by omega) (by omega) (by rw [hz2]; omega) (by omega)
    rw [← hM] at h; simpa using h
  clear hM hi hz0 hz1 hz2
  have H0 : Hid (RW 84 w (w.alloc (.cells M 84)) w.heap.size (L.len * 12) (ecells []) ∧ EPre (w.alloc (.cells M 84)) (OwnS w.heap.size (w.alloc (.cells M 84)) w.heap.size) L.clean [] L.clean ∧ L.V w B al 0 ∧ L.Ok ∧ L.Nm ∧ L.Bdd) := by
    have h := RW.made (w := w) (w0 := w) (Below.refl _ _) M 84
    rw [hMs] at h
    exact ⟨h, (EPre_nil _ _).2 rfl, hL, ho, hnm, hbd⟩
  clear hL ho hnm hbd
  go_enter Try.func66, Try.ntmps66
  go_wp2_with fail
  go_loopw [11] (fun x wr => ∃ (k : Nat) (l : TmF) (xs : List (ByteArray × Array Value)), x = .int .i64 k ∧ l.len + k = L.len ∧ l.sz ≤ N ∧ (ecells xs).length = k * 12 ∧ Hid (RW 84 w wr w.heap.size (L.len * 12) (ecells xs) ∧ EPre wr (OwnS w.heap.size wr w.heap.size) L.clean xs l.clean ∧ l.V w B al k ∧ l.Ok ∧ l.Nm ∧ l.Bdd)) (fun x _ => L.len - (intOf x).toNat)
  case atStart => exact ⟨0, L, [], rfl, rfl, hN, rfl, H0.out⟩
  case round =>
    obtain ⟨k, l, xs, rfl, hl, hlN, hxs, HR⟩ := hrel
    clear H0
    cases l with
    | nil =>
      have h1 : L.len ≤ k := by simp [TmF.len] at hl; omega
      clear hl
      go_wp2_with fail
      go_ret
      exact ⟨_, _, rfl, HR.out.1.bel, HR.out.2.1.finS HR.out.1⟩
    | cons n t l =>
      obtain ⟨hrw, hpre, hsrc, hok, hnm, hbdd⟩ := HR.out
      simp only [TmF.V] at hsrc
      obtain ⟨g1, o1, v1, rfl, hg1, hnc, hvc, _, ht, hl'⟩ := hsrc
      have hk1 : k < L.len := by simp only [TmF.len] at hl; omega
      have HL : Hid (l.len + (k + 1) = L.len) := by show _ = _; simp only [TmF.len] at hl; omega
      have htN : t.sz ≤ N ∧ l.sz ≤ N := by simp [TmF.sz] at hlN; omega
      have hs : Same B w wr := hB.same hrw.bel
      have HO := HCH.out.at htN.1 (t.V_same hs (fun _ h => h) v1 ht) (hB.later hrw.bel) hok.head.1 hbdd.1
      have HO : Hid _ := HO
      have en : wr.cell? ⟨g1, o1 + k * 2, none⟩ = some (.string n) := by rw [hs.cell (p := ⟨g1, o1 + k * 2, none⟩) hg1]; exact hnc
      have ev : wr.cell? ⟨g1, o1 + k * 2 + 1, none⟩ = some v1 := by rw [hs.cell (p := ⟨g1, o1 + k * 2 + 1, none⟩) hg1]; exact hvc
      have HN : Hid (l.V w B (some ⟨g1, o1, none⟩) (k + 1) ∧ l.Ok ∧ l.Nm ∧ l.Bdd) := ⟨hl', hok.head.2, hnm.head.2, hbdd.2⟩
      have hn32 : n.size ≤ 140737488355328 := by have := hnm.head.1; omega
      have HS : Hid (∀ w1, Below wr.heap.size wr w1 → ((∃ u, w1.cell? ⟨w.heap.size, k * 12, none⟩ = some u) ∧ w1.frozen? ⟨w.heap.size, k * 12, none⟩ = false) ∧ ((∃ u, w1.cell? ⟨w.heap.size, k * 12 + 1, none⟩ = some u) ∧ w1.frozen? ⟨w.heap.size, k * 12 + 1, none⟩ = false) ∧ ((∃ u, w1.cell? ⟨w.heap.size, k * 12 + 2, none⟩ = some u) ∧ w1.frozen? ⟨w.heap.size, k * 12 + 2, none⟩ = false) ∧ ((∃ u, w1.cell? ⟨w.heap.size, k * 12 + 3, none⟩ = some u) ∧ w1.frozen? ⟨w.heap.size, k * 12 + 3, none⟩ = false) ∧ ((∃ u, w1.cell? ⟨w.heap.size, k * 12 + 4, none⟩ = some u) ∧ w1.frozen? ⟨w.heap.size, k * 12 + 4, none⟩ = false) ∧ ((∃ u, w1.cell? ⟨w.heap.size, k * 12 + 5, none⟩ = some u) ∧ w1.frozen? ⟨w.heap.size, k * 12 + 5, none⟩ = false) ∧ ((∃ u, w1.cell? ⟨w.heap.size, k * 12 + 6, none⟩ = some u) ∧ w1.frozen? ⟨w.heap.size, k * 12 + 6, none⟩ = false) ∧ ((∃ u, w1.cell? ⟨w.heap.size, k * 12 + 7, none⟩ = some u) ∧ w1.frozen? ⟨w.heap.size, k * 12 + 7, none⟩ = false) ∧ ((∃ u, w1.cell? ⟨w.heap.size, k * 12 + 8, none⟩ = some u) ∧ w1.frozen? ⟨w.heap.size, k * 12 + 8, none⟩ = false) ∧ ((∃ u, w1.cell? ⟨w.heap.size, k * 12 + 9, none⟩ = some u) ∧ w1.frozen? ⟨w.heap.size, k * 12 + 9, none⟩ = false) ∧ ((∃ u, w1.cell? ⟨w.heap.size, k * 12 + 10, none⟩ = some u) ∧ w1.frozen? ⟨w.heap.size, k * 12 + 10, none⟩ = false) ∧ ((∃ u, w1.cell? ⟨w.heap.size, k * 12 + 11, none⟩ = some u) ∧ w1.frozen? ⟨w.heap.size, k * 12 + 11, none⟩ = false)) := fun w1 h => (HR.out.1.call h).twelve (k * 12) (by omega)
      have hfar : wr.heap.size ≠ w.heap.size := by have := HR.out.1.lt.2; omega
      have HS2 : Hid (∀ W : World, W.heap[wr.heap.size]? = some (.cells #[.string n, v1] 112 (0, 0)) → W.cell? ⟨wr.heap.size, 0, none⟩ = some (.string n) ∧ W.cell? ⟨wr.heap.size, 1, none⟩ = some v1) := fun W h => by
        have hh := fun j => cell_of_row W wr.heap.size j _ _ _ h
        exact ⟨hh 0, hh 1⟩
      have HX : Hid (∀ W, Below (wr.alloc (.cells #[.string n, v1] 112)).heap.size (wr.alloc (.cells #[.string n, v1] 112)) W → (W.cell? ⟨wr.heap.size, 0, none⟩ = some (.string n) ∧ W.cell? ⟨wr.heap.size, 1, none⟩ = some v1) ∧ Below wr.heap.size wr W) := fun W h => ⟨HS2.out W (by rw [h.block wr.heap.size (by simp)]; exact heap_alloc_new wr _), ((Below.refl _ _).alloc (Nat.le_refl _) _).trans (h.mono (by simp))⟩
      have HNew : Hid (∀ w2 cs, Below wr.heap.size wr w2 → t.clean.In w2 (FrS wr w2) cs → cs.size = 11 → RW 84 w (setN w2 w.heap.size (k * 12) (.string n :: cs.toList)) w.heap.size (L.len * 12) (ecells (xs ++ [(n, cs)])) ∧ EPre (setN w2 w.heap.size (k * 12) (.string n :: cs.toList)) (OwnS w.heap.size (setN w2 w.heap.size (k * 12) (.string n :: cs.toList)) w.heap.size) L.clean (xs ++ [(n, cs)]) l.clean ∧ (ecells (xs ++ [(n, cs)])).length = (k + 1) * 12) := fun w2 cs hb hv hz => by
        have hz' : (Value.string n :: cs.toList).length = 12 := by rw [List.length_cons, Array.length_toList, hz]
        have h1 := (HR.out.1.call hb).set (.string n :: cs.toList) (by rw [hxs, hz']; omega)
        rw [hxs] at h1
        have e2 : ecells (xs ++ [(n, cs)]) = ecells xs ++ (.string n :: cs.toList) := by unfold ecells; rw [List.flatMap_append]; simp
        rw [e2]
        exact ⟨h1, EPre.stepS (o := k * 12) HR.out.2.1 hn32 hb hv hz ⟨Nat.le_refl _, HR.out.1.lt.2⟩ _, by rw [List.length_append, hxs, hz']; omega⟩
      have hi0 : (0 : Int) ≤ (k : Int) := Int.natCast_nonneg _
      have hi1 : (k : Int) < (L.len : Int) := by omega
      have hsh := t.V_shape v1 ht
      unfold tcells at HO
      clear hl hlN ht hl' hok hs hrw hpre hbdd hnc hvc hnm HS2
      rcases hsh with rfl | ⟨T, x, rfl⟩
      · go_wp2_with fail
        go_region_held3 (fun W => W.cell? ⟨wr.heap.size, 0, none⟩ = some (.string n) ∧ W.cell? ⟨wr.heap.size, 1, none⟩ = some .nilIface)
          (first | (refine ⟨?_, ?_⟩ <;> ((repeat rw [cell_far hfar]); first | with_reducible exact (HX.out w2 HB2.out).1.1 | with_reducible exact (HX.out w2 HB2.out).1.2)) | with_reducible exact (HX.out _ HB1.out).1 | with_reducible exact (HX.out _ (Below.refl _ _)).1 | with_reducible exact (HX.out _ (Below.refl _ _).drew).1)
          ((first
            | (go_at_call 61; refine (sClone_any n _ hn32).mono ?_; rintro e w1 ⟨rfl, hb1⟩; have HB1 : Hid (Below (wr.alloc (.cells #[.string n, .nilIface] 112)).heap.size (wr.alloc (.cells #[.string n, .nilIface] 112)) w1) := below_to (Below.refl _ _).drew hb1; clear hb1)
            | (go_at_call 39; refine (HO.out _ ?_).mono ?_; exact (HX.out _ HB1.out).2; rintro e w2 ⟨k1, b1, i1, f1, tx1, ab1, nb1, cb1, rf1, al1, nl1, cl1, af1, nf1, cf1, cc1, vr1, rfl, hb2, hv2⟩; have HB2 : Hid (Below (wr.alloc (.cells #[.string n, .nilIface] 112)).heap.size (wr.alloc (.cells #[.string n, .nilIface] 112)) w2) := below_to HB1.out hb2; have HV2 : Hid (t.clean.In w2 (FrS wr w2) #[.int .i64 k1, .bool b1, .int .i64 i1, .float .f64 f1, .string tx1, .slice ab1 nb1 cb1, .int .u64 rf1, .slice al1 nl1 cl1, .slice af1 nf1 cf1, .string cc1, .int .i64 vr1]) := t.clean.In_same (Same.refl _ _) (fun k hk => ⟨Nat.le_trans (HX.out _ HB1.out).2.size hk.1, hk.2⟩) _ hv2; obtain ⟨⟨⟨u0, hu0⟩, hf0⟩, ⟨⟨u1, hu1⟩, hf1⟩, ⟨⟨u2, hu2⟩, hf2⟩, ⟨⟨u3, hu3⟩, hf3⟩, ⟨⟨u4, hu4⟩, hf4⟩, ⟨⟨u5, hu5⟩, hf5⟩, ⟨⟨u6, hu6⟩, hf6⟩, ⟨⟨u7, hu7⟩, hf7⟩, ⟨⟨u8, hu8⟩, hf8⟩, ⟨⟨u9, hu9⟩, hf9⟩, ⟨⟨u10, hu10⟩, hf10⟩, ⟨⟨u11, hu11⟩, hf11⟩⟩ := HS.out w2 (HX.out _ HB2.out).2; clear hb2 hv2)))
        have HNw := HNew.out w2 #[.int .i64 k1, .bool b1, .int .i64 i1, .float .f64 f1, .string tx1, .slice ab1 nb1 cb1, .int .u64 rf1, .slice al1 nl1 cl1, .slice af1 nf1 cf1, .string cc1, .int .i64 vr1] (HX.out _ HB2.out).2 HV2.out rfl
        have HNw : Hid _ := HNw
        go_wp2_with fail
        go_roundw
        case rel => exact ⟨k + 1, l, _, by go_num, HL.out, htN.2, HNw.out.2.2, HNw.out.1, HNw.out.2.1, HN.out.1, HN.out.2.1, HN.out.2.2.1, HN.out.2.2.2⟩
        case measure => simp [intOf]; omega
      · go_wp2_with fail
        go_region_held3 (fun W => W.cell? ⟨wr.heap.size, 0, none⟩ = some (.string n) ∧ W.cell? ⟨wr.heap.size, 1, none⟩ = some (.iface T x))
          (first | (refine ⟨?_, ?_⟩ <;> ((repeat rw [cell_far hfar]); first | with_reducible exact (HX.out w2 HB2.out).1.1 | with_reducible exact (HX.out w2 HB2.out).1.2)) | with_reducible exact (HX.out _ HB1.out).1 | with_reducible exact (HX.out _ (Below.refl _ _)).1 | with_reducible exact (HX.out _ (Below.refl _ _).drew).1)
          ((first
            | (go_at_call 61; refine (sClone_any n _ hn32).mono ?_; rintro e w1 ⟨rfl, hb1⟩; have HB1 : Hid (Below (wr.alloc (.cells #[.string n, (.iface T x)] 112)).heap.size (wr.alloc (.cells #[.string n, (.iface T x)] 112)) w1) := below_to (Below.refl _ _).drew hb1; clear hb1)
            | (go_at_call 39; refine (HO.out _ ?_).mono ?_; exact (HX.out _ HB1.out).2; rintro e w2 ⟨k1, b1, i1, f1, tx1, ab1, nb1, cb1, rf1, al1, nl1, cl1, af1, nf1, cf1, cc1, vr1, rfl, hb2, hv2⟩; have HB2 : Hid (Below (wr.alloc (.cells #[.string n, (.iface T x)] 112)).heap.size (wr.alloc (.cells #[.string n, (.iface T x)] 112)) w2) := below_to HB1.out hb2; have HV2 : Hid (t.clean.In w2 (FrS wr w2) #[.int .i64 k1, .bool b1, .int .i64 i1, .float .f64 f1, .string tx1, .slice ab1 nb1 cb1, .int .u64 rf1, .slice al1 nl1 cl1, .slice af1 nf1 cf1, .string cc1, .int .i64 vr1]) := t.clean.In_same (Same.refl _ _) (fun k hk => ⟨Nat.le_trans (HX.out _ HB1.out).2.size hk.1, hk.2⟩) _ hv2; obtain ⟨⟨⟨u0, hu0⟩, hf0⟩, ⟨⟨u1, hu1⟩, hf1⟩, ⟨⟨u2, hu2⟩, hf2⟩, ⟨⟨u3, hu3⟩, hf3⟩, ⟨⟨u4, hu4⟩, hf4⟩, ⟨⟨u5, hu5⟩, hf5⟩, ⟨⟨u6, hu6⟩, hf6⟩, ⟨⟨u7, hu7⟩, hf7⟩, ⟨⟨u8, hu8⟩, hf8⟩, ⟨⟨u9, hu9⟩, hf9⟩, ⟨⟨u10, hu10⟩, hf10⟩, ⟨⟨u11, hu11⟩, hf11⟩⟩ := HS.out w2 (HX.out _ HB2.out).2; clear hb2 hv2)))
        have HNw := HNew.out w2 #[.int .i64 k1, .bool b1, .int .i64 i1, .float .f64 f1, .string tx1, .slice ab1 nb1 cb1, .int .u64 rf1, .slice al1 nl1 cl1, .slice af1 nf1 cf1, .string cc1, .int .i64 vr1] (HX.out _ HB2.out).2 HV2.out rfl
        have HNw : Hid _ := HNw
        go_wp2_with fail
        go_roundw
        case rel => exact ⟨k + 1, l, _, by go_num, HL.out, htN.2, HNw.out.2.2, HNw.out.1, HNw.out.2.1, HN.out.1, HN.out.2.1, HN.out.2.2.1, HN.out.2.2.2⟩
        case measure => simp [intOf]; omega
end Go.Proofs.Ytkomcebknllaiaa

/- The document's reading: bad, one. -/
import Derived.Test.YtmmiiapfefmcjaaJ18
import Derived.Deep.RegionHeld3
import Derived.Test.YtmmiiapfefmcjaaJ8
import Derived.Test.YtmmiiapfefmcjaaJ11
namespace Go.Proofs.Ytmmiiapfefmcjaa
open Go.RowKit

/-- the document's reading, as it is handed on -/
def rdg (a : Option Addr) (n cap at' p place : Nat) (why : Int) : Array Value := #[.slice a n cap, .int .i64 (at' : Int), .int .i64 (p : Int), .int .i64 (place : Int), .int .i64 why]
theorem five {w : World} {g : Nat} {a b c d e : Value} {t : TypeId} (h : w.heap[g]? = some (.cells #[a, b, c, d, e] t (0, 0))) : w.cell? ⟨g, 0, none⟩ = some a ∧ w.cell? ⟨g, 1, none⟩ = some b ∧ w.cell? ⟨g, 2, none⟩ = some c ∧ w.cell? ⟨g, 3, none⟩ = some d ∧ w.cell? ⟨g, 4, none⟩ = some e := by
  have hh := fun j => cell_of_row w g j _ _ _ h
  exact ⟨hh 0, hh 1, hh 2, hh 3, hh 4⟩

theorem put5 {w1 : World} {g : Nat} {cur : Array Value} {t : TypeId} (h : w1.heap[g]? = some (.cells cur t (0, 0))) (hs : cur.size = 5) (a b c d e : Value) : ((setN w1 g 0 [a, b, c, d, e]).cell? ⟨g, 0, none⟩ = some a ∧ (setN w1 g 0 [a, b, c, d, e]).cell? ⟨g, 1, none⟩ = some b ∧ (setN w1 g 0 [a, b, c, d, e]).cell? ⟨g, 2, none⟩ = some c ∧ (setN w1 g 0 [a, b, c, d, e]).cell? ⟨g, 3, none⟩ = some d ∧ (setN w1 g 0 [a, b, c, d, e]).cell? ⟨g, 4, none⟩ = some e) ∧ ∀ B, B ≤ g → Below B w1 (setN w1 g 0 [a, b, c, d, e]) := by
  have hc : ∀ i, i < 5 → ∃ u, w1.cell? ⟨g, 0 + i, none⟩ = some u := fun i hi => ⟨cur[i], by rw [Nat.zero_add, cell_of_row _ _ i _ _ _ h]; simp [hs, hi]⟩
  refine ⟨⟨?_, ?_, ?_, ?_, ?_⟩, fun B hB => setN_below hB _ _ _ _ (Below.refl _ _)⟩
  · exact setN_in _ w1 0 0 a rfl (hc 0 (by decide))
  · exact setN_in _ w1 0 1 b rfl (hc 1 (by decide))
  · exact setN_in _ w1 0 2 c rfl (hc 2 (by decide))
  · exact setN_in _ w1 0 3 d rfl (hc 3 (by decide))
  · exact setN_in _ w1 0 4 e rfl (hc 4 (by decide))
theorem own5 {w1 : World} {g : Nat} {a b c d e : Value} {t : TypeId} (h : w1.heap[g]? = some (.cells #[a, b, c, d, e] t (0, 0))) : (w1.cell? ⟨g, 0, none⟩ = some a ∧ w1.cell? ⟨g, 1, none⟩ = some b ∧ w1.cell? ⟨g, 2, none⟩ = some c ∧ w1.cell? ⟨g, 3, none⟩ = some d ∧ w1.cell? ⟨g, 4, none⟩ = some e) ∧ w1.frozen? ⟨g, 0, none⟩ = false ∧ w1.frozen? ⟨g, 1, none⟩ = false ∧ w1.frozen? ⟨g, 2, none⟩ = false ∧ w1.frozen? ⟨g, 3, none⟩ = false ∧ w1.frozen? ⟨g, 4, none⟩ = false :=
  ⟨five h, frozen_of_row _ _ 0 _ _ h, frozen_of_row _ _ 1 _ _ h, frozen_of_row _ _ 2 _ _ h, frozen_of_row _ _ 3 _ _ h, frozen_of_row _ _ 4 _ _ h⟩
/-- two boxes, made one behind the other, stand behind a call -/
theorem boxes {w : World} {A B : Obj} {w1 : World} (h : Below ((w.alloc A).alloc B).heap.size ((w.alloc A).alloc B) w1) : w1.heap[w.heap.size]? = some A ∧ w1.heap[w.heap.size + 1]? = some B ∧ Below w.heap.size w w1 := by
  refine ⟨?_, ?_, below_to (((Below.refl _ _).alloc (Nat.le_refl _) _).alloc (by simp) _) h⟩
  · rw [h.block w.heap.size (by simp; omega), Below.heap_alloc _ _ _ (by simp)]; exact heap_alloc_new w _
  · rw [h.block (w.heap.size + 1) (by simp)]
    have := heap_alloc_new (w.alloc A) B
    simpa using this

end Go.Proofs.Ytmmiiapfefmcjaa

/- The document's reading of a number. -/
namespace Go.Proofs.Ytmmiiapfefmcjaa
open Go.RowKit

theorem row5 {w1 : World} {g : Nat} {z0 z1 z2 z3 z4 : Value} {t : TypeId} (h : w1.heap[g]? = some (.cells #[z0, z1, z2, z3, z4] t (0, 0))) (a b c d e : Value) : (setN w1 g 0 [a, b, c, d, e]).heap[g]? = some (.cells #[a, b, c, d, e] t (0, 0)) := by
  have h1 := heap_setCell_same w1 g 0 _ _ a h
  have h2 := heap_setCell_same _ g 1 _ _ b h1
  have h3 := heap_setCell_same _ g 2 _ _ c h2
  have h4 := heap_setCell_same _ g 3 _ _ d h3
  have h5 := heap_setCell_same _ g 4 _ _ e h4
  simpa [setN] using h5
/-- the reading that a method was handed, in a box of its own, and the box of its result behind it -/
structure RB (w wr : World) (a b c d e : Value) : Prop where
  bel : Below w.heap.size w wr
  box : wr.heap[w.heap.size]? = some (.cells #[a, b, c, d, e] 94 (0, 0))
  res : ∃ z0 z1 z2 z3 z4, wr.heap[w.heap.size + 1]? = some (.cells #[z0, z1, z2, z3, z4] 94 (0, 0))
theorem RB.lt {w wr : World} {a b c d e : Value} (h : RB w wr a b c d e) : w.heap.size + 1 < wr.heap.size := by
  obtain ⟨_, _, _, _, _, hr⟩ := h.res
  have := (five hr).1
  exact World.block_lt_of_cell? _ _ this
theorem RB.call {w wr w1 : World} {a b c d e : Value} (h : RB w wr a b c d e) (hb : Below wr.heap.size wr w1) : RB w w1 a b c d e := by
  have hl := h.lt
  obtain ⟨z0, z1, z2, z3, z4, hr⟩ := h.res
  exact ⟨below_to h.bel hb, by rw [hb.block w.heap.size (by omega)]; exact h.box, z0, z1, z2, z3, z4, by rw [hb.block (w.heap.size + 1) hl]; exact hr⟩
theorem RB.put {w wr : World} {a b c d e : Value} (h : RB w wr a b c d e) (a' b' c' d' e' : Value) : RB w (setN wr w.heap.size 0 [a', b', c', d', e']) a' b' c' d' e' := by
  obtain ⟨z0, z1, z2, z3, z4, hr⟩ := h.res
  exact ⟨setN_below (Nat.le_refl _) _ _ _ _ h.bel, row5 h.box _ _ _ _ _, z0, z1, z2, z3, z4, by rw [setN_other (by omega)]; exact hr⟩
/-- what the walk wants of the two boxes -/
theorem RB.get {w wr : World} {a b c d e : Value} (h : RB w wr a b c d e) : ((wr.cell? ⟨w.heap.size, 0, none⟩ = some a ∧ wr.cell? ⟨w.heap.size, 1, none⟩ = some b ∧ wr.cell? ⟨w.heap.size, 2, none⟩ = some c ∧ wr.cell? ⟨w.heap.size, 3, none⟩ = some d ∧ wr.cell? ⟨w.heap.size, 4, none⟩ = some e) ∧ wr.frozen? ⟨w.heap.size, 0, none⟩ = false ∧ wr.frozen? ⟨w.heap.size, 1, none⟩ = false ∧ wr.frozen? ⟨w.heap.size, 2, none⟩ = false ∧ wr.frozen? ⟨w.heap.size, 3, none⟩ = false ∧ wr.frozen? ⟨w.heap.size, 4, none⟩ = false) ∧ ∃ z0 z1 z2 z3 z4, (wr.cell? ⟨w.heap.size + 1, 0, none⟩ = some z0 ∧ wr.cell? ⟨w.heap.size + 1, 1, none⟩ = some z1 ∧ wr.cell? ⟨w.heap.size + 1, 2, none⟩ = some z2 ∧ wr.cell? ⟨w.heap.size + 1, 3, none⟩ = some z3 ∧ wr.cell? ⟨w.heap.size + 1, 4, none⟩ = some z4) ∧ wr.frozen? ⟨w.heap.size + 1, 0, none⟩ = false ∧ wr.frozen? ⟨w.heap.size + 1, 1, none⟩ = false ∧ wr.frozen? ⟨w.heap.size + 1, 2, none⟩ = false ∧ wr.frozen? ⟨w.heap.size + 1, 3, none⟩ = false ∧ wr.frozen? ⟨w.heap.size + 1, 4, none⟩ = false := by
  obtain ⟨z0, z1, z2, z3, z4, hr⟩ := h.res
  exact ⟨own5 h.box, z0, z1, z2, z3, z4, own5 hr⟩
theorem RB.fin {w wr : World} {a b c d e : Value} (h : RB w wr a b c d e) (a' b' c' d' e' : Value) : ((setN wr (w.heap.size + 1) 0 [a', b', c', d', e']).cell? ⟨w.heap.size + 1, 0, none⟩ = some a' ∧ (setN wr (w.heap.size + 1) 0 [a', b', c', d', e']).cell? ⟨w.heap.size + 1, 1, none⟩ = some b' ∧ (setN wr (w.heap.size + 1) 0 [a', b', c', d', e']).cell? ⟨w.heap.size + 1, 2, none⟩ = some c' ∧ (setN wr (w.heap.size + 1) 0 [a', b', c', d', e']).cell? ⟨w.heap.size + 1, 3, none⟩ = some d' ∧ (setN wr (w.heap.size + 1) 0 [a', b', c', d', e']).cell? ⟨w.heap.size + 1, 4, none⟩ = some e') ∧ Below w.heap.size w (setN wr (w.heap.size + 1) 0 [a', b', c', d', e']) := by
  obtain ⟨z0, z1, z2, z3, z4, hr⟩ := h.res
  obtain ⟨h1, h2⟩ := put5 hr rfl a' b' c' d' e'
  exact ⟨h1, h.bel.trans (h2 _ (by omega))⟩
theorem RB.new (w : World) (a b c d e z0 z1 z2 z3 z4 : Value) : RB w ((w.alloc (.cells #[a, b, c, d, e] 94)).alloc (.cells #[z0, z1, z2, z3, z4] 94)) a b c d e := by
  obtain ⟨h1, h2, h3⟩ := boxes (Below.refl _ ((w.alloc (.cells #[a, b, c, d, e] 94)).alloc (.cells #[z0, z1, z2, z3, z4] 94)))
  exact ⟨h3, h1, z0, z1, z2, z3, z4, h2⟩

end Go.Proofs.Ytmmiiapfefmcjaa

/- The document's reading of a number, where it can be read. -/
namespace Go.Proofs.Ytmmiiapfefmcjaa
open Go.RowKit

end Go.Proofs.Ytmmiiapfefmcjaa

/- The document's reading of a number, where it can't be read. -/
namespace Go.Proofs.Ytmmiiapfefmcjaa
open Go.RowKit

end Go.Proofs.Ytmmiiapfefmcjaa

/- The document's reading of so many bytes. -/
namespace Go.Proofs.Ytmmiiapfefmcjaa
open Go.RowKit

end Go.Proofs.Ytmmiiapfefmcjaa

/- The document's reading of how many there are. -/
namespace Go.Proofs.Ytmmiiapfefmcjaa
open Go.RowKit

end Go.Proofs.Ytmmiiapfefmcjaa

/- The document's reading of no bytes, at the end of the room or of none. -/
namespace Go.Proofs.Ytmmiiapfefmcjaa
open Go.RowKit

end Go.Proofs.Ytmmiiapfefmcjaa

/- Plain mathematics: an error of reading is never none. -/
namespace Go.Proofs.Ytmmiiapfefmcjaa

theorem rn_er {xs : List Int} {s : Nat} : ∀ (k i n : Nat) (q : Nat) (e : Int), Sp.rn xs s k i n = .bad q e → e ≠ 0
  | 0, i, n, q, e, h => by rw [Sp.rn] at h; injection h with _ h; omega
  | k + 1, i, n, q, e, h => by
    rw [Sp.rn] at h
    cases hx : xs[s + i]? with
    | none => rw [hx] at h; injection h with _ h; omega
    | some c =>
      rw [hx] at h
      simp only at h
      split at h
      · injection h with _ h; omega
      · split at h
        · simp at h
        · exact rn_er k _ _ q e h
theorem cnt_er {xs : List Int} {s start most q : Nat} {e : Int} (h : Sp.cnt xs s start most = .bad q e) : e ≠ 0 := by
  unfold Sp.cnt at h
  cases hn : Sp.rn xs s 10 0 0 with
  | bad q1 e1 => rw [hn] at h; injection h with _ h; subst h; exact rn_er _ _ _ _ _ hn
  | ok n a =>
    rw [hn] at h
    simp only at h
    split at h
    · injection h with _ h; omega
    · simp at h
theorem tk_er {xs : List Int} {s n q : Nat} {e : Int} (h : Sp.tk xs s n = .bad q e) : e ≠ 0 := by
  unfold Sp.tk at h
  split at h
  · simp at h
  · injection h with _ h; omega
theorem rdN_er {xs : List Int} {s start q : Nat} {e : Int} (h : Sp.rdN xs s start = .bad q e) : e ≠ 0 := by
  unfold Sp.rdN at h
  cases hn : Sp.rn xs s 10 0 0 with
  | bad q1 e1 => rw [hn] at h; injection h with _ h; subst h; exact rn_er _ _ _ _ _ hn
  | ok n a =>
    rw [hn] at h
    simp only at h
    split at h
    · injection h with _ h; omega
    · cases ht : Sp.tk xs a n with
      | bad q1 e1 => rw [ht] at h; injection h with _ h; subst h; exact tk_er ht
      | ok l a2 =>
        rw [ht] at h
        simp only at h
        split at h
        · simp at h
        · injection h with _ h; omega
def NzS (step : Nat → Nat → Rs (Tm × Nat)) : Prop := ∀ a p q e, step a p = .bad q e → e ≠ 0
theorem rdL_er {step : Nat → Nat → Rs (Tm × Nat)} (hs : NzS step) : ∀ (n at' p q : Nat) (e : Int), Sp.rdL step n at' p = .bad q e → e ≠ 0
  | 0, at', p, q, e, h => by rw [Sp.rdL] at h; simp at h
  | n + 1, at', p, q, e, h => by
    rw [Sp.rdL] at h
    cases hv : step at' p with
    | bad q1 e1 => rw [hv] at h; injection h with _ h; subst h; exact hs _ _ _ _ hv
    | ok tp a1 =>
      obtain ⟨t, p1⟩ := tp
      rw [hv] at h
      simp only at h
      cases hq : Sp.rdL step n a1 p1 with
      | bad q1 e1 => rw [hq] at h; injection h with _ h; subst h; exact rdL_er hs n _ _ _ _ hq
      | ok lp a2 => rw [hq] at h; simp at h
theorem rdF_er {xs : List Int} {start : Nat} {step : Nat → Nat → Rs (Tm × Nat)} (hs : NzS step) : ∀ (n : Nat) (ahead : List Int) (at' p q : Nat) (e : Int), Sp.rdF xs start step n ahead at' p = .bad q e → e ≠ 0
  | 0, ahead, at', p, q, e, h => by rw [Sp.rdF] at h; simp at h
  | n + 1, ahead, at', p, q, e, h => by
    rw [Sp.rdF] at h
    cases hN : Sp.rdN xs at' start with
    | bad q1 e1 => rw [hN] at h; injection h with _ h; subst h; exact rdN_er hN
    | ok l0 a0 =>
      rw [hN] at h
      simp only at h
      split at h
      · injection h with _ h; omega
      · cases hv : step a0 p with
        | bad q1 e1 => rw [hv] at h; injection h with _ h; subst h; exact hs _ _ _ _ hv
        | ok tp a1 =>
          obtain ⟨t, p1⟩ := tp
          rw [hv] at h
          simp only at h
          cases hq : Sp.rdF xs start step n l0 a1 p1 with
          | bad q1 e1 => rw [hq] at h; injection h with _ h; subst h; exact rdF_er hs n _ _ _ _ _ hq
          | ok lp a2 => rw [hq] at h; simp at h
theorem rdD_er {xs : List Int} {start at' p q : Nat} {e : Int} {step : Nat → Nat → Rs (Tm × Nat)} (hs : NzS step) (h : Sp.rdD xs start step at' p = .bad q e) : e ≠ 0 := by
  unfold Sp.rdD at h
  cases hc : Sp.cnt xs at' start 4096 with
  | bad q1 e1 => rw [hc] at h; injection h with _ h; subst h; exact cnt_er hc
  | ok n a => rw [hc] at h; exact rdF_er hs _ _ _ _ _ _ h
theorem rdV_nz (xs : List Int) : ∀ f, NzS (Sp.rdV xs f)
  | 0 => fun a p q e h => by
    rw [Sp.rdV] at h
    split at h <;> (injection h with _ h; omega)
  | f + 1 => fun a p q e h => by
    have hs := rdV_nz xs f
    rw [Sp.rdV] at h
    cases hx : xs[a]? with
    | none => rw [hx] at h; injection h with _ h; omega
    | some k =>
      rw [hx] at h
      simp only at h
      split at h
      · injection h with _ h; omega
      unfold Sp.rdB at h
      split at h
      · simp at h
      split at h
      · cases hc : xs[a + 1]? with
        | none => rw [hc] at h; injection h with _ h; omega
        | some c =>
          rw [hc] at h
          simp only at h
          split at h
          · injection h with _ h; omega
          · simp at h
      split at h
      · cases hn : Sp.rn xs (a + 1) 10 0 0 with
        | bad q1 e1 => rw [hn] at h; injection h with _ h; subst h; exact rn_er _ _ _ _ _ hn
        | ok n a' => rw [hn] at h; simp at h
      split at h
      · cases hn : Sp.tk xs (a + 1) 8 with
        | bad q1 e1 => rw [hn] at h; injection h with _ h; subst h; exact tk_er hn
        | ok n a' => rw [hn] at h; simp at h
      split at h
      · cases hn : Sp.cnt xs (a + 1) a 65536 with
        | bad q1 e1 => rw [hn] at h; injection h with _ h; subst h; exact cnt_er hn
        | ok n a' =>
          rw [hn] at h
          simp only at h
          cases ht : Sp.tk xs a' n with
          | bad q1 e1 => rw [ht] at h; injection h with _ h; subst h; exact tk_er ht
          | ok l a2 => rw [ht] at h; simp at h
      split at h
      · cases hn : Sp.rn xs (a + 1) 10 0 0 with
        | bad q1 e1 => rw [hn] at h; injection h with _ h; subst h; exact rn_er _ _ _ _ _ hn
        | ok n a' => rw [hn] at h; simp at h
      split at h
      · cases hn : Sp.cnt xs (a + 1) a 4096 with
        | bad q1 e1 => rw [hn] at h; injection h with _ h; subst h; exact cnt_er hn
        | ok n a' =>
          rw [hn] at h
          simp only at h
          cases hL : Sp.rdL (Sp.rdV xs f) n a' (p + 1) with
          | bad q1 e1 => rw [hL] at h; injection h with _ h; subst h; exact rdL_er hs _ _ _ _ _ hL
          | ok lp a3 => rw [hL] at h; simp at h
      split at h
      · cases hL : Sp.rdD xs a (Sp.rdV xs f) (a + 1) (p + 1) with
        | bad q1 e1 => rw [hL] at h; injection h with _ h; subst h; exact rdD_er hs hL
        | ok lp a3 => rw [hL] at h; simp at h
      split at h
      · cases hN : Sp.rdN xs (a + 1) a with
        | bad q1 e1 => rw [hN] at h; injection h with _ h; subst h; exact rdN_er hN
        | ok c a' =>
          rw [hN] at h
          simp only at h
          cases hv : Sp.rn xs a' 10 0 0 with
          | bad q1 e1 => rw [hv] at h; injection h with _ h; subst h; exact rn_er _ _ _ _ _ hv
          | ok v a4 =>
            rw [hv] at h
            simp only at h
            split at h
            · injection h with _ h; omega
            · cases hL : Sp.rdD xs a (Sp.rdV xs f) a4 (p + 1) with
              | bad q1 e1 => rw [hL] at h; injection h with _ h; subst h; exact rdD_er hs hL
              | ok lp a3 => rw [hL] at h; simp at h
      · injection h with _ h; omega
theorem rdV_er {xs : List Int} {a p q : Nat} {e : Int} (f : Nat) (h : Sp.rdV xs f a p = .bad q e) : e ≠ 0 := rdV_nz xs f _ _ _ _ h
end Go.Proofs.Ytmmiiapfefmcjaa

/- The document's reading of a name. -/
namespace Go.Proofs.Ytmmiiapfefmcjaa
open Go.RowKit

end Go.Proofs.Ytmmiiapfefmcjaa

/- The document's reading of a value: its three boxes, and what is told ahead of its body. -/
namespace Go.Proofs.Ytmmiiapfefmcjaa
open Go.RowKit

theorem own11 {w : World} {g : Nat} {t0 t1 t2 t3 t4 t5 t6 t7 t8 t9 t10 : Value} {t : TypeId} (h : w.heap[g]? = some (.cells #[t0, t1, t2, t3, t4, t5, t6, t7, t8, t9, t10] t (0, 0))) : w.cell? ⟨g, 0, none⟩ = some t0 ∧ w.cell? ⟨g, 1, none⟩ = some t1 ∧ w.cell? ⟨g, 2, none⟩ = some t2 ∧ w.cell? ⟨g, 3, none⟩ = some t3 ∧ w.cell? ⟨g, 4, none⟩ = some t4 ∧ w.cell? ⟨g, 5, none⟩ = some t5 ∧ w.cell? ⟨g, 6, none⟩ = some t6 ∧ w.cell? ⟨g, 7, none⟩ = some t7 ∧ w.cell? ⟨g, 8, none⟩ = some t8 ∧ w.cell? ⟨g, 9, none⟩ = some t9 ∧ w.cell? ⟨g, 10, none⟩ = some t10 := by
  have hh := fun j => cell_of_row w g j _ _ _ h
  exact ⟨hh 0, hh 1, hh 2, hh 3, hh 4, hh 5, hh 6, hh 7, hh 8, hh 9, hh 10⟩
/-- the reading that a method was handed, the reading that it tells, the term that it tells: each in a box of its own -/
structure R3 (w wr : World) (X Y Z : Array Value) : Prop where
  bel : Below w.heap.size w wr
  box : wr.heap[w.heap.size]? = some (.cells X 94 (0, 0))
  res : wr.heap[w.heap.size + 1]? = some (.cells Y 94 (0, 0))
  ter : wr.heap[w.heap.size + 1 + 1]? = some (.cells Z 29 (0, 0))
theorem lt_row {w : World} {g : Nat} {o : Obj} (h : w.heap[g]? = some o) : g < w.heap.size := by
  by_cases hg : g < w.heap.size
  · exact hg
  · rw [Array.getElem?_eq_none (by omega)] at h; exact absurd h (by simp)
theorem R3.call {w wr w1 : World} {X Y Z : Array Value} (h : R3 w wr X Y Z) (hb : Below wr.heap.size wr w1) : R3 w w1 X Y Z :=
  ⟨below_to h.bel hb, by rw [hb.block _ (lt_row h.box)]; exact h.box, by rw [hb.block _ (lt_row h.res)]; exact h.res, by rw [hb.block _ (lt_row h.ter)]; exact h.ter⟩
theorem R3.put {w wr : World} {x0 x1 x2 x3 x4 : Value} {Y Z : Array Value} (h : R3 w wr #[x0, x1, x2, x3, x4] Y Z) (a b c d e : Value) : R3 w (setN wr w.heap.size 0 [a, b, c, d, e]) #[a, b, c, d, e] Y Z :=
  ⟨setN_below (Nat.le_refl _) _ _ _ _ h.bel, row5 h.box _ _ _ _ _, by rw [setN_other (by omega)]; exact h.res, by rw [setN_other (by omega)]; exact h.ter⟩
theorem R3.new (w : World) (X Y Z : Array Value) : R3 w (((w.alloc (.cells X 94)).alloc (.cells Y 94)).alloc (.cells Z 29)) X Y Z := by
  have h3 : Below w.heap.size w (((w.alloc (.cells X 94)).alloc (.cells Y 94)).alloc (.cells Z 29)) := (((Below.refl _ _).alloc (Nat.le_refl _) _).alloc (by simp) _).alloc (by simp; omega) _
  obtain ⟨h1, h2, _⟩ := boxes (Below.refl _ ((w.alloc (.cells X 94)).alloc (.cells Y 94)))
  refine ⟨h3, ?_, ?_, ?_⟩
  · rw [Below.heap_alloc _ _ _ (lt_row h1)]; exact h1
  · rw [Below.heap_alloc _ _ _ (lt_row h2)]; exact h2
  · have := heap_alloc_new ((w.alloc (.cells X 94)).alloc (.cells Y 94)) (.cells Z 29)
    simpa using this
/-- the term that is told where there is none -/
def zT : Array Value := tcells 0 false 0 0 ByteArray.empty (.slice none 0 0) 0 (.slice none 0 0) (.slice none 0 0) ByteArray.empty 0

end Go.Proofs.Ytmmiiapfefmcjaa

/- The document's reading of a value: its kind is read, its body is read by another. -/
namespace Go.Proofs.Ytmmiiapfefmcjaa
open Go.RowKit

end Go.Proofs.Ytmmiiapfefmcjaa

/- The document's reading of a value's body: its four boxes. -/
namespace Go.Proofs.Ytmmiiapfefmcjaa
open Go.RowKit

/-- the reading and the term that the body was handed, the reading and the term that it tells: each in a box of its own -/
structure R4 (w wr : World) (X T Y Z : Array Value) : Prop where
  bel : Below w.heap.size w wr
  box : wr.heap[w.heap.size]? = some (.cells X 94 (0, 0))
  tbx : wr.heap[w.heap.size + 1]? = some (.cells T 29 (0, 0))
  res : wr.heap[w.heap.size + 1 + 1]? = some (.cells Y 94 (0, 0))
  ter : wr.heap[w.heap.size + 1 + 1 + 1]? = some (.cells Z 29 (0, 0))
theorem R4.call {w wr w1 : World} {X T Y Z : Array Value} (h : R4 w wr X T Y Z) (hb : Below wr.heap.size wr w1) : R4 w w1 X T Y Z :=
  ⟨below_to h.bel hb, by rw [hb.block _ (lt_row h.box)]; exact h.box, by rw [hb.block _ (lt_row h.tbx)]; exact h.tbx, by rw [hb.block _ (lt_row h.res)]; exact h.res, by rw [hb.block _ (lt_row h.ter)]; exact h.ter⟩
theorem R4.put {w wr : World} {x0 x1 x2 x3 x4 : Value} {T Y Z : Array Value} (h : R4 w wr #[x0, x1, x2, x3, x4] T Y Z) (a b c d e : Value) : R4 w (setN wr w.heap.size 0 [a, b, c, d, e]) #[a, b, c, d, e] T Y Z :=
  ⟨setN_below (Nat.le_refl _) _ _ _ _ h.bel, row5 h.box _ _ _ _ _, by rw [setN_other (by omega)]; exact h.tbx, by rw [setN_other (by omega)]; exact h.res, by rw [setN_other (by omega)]; exact h.ter⟩
/-- a cell of the term is written -/
theorem R4.set {w wr : World} {X T Y Z : Array Value} (h : R4 w wr X T Y Z) (i : Nat) (v : Value) : R4 w (wr.setCell ⟨w.heap.size + 1, i, none⟩ v) X (T.setIfInBounds i v) Y Z :=
  ⟨h.bel.setCell (by simp) _, by rw [Below.heap_setCell _ _ _ _ (by simp <;> omega)]; exact h.box, heap_setCell_same _ _ _ _ _ _ h.tbx, by rw [Below.heap_setCell _ _ _ _ (by simp <;> omega)]; exact h.res, by rw [Below.heap_setCell _ _ _ _ (by simp <;> omega)]; exact h.ter⟩
theorem R4.new (w : World) (X T Y Z : Array Value) : R4 w ((((w.alloc (.cells X 94)).alloc (.cells T 29)).alloc (.cells Y 94)).alloc (.cells Z 29)) X T Y Z := by
  have h3 : Below w.heap.size w ((((w.alloc (.cells X 94)).alloc (.cells T 29)).alloc (.cells Y 94)).alloc (.cells Z 29)) := ((((Below.refl _ _).alloc (Nat.le_refl _) _).alloc (by simp) _).alloc (by simp <;> omega) _).alloc (by simp <;> omega) _
  obtain ⟨h1, h2, _⟩ := boxes (Below.refl _ ((w.alloc (.cells X 94)).alloc (.cells T 29)))
  have h4 := heap_alloc_new ((w.alloc (.cells X 94)).alloc (.cells T 29)) (.cells Y 94)
  refine ⟨h3, ?_, ?_, ?_, ?_⟩
  · rw [Below.heap_alloc _ _ _ (by simp <;> omega), Below.heap_alloc _ _ _ (lt_row h1)]; exact h1
  · rw [Below.heap_alloc _ _ _ (by simp <;> omega), Below.heap_alloc _ _ _ (lt_row h2)]; exact h2
  · rw [Below.heap_alloc _ _ _ (by simp)]; simpa using h4
  · have := heap_alloc_new (((w.alloc (.cells X 94)).alloc (.cells T 29)).alloc (.cells Y 94)) (.cells Z 29)
    simpa using this
theorem R4.drew {w wr : World} {X T Y Z : Array Value} (h : R4 w wr X T Y Z) : R4 w wr.drew X T Y Z := ⟨h.bel.drew, h.box, h.tbx, h.res, h.ter⟩
theorem R4.S {w W : World} {c0 c1 c2 c3 c4 t0 t1 t2 t3 t4 t5 t6 t7 t8 t9 t10 : Value} {Y Z : Array Value} (h : R4 w W #[c0, c1, c2, c3, c4] #[t0, t1, t2, t3, t4, t5, t6, t7, t8, t9, t10] Y Z) : (W.cell? ⟨w.heap.size, 0, none⟩ = some c0 ∧ W.cell? ⟨w.heap.size, 1, none⟩ = some c1 ∧ W.cell? ⟨w.heap.size, 2, none⟩ = some c2 ∧ W.cell? ⟨w.heap.size, 3, none⟩ = some c3 ∧ W.cell? ⟨w.heap.size, 4, none⟩ = some c4) ∧ (W.cell? ⟨w.heap.size + 1, 0, none⟩ = some t0 ∧ W.cell? ⟨w.heap.size + 1, 1, none⟩ = some t1 ∧ W.cell? ⟨w.heap.size + 1, 2, none⟩ = some t2 ∧ W.cell? ⟨w.heap.size + 1, 3, none⟩ = some t3 ∧ W.cell? ⟨w.heap.size + 1, 4, none⟩ = some t4 ∧ W.cell? ⟨w.heap.size + 1, 5, none⟩ = some t5 ∧ W.cell? ⟨w.heap.size + 1, 6, none⟩ = some t6 ∧ W.cell? ⟨w.heap.size + 1, 7, none⟩ = some t7 ∧ W.cell? ⟨w.heap.size + 1, 8, none⟩ = some t8 ∧ W.cell? ⟨w.heap.size + 1, 9, none⟩ = some t9 ∧ W.cell? ⟨w.heap.size + 1, 10, none⟩ = some t10) := ⟨(own5 h.box).1, own11 h.tbx⟩
end Go.Proofs.Ytmmiiapfefmcjaa

/- The document's reading of a list and of fields whose number is none. -/
namespace Go.Proofs.Ytmmiiapfefmcjaa
open Go.RowKit

end Go.Proofs.Ytmmiiapfefmcjaa


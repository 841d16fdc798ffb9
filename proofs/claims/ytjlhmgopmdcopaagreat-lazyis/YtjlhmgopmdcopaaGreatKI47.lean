/- A value that can be can be written over; worlds that are alike but for some blocks. -/
import Derived.Test.YtjlhmgopmdcopaaGreatKI46
import Derived.Test.YtjlhmgopmdcopaaGreatKI15
import Derived.Test.YtjlhmgopmdcopaaGreatKI3
namespace Go.Proofs.YtjlhmgopmdcopaaGreat
open Go.RowKit

mutual
theorem Tm.ws {w : World} {B : Nat → Prop} : (t : Tm) → ∀ v, t.V w B v → t.Ok → Ws w B t.sz v
  | .mk k b i f tx by' rf l fs c vr, v, hv, ho => by
    obtain ⟨p1, p2, p3, p4⟩ := ho.parts
    obtain ⟨q1, q2, q3, q4, q5⟩ := ho.bounds
    simp only [Tm.V] at hv
    obtain ⟨h1, h2, h3, h4, h5, h6, h7, h8, h9, h10, h11, h12⟩ := hv
    simp only [Tm.sz]
    by_cases k1 : k = 1
    · exact .inl (.inl (h1 k1))
    by_cases k2 : k = 2
    · exact .inl (.inr (.inl ⟨_, _, h2 k2, by decide, by decide, by decide, by decide⟩))
    by_cases k3 : k = 3
    · exact .inl (.inr (.inl ⟨_, _, h3 k3, by decide, by decide, by decide, by decide⟩))
    by_cases k4 : k = 4
    · exact .inl (.inr (.inl ⟨_, _, (h4 k4).1, by decide, by decide, by decide, by decide⟩))
    by_cases k5 : k = 5
    · exact .inl (.inr (.inl ⟨_, _, (h5 k5).1, by decide, by decide, by decide, by decide⟩))
    by_cases k6 : k = 6
    · obtain ⟨a, cap, e, hl, hb⟩ := h6 k6
      refine .inr (.inl ⟨a, _, cap, e, q2 k6, hl.rowk fun g j ha hj => ?_⟩)
      obtain ⟨g', o, e', _, hc⟩ := hb j (by omega)
      rw [ha] at e'
      simp only [Option.some.injEq, Addr.mk.injEq, and_true] at e'
      obtain ⟨rfl, rfl⟩ := e'
      exact ⟨_, by rw [← Nat.zero_add j]; exact hc, _, rfl, (byte_bd _ _).1, (byte_bd _ _).2⟩
    by_cases k7 : k = 7
    · exact .inl (.inr (.inl ⟨_, _, h7 k7, by decide, by decide, by decide, by decide⟩))
    by_cases k8 : k = 8
    · obtain ⟨a, cap, e, hl, hb⟩ := h8 k8
      refine .inr (.inr (.inl ⟨a, _, cap, e, q3 k8, hl.rowk fun g j ha hj => ?_⟩))
      obtain ⟨x, hx, hw, hs⟩ := TmL.ws l a 0 hb (p3 k8) g ha j (by omega)
      exact ⟨x, by rw [← Nat.zero_add j]; exact hx, Ws.up _ _ _ (by omega) hw, hs⟩
    by_cases k9 : k = 9
    · obtain ⟨a, cap, e, hl, hb⟩ := h9 k9
      refine .inr (.inr (.inr (.inl ⟨a, _, cap, e, (TmF.nm (q4 (.inl k9))).1, hl.rowk fun g j ha hj => ?_⟩)))
      obtain ⟨⟨s, hn⟩, x, hx, hw, hs⟩ := TmF.ws fs a 0 hb (p4 (.inl k9)) g ha (j / 2) (by omega)
      rw [Nat.zero_add] at hn hx
      by_cases hj2 : j % 2 = 0
      · exact ⟨_, by rw [show j = j / 2 * 2 by omega]; exact hn, fun _ => ⟨s, rfl⟩, fun h => by omega⟩
      · exact ⟨_, by rw [show j = j / 2 * 2 + 1 by omega]; exact hx, fun h => absurd h hj2, fun _ => ⟨Ws.up _ _ _ (by omega) hw, hs⟩⟩
    by_cases k10 : k = 10
    · obtain ⟨g, a, cap, e, hg, c0, c1, c2, ⟨_, cur, hcur⟩, hl, hb⟩ := h10 k10
      rw [cell_of_row _ _ _ _ _ _ hcur] at c0 c1 c2
      refine .inr (.inr (.inr (.inr ⟨g, cur, a, _, cap, e, hg, hcur, ⟨_, c0⟩, ⟨_, c1⟩, c2, (TmF.nm (q4 (.inr k10))).1, hl.rowk fun g j ha hj => ?_⟩)))
      obtain ⟨⟨s, hn⟩, x, hx, hw, hs⟩ := TmF.ws fs a 0 hb (p4 (.inr k10)) g ha (j / 2) (by omega)
      rw [Nat.zero_add] at hn hx
      by_cases hj2 : j % 2 = 0
      · exact ⟨_, by rw [show j = j / 2 * 2 by omega]; exact hn, fun _ => ⟨s, rfl⟩, fun h => by omega⟩
      · exact ⟨_, by rw [show j = j / 2 * 2 + 1 by omega]; exact hx, fun h => absurd h hj2, fun _ => ⟨Ws.up _ _ _ (by omega) hw, hs⟩⟩
    omega
theorem TmL.ws {w : World} {B : Nat → Prop} : (l : TmL) → ∀ a k, l.V w B a k → l.Ok → ∀ g, a = some ⟨g, 0, none⟩ → ∀ j, j < l.len → ∃ x, w.cell? ⟨g, k + j, none⟩ = some x ∧ Ws w B l.sz x ∧ Shp x
  | .nil, _, _, _, _, _, _, j, hj => by simp [TmL.len] at hj
  | .cons t l, a, k, h, ho, g, ha, j, hj => by
    simp only [TmL.V] at h
    obtain ⟨g', o, v, e, _, hc, ht, hl⟩ := h
    subst ha
    simp only [Option.some.injEq, Addr.mk.injEq, and_true] at e
    obtain ⟨rfl, rfl⟩ := e
    simp only [TmL.sz]
    cases j with
    | zero => exact ⟨v, by rw [Nat.zero_add] at hc; exact hc, Ws.up _ _ _ (by omega) (Tm.ws t v ht ho.head.1), t.V_shape v ht⟩
    | succ j =>
      obtain ⟨x, hx, hw, hs⟩ := TmL.ws l _ (k + 1) hl ho.head.2 g rfl j (by simp [TmL.len] at hj; omega)
      exact ⟨x, by rw [show k + (j + 1) = k + 1 + j by omega]; exact hx, Ws.up _ _ _ (by omega) hw, hs⟩
theorem TmF.ws {w : World} {B : Nat → Prop} : (l : TmF) → ∀ a k, l.V w B a k → l.Ok → ∀ g, a = some ⟨g, 0, none⟩ → ∀ j, j < l.len → (∃ s, w.cell? ⟨g, (k + j) * 2, none⟩ = some (.string s)) ∧ ∃ x, w.cell? ⟨g, (k + j) * 2 + 1, none⟩ = some x ∧ Ws w B l.sz x ∧ Shp x
  | .nil, _, _, _, _, _, _, j, hj => by simp [TmF.len] at hj
  | .cons n t l, a, k, h, ho, g, ha, j, hj => by
    simp only [TmF.V] at h
    obtain ⟨g', o, v, e, _, hn, hc, _, ht, hl⟩ := h
    subst ha
    simp only [Option.some.injEq, Addr.mk.injEq, and_true] at e
    obtain ⟨rfl, rfl⟩ := e
    simp only [TmF.sz]
    rw [Nat.zero_add] at hn hc
    cases j with
    | zero => exact ⟨⟨n, hn⟩, v, hc, Ws.up _ _ _ (by omega) (Tm.ws t v ht ho.head.1), t.V_shape v ht⟩
    | succ j =>
      obtain ⟨hs', x, hx, hw, hs⟩ := TmF.ws l _ (k + 1) hl ho.head.2 g rfl j (by simp [TmF.len] at hj; omega)
      rw [show k + (j + 1) = k + 1 + j by omega]
      exact ⟨hs', x, hx, Ws.up _ _ _ (by omega) hw, hs⟩
end

/-- Spoil of a value that lies in B: nothing else is written -/
theorem Spoil_any (t : Tm) (v : Value) (B : Nat → Prop) (w : World) (h : t.V w B v) (hB : Sub B w) (he : (t.wk 1 0 0).e = 0) :
    Calls Tryz.prog 13 #[v] w fun e w' => e = .returned (.tuple #[]) ∧ Dg B w w' :=
  spoil_any t.sz v B w (t.ws v h ⟨1, 0, 0, he⟩) hB

/-- w' is w with blocks more; those of w that D does not name are as they were -/
structure Far (D : Nat → Prop) (w w' : World) : Prop where
  os : w'.os = w.os
  tape : w'.tape = w.tape
  output : w'.output = w.output
  size : w.heap.size ≤ w'.heap.size
  block : ∀ k, k < w.heap.size → ¬ D k → w'.heap[k]? = w.heap[k]?
theorem Far.of {D : Nat → Prop} {w w' : World} (h : Below w.heap.size w w') : Far D w w' := ⟨h.os, h.tape, h.output, h.size, fun k hk _ => h.block k hk⟩
theorem Far.call {D : Nat → Prop} {w w1 w2 : World} (h : Far D w w1) (k : Below w1.heap.size w1 w2) : Far D w w2 :=
  ⟨k.os.trans h.os, k.tape.trans h.tape, k.output.trans h.output, Nat.le_trans h.size k.size, fun i hi hn => (k.block i (Nat.lt_of_lt_of_le hi h.size)).trans (h.block i hi hn)⟩
theorem Far.dg {D E : Nat → Prop} {w w1 w2 : World} (h : Far D w w1) (k : Dg E w1 w2) (hE : ∀ k, E k → D k) : Far D w w2 :=
  ⟨k.os.trans h.os, k.tape.trans h.tape, k.output.trans h.output, Nat.le_trans h.size k.size, fun i hi hn => (k.far i (Nat.lt_of_lt_of_le hi h.size) (fun e => hn (hE i e))).trans (h.block i hi hn)⟩
theorem Far.mono {D E : Nat → Prop} {w w1 : World} (h : Far D w w1) (hE : ∀ k, D k → E k) : Far E w w1 := ⟨h.os, h.tape, h.output, h.size, fun i hi hn => h.block i hi (fun e => hn (hE i e))⟩
theorem Far.same {D S : Nat → Prop} {w w1 : World} (h : Far D w w1) (hS : ∀ k, S k → k < w.heap.size ∧ ¬ D k) : Same S w w1 := fun k hk => h.block k (hS k hk).1 (hS k hk).2
theorem Far.below {D : Nat → Prop} {w0 w w1 : World} (h : Far D w w1) (h0 : Below w0.heap.size w0 w) (hD : ∀ k, D k → w0.heap.size ≤ k) : Below w0.heap.size w0 w1 :=
  ⟨h.os.trans h0.os, h.tape.trans h0.tape, h.output.trans h0.output, Nat.le_trans h0.size h.size, fun k hk => (h.block k (Nat.lt_of_lt_of_le hk h0.size) (fun e => by have := hD k e; omega)).trans (h0.block k hk)⟩
end Go.Proofs.YtjlhmgopmdcopaaGreat


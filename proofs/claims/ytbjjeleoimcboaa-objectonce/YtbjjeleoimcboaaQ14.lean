/- tenonmake.Dict: the dict of entries, in new memory. -/
import Derived.Test.YtbjjeleoimcboaaQ12
import Derived.Test.YtbjjeleoimcboaaQ13
import Derived.Deep.RegionHeld3
import Derived.Deep.AppendLies
import Derived.StillTactics
namespace Go.Proofs.Ytbjjeleoimcboaa
open Go.RowKit

/-- what the loop of Dict carries: behind j entries the rest is l; those built lie in the row of block g -/
structure FL (L : TmF) (w : World) (B : Nat → Prop) (al : Option Addr) (wr : World) (j g cap : Nat) (xs : List Value) (l : TmF) : Prop where
  len : l.len + j = L.len
  src : l.In w B al j
  own : wr.ownsRow w.heap.size 59 2 (.slice (some ⟨g, 0, none⟩) j cap) j xs
  pre : FPre wr (Own w.heap.size wr g) L xs l
  lt : w.heap.size ≤ g ∧ g < wr.heap.size
  bel : Below w.heap.size w wr

theorem FL.step {L : TmF} {w : World} {B : Nat → Prop} {al : Option Addr} {wr : World} {j g cap : Nat} {xs : List Value} {n : ByteArray} {t : Tm} {l : TmF} (h : FL L w B al wr j g cap xs (.cons n t l)) {w1 w3 : World} {o : Obj} {x : Value} {g' cap' : Nat}
    (hb : Below wr.heap.size wr w1) (hx : t.V w1 (Fr wr w1) x) (ho : w3.ownsRow w.heap.size 59 2 (.slice (some ⟨g', 0, none⟩) (j + 1) cap') (j + 1) (xs ++ [.string n, x])) (hg : (w1.alloc o).grownBy w3 (some g)) (hor : some g = some g' ∨ g' = (w1.alloc o).heap.size) :
    FL L w B al w3 (j + 1) g' cap' (xs ++ [.string n, x]) l := by
  have hz1 := hb.size
  have hz3 := hg.size
  have hza : (w1.alloc o).heap.size = w1.heap.size + 1 := by simp
  have hlt := ho.lt g' rfl
  have hsrc := h.src
  simp only [TmF.In] at hsrc
  obtain ⟨_, _, _, _, _, _, hn, _, _, hl⟩ := hsrc
  have h31 : ∀ k, k < w1.heap.size → k ≠ g → w3.heap[k]? = w1.heap[k]? := fun k hk hne => by
    rw [hg.block k (by omega) (by simpa using hne)]; exact Below.heap_alloc _ _ _ hk
  have hS : Same (Own w.heap.size wr g) wr w3 := fun k hk => by rw [h31 k (by have := hk.2.1; omega) hk.2.2]; exact hb.block k hk.2.1
  have hS1 : Same (Fr wr w1) w1 w3 := fun k hk => h31 k hk.2 (by have := hk.1; have := h.lt; omega)
  have hg' : ∀ k, k < w1.heap.size → k ≠ g → k ≠ g' := fun k hk hne e => by
    rcases hor with e' | e'
    · injection e' with e'; omega
    · omega
  refine ⟨?_, hl, ho, ?_, hlt, ?_⟩
  · have := h.len; simp [TmF.len] at this; omega
  · refine FPre.snoc L xs n t l x (FPre.same hS (fun k hk => ⟨hk.1, by have := hk.2.1; omega, hg' k (by have := hk.2.1; omega) hk.2.2⟩) L xs _ h.pre) (by unfold maxLen; omega) (t.V_same hS1 (fun k hk => ⟨?_, ?_, ?_⟩) x hx)
    · have := hk.1; have := h.lt; omega
    · have := hk.2; omega
    · exact hg' k hk.2 (by have := hk.1; have := h.lt; omega)
  · have hb1 : Below w.heap.size w (w1.alloc o) := (h.bel.trans (hb.mono h.bel.size)).alloc (by have := h.bel.size; omega) _
    exact hb1.grown hg (by have := h.bel.size; omega) (fun k e => by injection e with e; have := h.lt; omega)

theorem FL.done {L : TmF} {w : World} {B : Nat → Prop} {al : Option Addr} {wr : World} {j g cap : Nat} {xs : List Value} (h : FL L w B al wr j g cap xs .nil) (hj : j = L.len) : L.LV wr (Fr w wr) (some ⟨g, 0, none⟩) cap := by
  subst hj
  refine ⟨Ln.of h.own (fun g' o p e => by injection e with e; injection e with e; subst e; exact ⟨by have := h.lt; omega, h.lt.2⟩), ?_⟩
  refine FPre.done (S := Own w.heap.size wr g) (fun k hk => ⟨by have := hk.1; omega, hk.2.1⟩) g ⟨by have := h.lt; omega, h.lt.2⟩ L xs 0 h.pre ?_
  intro i x hi
  have := h.own.cells (g := g) rfl i x hi
  rw [Nat.zero_mul, Nat.zero_add]
  have e : (⟨g, 0, none⟩ : Addr).add i = ⟨g, i, none⟩ := by
    unfold Addr.add; split
    · rename_i h0; rw [h0]
    · simp
  rw [e] at this; exact this

theorem Tm.V_nil {w : World} {S : Nat → Prop} {t : Tm} {v : Value} (hk : t.kind = 1) (h : t.V w S v) : v = .nilIface := by
  cases t; simp only [Tm.V] at h; exact h.1 hk
theorem Tm.V_iface {w : World} {S : Nat → Prop} {t : Tm} {v : Value} (hk : t.kind ≠ 1) (h : t.V w S v) : ∃ T x, v = .iface T x := by
  cases t with
  | mk k b i f tx by' rf l fs c vr =>
    rcases Tm.V_shape _ _ h with rfl | h'
    · exfalso
      simp only [Tm.V] at h
      obtain ⟨h1, h2, h3, h4, h5, h6, h7, h8, h9, h10, h11, h12⟩ := h
      have k1 : ¬ k = 1 := hk
      have k2 : ¬ k = 2 := fun e => by simpa using h2 e
      have k3 : ¬ k = 3 := fun e => by simpa using h3 e
      have k4 : ¬ k = 4 := fun e => by simpa using (h4 e).1
      have k5 : ¬ k = 5 := fun e => by simpa using (h5 e).1
      have k6 : ¬ k = 6 := fun e => by obtain ⟨_, _, e', _⟩ := h6 e; simp at e'
      have k7 : ¬ k = 7 := fun e => by simpa using h7 e
      have k8 : ¬ k = 8 := fun e => by obtain ⟨_, _, e', _⟩ := h8 e; simp at e'
      have k9 : ¬ k = 9 := fun e => by obtain ⟨_, _, e', _⟩ := h9 e; simp at e'
      have k10 : ¬ k = 10 := fun e => by obtain ⟨_, _, _, e', _⟩ := h10 e; simp at e'
      have k11 : ¬ k = 11 := fun e => by simpa using h11 e
      obtain ⟨T, x, e, _⟩ := h12 (k_alien k1 k2 k3 k4 k5 k6 k7 k8 k9 k10 k11)
      simp at e
    · exact h'

/-- the contract of Built at one term that is nil, and at one that is not -/
theorem BuiltC.nil {N : Nat} (HC : BuiltC N) {t : Tm} (hN : t.sz ≤ N) {cs : Array Value} {B : Nat → Prop} {w : World} (h : t.In w B cs) (hB : Sub B w) (hk : t.kind = 1) :
    ∀ W, Below w.heap.size w W → Calls Try.prog 97 #[.agg cs] W fun e w' => e = .returned .nilIface ∧ Below W.heap.size W w' ∧ t.V w' (Fr W w') .nilIface := by
  intro W hW
  refine (HC.at hN h hB W hW).mono ?_
  rintro e w' ⟨v, rfl, hb, hv, _⟩
  obtain rfl := Tm.V_nil hk hv
  exact ⟨rfl, hb, hv⟩
theorem BuiltC.iface {N : Nat} (HC : BuiltC N) {t : Tm} (hN : t.sz ≤ N) {cs : Array Value} {B : Nat → Prop} {w : World} (h : t.In w B cs) (hB : Sub B w) (hk : t.kind ≠ 1) :
    ∀ W, Below w.heap.size w W → Calls Try.prog 97 #[.agg cs] W fun e w' => ∃ T x, e = .returned (.iface T x) ∧ Below W.heap.size W w' ∧ t.V w' (Fr W w') (.iface T x) := by
  intro W hW
  refine (HC.at hN h hB W hW).mono ?_
  rintro e w' ⟨v, rfl, hb, hv, _⟩
  obtain ⟨T, x, rfl⟩ := Tm.V_iface hk hv
  exact ⟨T, x, rfl, hb, hv⟩

end Go.Proofs.Ytbjjeleoimcboaa


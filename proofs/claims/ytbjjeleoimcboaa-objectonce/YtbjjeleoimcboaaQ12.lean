/- tenonmake.Alien: whatever number it is given, a value of a type that has no kind. -/
import Derived.Test.YtbjjeleoimcboaaQ4
import Derived.MapKept
namespace Go.Proofs.Ytbjjeleoimcboaa
open Go.RowKit

end Go.Proofs.Ytbjjeleoimcboaa

/- tenonmake.Built and tenonmake.Dict: the value of a term, in new memory. -/
namespace Go.Proofs.Ytbjjeleoimcboaa
open Go.RowKit

section
variable (b : Bool) (i : Int) (f : Nat) (tx : ByteArray) (vb : Value) (rf : Int) (vl vf : Value) (c : ByteArray) (vr : Int) (w : World)
end

/-- the contract of Built at terms of at most N parts -/
def BuiltC (N : Nat) : Prop := ∀ (t : Tm), t.sz ≤ N → ∀ (cs : Array Value) (B : Nat → Prop) (w : World), t.In w B cs → Sub B w →
  Calls Try.prog 97 #[.agg cs] w fun e w' => ∃ v, e = .returned v ∧ Below w.heap.size w w' ∧ t.V w' (Fr w w') v

/-- what the loop of Built carries: behind j terms the rest is l; those built lie in the row of block g -/
structure BL (L : TmL) (w : World) (B : Nat → Prop) (al : Option Addr) (wr : World) (j g cap : Nat) (xs : List Value) (l : TmL) : Prop where
  len : l.len + j = L.len
  src : l.In w B al j
  own : wr.ownsRow (w.heap.size + 1) 20 1 (.slice (some ⟨g, 0, none⟩) j cap) j xs
  pre : VPre wr (Own (w.heap.size + 1) wr g) L xs l
  lt : w.heap.size + 1 ≤ g ∧ g < wr.heap.size
  bel : Below w.heap.size w wr

theorem BL.step {L : TmL} {w : World} {B : Nat → Prop} {al : Option Addr} {wr : World} {j g cap : Nat} {xs : List Value} {t : Tm} {l : TmL} (h : BL L w B al wr j g cap xs (.cons t l)) {w1 w3 : World} {o : Obj} {x : Value} {g' cap' : Nat}
    (hb : Below wr.heap.size wr w1) (hx : t.V w1 (Fr wr w1) x) (ho : w3.ownsRow (w.heap.size + 1) 20 1 (.slice (some ⟨g', 0, none⟩) (j + 1) cap') (j + 1) (xs ++ [x])) (hg : (w1.alloc o).grownBy w3 (some g)) (hor : some g = some g' ∨ g' = (w1.alloc o).heap.size) :
    BL L w B al w3 (j + 1) g' cap' (xs ++ [x]) l := by
  have hz1 := hb.size
  have hz3 := hg.size
  have hza : (w1.alloc o).heap.size = w1.heap.size + 1 := by simp
  have hlt := ho.lt g' rfl
  have hsrc := h.src
  simp only [TmL.In] at hsrc
  obtain ⟨_, _, _, _, _, _, _, hl⟩ := hsrc
  have h31 : ∀ k, k < w1.heap.size → k ≠ g → w3.heap[k]? = w1.heap[k]? := fun k hk hne => by
    rw [hg.block k (by omega) (by simpa using hne)]; exact Below.heap_alloc _ _ _ hk
  have hS : Same (Own (w.heap.size + 1) wr g) wr w3 := fun k hk => by rw [h31 k (by have := hk.2.1; omega) hk.2.2]; exact hb.block k hk.2.1
  have hS1 : Same (Fr wr w1) w1 w3 := fun k hk => h31 k hk.2 (by have := hk.1; have := h.lt; omega)
  have hg' : ∀ k, k < w1.heap.size → k ≠ g → k ≠ g' := fun k hk hne e => by
    rcases hor with e' | e'
    · injection e' with e'; omega
    · omega
  refine ⟨?_, hl, ho, ?_, hlt, ?_⟩
  · have := h.len; simp [TmL.len] at this; omega
  · refine VPre.snoc L xs t l x (VPre.same hS (fun k hk => ⟨hk.1, by have := hk.2.1; omega, hg' k (by have := hk.2.1; omega) hk.2.2⟩) L xs _ h.pre) (t.V_same hS1 (fun k hk => ⟨?_, ?_, ?_⟩) x hx)
    · have := hk.1; have := h.lt; omega
    · have := hk.2; omega
    · exact hg' k hk.2 (by have := hk.1; have := h.lt; omega)
  · have hb1 : Below w.heap.size w (w1.alloc o) := (h.bel.trans (hb.mono h.bel.size)).alloc (by have := h.bel.size; omega) _
    exact hb1.grown hg (by have := h.bel.size; omega) (fun k e => by injection e with e; have := h.lt; omega)

theorem BL.done {L : TmL} {w : World} {B : Nat → Prop} {al : Option Addr} {wr : World} {j g cap : Nat} {xs : List Value} (h : BL L w B al wr j g cap xs .nil) (hj : j = L.len) : L.LV wr (Fr w wr) (some ⟨g, 0, none⟩) cap := by
  subst hj
  refine ⟨Ln.of h.own (fun g' o p e => by injection e with e; injection e with e; subst e; exact ⟨by have := h.lt; omega, h.lt.2⟩), ?_⟩
  refine VPre.done (S := Own (w.heap.size + 1) wr g) (fun k hk => ⟨by have := hk.1; omega, hk.2.1⟩) g ⟨by have := h.lt; omega, h.lt.2⟩ L xs 0 h.pre ?_
  intro i x hi
  have := h.own.cells (g := g) rfl i x hi
  rw [Nat.zero_add]
  have e : (⟨g, 0, none⟩ : Addr).add i = ⟨g, i, none⟩ := by
    unfold Addr.add; split
    · rename_i h0; rw [h0]
    · simp
  rw [e] at this; exact this

/-- the contract at one term, its cells written out -/
theorem BuiltC.at {N : Nat} (HC : BuiltC N) {t : Tm} (hN : t.sz ≤ N) {cs : Array Value} {B : Nat → Prop} {w : World} (h : t.In w B cs) (hB : Sub B w) :
    ∀ W, Below w.heap.size w W → Calls Try.prog 97 #[.agg cs] W fun e w' => ∃ v, e = .returned v ∧ Below W.heap.size W w' ∧ t.V w' (Fr W w') v ∧ (v = .nilIface ∨ ∃ T x, v = .iface T x) := by
  intro W hW
  refine (HC t hN cs B W (t.In_same (hB.same hW) (fun _ h => h) cs h) (hB.later hW)).mono ?_
  rintro e w' ⟨v, rfl, hb, hv⟩
  exact ⟨v, rfl, hb, hv, t.V_shape v hv⟩

end Go.Proofs.Ytbjjeleoimcboaa


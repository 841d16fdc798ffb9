/- tenonref01.Parts: the terms that a term holds, as a slice of terms. -/
import Derived.Test.YtjlhmgopmdcopaaGreatKI9
import Derived.Test.YtjlhmgopmdcopaaGreatKI11
namespace Go.Proofs.YtjlhmgopmdcopaaGreat
open Go.RowKit

/-- the blocks of B, and those that are new in w' -/
def Up (B : Nat → Prop) (w w' : World) : Nat → Prop := fun k => B k ∨ Fr w w' k

def TPre (w : World) (B : Nat → Prop) : TmL → List (Array Value) → TmL → Prop
  | L, [], l => L = l
  | .cons t L, cs :: r, l => t.In w B cs ∧ cs.size = 11 ∧ TPre w B L r l
  | .nil, _ :: _, _ => False
theorem TPre_nil {w : World} {B : Nat → Prop} (L l : TmL) : TPre w B L [] l ↔ L = l := by cases L <;> rfl
theorem TPre.snoc {w : World} {B : Nat → Prop} : (L : TmL) → ∀ xs t l cs, TPre w B L xs (.cons t l) → t.In w B cs → cs.size = 11 → TPre w B L (xs ++ [cs]) l
  | L, [], t, l, cs, h, hx, hz => by
    obtain rfl := (TPre_nil _ _).1 h
    simp only [List.nil_append, TPre]
    exact ⟨hx, hz, trivial⟩
  | .nil, y :: ys, t, l, x, h, hx, hz => by simp [TPre] at h
  | .cons u L, y :: ys, t, l, x, h, hx, hz => by
    simp only [List.cons_append, TPre] at h ⊢
    exact ⟨h.1, h.2.1, TPre.snoc L ys t l x h.2.2 hx hz⟩
theorem TPre.done {w w' : World} {B B' : Nat → Prop} (hs : Same B w w') (hB : ∀ k, B k → B' k) (g : Nat) (hg : B' g) : (L : TmL) → ∀ (xs : List (Array Value)) (j : Nat), TPre w B L xs .nil → (∀ i x, (xs.flatMap (·.toList))[i]? = some x → w'.cell? ⟨g, j * 11 + i, none⟩ = some x) → L.In w' B' (some ⟨g, 0, none⟩) j
  | .nil, _, _, _, _ => by simp [TmL.In]
  | .cons t L, [], j, h, _ => by simp [TPre] at h
  | .cons t L, cs :: xs, j, h, hc => by
    simp only [TPre, TmL.In] at h ⊢
    obtain ⟨h1, h2, h3⟩ := h
    refine ⟨g, 0, cs, rfl, hg, ?_, t.In_same hs hB cs h1, TPre.done hs hB g hg L xs (j + 1) h3 ?_⟩
    · intro x hx
      have hx' : x < cs.size := by omega
      rw [Array.getElem?_eq_getElem hx']
      have := hc x cs[x] (by simp only [List.flatMap_cons]; rw [List.getElem?_append_left (by simpa using hx')]; simp)
      simpa using this
    · intro i x hi
      have := hc (i + 11) x (by simp only [List.flatMap_cons]; rw [List.getElem?_append_right (by simp; omega)]; simpa [h2] using hi)
      rw [show (j + 1) * 11 + i = j * 11 + (i + 11) by omega]; exact this

def Tm.parts : Tm → TmL
  | .mk k _ _ _ _ _ _ l fs _ _ => if k = 8 then l else if k = 9 ∨ k = 10 then fs.vals else .nil

/-- what the loop of Parts carries: behind j entries the rest is l; the terms lie in the row of block g -/
structure PL (L : TmF) (w : World) (B : Nat → Prop) (al : Option Addr) (wr : World) (j g cap : Nat) (xs : List (Array Value)) (l : TmF) : Prop where
  len : l.len + j = L.len
  src : l.In w B al j
  own : wr.ownsRow (w.heap.size + 1) 29 11 (.slice (some ⟨g, 0, none⟩) j cap) j (xs.flatMap (·.toList))
  pre : TPre w B L.vals xs l.vals
  lt : w.heap.size + 1 ≤ g ∧ g < wr.heap.size
  bel : Below w.heap.size w wr

theorem PL.step {L : TmF} {w : World} {B : Nat → Prop} {al : Option Addr} {wr : World} {j g cap : Nat} {xs : List (Array Value)} {n : ByteArray} {t : Tm} {l : TmF} (h : PL L w B al wr j g cap xs (.cons n t l)) {cs : Array Value} (ht : t.In w B cs) (hz : cs.size = 11) {w3 : World} {o : Obj} {g' cap' : Nat}
    (ho : w3.ownsRow (w.heap.size + 1) 29 11 (.slice (some ⟨g', 0, none⟩) (j + 1) cap') (j + 1) (xs.flatMap (·.toList) ++ cs.toList)) (hg : (wr.alloc o).grownBy w3 (some g)) :
    PL L w B al w3 (j + 1) g' cap' (xs ++ [cs]) l := by
  have hsrc := h.src
  simp only [TmF.In] at hsrc
  obtain ⟨_, _, _, _, _, _, _, _, _, hl⟩ := hsrc
  refine ⟨?_, hl, ?_, TPre.snoc _ _ t _ cs h.pre ht hz, ho.lt g' rfl, ?_⟩
  · have := h.len; simp [TmF.len] at this; omega
  · rw [List.flatMap_append]; simpa using ho
  · exact (h.bel.alloc h.bel.size _).grown hg (by have := h.bel.size; simp; omega) (fun k e => by injection e with e; have := h.lt; omega)
theorem PL.done {L : TmF} {w : World} {B : Nat → Prop} {al : Option Addr} {wr : World} {j g cap : Nat} {xs : List (Array Value)} (h : PL L w B al wr j g cap xs .nil) (hB : Sub B w) : L.vals.In wr (Up B w wr) (some ⟨g, 0, none⟩) 0 := by
  refine TPre.done (hB.same h.bel) (fun _ hk => .inl hk) g (.inr ⟨by have := h.lt; omega, h.lt.2⟩) L.vals xs 0 h.pre ?_
  intro i x hi
  have := h.own.cells (g := g) rfl i x hi
  have e : (⟨g, 0, none⟩ : Addr).add i = ⟨g, 0 * 11 + i, none⟩ := by
    unfold Addr.add; split
    · rename_i h0; rw [h0]
    · simp
  rw [e] at this; exact this

theorem tcells_one (k : Int) (b : Bool) (i : Int) (f : Nat) (tx : ByteArray) (ab : Option Addr) (nb cb : Nat) (rf : Int) (al : Option Addr) (nl cl : Nat) (af : Option Addr) (nf cf : Nat) (c : ByteArray) (vr : Int) :
    ∀ u ∈ (tcells k b i f tx (.slice ab nb cb) rf (.slice al nl cl) (.slice af nf cf) c vr).toList, u.oneCell' = true := by
  intro u hu
  simp [tcells] at hu
  rcases hu with rfl | rfl | rfl | rfl | rfl | rfl | rfl | rfl | rfl | rfl | rfl <;> rfl

theorem block_cells {w : World} {g : Nat} {cs : Array Value} {e : TypeId} (h : w.heap[g]? = some (.cells cs e (0, 0))) : ∀ j u, cs.toList[j]? = some u → w.cell? ((⟨g, 0, none⟩ : Addr).add j) = some u := by
  intro j u hj
  have e : (⟨g, 0, none⟩ : Addr).add j = ⟨g, j, none⟩ := by
    unfold Addr.add; split
    · rename_i h0; rw [h0]
    · simp
  rw [e, cell_of_row w g j cs _ (0, 0) h]
  simpa using hj

end Go.Proofs.YtjlhmgopmdcopaaGreat


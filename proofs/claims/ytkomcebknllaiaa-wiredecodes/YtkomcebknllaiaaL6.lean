/- Rows that a call has made and fills cell by cell, and what lies in them: values, fields, terms, entries. -/
import Derived.Test.YtkomcebknllaiaaL5
import Derived.Laws.MakeOwn
import Derived.Test.YtkomcebknllaiaaL4
import Derived.Test.YtkomcebknllaiaaL3
import Derived.Lib.UnsafeStr
import Derived.Lib.BufferWrite
import Derived.Deep.RegionHeld3
import Derived.Laws.Bits64
namespace Go.Proofs.Ytkomcebknllaiaa
open Go.RowKit

/-- cells written side by side into block g, from o on -/
def setN (w : World) (g : Nat) : Nat → List Value → World
  | _, [] => w
  | o, v :: vs => setN (w.setCell ⟨g, o, none⟩ v) g (o + 1) vs
theorem setN_size {g : Nat} : ∀ (vs : List Value) (w : World) (o : Nat), (setN w g o vs).heap.size = w.heap.size
  | [], _, _ => rfl
  | v :: vs, w, o => by rw [setN, setN_size vs]; simp
theorem setN_other {g k : Nat} (hk : k ≠ g) : ∀ (vs : List Value) (w : World) (o : Nat), (setN w g o vs).heap[k]? = w.heap[k]?
  | [], _, _ => rfl
  | v :: vs, w, o => by rw [setN, setN_other hk vs, heap_setCell_other _ _ _ _ hk]
theorem setN_frozen {g i : Nat} : ∀ (vs : List Value) (w : World) (o : Nat), (setN w g o vs).frozen? ⟨g, i, none⟩ = w.frozen? ⟨g, i, none⟩
  | [], _, _ => rfl
  | v :: vs, w, o => by rw [setN, setN_frozen vs]; simp
theorem setN_out {g i : Nat} : ∀ (vs : List Value) (w : World) (o : Nat), i < o ∨ o + vs.length ≤ i → (setN w g o vs).cell? ⟨g, i, none⟩ = w.cell? ⟨g, i, none⟩
  | [], _, _, _ => rfl
  | v :: vs, w, o, h => by
    simp only [List.length_cons] at h
    rw [setN, setN_out vs _ _ (by omega), sc_ne (by simp <;> omega)]
theorem setN_in {g : Nat} : ∀ (vs : List Value) (w : World) (o k : Nat) (v : Value), vs[k]? = some v → (∃ u, w.cell? ⟨g, o + k, none⟩ = some u) → (setN w g o vs).cell? ⟨g, o + k, none⟩ = some v
  | [], _, _, _, _, h, _ => by simp at h
  | x :: vs, w, o, 0, v, h, hu => by
    obtain ⟨u, hu⟩ := hu
    simp only [List.getElem?_cons_zero, Option.some.injEq] at h
    subst h
    rw [setN, setN_out vs _ _ (by omega)]
    exact sc_eq hu
  | x :: vs, w, o, k + 1, v, h, hu => by
    simp only [List.getElem?_cons_succ] at h
    rw [setN, show o + (k + 1) = (o + 1) + k by omega]
    refine setN_in vs _ _ k v h ?_
    obtain ⟨u, hu⟩ := hu
    exact ⟨u, by rw [sc_ne (by simp <;> omega), show (o + 1) + k = o + (k + 1) by omega]; exact hu⟩
theorem setN_below {g b : Nat} (hb : b ≤ g) : ∀ (vs : List Value) (w w' : World) (o : Nat), Below b w w' → Below b w (setN w' g o vs)
  | [], _, _, _, h => h
  | v :: vs, w, w', o, h => by rw [setN]; exact setN_below hb vs _ _ _ (h.setCell (p := ⟨g, o, none⟩) hb _)

theorem setN_row {e : TypeId} {g n : Nat} : ∀ (vs : List Value) (w : World) (o : Nat), (∃ cur, w.heap[g]? = some (.cells cur e (0, 0)) ∧ cur.size = n) → ∃ cur, (setN w g o vs).heap[g]? = some (.cells cur e (0, 0)) ∧ cur.size = n
  | [], _, _, h => h
  | v :: vs, w, o, h => by
    obtain ⟨cur, h1, h2⟩ := h
    exact setN_row vs _ _ ⟨_, heap_setCell_same w g o _ _ v h1, by simpa using h2⟩

/-- block g, new since w, has n cells that can be written; the first of them hold xs -/
structure RW (e : TypeId) (w wr : World) (g n : Nat) (xs : List Value) : Prop where
  own : ∀ i, i < n → (∃ u, wr.cell? ⟨g, i, none⟩ = some u) ∧ wr.frozen? ⟨g, i, none⟩ = false
  got : ∀ i x, xs[i]? = some x → wr.cell? ⟨g, i, none⟩ = some x
  len : xs.length ≤ n
  lt : w.heap.size ≤ g ∧ g < wr.heap.size
  bel : Below w.heap.size w wr
  row : ∃ cur, wr.heap[g]? = some (.cells cur e (0, 0)) ∧ cur.size = n

theorem RW.made {w w0 : World} (h : Below w.heap.size w w0) (cs : Array Value) (e : TypeId) : RW e w (w0.alloc (.cells cs e)) w0.heap.size cs.size [] := by
  refine ⟨fun i hi => ?_, fun i x hx => by simp at hx, by simp, ⟨h.size, by simp⟩, h.alloc h.size _, cs, heap_alloc_new w0 _, rfl⟩
  have hn := heap_alloc_new w0 (.cells cs e)
  refine ⟨⟨cs[i], ?_⟩, frozen_of_row _ _ i _ _ hn⟩
  rw [cell_of_row _ _ i _ _ _ hn]; simp [hi]
theorem RW.call {e : TypeId} {w wr w1 : World} {g n : Nat} {xs : List Value} (h : RW e w wr g n xs) (hb : Below wr.heap.size wr w1) : RW e w w1 g n xs := by
  have hl := h.lt
  have hz := hb.size
  have hc : ∀ i, w1.cell? ⟨g, i, none⟩ = wr.cell? ⟨g, i, none⟩ := fun i => hb.cell (p := ⟨g, i, none⟩) hl.2
  have hf : ∀ i, w1.frozen? ⟨g, i, none⟩ = wr.frozen? ⟨g, i, none⟩ := fun i => World.frozen?_of_block (w := wr) (hb.block g hl.2)
  exact ⟨fun i hi => by rw [hc, hf]; exact h.own i hi, fun i x hx => by rw [hc]; exact h.got i x hx, h.len, ⟨hl.1, by omega⟩, h.bel.trans (hb.mono h.bel.size), by rw [hb.block g hl.2]; exact h.row⟩
theorem RW.set {e : TypeId} {w wr : World} {g n : Nat} {xs : List Value} (h : RW e w wr g n xs) (vs : List Value) (hl : xs.length + vs.length ≤ n) : RW e w (setN wr g xs.length vs) g n (xs ++ vs) := by
  have hlt := h.lt
  refine ⟨fun i hi => ⟨?_, by rw [setN_frozen]; exact (h.own i hi).2⟩, fun i x hx => ?_, by simp; omega, ⟨hlt.1, by rw [setN_size]; exact hlt.2⟩, setN_below hlt.1 _ _ _ _ h.bel, setN_row _ _ _ h.row⟩
  · by_cases hin : i < xs.length ∨ xs.length + vs.length ≤ i
    · rw [setN_out vs _ _ hin]; exact (h.own i hi).1
    · obtain ⟨k, rfl⟩ : ∃ k, i = xs.length + k := ⟨i - xs.length, by omega⟩
      have hk : k < vs.length := by omega
      exact ⟨vs[k], setN_in vs _ _ k _ (List.getElem?_eq_getElem hk) (h.own _ hi).1⟩
  · by_cases hin : i < xs.length
    · rw [List.getElem?_append_left hin] at hx
      rw [setN_out vs _ _ (.inl hin)]; exact h.got i x hx
    · obtain ⟨k, rfl⟩ : ∃ k, i = xs.length + k := ⟨i - xs.length, by omega⟩
      rw [List.getElem?_append_right (by omega), Nat.add_sub_cancel_left] at hx
      have hk : k < vs.length := (List.getElem?_eq_some_iff.1 hx).1
      exact setN_in vs _ _ k x hx (h.own _ (by omega)).1

/-- what stands in the blocks since b but g is kept by a call and by writing into g -/
theorem own_kept {b g o : Nat} {wr w1 : World} (hb : Below wr.heap.size wr w1) (vs : List Value) : Same (Own b wr g) wr (setN w1 g o vs) := fun k hk => by
  rw [setN_other hk.2.2]; exact hb.block k hk.2.1
theorem fr_kept {g o : Nat} {wr w1 : World} (hg : g < wr.heap.size) (vs : List Value) : Same (Fr wr w1) w1 (setN w1 g o vs) := fun k hk => by
  rw [setN_other (by have := hk.1; omega)]
theorem own_up {b g o : Nat} {wr w1 : World} (hb : Below wr.heap.size wr w1) (vs : List Value) : ∀ k, Own b wr g k → Own b (setN w1 g o vs) g k := fun k hk =>
  ⟨hk.1, by rw [setN_size]; exact Nat.lt_of_lt_of_le hk.2.1 hb.size, hk.2.2⟩
theorem fr_up {b g o : Nat} {wr w1 : World} (hg : b ≤ g ∧ g < wr.heap.size) (vs : List Value) : ∀ k, Fr wr w1 k → Own b (setN w1 g o vs) g k := fun k hk =>
  ⟨by have := hk.1; omega, by rw [setN_size]; exact hk.2, by have := hk.1; omega⟩

theorem VPre.step {b g o : Nat} {wr w1 : World} {L : TmL} {xs : List Value} {t : Tm} {l : TmL} {x : Value} (h : VPre wr (Own b wr g) L xs (.cons t l)) (hb : Below wr.heap.size wr w1) (hx : t.V w1 (Fr wr w1) x) (hg : b ≤ g ∧ g < wr.heap.size) (vs : List Value) :
    VPre (setN w1 g o vs) (Own b (setN w1 g o vs) g) L (xs ++ [x]) l :=
  VPre.snoc L xs t l x (VPre.same (own_kept hb vs) (own_up hb vs) L xs _ h) (t.V_same (fr_kept hg.2 vs) (fr_up hg vs) x hx)
theorem FPre.step {b g o : Nat} {wr w1 : World} {L : TmF} {xs : List Value} {n : ByteArray} {t : Tm} {l : TmF} {x : Value} (h : FPre wr (Own b wr g) L xs (.cons n t l)) (hn : n.size ≤ maxLen) (hb : Below wr.heap.size wr w1) (hx : t.V w1 (Fr wr w1) x) (hg : b ≤ g ∧ g < wr.heap.size) (vs : List Value) :
    FPre (setN w1 g o vs) (Own b (setN w1 g o vs) g) L (xs ++ [.string n, x]) l :=
  FPre.snoc L xs n t l x (FPre.same (own_kept hb vs) (own_up hb vs) L xs _ h) hn (t.V_same (fr_kept hg.2 vs) (fr_up hg vs) x hx)
theorem VPre.fin {w wr : World} {g : Nat} {L : TmL} {xs : List Value} (h : VPre wr (Own w.heap.size wr g) L xs .nil) (r : RW 20 w wr g L.len xs) (hm : L.len ≤ maxLen) : L.LV wr (Fr w wr) (some ⟨g, 0, none⟩) L.len :=
  ⟨Ln.row (by simpa using r.row) hm r.lt, VPre.done (fun k hk => ⟨hk.1, hk.2.1⟩) g r.lt L xs 0 h (fun i x hx => by rw [Nat.zero_add]; exact r.got i x hx)⟩
theorem FPre.fin {w wr : World} {g : Nat} {L : TmF} {xs : List Value} (h : FPre wr (Own w.heap.size wr g) L xs .nil) (r : RW 112 w wr g (L.len * 2) xs) (hm : L.len ≤ maxLen) : L.LV wr (Fr w wr) (some ⟨g, 0, none⟩) L.len :=
  ⟨Ln.row r.row hm r.lt, FPre.done (fun k hk => ⟨hk.1, hk.2.1⟩) g r.lt L xs 0 h (fun i x hx => by rw [Nat.zero_mul, Nat.zero_add]; exact r.got i x hx)⟩

/-- terms and entries, behind each other in a row -/
theorem TPre.same {w w' : World} {S S' : Nat → Prop} (hs : Same S w w') (hS : ∀ k, S k → S' k) : (L : TmL) → ∀ xs l, TPre w S L xs l → TPre w' S' L xs l
  | L, [], l, h => (TPre_nil _ _).2 ((TPre_nil _ _).1 h)
  | .nil, _ :: _, _, h => by simp [TPre] at h
  | .cons t L, cs :: xs, l, h => by
    simp only [TPre] at h ⊢
    exact ⟨t.In_same hs hS cs h.1, h.2.1, TPre.same hs hS L xs l h.2.2⟩
theorem TPre.step {b g o : Nat} {wr w1 : World} {L : TmL} {xs : List (Array Value)} {t : Tm} {l : TmL} {cs : Array Value} (h : TPre wr (Own b wr g) L xs (.cons t l)) (hb : Below wr.heap.size wr w1) (hx : t.In w1 (Fr wr w1) cs) (hz : cs.size = 11) (hg : b ≤ g ∧ g < wr.heap.size) (vs : List Value) :
    TPre (setN w1 g o vs) (Own b (setN w1 g o vs) g) L (xs ++ [cs]) l :=
  TPre.snoc L xs t l cs (TPre.same (own_kept hb vs) (own_up hb vs) L xs _ h) (t.In_same (fr_kept hg.2 vs) (fr_up hg vs) cs hx) hz
theorem TPre.fin {e : TypeId} {w wr : World} {g n : Nat} {L : TmL} {xs : List (Array Value)} (h : TPre wr (Own w.heap.size wr g) L xs .nil) (r : RW e w wr g n (xs.flatMap (·.toList))) : L.In wr (Fr w wr) (some ⟨g, 0, none⟩) 0 :=
  TPre.done (Same.refl _ _) (fun k hk => ⟨hk.1, hk.2.1⟩) g r.lt L xs 0 h (fun i x hx => by rw [Nat.zero_mul, Nat.zero_add]; exact r.got i x hx)

def EPre (w : World) (B : Nat → Prop) : TmF → List (ByteArray × Array Value) → TmF → Prop
  | L, [], l => L = l
  | .cons n t L, cs :: r, l => cs.1 = n ∧ n.size ≤ 140737488355328 ∧ t.In w B cs.2 ∧ cs.2.size = 11 ∧ EPre w B L r l
  | .nil, _ :: _, _ => False
def ecells (l : List (ByteArray × Array Value)) : List Value := l.flatMap fun x => .string x.1 :: x.2.toList
theorem EPre_nil {w : World} {B : Nat → Prop} (L l : TmF) : EPre w B L [] l ↔ L = l := by cases L <;> rfl
theorem EPre.snoc {w : World} {B : Nat → Prop} : (L : TmF) → ∀ xs n t l cs, EPre w B L xs (.cons n t l) → n.size ≤ 140737488355328 → t.In w B cs → cs.size = 11 → EPre w B L (xs ++ [(n, cs)]) l
  | L, [], n, t, l, cs, h, hn, hx, hz => by
    obtain rfl := (EPre_nil _ _).1 h
    simp only [List.nil_append, EPre]
    exact ⟨trivial, hn, hx, hz, trivial⟩
  | .nil, y :: ys, n, t, l, x, h, hn, hx, hz => by simp [EPre] at h
  | .cons m u L, y :: ys, n, t, l, x, h, hn, hx, hz => by
    simp only [List.cons_append, EPre] at h ⊢
    exact ⟨h.1, h.2.1, h.2.2.1, h.2.2.2.1, EPre.snoc L ys n t l x h.2.2.2.2 hn hx hz⟩
theorem EPre.same {w w' : World} {S S' : Nat → Prop} (hs : Same S w w') (hS : ∀ k, S k → S' k) : (L : TmF) → ∀ xs l, EPre w S L xs l → EPre w' S' L xs l
  | L, [], l, h => (EPre_nil _ _).2 ((EPre_nil _ _).1 h)
  | .nil, _ :: _, _, h => by simp [EPre] at h
  | .cons n t L, cs :: xs, l, h => by
    simp only [EPre] at h ⊢
    exact ⟨h.1, h.2.1, t.In_same hs hS _ h.2.2.1, h.2.2.2.1, EPre.same hs hS L xs l h.2.2.2.2⟩
theorem EPre.done {w : World} {B B' : Nat → Prop} (hB : ∀ k, B k → B' k) (g : Nat) (hg : B' g) : (L : TmF) → ∀ (xs : List (ByteArray × Array Value)) (j : Nat), EPre w B L xs .nil → (∀ i x, (ecells xs)[i]? = some x → w.cell? ⟨g, j * 12 + i, none⟩ = some x) → L.In w B' (some ⟨g, 0, none⟩) j
  | .nil, _, _, _, _ => by simp [TmF.In]
  | .cons n t L, [], j, h, _ => by simp [EPre] at h
  | .cons n t L, cs :: xs, j, h, hc => by
    simp only [EPre, TmF.In] at h ⊢
    obtain ⟨h0, h1, h2, h3, h4⟩ := h
    refine ⟨g, 0, cs.2, rfl, hg, ?_, h1, ?_, t.In_same (Same.refl _ _) hB cs.2 h2, EPre.done hB g hg L xs (j + 1) h4 ?_⟩
    · have := hc 0 (.string cs.1) (by simp [ecells])
      rw [h0] at this; simpa using this
    · intro x hx
      have hx' : x < cs.2.size := by omega
      rw [Array.getElem?_eq_getElem hx']
      have := hc (x + 1) cs.2[x] (by simp only [ecells, List.flatMap_cons]; rw [List.getElem?_append_left (by simp; omega)]; simp)
      rw [show 0 + j * 12 + 1 + x = j * 12 + (x + 1) by omega]; exact this
    · intro i x hi
      have := hc (i + 12) x (by simp only [ecells, List.flatMap_cons]; rw [List.getElem?_append_right (by simp; omega)]; simpa [h3, ecells] using hi)
      rw [show (j + 1) * 12 + i = j * 12 + (i + 12) by omega]; exact this
theorem EPre.step {b g o : Nat} {wr w1 : World} {L : TmF} {xs : List (ByteArray × Array Value)} {n : ByteArray} {t : Tm} {l : TmF} {cs : Array Value} (h : EPre wr (Own b wr g) L xs (.cons n t l)) (hn : n.size ≤ 140737488355328) (hb : Below wr.heap.size wr w1) (hx : t.In w1 (Fr wr w1) cs) (hz : cs.size = 11) (hg : b ≤ g ∧ g < wr.heap.size) (vs : List Value) :
    EPre (setN w1 g o vs) (Own b (setN w1 g o vs) g) L (xs ++ [(n, cs)]) l :=
  EPre.snoc L xs n t l cs (EPre.same (own_kept hb vs) (own_up hb vs) L xs _ h) hn (t.In_same (fr_kept hg.2 vs) (fr_up hg vs) cs hx) hz
theorem EPre.fin {e : TypeId} {w wr : World} {g n : Nat} {L : TmF} {xs : List (ByteArray × Array Value)} (h : EPre wr (Own w.heap.size wr g) L xs .nil) (r : RW e w wr g n (ecells xs)) : L.In wr (Fr w wr) (some ⟨g, 0, none⟩) 0 :=
  EPre.done (fun k hk => ⟨hk.1, hk.2.1⟩) g r.lt L xs 0 h (fun i x hx => by rw [Nat.zero_mul, Nat.zero_add]; exact r.got i x hx)

/-- a block all of whose cells can be written -/
def Soft (w : World) (k : Nat) : Prop := ∀ j, w.frozen? ⟨k, j, none⟩ = false
/-- the blocks that are new in w' and can be written -/
def FrS (w w' : World) : Nat → Prop := fun k => w.heap.size ≤ k ∧ k < w'.heap.size ∧ Soft w' k
def OwnS (b : Nat) (w' : World) (g : Nat) : Nat → Prop := fun k => b ≤ k ∧ k < w'.heap.size ∧ k ≠ g ∧ Soft w' k
theorem Soft.same {w w' : World} {k : Nat} (h : Soft w k) (e : w'.heap[k]? = w.heap[k]?) : Soft w' k := fun j => by rw [World.frozen?_of_block (w := w) e]; exact h j
theorem Soft.row {w : World} {k : Nat} {cur : Array Value} {e : TypeId} (h : w.heap[k]? = some (.cells cur e (0, 0))) : Soft w k := fun j => frozen_of_row _ _ j _ _ h
theorem RW.soft {e : TypeId} {w wr : World} {g n : Nat} {xs : List Value} (h : RW e w wr g n xs) : Soft wr g := by obtain ⟨cur, h1, _⟩ := h.row; exact Soft.row h1
theorem FrS.fr {w w' : World} : ∀ k, FrS w w' k → Fr w w' k := fun _ hk => ⟨hk.1, hk.2.1⟩
theorem own_keptS {b g o : Nat} {wr w1 : World} (hb : Below wr.heap.size wr w1) (vs : List Value) : Same (OwnS b wr g) wr (setN w1 g o vs) := fun k hk => own_kept (b := b) hb vs k ⟨hk.1, hk.2.1, hk.2.2.1⟩
theorem fr_keptS {g o : Nat} {wr w1 : World} (hg : g < wr.heap.size) (vs : List Value) : Same (FrS wr w1) w1 (setN w1 g o vs) := fun k hk => fr_kept hg vs k ⟨hk.1, hk.2.1⟩
theorem own_upS {b g o : Nat} {wr w1 : World} (hb : Below wr.heap.size wr w1) (vs : List Value) : ∀ k, OwnS b wr g k → OwnS b (setN w1 g o vs) g k := fun k hk =>
  ⟨hk.1, by rw [setN_size]; exact Nat.lt_of_lt_of_le hk.2.1 hb.size, hk.2.2.1, hk.2.2.2.same (own_keptS hb vs k hk)⟩
theorem fr_upS {b g o : Nat} {wr w1 : World} (hg : b ≤ g ∧ g < wr.heap.size) (vs : List Value) : ∀ k, FrS wr w1 k → OwnS b (setN w1 g o vs) g k := fun k hk =>
  ⟨by have := hk.1; omega, by rw [setN_size]; exact hk.2.1, by have := hk.1; omega, hk.2.2.same (fr_keptS hg.2 vs k hk)⟩
theorem TPre.stepS {b g o : Nat} {wr w1 : World} {L : TmL} {xs : List (Array Value)} {t : Tm} {l : TmL} {cs : Array Value} (h : TPre wr (OwnS b wr g) L xs (.cons t l)) (hb : Below wr.heap.size wr w1) (hx : t.In w1 (FrS wr w1) cs) (hz : cs.size = 11) (hg : b ≤ g ∧ g < wr.heap.size) (vs : List Value) :
    TPre (setN w1 g o vs) (OwnS b (setN w1 g o vs) g) L (xs ++ [cs]) l :=
  TPre.snoc L xs t l cs (TPre.same (own_keptS hb vs) (own_upS hb vs) L xs _ h) (t.In_same (fr_keptS hg.2 vs) (fr_upS hg vs) cs hx) hz
theorem EPre.stepS {b g o : Nat} {wr w1 : World} {L : TmF} {xs : List (ByteArray × Array Value)} {n : ByteArray} {t : Tm} {l : TmF} {cs : Array Value} (h : EPre wr (OwnS b wr g) L xs (.cons n t l)) (hn : n.size ≤ 140737488355328) (hb : Below wr.heap.size wr w1) (hx : t.In w1 (FrS wr w1) cs) (hz : cs.size = 11) (hg : b ≤ g ∧ g < wr.heap.size) (vs : List Value) :
    EPre (setN w1 g o vs) (OwnS b (setN w1 g o vs) g) L (xs ++ [(n, cs)]) l :=
  EPre.snoc L xs n t l cs (EPre.same (own_keptS hb vs) (own_upS hb vs) L xs _ h) hn (t.In_same (fr_keptS hg.2 vs) (fr_upS hg vs) cs hx) hz
theorem EPre.finS {e : TypeId} {w wr : World} {g n : Nat} {L : TmF} {xs : List (ByteArray × Array Value)} (h : EPre wr (OwnS w.heap.size wr g) L xs .nil) (r : RW e w wr g n (ecells xs)) : L.In wr (FrS w wr) (some ⟨g, 0, none⟩) 0 :=
  EPre.done (fun k hk => ⟨hk.1, hk.2.1, hk.2.2.2⟩) g ⟨r.lt.1, r.lt.2, r.soft⟩ L xs 0 h (fun i x hx => by rw [Nat.zero_mul, Nat.zero_add]; exact r.got i x hx)
theorem BytesLV.soft {w : World} {B : Nat → Prop} {a : Option Addr} {l : ByteArray} {cap : Nat} (h : BytesLV w B a l cap) : BytesAt w (fun k => B k ∧ Soft w k) a l := fun j hj => by
  obtain ⟨g, o, rfl, hg, hc⟩ := h.2 j hj
  refine ⟨g, o, rfl, ⟨hg, ?_⟩, hc⟩
  obtain ⟨_, ⟨xs, _, h3⟩, _⟩ := h.1
  rcases h3 with ⟨h3, _⟩ | ⟨g', c, cur, e1, _, e2, _⟩
  · simp at h3
  · simp only [Value.slice.injEq, Option.some.injEq, Addr.mk.injEq, and_true, true_and] at e1
    obtain ⟨⟨rfl, rfl⟩, rfl⟩ := e1
    exact Soft.row e2
end Go.Proofs.Ytkomcebknllaiaa

/- strings.Clone and bytes.Clone: the same bytes, in new memory. -/
namespace Go.Proofs.Ytkomcebknllaiaa
open Go.RowKit

set_option maxRecDepth 100000 in
set_option maxHeartbeats 4000000 in
theorem lite_any (s : ByteArray) (w : World) (hs : s.size ≤ 140737488355328) :
    Calls Try.prog 112 #[.string s] w fun e w' => e = .returned (.string s) ∧ Below w.heap.size w w' := by
  by_cases h0 : s.size = 0
  · obtain rfl := ba_empty h0
    go_enter Try.func112, Try.ntmps112
    go_wp2
    go_ret
    exact ⟨rfl, Below.refl _ _⟩
  · obtain ⟨i0, hi, hz0, hz1, hz2⟩ := info_parts Try.infoB
    have hcell : Try.prog.cellsOf 5 = 1 := by kernel_rfl
    have hone : (Try.prog.info? 5).map (·.size) = some 1 := by kernel_rfl
    obtain ⟨M, hM⟩ : ∃ M, M = madeCells (Value.int .u8 0).cells (((s.size : Nat) : Int).toNat * i0.size) := ⟨_, rfl⟩
    have hMs : M.size = s.size := by rw [hM, size_madeCells, hz1]; simp
    have hmake : ∀ W : World, (Instr.makeSlice 23 (.int .i64 (s.size : Int)) (.int .i64 (s.size : Int))).run Try.prog W = .ok (.slice (some ⟨W.heap.size, 0, none⟩) s.size s.size) (W.alloc (.cells M 5)) := fun W => by
      have h := run_make (P := Try.prog) W 23 5 i0 (.int .u8 0) Try.undB hi hz0 .i64 .i64 (s.size : Int) (s.size : Int) (by omega) (by omega) (by rw [hz2]; omega) (by omega)
      rw [← hM] at h; simpa using h
    clear hM
    have hcopy := Lib.run_copy_row_string (P := Try.prog) (w.alloc (.cells M 5)) 23 9 3 5 w.heap.size 0 s.size s.size s M 5 Try.undB hone (heap_alloc_new w _) (Nat.le_refl _) (by omega)
    obtain ⟨Y, hY⟩ : ∃ Y, Y = (M.toList.take 0 ++ Lib.byteCells s.data.toList ++ M.toList.drop (0 + s.size)).toArray := ⟨_, rfl⟩
    rw [← hY] at hcopy
    have hYl : Y.toList = Lib.byteCells s.data.toList := by
      rw [hY, List.toList_toArray, List.take_zero, List.nil_append, List.drop_of_length_le (by rw [Array.length_toList]; omega), List.append_nil]
    have hrow : ((w.alloc (.cells M 5)).setRow w.heap.size Y).heap[w.heap.size]? = some (.cells Y 5 (0, 0)) := setRow_heap _ _ M _ 5 (0, 0) (heap_alloc_new w _)
    have hne : s.data.toList ≠ [] := fun e => h0 (by rw [Lib.size_eq, e]; rfl)
    have hstr := Lib.run_unsafeString_row (P := Try.prog) ((w.alloc (.cells M 5)).setRow w.heap.size Y) 178 3 9 5 (by kernel_rfl) hcell w.heap.size Y.size (by unfold World.shape?; rw [hrow]) s.data.toList hne (by rw [← Array.length_toList, hYl, Lib.byteCells_length]; exact Nat.le_refl _) (by rw [← Lib.size_eq]; omega)
      (fun j x hx => Lib.cells_of_row hrow Y.size j _ (by rw [List.take_of_length_le (by rw [Array.length_toList]; exact Nat.le_refl _), hYl]; simp [Lib.byteCells, hx]))
    rw [← Lib.size_eq] at hstr
    clear hY
    go_enter Try.func112, Try.ntmps112
    go_wp2
    go_ret
    have hb1 : Below w.heap.size w (w.alloc (.cells M 5)) := (Below.refl _ w).alloc (Nat.le_refl _) _
    have hb2 : Below w.heap.size (w.alloc (.cells M 5)) ((w.alloc (.cells M 5)).setRow w.heap.size Y) := ⟨rfl, rfl, rfl, by simp, fun k hk => setRow_other _ _ _ _ (by omega)⟩
    exact ⟨rfl, Lib.below_freeze (hb1.trans hb2) (p := ⟨w.heap.size, 0, none⟩) (Nat.le_refl _) _⟩

set_option maxRecDepth 100000 in
set_option maxHeartbeats 400000 in
theorem sClone_any (s : ByteArray) (w : World) (hs : s.size ≤ 140737488355328) :
    Calls Try.prog 61 #[.string s] w fun e w' => e = .returned (.string s) ∧ Below w.heap.size w w' := by
  go_enter Try.func61, Try.ntmps61
  go_wp2_with (go_at_call 112; refine (lite_any s _ hs).mono ?_; rintro e w1 ⟨rfl, hb1⟩)
  go_ret
  exact ⟨rfl, hb1⟩

theorem nil_run (c : Nat) (W : World) : Sem.run Try.prog (binOp BinOp.eql 23 (Value.slice none 0 c) (Value.slice none 0 0)) W = .ok (.bool true) W := by kernel_rfl
theorem some_run (p : Addr) (n c : Nat) (W : World) : Sem.run Try.prog (binOp BinOp.eql 23 (Value.slice (some p) n c) (Value.slice none 0 0)) W = .ok (.bool false) W := by kernel_rfl

set_option maxRecDepth 100000 in
set_option maxHeartbeats 1000000 in
theorem bClone_any (L : ByteArray) (ab : Option Addr) (cb : Nat) (B : Nat → Prop) (w : World) (hB : Sub B w) (hl : BytesAt w B ab L) (hlen : L.size ≤ 140737488355328) :
    Calls Try.prog 62 #[.slice ab L.size cb] w fun e w' => ∃ a cap, e = .returned (.slice a L.size cap) ∧ Below w.heap.size w w' ∧ BytesLV w' (Fr w w') a L cap := by
  obtain ⟨i0, hi, hz0, hz1, hz2⟩ := info_parts Try.infoB
  by_cases h0 : L.size = 0
  · have hl' : Hid (∀ W S a, BytesAt W S a L) := fun W S a j hj => by omega
    unfold BytesLV
    rw [h0]
    clear h0 hl hlen
    cases ab with
    | none =>
      go_enter Try.func62, Try.ntmps62
      have hnil := nil_run cb
      go_wp2_with fail
      go_ret
      exact ⟨_, _, rfl, Below.refl _ _, Ln.of (base := 0) (xs := []) ⟨rfl, .inl ⟨rfl, rfl⟩⟩ (fun g o p e => by simp at e), hl'.out _ _ _⟩
    | some p =>
      have hnil := some_run p 0 cb
      go_enter Try.func62, Try.ntmps62
      go_wp2_with (at_builtin; refine wpList_ran _ rfl _ _ 23 rfl _ _ _ _ rfl rfl (app_zero _ _ _ _ _) ?_)
      go_ret
      exact ⟨_, _, rfl, (Below.refl _ _).alloc (Nat.le_refl _) _, Ln.of (base := 0) (xs := []) ⟨rfl, .inr ⟨w.heap.size, 0, #[], rfl, Nat.zero_le _, heap_alloc_new w (.cells #[] 5), Nat.le_refl _, by simp [maxLen], rfl, rfl⟩⟩ (fun g o p e => by injection e with e; injection e with e; subst e; exact ⟨by omega, by simp⟩), hl'.out _ _ _⟩
  · obtain ⟨g, o, rfl, hg, _⟩ := hl 0 (by omega)
    have hg := hB _ hg
    have h0 : 0 < L.size := by omega
    have hc' : Hid (∀ W, Below w.heap.size w W → ∀ j u, (bcells L)[j]? = some u → W.cell? ((⟨g, o, none⟩ : Addr).add j) = some u) := fun W hW j u hj => by
      obtain ⟨hj', rfl⟩ := bcells_at L j u hj
      obtain ⟨g', o', e, _, hc⟩ := hl j hj'
      simp only [Option.some.injEq, Addr.mk.injEq, and_true] at e
      obtain ⟨rfl, rfl⟩ := e
      rw [addr_add, hW.cell (p := ⟨g, o + j, none⟩) (by show g < _; omega)]; exact hc
    clear hl
    have hnil := some_run ⟨g, o, none⟩ L.size cb
    go_enter Try.func62, Try.ntmps62
    go_wp2_with (at_builtin; refine wpList_app _ rfl _ _ 23 rfl w.heap.size 5 i0 (.int .u8 0) 1 1 Try.undB hi hz0 hz1 hz2 rfl (by decide) _ 0 [] rfl ⟨rfl, .inr ⟨w.heap.size, 0, #[], rfl, Nat.le_refl _, heap_alloc_new w (.cells #[] 5), Nat.le_refl _, by simp [maxLen], rfl, rfl⟩⟩ ⟨g, o, none⟩ L.size cb (bcells L) rfl (by simp [bcells]) (hc'.out _ ((Below.refl _ _).alloc (Nat.le_refl _) _)) (bcells_one L) h0 (by unfold maxLen; omega) (by omega) (by simp) ?_; intro g' cap' w3 hown' hgrow hor)
    go_wp2_with fail
    go_ret
    have hlt := hown'.lt g' rfl
    have hbw : Below w.heap.size w w3 := ((Below.refl _ _).alloc (Nat.le_refl _) _).grown hgrow (by simp) (fun k e => by have e' : some w.heap.size = some k := e; injection e' with e'; omega)
    refine ⟨some ⟨g', 0, none⟩, cap', by simp, hbw, Ln.of (by simpa using hown') (fun g o p e => by injection e with e; injection e with e; subst e; exact ⟨by omega, hlt.2⟩), ?_⟩
    intro j hj
    refine ⟨g', 0, rfl, ⟨by omega, hlt.2⟩, ?_⟩
    have hc2 := hown'.cells (g := g') rfl j (.int .u8 (Sp.byte L j)) (by simp [bcells, hj])
    rw [addr_add] at hc2; exact hc2
end Go.Proofs.Ytkomcebknllaiaa

/- value.valueOf and value.dictOf: the value of a term that can be, in new memory. -/
namespace Go.Proofs.Ytkomcebknllaiaa
open Go.RowKit

@[go_sem] theorem run_store_fl (P : Program) (w : World) (a : Addr) (m : Mode) (k : FloatKind) (n : Nat) : (store a (.float k n) m).run P w = stored P w a (.float k n) m := run_store P w a _ m rfl

theorem Tm.Ok.bounds {k : Int} {b : Bool} {i : Int} {f : Nat} {tx : ByteArray} {by' : ByteArray} {rf : Int} {l : TmL} {fs : TmF} {c : ByteArray} {v : Int} (h : Tm.Ok (.mk k b i f tx by' rf l fs c v)) :
    (k = 5 → tx.size ≤ 65536) ∧ (k = 6 → by'.size ≤ 65536) ∧ (k = 8 → l.len ≤ 4096) ∧ (k = 9 ∨ k = 10 → Sp.fieldsR fs.names = 0) ∧ (k = 10 → Sp.headR c v = 0) := by
  obtain ⟨n, p, d, h⟩ := h
  have ho : (Tm.mk k b i f tx by' rf l fs c v).own p n = 0 := by
    by_cases e : (Tm.mk k b i f tx by' rf l fs c v).own p n ≠ 0
    · rw [Tm.wk, if_pos e] at h; exact absurd h e
    · exact Decidable.not_not.1 e
  have he : Sp.ent k p n = 0 := Tm.own_ent _ _ _ ho
  simp only [Tm.own, he, ne_eq, not_true_eq_false, if_false] at ho
  refine ⟨fun e => ?_, fun e => ?_, fun e => ?_, fun e => ?_, fun e => ?_⟩
  · subst e; simp [Sp.len] at ho; omega
  · subst e; simp [Sp.len] at ho; omega
  · subst e; simp [Sp.len] at ho; omega
  · rcases e with rfl | rfl
    · simpa using ho
    · by_cases hh : Sp.headR c v = 0
      · simpa [hh] using ho
      · simp [hh] at ho
  · subst e
    by_cases hh : Sp.headR c v = 0
    · exact hh
    · simp [hh] at ho
theorem named_len : ∀ (l : List ByteArray) (a : ByteArray), Sp.named a l = true → ∀ n ∈ l, n.size ≤ 32
  | [], _, _, n, hn => by simp at hn
  | m :: l, a, h, n, hn => by
    simp only [Sp.named, Bool.and_eq_true] at h
    simp only [List.mem_cons] at hn
    rcases hn with rfl | hn
    · have := h.1.1; simp [Sp.isNm] at this; omega
    · exact named_len l m h.2 n hn
/-- names are short -/
def TmF.Nm (l : TmF) : Prop := ∀ n ∈ l.names, n.size ≤ 32
theorem TmF.nm {l : TmF} (h : Sp.fieldsR l.names = 0) : l.len ≤ 4096 ∧ l.Nm := by
  unfold Sp.fieldsR at h
  split at h
  · omega
  · rename_i h1
    rw [TmF.names_len] at h1
    split at h
    · rename_i h2; exact ⟨by omega, named_len _ _ h2⟩
    · omega
theorem TmF.Nm.head {n : ByteArray} {t : Tm} {l : TmF} (h : TmF.Nm (.cons n t l)) : n.size ≤ 32 ∧ l.Nm := ⟨h n (by simp [TmF.names]), fun m hm => h m (by simp [TmF.names, hm])⟩
theorem head_len {c : ByteArray} {v : Int} (h : Sp.headR c v = 0) : c.size ≤ 32 := by
  unfold Sp.headR at h
  split at h
  · omega
  · rename_i h1
    have : Sp.isNm c = true := by simpa using h1
    simp [Sp.isNm] at this; omega

def VOfC (N : Nat) : Prop := ∀ (t : Tm), t.sz ≤ N → ∀ (cs : Array Value) (B : Nat → Prop) (w : World), t.In w B cs → Sub B w → t.Ok →
  Calls Try.prog 37 #[.agg cs] w fun e w' => ∃ v, e = .returned v ∧ Below w.heap.size w w' ∧ t.V w' (Fr w w') v
theorem VOfC.at {N : Nat} (HC : VOfC N) {t : Tm} (hN : t.sz ≤ N) {cs : Array Value} {B : Nat → Prop} {w : World} (h : t.In w B cs) (hB : Sub B w) (ho : t.Ok) :
    ∀ W, Below w.heap.size w W → Calls Try.prog 37 #[.agg cs] W fun e w' => ∃ v, e = .returned v ∧ Below W.heap.size W w' ∧ t.V w' (Fr W w') v ∧ (v = .nilIface ∨ ∃ T x, v = .iface T x) := by
  intro W hW
  refine (HC t hN cs B W (t.In_same (hB.same hW) (fun _ h => h) cs h) (hB.later hW) ho).mono ?_
  rintro e w' ⟨v, rfl, hb, hv⟩
  exact ⟨v, rfl, hb, hv, t.V_shape v hv⟩

theorem Tm.In_tc' {w : World} {B : Nat → Prop} {t : Tm} {cs : Array Value} (h : t.In w B cs) : ∃ k b i f tx ab nb cb rf al nl cl af nf cf c vr, cs = tcells k b i f tx (.slice ab nb cb) rf (.slice al nl cl) (.slice af nf cf) c vr := by
  cases t; simp only [Tm.In] at h; obtain ⟨_, _, _, _, _, _, rfl, _⟩ := h; exact ⟨_, _, _, _, _, _, _, _, _, _, _, _, _, _, _, _, _, rfl⟩

set_option maxRecDepth 100000 in
set_option maxHeartbeats 2000000 in
theorem vof_8 (N : Nat) (HC : VOfC N) (b : Bool) (i : Int) (f : Nat) (tx : ByteArray) (vb : Value) (rf : Int) (al : Option Addr) (L : TmL) (cl : Nat) (vf : Value) (c : ByteArray) (vr : Int) (w : World) (hN : L.sz ≤ N) (B : Nat → Prop) (hB : Sub B w) (hL : L.In w B al 0) (hlen : L.len ≤ 4096) (ho : L.Ok) :
    Calls Try.prog 37 #[.agg (tcells 8 b i f tx vb rf (.slice al L.len cl) vf c vr)] w fun e w' => ∃ a cap, e = .returned (.iface 71 (.slice a L.len cap)) ∧ Below w.heap.size w w' ∧ L.LV w' (Fr w w') a cap := by
  unfold tcells
  obtain ⟨i0, hi, hz0, hz1, hz2⟩ := info_parts Try.infoI
  have HCH : Hid (VOfC N) := HC
  clear HC
  obtain ⟨M, hM⟩ : ∃ M, M = madeCells (Value.nilIface).cells (((L.len : Nat) : Int).toNat * i0.size) := ⟨_, rfl⟩
  have hMs : M.size = L.len := by rw [hM, size_madeCells, hz1]; simp
  have hmake : ∀ W : World, (Instr.makeSlice 71 (.int .i64 (L.len : Int)) (.int .i64 (L.len : Int))).run Try.prog W = .ok (.slice (some ⟨W.heap.size, 0, none⟩) L.len L.len) (W.alloc (.cells M 20)) := fun W => by
    have h := run_make (P := Try.prog) W 71 20 i0 .nilIface Try.undL hi hz0 .i64 .i64 (L.len : Int) (L.len : Int) (by omega) (by omega) (by rw [hz2]; omega) (by omega)
    rw [← hM] at h; simpa using h
  clear hM hi hz0 hz1 hz2
  have H0 : Hid (∀ o, RW 20 w ((w.alloc o).alloc (.cells M 20)) (w.heap.size + 1) L.len [] ∧ VPre ((w.alloc o).alloc (.cells M 20)) (Own w.heap.size ((w.alloc o).alloc (.cells M 20)) (w.heap.size + 1)) L [] L ∧ L.In w B al 0 ∧ L.Ok) := fun o => by
    have h := RW.made (w := w) (w0 := w.alloc o) ((Below.refl _ _).alloc (Nat.le_refl _) _) M 20
    rw [hMs] at h
    exact ⟨by simpa using h, (VPre_nil _ _).2 rfl, hL, ho⟩
  clear hL ho
  go_enter Try.func37, Try.ntmps37
  go_wp2_with fail
  go_loopw [49] (fun x wr => ∃ (k : Nat) (l : TmL) (xs : List Value), x = .int .i64 k ∧ l.len + k = L.len ∧ l.sz ≤ N ∧ xs.length = k ∧ Hid (RW 20 w wr (w.heap.size + 1) L.len xs ∧ VPre wr (Own w.heap.size wr (w.heap.size + 1)) L xs l ∧ l.In w B al k ∧ l.Ok)) (fun x _ => L.len - (intOf x).toNat)
  case atStart => exact ⟨0, L, [], rfl, rfl, hN, rfl, H0.out _⟩
  case round =>
    obtain ⟨k, l, xs, rfl, hl, hlN, hxs, HR⟩ := hrel
    cases l with
    | nil =>
      have h1 : L.len ≤ k := by simp [TmL.len] at hl; omega
      clear hl
      go_wp2_with fail
      go_ret
      exact ⟨_, _, rfl, HR.out.1.bel, HR.out.2.1.fin HR.out.1 (by unfold maxLen; omega)⟩
    | cons t l =>
      obtain ⟨hrw, hpre, hsrc, hok⟩ := HR.out
      simp only [TmL.In] at hsrc
      obtain ⟨g1, o1, cs, rfl, hg1, hc, ht, hl'⟩ := hsrc
      have hk1 : k < L.len := by simp only [TmL.len] at hl; omega
      have HL : Hid (l.len + (k + 1) = L.len) := by show _ = _; simp only [TmL.len] at hl; omega
      have htN : t.sz ≤ N ∧ l.sz ≤ N := by simp [TmL.sz] at hlN; omega
      have hs : Same B w wr := hB.same hrw.bel
      have HO := HCH.out.at htN.1 (t.In_same hs (fun _ h => h) cs ht) (hB.later hrw.bel) hok.head.1
      have HO : Hid _ := HO
      obtain ⟨k1, b1, i1, f1, tx1, ab1, nb1, cb1, rf1, al1, nl1, cl1, af1, nf1, cf1, cc1, vr1, rfl⟩ := Tm.In_tc' ht
      obtain ⟨e0, e1, e2, e3, e4, e5, e6, e7, e8, e9, e10⟩ := eleven (w := wr) (g := g1) (o := o1 + k * 11) (fun x hx => by rw [hs.cell (p := ⟨g1, o1 + k * 11 + x, none⟩) hg1]; exact hc x hx)
      have HN : Hid (l.In w B (some ⟨g1, o1, none⟩) (k + 1) ∧ l.Ok) := ⟨hl', hok.head.2⟩
      unfold tcells at HO
      clear hl hlN hc ht hl' hok hs hrw hpre
      have HS : Hid (∀ w1, Below wr.heap.size wr w1 → (∃ u, w1.cell? ⟨w.heap.size + 1, k, none⟩ = some u) ∧ w1.frozen? ⟨w.heap.size + 1, k, none⟩ = false) := fun w1 h => (HR.out.1.call h).own k hk1
      have hi0 : (0 : Int) ≤ (k : Int) := Int.natCast_nonneg _
      have hi1 : (k : Int) < (L.len : Int) := by omega
      go_wp2_with fail
      refine (HO.out _ ((Below.refl _ _).alloc (Nat.le_refl _) _)).mono ?_
      rintro e w1 ⟨v, rfl, hb1, hv, hsh⟩
      have hb1' : Below wr.heap.size wr w1 := ((Below.refl _ _).alloc (Nat.le_refl _) _).trans (hb1.mono (by simp))
      obtain ⟨⟨u, hu⟩, hf⟩ := HS.out w1 hb1'
      have HV : Hid (t.V w1 (Fr wr w1) v) := t.V_same (Same.refl _ _) (fun k hk => ⟨by have := hk.1; simp at this; omega, hk.2⟩) v hv
      have HB1 : Hid (Below wr.heap.size wr w1) := hb1'
      have HNew : Hid (RW 20 w (w1.setCell ⟨w.heap.size + 1, k, none⟩ v) (w.heap.size + 1) L.len (xs ++ [v]) ∧ VPre (w1.setCell ⟨w.heap.size + 1, k, none⟩ v) (Own w.heap.size (w1.setCell ⟨w.heap.size + 1, k, none⟩ v) (w.heap.size + 1)) L (xs ++ [v]) l) := by
        have h1 := (HR.out.1.call HB1.out).set [v] (by simp; omega)
        rw [hxs] at h1
        exact ⟨h1, VPre.step (o := k) HR.out.2.1 HB1.out HV.out HR.out.1.lt [v]⟩
      clear hb1 hb1' hv
      rcases hsh with rfl | ⟨T, x, rfl⟩
      all_goals
        go_wp2_with fail
        go_roundw
        case rel => exact ⟨k + 1, l, _, by go_num, HL.out, htN.2, by simp [hxs], HNew.out.1, HNew.out.2, HN.out.1, HN.out.2⟩
        case measure => simp [intOf]; omega
end Go.Proofs.Ytkomcebknllaiaa

/- Numbers as bytes; wire.appendNumber. -/
namespace Go.Proofs.Ytkomcebknllaiaa
open Go.RowKit

namespace Sp
/-- a number's bytes, in their least form -/
def numB (n : Nat) : List Int := if n < 128 then [(n : Int)] else ((n % 128 + 128 : Nat) : Int) :: numB (n / 128)
termination_by n
decreasing_by omega
theorem numB_lt {n : Nat} (h : n < 128) : numB n = [(n : Int)] := by rw [numB, if_pos h]
theorem numB_ge {n : Nat} (h : ¬ n < 128) : numB n = ((n % 128 + 128 : Nat) : Int) :: numB (n / 128) := by rw [numB, if_neg h]
theorem numB_pos (n : Nat) : 0 < (numB n).length := by
  by_cases h : n < 128
  · rw [numB_lt h]; simp
  · rw [numB_ge h]; simp
end Sp
/-- bytes as cells -/
def u8s (l : List Int) : List Value := l.map fun x => .int .u8 x
theorem u8s_app (a b : List Int) : u8s (a ++ b) = u8s a ++ u8s b := by simp [u8s]
/-- the slice of bytes at a holds xs, in a row made since base -/
def Outs (w : World) (base : Nat) (a : Option Addr) (cap : Nat) (xs : List Int) : Prop := w.ownsRow base 5 1 (.slice a xs.length cap) xs.length (u8s xs) ∧ base ≤ w.heap.size
/-- from w to w' nothing turned but the row of a (and what lies at base or above), and a' is that row or new -/
def Gr (base : Nat) (a a' : Option Addr) (w w' : World) : Prop := Below base w w' ∧ (∀ k, k < w.heap.size → a.map Addr.block ≠ some k → w'.heap[k]? = w.heap[k]?) ∧ (∀ k, a'.map Addr.block = some k → a.map Addr.block = some k ∨ w.heap.size ≤ k)
theorem Gr.refl (base : Nat) (a : Option Addr) (w : World) : Gr base a a w w := ⟨Below.refl _ _, fun _ _ _ => rfl, fun _ h => .inl h⟩
theorem Gr.trans {base : Nat} {a a1 a2 : Option Addr} {w w1 w2 : World} (h : Gr base a a1 w w1) (k : Gr base a1 a2 w1 w2) : Gr base a a2 w w2 := by
  have hz := h.1.size
  refine ⟨h.1.trans k.1, fun i hi hn => ?_, fun i hi => ?_⟩
  · rw [k.2.1 i (by omega) (fun e => by rcases h.2.2 i e with e' | e'; exact hn e'; omega)]
    exact h.2.1 i hi hn
  · rcases k.2.2 i hi with e | e
    · exact h.2.2 i e
    · exact .inr (by omega)
theorem own_map (a : Option Addr) (n cap : Nat) : (Value.slice a n cap).ownBlock = a.map Addr.block := by cases a <;> rfl
theorem Gr.grown {base g g' : Nat} {w w3 : World} (hg : w.grownBy w3 (some g)) (hor : g' = g ∨ g' = w.heap.size) (hb : base ≤ w.heap.size) (hbg : base ≤ g) : Gr base (some ⟨g, 0, none⟩) (some ⟨g', 0, none⟩) w w3 := by
  refine ⟨(Below.refl base w).grown hg hb (fun k e => by injection e with e; omega), fun k hk hn => hg.block k hk (fun e => hn e.symm), fun k hk => ?_⟩
  simp only [Option.map_some, Option.some.injEq] at hk ⊢
  omega
theorem Outs.step {w w3 : World} {base : Nat} {a : Option Addr} {cap : Nat} {xs ys : List Int} {g cap' n m : Nat} {o : Obj} (h : Outs w base a cap xs) (ho : w3.ownsRow base 5 1 (.slice (some ⟨g, 0, none⟩) n cap') n (u8s xs ++ u8s ys)) (hn : n = m) (hm : m = (xs ++ ys).length) (hg : (w.alloc o).grownBy w3 (Value.slice a xs.length cap).ownBlock) (hor : (Value.slice a xs.length cap).ownBlock = some g ∨ g = (w.alloc o).heap.size) : Outs w3 base (some ⟨g, 0, none⟩) cap' (xs ++ ys) ∧ Gr base a (some ⟨g, 0, none⟩) w w3 := by
  have hz := hg.size
  simp at hz
  have hb := h.2
  refine ⟨⟨by rw [u8s_app, ← hm, ← hn]; exact ho, by omega⟩, ?_⟩
  have hB : Below base w w3 := ((Below.refl base w).alloc hb o).grown hg (by simp; omega) (fun k e => (h.1.lt k e).1)
  rw [own_map] at hg hor
  refine ⟨hB, fun k hk hne => ?_, fun k hk => ?_⟩
  · rw [hg.block k (by simp; omega) (fun e => hne e.symm)]; exact Below.heap_alloc _ _ _ hk
  · simp only [Option.map_some, Option.some.injEq] at hk
    subst hk
    rcases hor with e | e
    · exact .inl e
    · simp at e; exact .inr (by omega)
theorem or_128 (a : Int) (h0 : 0 ≤ a) (h1 : a ≤ 255) : bits .or .u8 a 128 = a % 128 + 128 := by
  have key : ∀ x : Fin 256, bits .or .u8 (x.1 : Int) 128 = ((x.1 : Int) % 128 + 128) := by decide +kernel
  have := key ⟨a.toNat, by omega⟩
  simp only [Int.toNat_of_nonneg h0] at this
  exact this

set_option maxRecDepth 100000 in
set_option maxHeartbeats 1000000 in
theorem appNum_any (n : Nat) (base : Nat) (a : Option Addr) (cap : Nat) (xs : List Int) (w : World) (hn : n < 18446744073709551616) (h : Outs w base a cap xs) (hlen : xs.length + (Sp.numB n).length ≤ 140737488355328) :
    Calls Try.prog 87 #[.slice a xs.length cap, .int .u64 n] w fun e w' => ∃ a' cap', e = .returned (.slice a' (xs.length + (Sp.numB n).length) cap') ∧ Outs w' base a' cap' (xs ++ Sp.numB n) ∧ Gr base a a' w w' := by
  obtain ⟨i0, hi, hz0, hz1, hz2⟩ := info_parts Try.infoB
  have H0 : Hid (Outs w base a cap (xs ++ []) ∧ Gr base a a w w) := ⟨by rw [List.append_nil]; exact h, Gr.refl _ _ _⟩
  clear h
  go_enter Try.func87, Try.ntmps87
  go_wp2_with fail
  go_loopw [0, 1] (fun u x wr => ∃ (m : Nat) (ys : List Int) (a' : Option Addr) (cap' : Nat), u = .slice a' (xs.length + ys.length) cap' ∧ x = .int .u64 m ∧ m < 18446744073709551616 ∧ Sp.numB n = ys ++ Sp.numB m ∧ Hid (Outs wr base a' cap' (xs ++ ys) ∧ Gr base a a' w wr)) (fun _ x _ => (intOf x).toNat)
  case atStart => exact ⟨n, [], a, cap, rfl, rfl, hn, rfl, H0.out⟩
  case round =>
    obtain ⟨m, ys, a', cap', rfl, rfl, hm, he, HO⟩ := hrel
    have hl : xs.length + ys.length + (Sp.numB m).length ≤ 140737488355328 := by rw [he, List.length_append] at hlen; omega
    have hp := Sp.numB_pos m
    have hown := HO.out.1.1
    have HOW : Hid (wr.ownsRow base 5 1 (.slice a' (xs.length + ys.length) cap') (xs.length + ys.length) (u8s (xs ++ ys))) := by rw [List.length_append] at hown; exact hown
    clear hown
    by_cases hm' : m < 128
    · have hi1 : ¬ ((128 : Int) ≤ (m : Int)) := by omega
      go_wp2_with (at_builtin; refine wpList_app _ rfl _ _ 23 rfl base 5 i0 (.int .u8 0) 1 1 Try.undB hi hz0 hz1 hz2 rfl (by decide) _ _ _ rfl (HOW.out.alloc _) ⟨wr.heap.size, 0, none⟩ 1 1 [.int .u8 (m : Int)] rfl rfl (cell_one_new _ _ _) (fun u hu => by simp at hu; subst hu; rfl) (by decide) (by unfold maxLen; omega) (by omega) (by have := HO.out.1.2; simp; omega) ?_; intro g' cap2 w3 hown' hgrow hor)
      go_wp2_with fail
      go_ret
      obtain ⟨h1, h2⟩ := HO.out.1.step (ys := [(m : Int)]) hown' rfl (by simp; omega) (by rw [List.length_append]; exact hgrow) (by rw [List.length_append]; exact hor)
      have e1 := Sp.numB_lt hm'
      refine ⟨some ⟨g', 0, none⟩, cap2, by rw [e1]; simp; omega, by rw [e1, ← List.append_assoc]; exact h1, HO.out.2.trans h2⟩
    · have hi1 : (128 : Int) ≤ (m : Int) := by omega
      have hor : bits .or .u8 ((m : Int) % 256) 128 = ((m % 128 + 128 : Nat) : Int) := by rw [or_128 _ (by omega) (by omega)]; omega
      go_wp2_with (at_builtin; refine wpList_app _ rfl _ _ 23 rfl base 5 i0 (.int .u8 0) 1 1 Try.undB hi hz0 hz1 hz2 rfl (by decide) _ _ _ rfl (HOW.out.alloc _) ⟨wr.heap.size, 0, none⟩ 1 1 [.int .u8 ((m % 128 + 128 : Nat) : Int)] rfl rfl (cell_one_new _ _ _) (fun u hu => by simp at hu; subst hu; rfl) (by decide) (by unfold maxLen; omega) (by omega) (by have := HO.out.1.2; simp; omega) ?_; intro g' cap2 w3 hown' hgrow hor')
      obtain ⟨h1, h2⟩ := HO.out.1.step (ys := [((m % 128 + 128 : Nat) : Int)]) hown' rfl (by simp; omega) (by rw [List.length_append]; exact hgrow) (by rw [List.length_append]; exact hor')
      refine ⟨⟨m / 128, ys ++ [((m % 128 + 128 : Nat) : Int)], some ⟨g', 0, none⟩, cap2, by simp; omega, by simp, by omega, ?_, by rw [← List.append_assoc]; exact h1, HO.out.2.trans h2⟩, by simp [intOf]; omega⟩
      rw [he, Sp.numB_ge hm', List.append_assoc]; rfl
end Go.Proofs.Ytkomcebknllaiaa

/- wire.bit, folded, appendBits. -/
namespace Go.Proofs.Ytkomcebknllaiaa
open Go.RowKit

namespace Sp
/-- the numbers below 0 laid between the others -/
def fold (i : Int) : Nat := if i < 0 then (-2 * i - 1).toNat else (2 * i).toNat
/-- the first k of the eight bytes of 64 bits, the highest first -/
def bitsTo (f : Nat) : Nat → List Int
  | 0 => []
  | k + 1 => bitsTo f k ++ [((f / 2 ^ (56 - 8 * k) % 256 : Nat) : Int)]
theorem bitsTo_len (f : Nat) : ∀ k, (bitsTo f k).length = k
  | 0 => rfl
  | k + 1 => by simp [bitsTo, bitsTo_len f k]
end Sp

set_option maxRecDepth 100000 in
set_option maxHeartbeats 400000 in
theorem bit_any (b : Bool) (w : World) : Calls Try.prog 86 #[.bool b] w fun e w' => e = .returned (.int .u8 (if b then 1 else 0)) ∧ w = w' := by
  cases b <;>
  · go_enter Try.func86, Try.ntmps86
    go_wp2_with fail
    go_ret
    exact ⟨rfl, rfl⟩

theorem xor_ones (x : Int) (h0 : 0 ≤ x) (h1 : x ≤ 18446744073709551615) : bits .xor .u64 IntKind.u64.max x = 18446744073709551615 - x := by
  obtain ⟨n, rfl⟩ := Int.eq_ofNat_of_zero_le h0
  have key : (18446744073709551615 ^^^ n : Nat) = 18446744073709551615 - n := by
    have h : (BitVec.allOnes 64 ^^^ BitVec.ofNat 64 n).toNat = (~~~ BitVec.ofNat 64 n).toNat := by rw [BitVec.allOnes_xor]
    rw [BitVec.toNat_xor, BitVec.toNat_not, BitVec.toNat_allOnes, BitVec.toNat_ofNat, Nat.mod_eq_of_lt (by omega)] at h
    simpa using h
  have := bits_xor_u64_nat 18446744073709551615 n (by decide) (by omega)
  rw [key] at this
  show bits .xor .u64 ((18446744073709551615 : Nat) : Int) _ = _
  rw [this]
  omega

set_option maxRecDepth 100000 in
set_option maxHeartbeats 400000 in
theorem folded_any (i : Int) (w : World) (h0 : -9223372036854775808 ≤ i) (h1 : i ≤ 9223372036854775807) : Calls Try.prog 88 #[.int .i64 i] w fun e w' => e = .returned (.int .u64 (Sp.fold i)) ∧ w = w' := by
  by_cases hi : i < 0
  · go_enter Try.func88, Try.ntmps88
    go_wp2_with fail
    go_ret
    refine ⟨?_, rfl⟩
    have e : bits .xor .u64 IntKind.u64.max (IntKind.u64.wrap (IntKind.u64.wrap i * 2)) = (Sp.fold i : Int) := by
      rw [xor_ones _ (by rw [IntKind.wrap_u64]; omega) (by rw [IntKind.wrap_u64]; omega)]
      unfold Sp.fold
      rw [if_pos hi]
      simp only [IntKind.wrap_u64]
      omega
    show Ending.returned (Value.int .u64 _) = _
    rw [e]
  · go_enter Try.func88, Try.ntmps88
    go_wp2_with fail
    go_ret
    refine ⟨?_, rfl⟩
    have e : i * 2 = (Sp.fold i : Int) := by unfold Sp.fold; rw [if_neg (by omega)]; omega
    show Ending.returned (Value.int .u64 (i * 2)) = _
    rw [e]

set_option maxRecDepth 100000 in
set_option maxHeartbeats 1000000 in
theorem appBits_any (f : Nat) (base : Nat) (a : Option Addr) (cap : Nat) (xs : List Int) (w : World) (h : Outs w base a cap xs) (hlen : xs.length + 8 ≤ 140737488355328) :
    Calls Try.prog 89 #[.slice a xs.length cap, .int .u64 f] w fun e w' => ∃ a' cap', e = .returned (.slice a' (xs.length + 8) cap') ∧ Outs w' base a' cap' (xs ++ Sp.bitsTo f 8) ∧ Gr base a a' w w' := by
  obtain ⟨i0, hi, hz0, hz1, hz2⟩ := info_parts Try.infoB
  have H0 : Hid (Outs w base a cap (xs ++ Sp.bitsTo f 0) ∧ Gr base a a w w) := ⟨by rw [Sp.bitsTo, List.append_nil]; exact h, Gr.refl _ _ _⟩
  clear h
  go_enter Try.func89, Try.ntmps89
  go_wp2_with fail
  go_loopw [0, 5] (fun u x wr => ∃ (k : Nat) (a' : Option Addr) (cap' : Nat), u = .slice a' (xs.length + k) cap' ∧ x = .int .i64 (56 - 8 * (k : Int)) ∧ k ≤ 8 ∧ Hid (Outs wr base a' cap' (xs ++ Sp.bitsTo f k) ∧ Gr base a a' w wr)) (fun _ x _ => (intOf x + 8).toNat)
  case atStart => exact ⟨0, a, cap, rfl, rfl, by omega, H0.out⟩
  case round =>
    obtain ⟨k, a', cap', rfl, rfl, hk, HO⟩ := hrel
    have hown := HO.out.1.1
    have HOW : Hid (wr.ownsRow base 5 1 (.slice a' (xs.length + k) cap') (xs.length + k) (u8s (xs ++ Sp.bitsTo f k))) := by rw [List.length_append, Sp.bitsTo_len] at hown; exact hown
    clear hown
    by_cases hk8 : k = 8
    · subst hk8
      go_wp2_with fail
      go_ret
      exact ⟨a', cap', rfl, HO.out.1, HO.out.2⟩
    · have hi1 : (0 : Int) ≤ 56 - 8 * (k : Int) := by omega
      have hi2 : 8 * (k : Int) ≤ 56 := by omega
      go_wp2_with (at_builtin; refine wpList_app _ rfl _ _ 23 rfl base 5 i0 (.int .u8 0) 1 1 Try.undB hi hz0 hz1 hz2 rfl (by decide) _ _ _ rfl (HOW.out.alloc _) ⟨wr.heap.size, 0, none⟩ 1 1 [.int .u8 ((f : Int) / 2 ^ (56 - 8 * k) % 256)] rfl rfl (cell_one_new _ _ _) (fun u hu => by simp at hu; subst hu; rfl) (by decide) (by unfold maxLen; omega) (by omega) (by have := HO.out.1.2; simp; omega) ?_; intro g' cap2 w3 hown' hgrow hor')
      have eb : (f : Int) / 2 ^ (56 - 8 * k) % 256 = ((f / 2 ^ (56 - 8 * k) % 256 : Nat) : Int) := by simp
      rw [eb] at hown'
      obtain ⟨h1, h2⟩ := HO.out.1.step (ys := [((f / 2 ^ (56 - 8 * k) % 256 : Nat) : Int)]) hown' rfl (by simp [Sp.bitsTo_len]; omega) (by rw [List.length_append, Sp.bitsTo_len]; exact hgrow) (by rw [List.length_append, Sp.bitsTo_len]; exact hor')
      go_roundw
      case rel => exact ⟨k + 1, some ⟨g', 0, none⟩, cap2, rfl, by simp; omega, by omega, by rw [Sp.bitsTo, ← List.append_assoc]; exact h1, HO.out.2.trans h2⟩
      case measure => simp [intOf]; omega
end Go.Proofs.Ytkomcebknllaiaa

/- Rows that a call has made and fills cell by cell, and what lies in them: values, fields, terms, entries. -/
import Derived.Test.YtjlhmgopmdcopaaGreatKI12
import Derived.Laws.MakeOwn
namespace Go.Proofs.YtjlhmgopmdcopaaGreat
open Go.RowKit

/-- cells written side by side into block g, from o on -/
def setN (w : World) (g : Nat) : Nat → List Value → World
  | _, [] => w
  | o, v :: vs => setN (w.setCell ⟨g, o, none⟩ v) g (o + 1) vs
theorem setN_size {g : Nat} : ∀ (vs : List Value) (w : World) (o : Nat), (setN w g o vs).heap.size = w.heap.size
  | [], _, _ => rfl
  | v :: vs, w, o => by rw [setN, setN_size vs]; simp
theorem setN_other {g k : Nat} (hk : k ≠ g) : ∀ (vs : List Value) (w : World) (o : Nat), (setN w g o vs).heap[k]? = w.heap[k]?
  | [], _, _ => rfl
  | v :: vs, w, o => by rw [setN, setN_other hk vs, heap_setCell_other _ _ _ _ hk]
theorem setN_frozen {g i : Nat} : ∀ (vs : List Value) (w : World) (o : Nat), (setN w g o vs).frozen? ⟨g, i, none⟩ = w.frozen? ⟨g, i, none⟩
  | [], _, _ => rfl
  | v :: vs, w, o => by rw [setN, setN_frozen vs]; simp
theorem setN_out {g i : Nat} : ∀ (vs : List Value) (w : World) (o : Nat), i < o ∨ o + vs.length ≤ i → (setN w g o vs).cell? ⟨g, i, none⟩ = w.cell? ⟨g, i, none⟩
  | [], _, _, _ => rfl
  | v :: vs, w, o, h => by
    simp only [List.length_cons] at h
    rw [setN, setN_out vs _ _ (by omega), sc_ne (by simp <;> omega)]
theorem setN_in {g : Nat} : ∀ (vs : List Value) (w : World) (o k : Nat) (v : Value), vs[k]? = some v → (∃ u, w.cell? ⟨g, o + k, none⟩ = some u) → (setN w g o vs).cell? ⟨g, o + k, none⟩ = some v
  | [], _, _, _, _, h, _ => by simp at h
  | x :: vs, w, o, 0, v, h, hu => by
    obtain ⟨u, hu⟩ := hu
    simp only [List.getElem?_cons_zero, Option.some.injEq] at h
    subst h
    rw [setN, setN_out vs _ _ (by omega)]
    exact sc_eq hu
  | x :: vs, w, o, k + 1, v, h, hu => by
    simp only [List.getElem?_cons_succ] at h
    rw [setN, show o + (k + 1) = (o + 1) + k by omega]
    refine setN_in vs _ _ k v h ?_
    obtain ⟨u, hu⟩ := hu
    exact ⟨u, by rw [sc_ne (by simp <;> omega), show (o + 1) + k = o + (k + 1) by omega]; exact hu⟩
theorem setN_below {g b : Nat} (hb : b ≤ g) : ∀ (vs : List Value) (w w' : World) (o : Nat), Below b w w' → Below b w (setN w' g o vs)
  | [], _, _, _, h => h
  | v :: vs, w, w', o, h => by rw [setN]; exact setN_below hb vs _ _ _ (h.setCell (p := ⟨g, o, none⟩) hb _)

theorem setN_row {e : TypeId} {g n : Nat} : ∀ (vs : List Value) (w : World) (o : Nat), (∃ cur, w.heap[g]? = some (.cells cur e (0, 0)) ∧ cur.size = n) → ∃ cur, (setN w g o vs).heap[g]? = some (.cells cur e (0, 0)) ∧ cur.size = n
  | [], _, _, h => h
  | v :: vs, w, o, h => by
    obtain ⟨cur, h1, h2⟩ := h
    exact setN_row vs _ _ ⟨_, heap_setCell_same w g o _ _ v h1, by simpa using h2⟩

/-- block g, new since w, has n cells that can be written; the first of them hold xs -/
structure RW (e : TypeId) (w wr : World) (g n : Nat) (xs : List Value) : Prop where
  own : ∀ i, i < n → (∃ u, wr.cell? ⟨g, i, none⟩ = some u) ∧ wr.frozen? ⟨g, i, none⟩ = false
  got : ∀ i x, xs[i]? = some x → wr.cell? ⟨g, i, none⟩ = some x
  len : xs.length ≤ n
  lt : w.heap.size ≤ g ∧ g < wr.heap.size
  bel : Below w.heap.size w wr
  row : ∃ cur, wr.heap[g]? = some (.cells cur e (0, 0)) ∧ cur.size = n

theorem RW.made {w w0 : World} (h : Below w.heap.size w w0) (cs : Array Value) (e : TypeId) : RW e w (w0.alloc (.cells cs e)) w0.heap.size cs.size [] := by
  refine ⟨fun i hi => ?_, fun i x hx => by simp at hx, by simp, ⟨h.size, by simp⟩, h.alloc h.size _, cs, heap_alloc_new w0 _, rfl⟩
  have hn := heap_alloc_new w0 (.cells cs e)
  refine ⟨⟨cs[i], ?_⟩, frozen_of_row _ _ i _ _ hn⟩
  rw [cell_of_row _ _ i _ _ _ hn]; simp [hi]
theorem RW.call {e : TypeId} {w wr w1 : World} {g n : Nat} {xs : List Value} (h : RW e w wr g n xs) (hb : Below wr.heap.size wr w1) : RW e w w1 g n xs := by
  have hl := h.lt
  have hz := hb.size
  have hc : ∀ i, w1.cell? ⟨g, i, none⟩ = wr.cell? ⟨g, i, none⟩ := fun i => hb.cell (p := ⟨g, i, none⟩) hl.2
  have hf : ∀ i, w1.frozen? ⟨g, i, none⟩ = wr.frozen? ⟨g, i, none⟩ := fun i => World.frozen?_of_block (w := wr) (hb.block g hl.2)
  exact ⟨fun i hi => by rw [hc, hf]; exact h.own i hi, fun i x hx => by rw [hc]; exact h.got i x hx, h.len, ⟨hl.1, by omega⟩, h.bel.trans (hb.mono h.bel.size), by rw [hb.block g hl.2]; exact h.row⟩
theorem RW.set {e : TypeId} {w wr : World} {g n : Nat} {xs : List Value} (h : RW e w wr g n xs) (vs : List Value) (hl : xs.length + vs.length ≤ n) : RW e w (setN wr g xs.length vs) g n (xs ++ vs) := by
  have hlt := h.lt
  refine ⟨fun i hi => ⟨?_, by rw [setN_frozen]; exact (h.own i hi).2⟩, fun i x hx => ?_, by simp; omega, ⟨hlt.1, by rw [setN_size]; exact hlt.2⟩, setN_below hlt.1 _ _ _ _ h.bel, setN_row _ _ _ h.row⟩
  · by_cases hin : i < xs.length ∨ xs.length + vs.length ≤ i
    · rw [setN_out vs _ _ hin]; exact (h.own i hi).1
    · obtain ⟨k, rfl⟩ : ∃ k, i = xs.length + k := ⟨i - xs.length, by omega⟩
      have hk : k < vs.length := by omega
      exact ⟨vs[k], setN_in vs _ _ k _ (List.getElem?_eq_getElem hk) (h.own _ hi).1⟩
  · by_cases hin : i < xs.length
    · rw [List.getElem?_append_left hin] at hx
      rw [setN_out vs _ _ (.inl hin)]; exact h.got i x hx
    · obtain ⟨k, rfl⟩ : ∃ k, i = xs.length + k := ⟨i - xs.length, by omega⟩
      rw [List.getElem?_append_right (by omega), Nat.add_sub_cancel_left] at hx
      have hk : k < vs.length := (List.getElem?_eq_some_iff.1 hx).1
      exact setN_in vs _ _ k x hx (h.own _ (by omega)).1

/-- what stands in the blocks since b but g is kept by a call and by writing into g -/
theorem own_kept {b g o : Nat} {wr w1 : World} (hb : Below wr.heap.size wr w1) (vs : List Value) : Same (Own b wr g) wr (setN w1 g o vs) := fun k hk => by
  rw [setN_other hk.2.2]; exact hb.block k hk.2.1
theorem fr_kept {g o : Nat} {wr w1 : World} (hg : g < wr.heap.size) (vs : List Value) : Same (Fr wr w1) w1 (setN w1 g o vs) := fun k hk => by
  rw [setN_other (by have := hk.1; omega)]
theorem own_up {b g o : Nat} {wr w1 : World} (hb : Below wr.heap.size wr w1) (vs : List Value) : ∀ k, Own b wr g k → Own b (setN w1 g o vs) g k := fun k hk =>
  ⟨hk.1, by rw [setN_size]; exact Nat.lt_of_lt_of_le hk.2.1 hb.size, hk.2.2⟩
theorem fr_up {b g o : Nat} {wr w1 : World} (hg : b ≤ g ∧ g < wr.heap.size) (vs : List Value) : ∀ k, Fr wr w1 k → Own b (setN w1 g o vs) g k := fun k hk =>
  ⟨by have := hk.1; omega, by rw [setN_size]; exact hk.2, by have := hk.1; omega⟩

theorem VPre.step {b g o : Nat} {wr w1 : World} {L : TmL} {xs : List Value} {t : Tm} {l : TmL} {x : Value} (h : VPre wr (Own b wr g) L xs (.cons t l)) (hb : Below wr.heap.size wr w1) (hx : t.V w1 (Fr wr w1) x) (hg : b ≤ g ∧ g < wr.heap.size) (vs : List Value) :
    VPre (setN w1 g o vs) (Own b (setN w1 g o vs) g) L (xs ++ [x]) l :=
  VPre.snoc L xs t l x (VPre.same (own_kept hb vs) (own_up hb vs) L xs _ h) (t.V_same (fr_kept hg.2 vs) (fr_up hg vs) x hx)
theorem FPre.step {b g o : Nat} {wr w1 : World} {L : TmF} {xs : List Value} {n : ByteArray} {t : Tm} {l : TmF} {x : Value} (h : FPre wr (Own b wr g) L xs (.cons n t l)) (hn : n.size ≤ maxLen) (hb : Below wr.heap.size wr w1) (hx : t.V w1 (Fr wr w1) x) (hg : b ≤ g ∧ g < wr.heap.size) (vs : List Value) :
    FPre (setN w1 g o vs) (Own b (setN w1 g o vs) g) L (xs ++ [.string n, x]) l :=
  FPre.snoc L xs n t l x (FPre.same (own_kept hb vs) (own_up hb vs) L xs _ h) hn (t.V_same (fr_kept hg.2 vs) (fr_up hg vs) x hx)
theorem VPre.fin {w wr : World} {g : Nat} {L : TmL} {xs : List Value} (h : VPre wr (Own w.heap.size wr g) L xs .nil) (r : RW 20 w wr g L.len xs) (hm : L.len ≤ maxLen) : L.LV wr (Fr w wr) (some ⟨g, 0, none⟩) L.len :=
  ⟨Ln.row (by simpa using r.row) hm r.lt, VPre.done (fun k hk => ⟨hk.1, hk.2.1⟩) g r.lt L xs 0 h (fun i x hx => by rw [Nat.zero_add]; exact r.got i x hx)⟩
theorem FPre.fin {w wr : World} {g : Nat} {L : TmF} {xs : List Value} (h : FPre wr (Own w.heap.size wr g) L xs .nil) (r : RW 55 w wr g (L.len * 2) xs) (hm : L.len ≤ maxLen) : L.LV wr (Fr w wr) (some ⟨g, 0, none⟩) L.len :=
  ⟨Ln.row r.row hm r.lt, FPre.done (fun k hk => ⟨hk.1, hk.2.1⟩) g r.lt L xs 0 h (fun i x hx => by rw [Nat.zero_mul, Nat.zero_add]; exact r.got i x hx)⟩

/-- terms and entries, behind each other in a row -/
theorem TPre.same {w w' : World} {S S' : Nat → Prop} (hs : Same S w w') (hS : ∀ k, S k → S' k) : (L : TmL) → ∀ xs l, TPre w S L xs l → TPre w' S' L xs l
  | L, [], l, h => (TPre_nil _ _).2 ((TPre_nil _ _).1 h)
  | .nil, _ :: _, _, h => by simp [TPre] at h
  | .cons t L, cs :: xs, l, h => by
    simp only [TPre] at h ⊢
    exact ⟨t.In_same hs hS cs h.1, h.2.1, TPre.same hs hS L xs l h.2.2⟩
theorem TPre.step {b g o : Nat} {wr w1 : World} {L : TmL} {xs : List (Array Value)} {t : Tm} {l : TmL} {cs : Array Value} (h : TPre wr (Own b wr g) L xs (.cons t l)) (hb : Below wr.heap.size wr w1) (hx : t.In w1 (Fr wr w1) cs) (hz : cs.size = 11) (hg : b ≤ g ∧ g < wr.heap.size) (vs : List Value) :
    TPre (setN w1 g o vs) (Own b (setN w1 g o vs) g) L (xs ++ [cs]) l :=
  TPre.snoc L xs t l cs (TPre.same (own_kept hb vs) (own_up hb vs) L xs _ h) (t.In_same (fr_kept hg.2 vs) (fr_up hg vs) cs hx) hz
theorem TPre.fin {e : TypeId} {w wr : World} {g n : Nat} {L : TmL} {xs : List (Array Value)} (h : TPre wr (Own w.heap.size wr g) L xs .nil) (r : RW e w wr g n (xs.flatMap (·.toList))) : L.In wr (Fr w wr) (some ⟨g, 0, none⟩) 0 :=
  TPre.done (Same.refl _ _) (fun k hk => ⟨hk.1, hk.2.1⟩) g r.lt L xs 0 h (fun i x hx => by rw [Nat.zero_mul, Nat.zero_add]; exact r.got i x hx)

def EPre (w : World) (B : Nat → Prop) : TmF → List (ByteArray × Array Value) → TmF → Prop
  | L, [], l => L = l
  | .cons n t L, cs :: r, l => cs.1 = n ∧ n.size ≤ 140737488355328 ∧ t.In w B cs.2 ∧ cs.2.size = 11 ∧ EPre w B L r l
  | .nil, _ :: _, _ => False
def ecells (l : List (ByteArray × Array Value)) : List Value := l.flatMap fun x => .string x.1 :: x.2.toList
theorem EPre_nil {w : World} {B : Nat → Prop} (L l : TmF) : EPre w B L [] l ↔ L = l := by cases L <;> rfl
theorem EPre.snoc {w : World} {B : Nat → Prop} : (L : TmF) → ∀ xs n t l cs, EPre w B L xs (.cons n t l) → n.size ≤ 140737488355328 → t.In w B cs → cs.size = 11 → EPre w B L (xs ++ [(n, cs)]) l
  | L, [], n, t, l, cs, h, hn, hx, hz => by
    obtain rfl := (EPre_nil _ _).1 h
    simp only [List.nil_append, EPre]
    exact ⟨trivial, hn, hx, hz, trivial⟩
  | .nil, y :: ys, n, t, l, x, h, hn, hx, hz => by simp [EPre] at h
  | .cons m u L, y :: ys, n, t, l, x, h, hn, hx, hz => by
    simp only [List.cons_append, EPre] at h ⊢
    exact ⟨h.1, h.2.1, h.2.2.1, h.2.2.2.1, EPre.snoc L ys n t l x h.2.2.2.2 hn hx hz⟩
theorem EPre.same {w w' : World} {S S' : Nat → Prop} (hs : Same S w w') (hS : ∀ k, S k → S' k) : (L : TmF) → ∀ xs l, EPre w S L xs l → EPre w' S' L xs l
  | L, [], l, h => (EPre_nil _ _).2 ((EPre_nil _ _).1 h)
  | .nil, _ :: _, _, h => by simp [EPre] at h
  | .cons n t L, cs :: xs, l, h => by
    simp only [EPre] at h ⊢
    exact ⟨h.1, h.2.1, t.In_same hs hS _ h.2.2.1, h.2.2.2.1, EPre.same hs hS L xs l h.2.2.2.2⟩
theorem EPre.done {w : World} {B B' : Nat → Prop} (hB : ∀ k, B k → B' k) (g : Nat) (hg : B' g) : (L : TmF) → ∀ (xs : List (ByteArray × Array Value)) (j : Nat), EPre w B L xs .nil → (∀ i x, (ecells xs)[i]? = some x → w.cell? ⟨g, j * 12 + i, none⟩ = some x) → L.In w B' (some ⟨g, 0, none⟩) j
  | .nil, _, _, _, _ => by simp [TmF.In]
  | .cons n t L, [], j, h, _ => by simp [EPre] at h
  | .cons n t L, cs :: xs, j, h, hc => by
    simp only [EPre, TmF.In] at h ⊢
    obtain ⟨h0, h1, h2, h3, h4⟩ := h
    refine ⟨g, 0, cs.2, rfl, hg, ?_, h1, ?_, t.In_same (Same.refl _ _) hB cs.2 h2, EPre.done hB g hg L xs (j + 1) h4 ?_⟩
    · have := hc 0 (.string cs.1) (by simp [ecells])
      rw [h0] at this; simpa using this
    · intro x hx
      have hx' : x < cs.2.size := by omega
      rw [Array.getElem?_eq_getElem hx']
      have := hc (x + 1) cs.2[x] (by simp only [ecells, List.flatMap_cons]; rw [List.getElem?_append_left (by simp; omega)]; simp)
      rw [show 0 + j * 12 + 1 + x = j * 12 + (x + 1) by omega]; exact this
    · intro i x hi
      have := hc (i + 12) x (by simp only [ecells, List.flatMap_cons]; rw [List.getElem?_append_right (by simp; omega)]; simpa [h3, ecells] using hi)
      rw [show (j + 1) * 12 + i = j * 12 + (i + 12) by omega]; exact this
theorem EPre.step {b g o : Nat} {wr w1 : World} {L : TmF} {xs : List (ByteArray × Array Value)} {n : ByteArray} {t : Tm} {l : TmF} {cs : Array Value} (h : EPre wr (Own b wr g) L xs (.cons n t l)) (hn : n.size ≤ 140737488355328) (hb : Below wr.heap.size wr w1) (hx : t.In w1 (Fr wr w1) cs) (hz : cs.size = 11) (hg : b ≤ g ∧ g < wr.heap.size) (vs : List Value) :
    EPre (setN w1 g o vs) (Own b (setN w1 g o vs) g) L (xs ++ [(n, cs)]) l :=
  EPre.snoc L xs n t l cs (EPre.same (own_kept hb vs) (own_up hb vs) L xs _ h) hn (t.In_same (fr_kept hg.2 vs) (fr_up hg vs) cs hx) hz
theorem EPre.fin {e : TypeId} {w wr : World} {g n : Nat} {L : TmF} {xs : List (ByteArray × Array Value)} (h : EPre wr (Own w.heap.size wr g) L xs .nil) (r : RW e w wr g n (ecells xs)) : L.In wr (Fr w wr) (some ⟨g, 0, none⟩) 0 :=
  EPre.done (fun k hk => ⟨hk.1, hk.2.1⟩) g r.lt L xs 0 h (fun i x hx => by rw [Nat.zero_mul, Nat.zero_add]; exact r.got i x hx)

/-- a block all of whose cells can be written -/
def Soft (w : World) (k : Nat) : Prop := ∀ j, w.frozen? ⟨k, j, none⟩ = false
/-- the blocks that are new in w' and can be written -/
def FrS (w w' : World) : Nat → Prop := fun k => w.heap.size ≤ k ∧ k < w'.heap.size ∧ Soft w' k
def OwnS (b : Nat) (w' : World) (g : Nat) : Nat → Prop := fun k => b ≤ k ∧ k < w'.heap.size ∧ k ≠ g ∧ Soft w' k
theorem Soft.same {w w' : World} {k : Nat} (h : Soft w k) (e : w'.heap[k]? = w.heap[k]?) : Soft w' k := fun j => by rw [World.frozen?_of_block (w := w) e]; exact h j
theorem Soft.row {w : World} {k : Nat} {cur : Array Value} {e : TypeId} (h : w.heap[k]? = some (.cells cur e (0, 0))) : Soft w k := fun j => frozen_of_row _ _ j _ _ h
theorem FrS.fr {w w' : World} : ∀ k, FrS w w' k → Fr w w' k := fun _ hk => ⟨hk.1, hk.2.1⟩
end Go.Proofs.YtjlhmgopmdcopaaGreat


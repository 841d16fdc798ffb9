/- Rows that a call has made and fills cell by cell, and what lies in them: values, fields, terms, entries. -/
import Derived.Test.YtjdjpbdfchhcfaaGreatKE8
import Derived.Laws.MakeOwn
import Derived.Test.YtjdjpbdfchhcfaaGreatKE2
import Derived.ProofKit
import Derived.OpenShut
import Derived.SizedLaws
namespace Go.Proofs.YtjdjpbdfchhcfaaGreat
open Go.RowKit

def setN (w : World) (g : Nat) : Nat → List Value → World
  | _, [] => w
  | o, v :: vs => setN (w.setCell ⟨g, o, none⟩ v) g (o + 1) vs
theorem setN_size {g : Nat} : ∀ (vs : List Value) (w : World) (o : Nat), (setN w g o vs).heap.size = w.heap.size
  | [], _, _ => rfl
  | v :: vs, w, o => by rw [setN, setN_size vs]; simp
theorem setN_other {g k : Nat} (hk : k ≠ g) : ∀ (vs : List Value) (w : World) (o : Nat), (setN w g o vs).heap[k]? = w.heap[k]?
  | [], _, _ => rfl
  | v :: vs, w, o => by rw [setN, setN_other hk vs, heap_setCell_other _ _ _ _ hk]
theorem setN_frozen {g i : Nat} : ∀ (vs : List Value) (w : World) (o : Nat), (setN w g o vs).frozen? ⟨g, i, none⟩ = w.frozen? ⟨g, i, none⟩
  | [], _, _ => rfl
  | v :: vs, w, o => by rw [setN, setN_frozen vs]; simp
theorem setN_out {g i : Nat} : ∀ (vs : List Value) (w : World) (o : Nat), i < o ∨ o + vs.length ≤ i → (setN w g o vs).cell? ⟨g, i, none⟩ = w.cell? ⟨g, i, none⟩
  | [], _, _, _ => rfl
  | v :: vs, w, o, h => by
    simp only [List.length_cons] at h
    rw [setN, setN_out vs _ _ (by omega), sc_ne (by simp <;> omega)]
theorem setN_in {g : Nat} : ∀ (vs : List Value) (w : World) (o k : Nat) (v : Value), vs[k]? = some v → (∃ u, w.cell? ⟨g, o + k, none⟩ = some u) → (setN w g o vs).cell? ⟨g, o + k, none⟩ = some v
  | [], _, _, _, _, h, _ => by simp at h
  | x :: vs, w, o, 0, v, h, hu => by
    obtain ⟨u, hu⟩ := hu
    simp only [List.getElem?_cons_zero, Option.some.injEq] at h
    subst h
    rw [setN, setN_out vs _ _ (by omega)]
    exact sc_eq hu
  | x :: vs, w, o, k + 1, v, h, hu => by
    simp only [List.getElem?_cons_succ] at h
    rw [setN, show o + (k + 1) = (o + 1) + k by omega]
    refine setN_in vs _ _ k v h ?_
    obtain ⟨u, hu⟩ := hu
    exact ⟨u, by rw [sc_ne (by simp <;> omega), show (o + 1) + k = o + (k + 1) by omega]; exact hu⟩
theorem setN_below {g b : Nat} (hb : b ≤ g) : ∀ (vs : List Value) (w w' : World) (o : Nat), Below b w w' → Below b w (setN w' g o vs)
  | [], _, _, _, h => h
  | v :: vs, w, w', o, h => by rw [setN]; exact setN_below hb vs _ _ _ (h.setCell (p := ⟨g, o, none⟩) hb _)

theorem setN_row {e : TypeId} {g n : Nat} : ∀ (vs : List Value) (w : World) (o : Nat), (∃ cur, w.heap[g]? = some (.cells cur e (0, 0)) ∧ cur.size = n) → ∃ cur, (setN w g o vs).heap[g]? = some (.cells cur e (0, 0)) ∧ cur.size = n
  | [], _, _, h => h
  | v :: vs, w, o, h => by
    obtain ⟨cur, h1, h2⟩ := h
    exact setN_row vs _ _ ⟨_, heap_setCell_same w g o _ _ v h1, by simpa using h2⟩

structure RW (e : TypeId) (w wr : World) (g n : Nat) (xs : List Value) : Prop where
  own : ∀ i, i < n → (∃ u, wr.cell? ⟨g, i, none⟩ = some u) ∧ wr.frozen? ⟨g, i, none⟩ = false
  got : ∀ i x, xs[i]? = some x → wr.cell? ⟨g, i, none⟩ = some x
  len : xs.length ≤ n
  lt : w.heap.size ≤ g ∧ g < wr.heap.size
  bel : Below w.heap.size w wr
  row : ∃ cur, wr.heap[g]? = some (.cells cur e (0, 0)) ∧ cur.size = n

theorem RW.made {w w0 : World} (h : Below w.heap.size w w0) (cs : Array Value) (e : TypeId) : RW e w (w0.alloc (.cells cs e)) w0.heap.size cs.size [] := by
  refine ⟨fun i hi => ?_, fun i x hx => by simp at hx, by simp, ⟨h.size, by simp⟩, h.alloc h.size _, cs, heap_alloc_new w0 _, rfl⟩
  have hn := heap_alloc_new w0 (.cells cs e)
  refine ⟨⟨cs[i], ?_⟩, frozen_of_row _ _ i _ _ hn⟩
  rw [cell_of_row _ _ i _ _ _ hn]; simp [hi]
theorem RW.call {e : TypeId} {w wr w1 : World} {g n : Nat} {xs : List Value} (h : RW e w wr g n xs) (hb : Below wr.heap.size wr w1) : RW e w w1 g n xs := by
  have hl := h.lt
  have hz := hb.size
  have hc : ∀ i, w1.cell? ⟨g, i, none⟩ = wr.cell? ⟨g, i, none⟩ := fun i => hb.cell (p := ⟨g, i, none⟩) hl.2
  have hf : ∀ i, w1.frozen? ⟨g, i, none⟩ = wr.frozen? ⟨g, i, none⟩ := fun i => World.frozen?_of_block (w := wr) (hb.block g hl.2)
  exact ⟨fun i hi => by rw [hc, hf]; exact h.own i hi, fun i x hx => by rw [hc]; exact h.got i x hx, h.len, ⟨hl.1, by omega⟩, h.bel.trans (hb.mono h.bel.size), by rw [hb.block g hl.2]; exact h.row⟩
theorem RW.set {e : TypeId} {w wr : World} {g n : Nat} {xs : List Value} (h : RW e w wr g n xs) (vs : List Value) (hl : xs.length + vs.length ≤ n) : RW e w (setN wr g xs.length vs) g n (xs ++ vs) := by
  have hlt := h.lt
  refine ⟨fun i hi => ⟨?_, by rw [setN_frozen]; exact (h.own i hi).2⟩, fun i x hx => ?_, by simp; omega, ⟨hlt.1, by rw [setN_size]; exact hlt.2⟩, setN_below hlt.1 _ _ _ _ h.bel, setN_row _ _ _ h.row⟩
  · by_cases hin : i < xs.length ∨ xs.length + vs.length ≤ i
    · rw [setN_out vs _ _ hin]; exact (h.own i hi).1
    · obtain ⟨k, rfl⟩ : ∃ k, i = xs.length + k := ⟨i - xs.length, by omega⟩
      have hk : k < vs.length := by omega
      exact ⟨vs[k], setN_in vs _ _ k _ (List.getElem?_eq_getElem hk) (h.own _ hi).1⟩
  · by_cases hin : i < xs.length
    · rw [List.getElem?_append_left hin] at hx
      rw [setN_out vs _ _ (.inl hin)]; exact h.got i x hx
    · obtain ⟨k, rfl⟩ : ∃ k, i = xs.length + k := ⟨i - xs.length, by omega⟩
      rw [List.getElem?_append_right (by omega), Nat.add_sub_cancel_left] at hx
      have hk : k < vs.length := (List.getElem?_eq_some_iff.1 hx).1
      exact setN_in vs _ _ k x hx (h.own _ (by omega)).1

theorem own_kept {b g o : Nat} {wr w1 : World} (hb : Below wr.heap.size wr w1) (vs : List Value) : Same (Own b wr g) wr (setN w1 g o vs) := fun k hk => by
  rw [setN_other hk.2.2]; exact hb.block k hk.2.1
theorem fr_kept {g o : Nat} {wr w1 : World} (hg : g < wr.heap.size) (vs : List Value) : Same (Fr wr w1) w1 (setN w1 g o vs) := fun k hk => by
  rw [setN_other (by have := hk.1; omega)]
theorem own_up {b g o : Nat} {wr w1 : World} (hb : Below wr.heap.size wr w1) (vs : List Value) : ∀ k, Own b wr g k → Own b (setN w1 g o vs) g k := fun k hk =>
  ⟨hk.1, by rw [setN_size]; exact Nat.lt_of_lt_of_le hk.2.1 hb.size, hk.2.2⟩
theorem fr_up {b g o : Nat} {wr w1 : World} (hg : b ≤ g ∧ g < wr.heap.size) (vs : List Value) : ∀ k, Fr wr w1 k → Own b (setN w1 g o vs) g k := fun k hk =>
  ⟨by have := hk.1; omega, by rw [setN_size]; exact hk.2, by have := hk.1; omega⟩

theorem VPre.step {b g o : Nat} {wr w1 : World} {L : TmL} {xs : List Value} {t : Tm} {l : TmL} {x : Value} (h : VPre wr (Own b wr g) L xs (.cons t l)) (hb : Below wr.heap.size wr w1) (hx : t.V w1 (Fr wr w1) x) (hg : b ≤ g ∧ g < wr.heap.size) (vs : List Value) :
    VPre (setN w1 g o vs) (Own b (setN w1 g o vs) g) L (xs ++ [x]) l :=
  VPre.snoc L xs t l x (VPre.same (own_kept hb vs) (own_up hb vs) L xs _ h) (t.V_same (fr_kept hg.2 vs) (fr_up hg vs) x hx)
theorem FPre.step {b g o : Nat} {wr w1 : World} {L : TmF} {xs : List Value} {n : ByteArray} {t : Tm} {l : TmF} {x : Value} (h : FPre wr (Own b wr g) L xs (.cons n t l)) (hn : n.size ≤ maxLen) (hb : Below wr.heap.size wr w1) (hx : t.V w1 (Fr wr w1) x) (hg : b ≤ g ∧ g < wr.heap.size) (vs : List Value) :
    FPre (setN w1 g o vs) (Own b (setN w1 g o vs) g) L (xs ++ [.string n, x]) l :=
  FPre.snoc L xs n t l x (FPre.same (own_kept hb vs) (own_up hb vs) L xs _ h) hn (t.V_same (fr_kept hg.2 vs) (fr_up hg vs) x hx)
theorem VPre.fin {w wr : World} {g : Nat} {L : TmL} {xs : List Value} (h : VPre wr (Own w.heap.size wr g) L xs .nil) (r : RW 20 w wr g L.len xs) (hm : L.len ≤ maxLen) : L.LV wr (Fr w wr) (some ⟨g, 0, none⟩) L.len :=
  ⟨Ln.row (by simpa using r.row) hm r.lt, VPre.done (fun k hk => ⟨hk.1, hk.2.1⟩) g r.lt L xs 0 h (fun i x hx => by rw [Nat.zero_add]; exact r.got i x hx)⟩
theorem FPre.fin {w wr : World} {g : Nat} {L : TmF} {xs : List Value} (h : FPre wr (Own w.heap.size wr g) L xs .nil) (r : RW 126 w wr g (L.len * 2) xs) (hm : L.len ≤ maxLen) : L.LV wr (Fr w wr) (some ⟨g, 0, none⟩) L.len :=
  ⟨Ln.row r.row hm r.lt, FPre.done (fun k hk => ⟨hk.1, hk.2.1⟩) g r.lt L xs 0 h (fun i x hx => by rw [Nat.zero_mul, Nat.zero_add]; exact r.got i x hx)⟩

theorem TPre.same {w w' : World} {S S' : Nat → Prop} (hs : Same S w w') (hS : ∀ k, S k → S' k) : (L : TmL) → ∀ xs l, TPre w S L xs l → TPre w' S' L xs l
  | L, [], l, h => (TPre_nil _ _).2 ((TPre_nil _ _).1 h)
  | .nil, _ :: _, _, h => by simp [TPre] at h
  | .cons t L, cs :: xs, l, h => by
    simp only [TPre] at h ⊢
    exact ⟨t.In_same hs hS cs h.1, h.2.1, TPre.same hs hS L xs l h.2.2⟩
def EPre (w : World) (B : Nat → Prop) : TmF → List (ByteArray × Array Value) → TmF → Prop
  | L, [], l => L = l
  | .cons n t L, cs :: r, l => cs.1 = n ∧ n.size ≤ 140737488355328 ∧ t.In w B cs.2 ∧ cs.2.size = 11 ∧ EPre w B L r l
  | .nil, _ :: _, _ => False
def ecells (l : List (ByteArray × Array Value)) : List Value := l.flatMap fun x => .string x.1 :: x.2.toList
theorem EPre_nil {w : World} {B : Nat → Prop} (L l : TmF) : EPre w B L [] l ↔ L = l := by cases L <;> rfl
theorem EPre.snoc {w : World} {B : Nat → Prop} : (L : TmF) → ∀ xs n t l cs, EPre w B L xs (.cons n t l) → n.size ≤ 140737488355328 → t.In w B cs → cs.size = 11 → EPre w B L (xs ++ [(n, cs)]) l
  | L, [], n, t, l, cs, h, hn, hx, hz => by
    obtain rfl := (EPre_nil _ _).1 h
    simp only [List.nil_append, EPre]
    exact ⟨trivial, hn, hx, hz, trivial⟩
  | .nil, y :: ys, n, t, l, x, h, hn, hx, hz => by simp [EPre] at h
  | .cons m u L, y :: ys, n, t, l, x, h, hn, hx, hz => by
    simp only [List.cons_append, EPre] at h ⊢
    exact ⟨h.1, h.2.1, h.2.2.1, h.2.2.2.1, EPre.snoc L ys n t l x h.2.2.2.2 hn hx hz⟩
theorem EPre.same {w w' : World} {S S' : Nat → Prop} (hs : Same S w w') (hS : ∀ k, S k → S' k) : (L : TmF) → ∀ xs l, EPre w S L xs l → EPre w' S' L xs l
  | L, [], l, h => (EPre_nil _ _).2 ((EPre_nil _ _).1 h)
  | .nil, _ :: _, _, h => by simp [EPre] at h
  | .cons n t L, cs :: xs, l, h => by
    simp only [EPre] at h ⊢
    exact ⟨h.1, h.2.1, t.In_same hs hS _ h.2.2.1, h.2.2.2.1, EPre.same hs hS L xs l h.2.2.2.2⟩
theorem EPre.done {w : World} {B B' : Nat → Prop} (hB : ∀ k, B k → B' k) (g : Nat) (hg : B' g) : (L : TmF) → ∀ (xs : List (ByteArray × Array Value)) (j : Nat), EPre w B L xs .nil → (∀ i x, (ecells xs)[i]? = some x → w.cell? ⟨g, j * 12 + i, none⟩ = some x) → L.In w B' (some ⟨g, 0, none⟩) j
  | .nil, _, _, _, _ => by simp [TmF.In]
  | .cons n t L, [], j, h, _ => by simp [EPre] at h
  | .cons n t L, cs :: xs, j, h, hc => by
    simp only [EPre, TmF.In] at h ⊢
    obtain ⟨h0, h1, h2, h3, h4⟩ := h
    refine ⟨g, 0, cs.2, rfl, hg, ?_, h1, ?_, t.In_same (Same.refl _ _) hB cs.2 h2, EPre.done hB g hg L xs (j + 1) h4 ?_⟩
    · have := hc 0 (.string cs.1) (by simp [ecells])
      rw [h0] at this; simpa using this
    · intro x hx
      have hx' : x < cs.2.size := by omega
      rw [Array.getElem?_eq_getElem hx']
      have := hc (x + 1) cs.2[x] (by simp only [ecells, List.flatMap_cons]; rw [List.getElem?_append_left (by simp; omega)]; simp)
      rw [show 0 + j * 12 + 1 + x = j * 12 + (x + 1) by omega]; exact this
    · intro i x hi
      have := hc (i + 12) x (by simp only [ecells, List.flatMap_cons]; rw [List.getElem?_append_right (by simp; omega)]; simpa [h3, ecells] using hi)
      rw [show (j + 1) * 12 + i = j * 12 + (i + 12) by omega]; exact this
def Soft (w : World) (k : Nat) : Prop := ∀ j, w.frozen? ⟨k, j, none⟩ = false
def FrS (w w' : World) : Nat → Prop := fun k => w.heap.size ≤ k ∧ k < w'.heap.size ∧ Soft w' k
def OwnS (b : Nat) (w' : World) (g : Nat) : Nat → Prop := fun k => b ≤ k ∧ k < w'.heap.size ∧ k ≠ g ∧ Soft w' k
theorem Soft.same {w w' : World} {k : Nat} (h : Soft w k) (e : w'.heap[k]? = w.heap[k]?) : Soft w' k := fun j => by rw [World.frozen?_of_block (w := w) e]; exact h j
theorem Soft.row {w : World} {k : Nat} {cur : Array Value} {e : TypeId} (h : w.heap[k]? = some (.cells cur e (0, 0))) : Soft w k := fun j => frozen_of_row _ _ j _ _ h
theorem RW.soft {e : TypeId} {w wr : World} {g n : Nat} {xs : List Value} (h : RW e w wr g n xs) : Soft wr g := by obtain ⟨cur, h1, _⟩ := h.row; exact Soft.row h1
theorem FrS.fr {w w' : World} : ∀ k, FrS w w' k → Fr w w' k := fun _ hk => ⟨hk.1, hk.2.1⟩
theorem own_keptS {b g o : Nat} {wr w1 : World} (hb : Below wr.heap.size wr w1) (vs : List Value) : Same (OwnS b wr g) wr (setN w1 g o vs) := fun k hk => own_kept (b := b) hb vs k ⟨hk.1, hk.2.1, hk.2.2.1⟩
theorem fr_keptS {g o : Nat} {wr w1 : World} (hg : g < wr.heap.size) (vs : List Value) : Same (FrS wr w1) w1 (setN w1 g o vs) := fun k hk => fr_kept hg vs k ⟨hk.1, hk.2.1⟩
theorem own_upS {b g o : Nat} {wr w1 : World} (hb : Below wr.heap.size wr w1) (vs : List Value) : ∀ k, OwnS b wr g k → OwnS b (setN w1 g o vs) g k := fun k hk =>
  ⟨hk.1, by rw [setN_size]; exact Nat.lt_of_lt_of_le hk.2.1 hb.size, hk.2.2.1, hk.2.2.2.same (own_keptS hb vs k hk)⟩
theorem fr_upS {b g o : Nat} {wr w1 : World} (hg : b ≤ g ∧ g < wr.heap.size) (vs : List Value) : ∀ k, FrS wr w1 k → OwnS b (setN w1 g o vs) g k := fun k hk =>
  ⟨by have := hk.1; omega, by rw [setN_size]; exact hk.2.1, by have := hk.1; omega, hk.2.2.same (fr_keptS hg.2 vs k hk)⟩
theorem TPre.stepS {b g o : Nat} {wr w1 : World} {L : TmL} {xs : List (Array Value)} {t : Tm} {l : TmL} {cs : Array Value} (h : TPre wr (OwnS b wr g) L xs (.cons t l)) (hb : Below wr.heap.size wr w1) (hx : t.In w1 (FrS wr w1) cs) (hz : cs.size = 11) (hg : b ≤ g ∧ g < wr.heap.size) (vs : List Value) :
    TPre (setN w1 g o vs) (OwnS b (setN w1 g o vs) g) L (xs ++ [cs]) l :=
  TPre.snoc L xs t l cs (TPre.same (own_keptS hb vs) (own_upS hb vs) L xs _ h) (t.In_same (fr_keptS hg.2 vs) (fr_upS hg vs) cs hx) hz
theorem EPre.stepS {b g o : Nat} {wr w1 : World} {L : TmF} {xs : List (ByteArray × Array Value)} {n : ByteArray} {t : Tm} {l : TmF} {cs : Array Value} (h : EPre wr (OwnS b wr g) L xs (.cons n t l)) (hn : n.size ≤ 140737488355328) (hb : Below wr.heap.size wr w1) (hx : t.In w1 (FrS wr w1) cs) (hz : cs.size = 11) (hg : b ≤ g ∧ g < wr.heap.size) (vs : List Value) :
    EPre (setN w1 g o vs) (OwnS b (setN w1 g o vs) g) L (xs ++ [(n, cs)]) l :=
  EPre.snoc L xs n t l cs (EPre.same (own_keptS hb vs) (own_upS hb vs) L xs _ h) hn (t.In_same (fr_keptS hg.2 vs) (fr_upS hg vs) cs hx) hz
theorem EPre.finS {e : TypeId} {w wr : World} {g n : Nat} {L : TmF} {xs : List (ByteArray × Array Value)} (h : EPre wr (OwnS w.heap.size wr g) L xs .nil) (r : RW e w wr g n (ecells xs)) : L.In wr (FrS w wr) (some ⟨g, 0, none⟩) 0 :=
  EPre.done (fun k hk => ⟨hk.1, hk.2.1, hk.2.2.2⟩) g ⟨r.lt.1, r.lt.2, r.soft⟩ L xs 0 h (fun i x hx => by rw [Nat.zero_mul, Nat.zero_add]; exact r.got i x hx)
theorem BytesLV.soft {w : World} {B : Nat → Prop} {a : Option Addr} {l : ByteArray} {cap : Nat} (h : BytesLV w B a l cap) : BytesAt w (fun k => B k ∧ Soft w k) a l := fun j hj => by
  obtain ⟨g, o, rfl, hg, hc⟩ := h.2 j hj
  refine ⟨g, o, rfl, ⟨hg, ?_⟩, hc⟩
  obtain ⟨_, ⟨xs, _, h3⟩, _⟩ := h.1
  rcases h3 with ⟨h3, _⟩ | ⟨g', c, cur, e1, _, e2, _⟩
  · simp at h3
  · simp only [Value.slice.injEq, Option.some.injEq, Addr.mk.injEq, and_true, true_and] at e1
    obtain ⟨⟨rfl, rfl⟩, rfl⟩ := e1
    exact Soft.row e2
end Go.Proofs.YtjdjpbdfchhcfaaGreat

/- A term that can be read as data lies in memory as a tree of terms. -/
namespace Go.Proofs.YtjdjpbdfchhcfaaGreat
open Go.ChangeShapes Go.WideShapes Go.ChangeAt Go.RowKit

theorem Tryz.cI : Tryz.prog.cellsOf 3 = 1 := by kernel_rfl
theorem Tryz.cB : Tryz.prog.cellsOf 4 = 1 := by kernel_rfl
theorem Tryz.cI64 : Tryz.prog.cellsOf 2 = 1 := by kernel_rfl
theorem Tryz.cF : Tryz.prog.cellsOf 22 = 1 := by kernel_rfl
theorem Tryz.cS : Tryz.prog.cellsOf 9 = 1 := by kernel_rfl
theorem Tryz.cBs : Tryz.prog.cellsOf 23 = 1 := by kernel_rfl
theorem Tryz.cRf : Tryz.prog.cellsOf 25 = 1 := by kernel_rfl
theorem Tryz.cTs : Tryz.prog.cellsOf 26 = 1 := by kernel_rfl
theorem Tryz.cEs : Tryz.prog.cellsOf 27 = 1 := by kernel_rfl
theorem Tryz.cT : Tryz.prog.cellsOf 29 = 11 := by kernel_rfl
theorem Tryz.cE : Tryz.prog.cellsOf 124 = 12 := by kernel_rfl
theorem Tryz.cU8 : Tryz.prog.cellsOf 5 = 1 := by kernel_rfl
theorem Tryz.bT : Tryz.prog.bytesOf 29 = 152 := by kernel_rfl
theorem Tryz.bE : Tryz.prog.bytesOf 124 = 168 := by kernel_rfl
theorem Tryz.bU8 : Tryz.prog.bytesOf 5 = 1 := by kernel_rfl

section
variable {H : Type} {enc : TypeId × Value → H} {W : World}

theorem add_none (b o n : Nat) : (⟨b, o, none⟩ : Addr).add n = ⟨b, o + n, none⟩ := by
  unfold Addr.add; split
  · rename_i h; rw [h]; rfl
  · rfl
theorem weights_all {P : Program} {e : TypeId} : ∀ {l : List (DataW H)} {d : DataW H}, d ∈ l → ∀ m ∈ d.weights P e, m ∈ DataW.weightsAll P e l
  | x :: l, d, hd, m, hm => by
    simp only [DataW.weightsAll, List.mem_append]
    rcases List.mem_cons.1 hd with rfl | hd
    · exact .inl hm
    · exact .inr (weights_all hd m hm)
theorem trod_float {P : Program} {base : Nat} {spare : Nat → Bool} {held : Bool} {fuel : Nat} {t : TypeId} {cs : List Value} {x : DataW H × List MemPlace} {k : FloatKind} (ht : P.underlying t = some (.float k)) (h : DataW.trod enc P W base spare held fuel t cs = some x) : ∃ n, cs = [.float k n] ∧ (Lit.float k n).wf = true := by
  cases fuel with
  | zero => simp [DataW.trod] at h
  | succ n =>
    unfold DataW.trod at h
    rw [ht] at h
    split at h <;> simp_all

theorem TmL.build {S : Nat → Prop} {g o : Nat} : ∀ (k j : Nat), (∀ i, i < k → ∃ (t : Tm) (cs : Array Value), S g ∧ (∀ x, x < 11 → W.cell? ⟨g, o + (j + i) * 11 + x, none⟩ = cs[x]?) ∧ t.In W S cs) → ∃ l : TmL, l.len = k ∧ l.In W S (some ⟨g, o, none⟩) j
  | 0, _, _ => ⟨.nil, rfl, by simp [TmL.In]⟩
  | k + 1, j, h => by
    obtain ⟨t, cs, hg, hc, ht⟩ := h 0 (by omega)
    obtain ⟨l, hl, hin⟩ := TmL.build k (j + 1) (fun i hi => by
      have := h (i + 1) (by omega)
      rw [show j + 1 + i = j + (i + 1) by omega]; exact this)
    exact ⟨.cons t l, by simp [TmL.len, hl], by simp only [TmL.In]; exact ⟨g, o, cs, rfl, hg, hc, ht, hin⟩⟩
theorem TmF.build {S : Nat → Prop} {g o : Nat} : ∀ (k j : Nat), (∀ i, i < k → ∃ (n : ByteArray) (t : Tm) (cs : Array Value), S g ∧ W.cell? ⟨g, o + (j + i) * 12, none⟩ = some (.string n) ∧ n.size ≤ 140737488355328 ∧ (∀ x, x < 11 → W.cell? ⟨g, o + (j + i) * 12 + 1 + x, none⟩ = cs[x]?) ∧ t.In W S cs) → ∃ l : TmF, l.len = k ∧ l.In W S (some ⟨g, o, none⟩) j
  | 0, _, _ => ⟨.nil, rfl, by simp [TmF.In]⟩
  | k + 1, j, h => by
    obtain ⟨n, t, cs, hg, hn, hz, hc, ht⟩ := h 0 (by omega)
    obtain ⟨l, hl, hin⟩ := TmF.build k (j + 1) (fun i hi => by
      have := h (i + 1) (by omega)
      rw [show j + 1 + i = j + (i + 1) by omega]; exact this)
    exact ⟨.cons n t l, by simp [TmF.len, hl], by simp only [TmF.In]; exact ⟨g, o, cs, rfl, hg, hn, hz, hc, ht, hin⟩⟩

theorem elem_at {P : Program} {e : TypeId} {a : Addr} {i n : Nat} {r : List (DataW H × List MemPlace)} (hi : i < r.length) (h : (W.cells? 0 (a.add (i * P.cellsOf e)) (P.cellsOf e)).bind (DataW.trod enc P W 0 (fun _ => true) true n e) = r[i]?) :
    ∃ cs, W.cells? 0 (a.add (i * P.cellsOf e)) (P.cellsOf e) = some cs ∧ DataW.trod enc P W 0 (fun _ => true) true n e cs = some r[i] := by
  rw [List.getElem?_eq_getElem hi] at h
  exact Option.bind_eq_some_iff.1 h

def OpenC (enc : TypeId × Value → H) (W : World) (n : Nat) : Prop := ∀ (cs : List Value) (x : DataW H × List MemPlace), DataW.trod enc Tryz.prog W 0 (fun _ => true) true n 29 cs = some x → (∀ m ∈ x.1.weights Tryz.prog 29, m ≤ reachBytes) → ∃ t : Tm, t.In W (Lo W.heap.size) cs.toArray

theorem reach_le : reachBytes ≤ 140737488355328 := by decide

set_option maxRecDepth 100000 in
theorem open_list {n : Nat} (ih : ∀ m, m < n → OpenC enc W m) {v : Value} {x : DataW H × List MemPlace} (h : DataW.trod enc Tryz.prog W 0 (fun _ => true) true n 26 [v] = some x) (hw : ∀ m ∈ x.1.weights Tryz.prog 26, m ≤ reachBytes) :
    ∃ (l : TmL) (a : Option Addr) (cap : Nat), v = .slice a l.len cap ∧ l.len * 152 ≤ 140737488355328 ∧ l.In W (Lo W.heap.size) a 0 := by
  rcases DataW.trod_slice Tryz.underlying26 h with ⟨hcs, rfl⟩ | ⟨a, len, cap, elems, rest, n', rfl, hcs, rfl, _, hlc, hcm, hlen, hel, _, _⟩
  · simp at hcs; subst hcs; exact ⟨.nil, none, 0, rfl, by simp [TmL.len], by simp [TmL.In]⟩
  · simp at hcs; subst hcs
    have hwt : ∀ m ∈ ((elems.map (·.1)).length + (rest.map (·.1)).length) * Tryz.prog.bytesOf 29 :: (DataW.weightsAll Tryz.prog 29 (elems.map (·.1)) ++ DataW.weightsAll Tryz.prog 29 (rest.map (·.1))), m ≤ reachBytes := by
      intro m hm; exact hw m (by simpa only [DataW.weights, Tryz.underlying26] using hm)
    have hlen' : len * 152 ≤ 140737488355328 := by
      have := hwt _ (List.mem_cons_self ..)
      rw [Tryz.bT, List.length_map, List.length_map, hlen] at this
      have := reach_le
      omega
    by_cases h0 : len = 0
    · subst h0; exact ⟨.nil, some a, cap, rfl, by simp [TmL.len], by simp [TmL.In]⟩
    · obtain ⟨b, o, spot⟩ := a
      have hsp : spot = none := by
        obtain ⟨cs, hc, _⟩ := elem_at (i := 0) (by omega) (hel 0 (by omega))
        rw [Tryz.cT] at hc
        obtain ⟨_, hl11, hcell⟩ := World.cells?_some hc
        have h00 := hcell 0 (by omega)
        rw [List.getElem?_eq_getElem (by omega)] at h00
        simpa [Addr.add] using World.cell?_spot h00
      subst hsp
      obtain ⟨l, hl, hin⟩ := TmL.build (W := W) (S := Lo W.heap.size) (g := b) (o := o) len 0 (fun i hi => by
        obtain ⟨cs, hc, ht⟩ := elem_at (by omega) (hel i hi)
        obtain ⟨t, hin⟩ := ih n' (by omega) cs _ ht (fun m hm => hwt m (List.mem_cons_of_mem _ (List.mem_append_left _ (weights_all (List.mem_map.2 ⟨_, List.getElem_mem _, rfl⟩) m hm))))
        rw [Tryz.cT, add_none] at hc
        obtain ⟨_, hl11, hcell⟩ := World.cells?_some hc
        refine ⟨t, cs.toArray, ?_, ?_, hin⟩
        · have h00 := hcell 0 (by omega)
          rw [List.getElem?_eq_getElem (by omega), add_none] at h00
          exact World.block_lt_of_cell? _ _ h00
        · intro x hx
          have := hcell x hx
          rw [add_none] at this
          rw [Nat.zero_add, this]; simp)
      subst hl
      exact ⟨l, some ⟨b, o, none⟩, cap, rfl, hlen', hin⟩

set_option maxRecDepth 100000 in
theorem open_entries {n : Nat} (ih : ∀ m, m < n → OpenC enc W m) {v : Value} {x : DataW H × List MemPlace} (h : DataW.trod enc Tryz.prog W 0 (fun _ => true) true n 27 [v] = some x) (hw : ∀ m ∈ x.1.weights Tryz.prog 27, m ≤ reachBytes) :
    ∃ (l : TmF) (a : Option Addr) (cap : Nat), v = .slice a l.len cap ∧ l.len * 168 ≤ 140737488355328 ∧ l.In W (Lo W.heap.size) a 0 := by
  rcases DataW.trod_slice Tryz.underlying27 h with ⟨hcs, rfl⟩ | ⟨a, len, cap, elems, rest, n', rfl, hcs, rfl, _, hlc, hcm, hlen, hel, _, _⟩
  · simp at hcs; subst hcs; exact ⟨.nil, none, 0, rfl, by simp [TmF.len], by simp [TmF.In]⟩
  · simp at hcs; subst hcs
    have hwt : ∀ m ∈ ((elems.map (·.1)).length + (rest.map (·.1)).length) * Tryz.prog.bytesOf 124 :: (DataW.weightsAll Tryz.prog 124 (elems.map (·.1)) ++ DataW.weightsAll Tryz.prog 124 (rest.map (·.1))), m ≤ reachBytes := by
      intro m hm; exact hw m (by simpa only [DataW.weights, Tryz.underlying27] using hm)
    have hlen' : len * 168 ≤ 140737488355328 := by
      have := hwt _ (List.mem_cons_self ..)
      rw [Tryz.bE, List.length_map, List.length_map, hlen] at this
      have := reach_le
      omega
    by_cases h0 : len = 0
    · subst h0; exact ⟨.nil, some a, cap, rfl, by simp [TmF.len], by simp [TmF.In]⟩
    · obtain ⟨b, o, spot⟩ := a
      have hsp : spot = none := by
        obtain ⟨cs, hc, _⟩ := elem_at (i := 0) (by omega) (hel 0 (by omega))
        rw [Tryz.cE] at hc
        obtain ⟨_, hl11, hcell⟩ := World.cells?_some hc
        have h00 := hcell 0 (by omega)
        rw [List.getElem?_eq_getElem (by omega)] at h00
        simpa [Addr.add] using World.cell?_spot h00
      subst hsp
      obtain ⟨l, hl, hin⟩ := TmF.build (W := W) (S := Lo W.heap.size) (g := b) (o := o) len 0 (fun i hi => by
        obtain ⟨cs, hc, ht⟩ := elem_at (by omega) (hel i hi)
        rw [Tryz.cE, add_none] at hc
        obtain ⟨_, hl12, hcell⟩ := World.cells?_some hc
        have hie : i < elems.length := by omega
        have hwe : ∀ m ∈ (elems[i]).1.weights Tryz.prog 124, m ≤ reachBytes := fun m hm => hwt m (List.mem_cons_of_mem _ (List.mem_append_left _ (weights_all (List.mem_map.2 ⟨elems[i], List.getElem_mem hie, rfl⟩) m hm)))
        obtain ⟨xs, n2, rfl, hx, hlc2, hxs, hf⟩ := DataW.trod_struct Tryz.underlying124 ht
        match cs, hl12 with
        | [c0, c1, c2, c3, c4, c5, c6, c7, c8, c9, c10, c11], _ =>
          match xs, hxs with
          | [y0, y1], _ =>
            have f0 := hf 0 _ rfl
            have f1 := hf 1 _ rfl
            simp [Tryz.cS, Tryz.cT] at f0 f1
            obtain ⟨s, hs, hy0, _⟩ := DataW.trod_string Tryz.underlying9 f0
            simp at hs; subst hs
            rw [hx] at hwe
            have hwe' : ∀ m ∈ DataW.weightsEach Tryz.prog [9, 29] [y0.1, y1.1], m ≤ reachBytes := by
              intro m hm; exact hwe m (by simpa only [DataW.weights, Tryz.underlying124, List.map_cons, List.map_nil] using hm)
            obtain ⟨t, hin⟩ := ih n2 (by omega) _ _ f1 (fun m hm => hwe' m (DataW.weights_mem_each (j := 1) rfl rfl m hm))
            have hsz : s.size ≤ 140737488355328 := by
              have := hwe' s.size (DataW.weights_mem_each (j := 0) rfl rfl s.size (by rw [hy0]; simp [DataW.weights]))
              have := reach_le; omega
            refine ⟨s, t, _, ?_, ?_, hsz, ?_, hin⟩
            · have h00 := hcell 0 (by omega)
              rw [add_none] at h00
              exact World.block_lt_of_cell? _ _ h00
            · have h00 := hcell 0 (by omega)
              rw [add_none] at h00
              rw [Nat.zero_add]; exact h00
            · intro x hx'
              have := hcell (x + 1) (by omega)
              rw [add_none] at this
              rw [Nat.zero_add, show o + i * 12 + 1 + x = o + i * 12 + (x + 1) by omega, this]; simp)
      subst hl
      exact ⟨l, some ⟨b, o, none⟩, cap, rfl, hlen', hin⟩

theorem byte_of {len : Nat} (f : Nat → Int) (hf : ∀ i, i < len → 0 ≤ f i ∧ f i ≤ 255) : ∃ l : ByteArray, l.size = len ∧ ∀ i, i < len → Sp.byte l i = f i := by
  refine ⟨⟨((List.range len).map fun i => UInt8.ofNat (f i).toNat).toArray⟩, by simp [ByteArray.size], fun i hi => ?_⟩
  have h := hf i hi
  unfold Sp.byte
  rw [Array.getD, dif_pos (by simpa using hi)]
  simp
  omega

set_option maxRecDepth 100000 in
theorem open_bytesC {n : Nat} {v : Value} {x : DataW H × List MemPlace} (h : DataW.trod enc Tryz.prog W 0 (fun _ => true) true n 23 [v] = some x) (hw : ∀ m ∈ x.1.weights Tryz.prog 23, m ≤ reachBytes) :
    ∃ (l : ByteArray) (a : Option Addr) (cap : Nat), v = .slice a l.size cap ∧ l.size ≤ 140737488355328 ∧ BytesAt W (Lo W.heap.size) a l ∧ l.size ≤ cap := by
  rcases DataW.trod_slice Tryz.underlying23 h with ⟨hcs, rfl⟩ | ⟨a, len, cap, elems, rest, n', rfl, hcs, rfl, _, hlc, hcm, hlen, hel, _, _⟩
  · simp at hcs; subst hcs; exact ⟨ByteArray.empty, none, 0, rfl, by simp, fun j hj => by simp at hj, by simp⟩
  · simp at hcs; subst hcs
    have hlen' : len ≤ 140737488355328 := by
      have := hw (((elems.map (·.1)).length + (rest.map (·.1)).length) * Tryz.prog.bytesOf 5) (by simp only [DataW.weights, Tryz.underlying23]; exact List.mem_cons_self ..)
      rw [Tryz.bU8, List.length_map, List.length_map, hlen] at this
      have := reach_le
      omega
    have hread : ∀ i, i < len → ∃ x : Int, W.cell? (a.add i) = some (.int .u8 x) ∧ 0 ≤ x ∧ x ≤ 255 := by
      intro i hi
      obtain ⟨cs, hc, ht⟩ := elem_at (by omega) (hel i hi)
      obtain ⟨z, rfl, _, hz⟩ := DataW.trod_int Tryz.underlying5 ht
      rw [Tryz.cU8, Nat.mul_one] at hc
      obtain ⟨_, _, hcell⟩ := World.cells?_some hc
      have := hcell 0 (by omega)
      have hb := bounds_u8 hz
      exact ⟨z, by simpa [Addr.add] using this, hb.1, hb.2⟩
    obtain ⟨l, hl, hb⟩ := byte_of (len := len) (fun i => match W.cell? (a.add i) with | some (.int .u8 x) => x | _ => 0) (fun i hi => by
      obtain ⟨x, hx, h1, h2⟩ := hread i hi
      rw [hx]; exact ⟨h1, h2⟩)
    subst hl
    refine ⟨l, some a, cap, rfl, hlen', ?_, hlc⟩
    intro j hj
    obtain ⟨z, hz, _, _⟩ := hread j hj
    have hbj := hb j hj
    rw [hz] at hbj
    obtain ⟨b, o, spot⟩ := a
    have hsp : spot = none := by
      obtain ⟨z0, hz0, _, _⟩ := hread 0 (by omega)
      simpa [Addr.add] using World.cell?_spot hz0
    subst hsp
    rw [add_none] at hz
    exact ⟨b, o, rfl, World.block_lt_of_cell? _ _ hz, by rw [hbj]; exact hz⟩

theorem open_bytes {n : Nat} {v : Value} {x : DataW H × List MemPlace} (h : DataW.trod enc Tryz.prog W 0 (fun _ => true) true n 23 [v] = some x) (hw : ∀ m ∈ x.1.weights Tryz.prog 23, m ≤ reachBytes) :
    ∃ (l : ByteArray) (a : Option Addr) (cap : Nat), v = .slice a l.size cap ∧ l.size ≤ 140737488355328 ∧ BytesAt W (Lo W.heap.size) a l := by
  obtain ⟨l, a, cap, h1, h2, h3, _⟩ := open_bytesC h hw
  exact ⟨l, a, cap, h1, h2, h3⟩

theorem wf_f64 {n : Nat} (h : (Lit.float .f64 n).wf = true) : n < 18446744073709551616 := by
  simp [Lit.wf] at h; omega

set_option maxRecDepth 100000 in
theorem open_term (n : Nat) : OpenC enc W n := by
  induction n using Nat.strongRecOn with
  | ind n ih =>
    intro cs x h hw
    obtain ⟨xs, n2, rfl, rfl, hlc, hxs, hf⟩ := DataW.trod_struct Tryz.underlying29 h
    rw [Tryz.cT] at hlc
    match cs, hlc with
    | [c0, c1, c2, c3, c4, c5, c6, c7, c8, c9, c10], _ =>
      match xs, hxs with
      | [y0, y1, y2, y3, y4, y5, y6, y7, y8, y9, y10], _ =>
        have f0 := hf 0 _ rfl
        have f1 := hf 1 _ rfl
        have f2 := hf 2 _ rfl
        have f3 := hf 3 _ rfl
        have f4 := hf 4 _ rfl
        have f5 := hf 5 _ rfl
        have f6 := hf 6 _ rfl
        have f7 := hf 7 _ rfl
        have f8 := hf 8 _ rfl
        have f9 := hf 9 _ rfl
        have f10 := hf 10 _ rfl
        simp [Tryz.cI] at f0
        simp [Tryz.cB] at f1
        simp [Tryz.cI64] at f2
        simp [Tryz.cF] at f3
        simp [Tryz.cS] at f4
        simp [Tryz.cBs] at f5
        simp [Tryz.cRf] at f6
        simp [Tryz.cTs] at f7
        simp [Tryz.cEs] at f8
        simp [Tryz.cS] at f9
        simp [Tryz.cI] at f10
        clear hf
        have hwe : ∀ m ∈ DataW.weightsEach Tryz.prog [3, 4, 2, 22, 9, 23, 25, 26, 27, 9, 3] [y0.1, y1.1, y2.1, y3.1, y4.1, y5.1, y6.1, y7.1, y8.1, y9.1, y10.1], m ≤ reachBytes := by
          intro m hm; exact hw m (by simpa only [DataW.weights, Tryz.underlying29, List.map_cons, List.map_nil] using hm)
        obtain ⟨k, e0, _, w0⟩ := DataW.trod_int Tryz.underlying3 f0
        obtain ⟨b, e1, _⟩ := DataW.trod_bool Tryz.underlying4 f1
        obtain ⟨i, e2, _, w2⟩ := DataW.trod_int Tryz.underlying2 f2
        obtain ⟨f, e3, w3⟩ := trod_float Tryz.underlying22 f3
        obtain ⟨tx, e4, z4, _⟩ := DataW.trod_string Tryz.underlying9 f4
        obtain ⟨rf, e6, _, w6⟩ := DataW.trod_int Tryz.underlying25 f6
        obtain ⟨c, e9, z9, _⟩ := DataW.trod_string Tryz.underlying9 f9
        obtain ⟨vr, e10, _, w10⟩ := DataW.trod_int Tryz.underlying3 f10
        obtain ⟨lb, ab, cb, rfl, hlb, hb⟩ := open_bytes f5 (fun m hm => hwe m (DataW.weights_mem_each (j := 5) rfl rfl m hm))
        obtain ⟨l, al, cl, rfl, hll, hl⟩ := open_list (fun m hm => ih m (by omega)) f7 (fun m hm => hwe m (DataW.weights_mem_each (j := 7) rfl rfl m hm))
        obtain ⟨fs, af, cf, rfl, hlf, hfs⟩ := open_entries (fun m hm => ih m (by omega)) f8 (fun m hm => hwe m (DataW.weights_mem_each (j := 8) rfl rfl m hm))
        have htx : tx.size ≤ 140737488355328 := by
          have := hwe tx.size (DataW.weights_mem_each (j := 4) rfl rfl tx.size (by rw [z4]; simp [DataW.weights]))
          have := reach_le; omega
        have hc : c.size ≤ 140737488355328 := by
          have := hwe c.size (DataW.weights_mem_each (j := 9) rfl rfl c.size (by rw [z9]; simp [DataW.weights]))
          have := reach_le; omega
        simp at e0 e1 e2 e3 e4 e6 e9 e10
        subst e0 e1 e2 e3 e4 e6 e9 e10
        refine ⟨.mk k b i f tx lb rf l fs c vr, ?_⟩
        simp only [Tm.In]
        have a0 := bounds_i64 w0
        have a2 := bounds_i64 w2
        have a6 := bounds_u64 w6
        have a10 := bounds_i64 w10
        exact ⟨ab, cb, al, cl, af, cf, rfl, ⟨a0.1, a0.2, a2.1, a2.2, wf_f64 w3, a6.1, a6.2, a10.1, a10.2, htx, hc, hlb, hll, hlf⟩, hb, hl, hfs⟩
end
end Go.Proofs.YtjdjpbdfchhcfaaGreat


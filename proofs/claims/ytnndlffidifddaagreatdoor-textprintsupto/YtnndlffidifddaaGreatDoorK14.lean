/- Rows that a call has made and fills cell by cell, and what lies in them: values, fields, terms, entries. -/
import Derived.Test.YtnndlffidifddaaGreatDoorK13
import Derived.Laws.MakeOwn
import Derived.Test.YtnndlffidifddaaGreatDoorK6
import Derived.Test.YtnndlffidifddaaGreatDoorK7
import Derived.Lib.UnsafeStr
import Derived.Lib.BufferWrite
import Derived.Deep.RegionHeld3
import Derived.Test.YtnndlffidifddaaGreatDoorK5
import Derived.Lib.BytesEntry
import Derived.Deep.RegionWith
namespace Go.Proofs.YtnndlffidifddaaGreatDoor
open Go.RowKit

/-- cells written side by side into block g, from o on -/
def setN (w : World) (g : Nat) : Nat → List Value → World
  | _, [] => w
  | o, v :: vs => setN (w.setCell ⟨g, o, none⟩ v) g (o + 1) vs
theorem setN_size {g : Nat} : ∀ (vs : List Value) (w : World) (o : Nat), (setN w g o vs).heap.size = w.heap.size
  | [], _, _ => rfl
  | v :: vs, w, o => by rw [setN, setN_size vs]; simp
theorem setN_other {g k : Nat} (hk : k ≠ g) : ∀ (vs : List Value) (w : World) (o : Nat), (setN w g o vs).heap[k]? = w.heap[k]?
  | [], _, _ => rfl
  | v :: vs, w, o => by rw [setN, setN_other hk vs, heap_setCell_other _ _ _ _ hk]
theorem setN_frozen {g i : Nat} : ∀ (vs : List Value) (w : World) (o : Nat), (setN w g o vs).frozen? ⟨g, i, none⟩ = w.frozen? ⟨g, i, none⟩
  | [], _, _ => rfl
  | v :: vs, w, o => by rw [setN, setN_frozen vs]; simp
theorem setN_out {g i : Nat} : ∀ (vs : List Value) (w : World) (o : Nat), i < o ∨ o + vs.length ≤ i → (setN w g o vs).cell? ⟨g, i, none⟩ = w.cell? ⟨g, i, none⟩
  | [], _, _, _ => rfl
  | v :: vs, w, o, h => by
    simp only [List.length_cons] at h
    rw [setN, setN_out vs _ _ (by omega), sc_ne (by simp <;> omega)]
theorem setN_in {g : Nat} : ∀ (vs : List Value) (w : World) (o k : Nat) (v : Value), vs[k]? = some v → (∃ u, w.cell? ⟨g, o + k, none⟩ = some u) → (setN w g o vs).cell? ⟨g, o + k, none⟩ = some v
  | [], _, _, _, _, h, _ => by simp at h
  | x :: vs, w, o, 0, v, h, hu => by
    obtain ⟨u, hu⟩ := hu
    simp only [List.getElem?_cons_zero, Option.some.injEq] at h
    subst h
    rw [setN, setN_out vs _ _ (by omega)]
    exact sc_eq hu
  | x :: vs, w, o, k + 1, v, h, hu => by
    simp only [List.getElem?_cons_succ] at h
    rw [setN, show o + (k + 1) = (o + 1) + k by omega]
    refine setN_in vs _ _ k v h ?_
    obtain ⟨u, hu⟩ := hu
    exact ⟨u, by rw [sc_ne (by simp <;> omega), show (o + 1) + k = o + (k + 1) by omega]; exact hu⟩
theorem setN_below {g b : Nat} (hb : b ≤ g) : ∀ (vs : List Value) (w w' : World) (o : Nat), Below b w w' → Below b w (setN w' g o vs)
  | [], _, _, _, h => h
  | v :: vs, w, w', o, h => by rw [setN]; exact setN_below hb vs _ _ _ (h.setCell (p := ⟨g, o, none⟩) hb _)

theorem setN_row {e : TypeId} {g n : Nat} : ∀ (vs : List Value) (w : World) (o : Nat), (∃ cur, w.heap[g]? = some (.cells cur e (0, 0)) ∧ cur.size = n) → ∃ cur, (setN w g o vs).heap[g]? = some (.cells cur e (0, 0)) ∧ cur.size = n
  | [], _, _, h => h
  | v :: vs, w, o, h => by
    obtain ⟨cur, h1, h2⟩ := h
    exact setN_row vs _ _ ⟨_, heap_setCell_same w g o _ _ v h1, by simpa using h2⟩

/-- block g, new since w, has n cells that can be written; the first of them hold xs -/
structure RW (e : TypeId) (w wr : World) (g n : Nat) (xs : List Value) : Prop where
  own : ∀ i, i < n → (∃ u, wr.cell? ⟨g, i, none⟩ = some u) ∧ wr.frozen? ⟨g, i, none⟩ = false
  got : ∀ i x, xs[i]? = some x → wr.cell? ⟨g, i, none⟩ = some x
  len : xs.length ≤ n
  lt : w.heap.size ≤ g ∧ g < wr.heap.size
  bel : Below w.heap.size w wr
  row : ∃ cur, wr.heap[g]? = some (.cells cur e (0, 0)) ∧ cur.size = n

theorem RW.made {w w0 : World} (h : Below w.heap.size w w0) (cs : Array Value) (e : TypeId) : RW e w (w0.alloc (.cells cs e)) w0.heap.size cs.size [] := by
  refine ⟨fun i hi => ?_, fun i x hx => by simp at hx, by simp, ⟨h.size, by simp⟩, h.alloc h.size _, cs, heap_alloc_new w0 _, rfl⟩
  have hn := heap_alloc_new w0 (.cells cs e)
  refine ⟨⟨cs[i], ?_⟩, frozen_of_row _ _ i _ _ hn⟩
  rw [cell_of_row _ _ i _ _ _ hn]; simp [hi]
theorem RW.call {e : TypeId} {w wr w1 : World} {g n : Nat} {xs : List Value} (h : RW e w wr g n xs) (hb : Below wr.heap.size wr w1) : RW e w w1 g n xs := by
  have hl := h.lt
  have hz := hb.size
  have hc : ∀ i, w1.cell? ⟨g, i, none⟩ = wr.cell? ⟨g, i, none⟩ := fun i => hb.cell (p := ⟨g, i, none⟩) hl.2
  have hf : ∀ i, w1.frozen? ⟨g, i, none⟩ = wr.frozen? ⟨g, i, none⟩ := fun i => World.frozen?_of_block (w := wr) (hb.block g hl.2)
  exact ⟨fun i hi => by rw [hc, hf]; exact h.own i hi, fun i x hx => by rw [hc]; exact h.got i x hx, h.len, ⟨hl.1, by omega⟩, h.bel.trans (hb.mono h.bel.size), by rw [hb.block g hl.2]; exact h.row⟩
theorem RW.set {e : TypeId} {w wr : World} {g n : Nat} {xs : List Value} (h : RW e w wr g n xs) (vs : List Value) (hl : xs.length + vs.length ≤ n) : RW e w (setN wr g xs.length vs) g n (xs ++ vs) := by
  have hlt := h.lt
  refine ⟨fun i hi => ⟨?_, by rw [setN_frozen]; exact (h.own i hi).2⟩, fun i x hx => ?_, by simp; omega, ⟨hlt.1, by rw [setN_size]; exact hlt.2⟩, setN_below hlt.1 _ _ _ _ h.bel, setN_row _ _ _ h.row⟩
  · by_cases hin : i < xs.length ∨ xs.length + vs.length ≤ i
    · rw [setN_out vs _ _ hin]; exact (h.own i hi).1
    · obtain ⟨k, rfl⟩ : ∃ k, i = xs.length + k := ⟨i - xs.length, by omega⟩
      have hk : k < vs.length := by omega
      exact ⟨vs[k], setN_in vs _ _ k _ (List.getElem?_eq_getElem hk) (h.own _ hi).1⟩
  · by_cases hin : i < xs.length
    · rw [List.getElem?_append_left hin] at hx
      rw [setN_out vs _ _ (.inl hin)]; exact h.got i x hx
    · obtain ⟨k, rfl⟩ : ∃ k, i = xs.length + k := ⟨i - xs.length, by omega⟩
      rw [List.getElem?_append_right (by omega), Nat.add_sub_cancel_left] at hx
      have hk : k < vs.length := (List.getElem?_eq_some_iff.1 hx).1
      exact setN_in vs _ _ k x hx (h.own _ (by omega)).1

/-- what stands in the blocks since b but g is kept by a call and by writing into g -/
theorem own_kept {b g o : Nat} {wr w1 : World} (hb : Below wr.heap.size wr w1) (vs : List Value) : Same (Own b wr g) wr (setN w1 g o vs) := fun k hk => by
  rw [setN_other hk.2.2]; exact hb.block k hk.2.1
theorem fr_kept {g o : Nat} {wr w1 : World} (hg : g < wr.heap.size) (vs : List Value) : Same (Fr wr w1) w1 (setN w1 g o vs) := fun k hk => by
  rw [setN_other (by have := hk.1; omega)]
theorem own_up {b g o : Nat} {wr w1 : World} (hb : Below wr.heap.size wr w1) (vs : List Value) : ∀ k, Own b wr g k → Own b (setN w1 g o vs) g k := fun k hk =>
  ⟨hk.1, by rw [setN_size]; exact Nat.lt_of_lt_of_le hk.2.1 hb.size, hk.2.2⟩
theorem fr_up {b g o : Nat} {wr w1 : World} (hg : b ≤ g ∧ g < wr.heap.size) (vs : List Value) : ∀ k, Fr wr w1 k → Own b (setN w1 g o vs) g k := fun k hk =>
  ⟨by have := hk.1; omega, by rw [setN_size]; exact hk.2, by have := hk.1; omega⟩

theorem VPre.step {b g o : Nat} {wr w1 : World} {L : TmL} {xs : List Value} {t : Tm} {l : TmL} {x : Value} (h : VPre wr (Own b wr g) L xs (.cons t l)) (hb : Below wr.heap.size wr w1) (hx : t.V w1 (Fr wr w1) x) (hg : b ≤ g ∧ g < wr.heap.size) (vs : List Value) :
    VPre (setN w1 g o vs) (Own b (setN w1 g o vs) g) L (xs ++ [x]) l :=
  VPre.snoc L xs t l x (VPre.same (own_kept hb vs) (own_up hb vs) L xs _ h) (t.V_same (fr_kept hg.2 vs) (fr_up hg vs) x hx)
theorem FPre.step {b g o : Nat} {wr w1 : World} {L : TmF} {xs : List Value} {n : ByteArray} {t : Tm} {l : TmF} {x : Value} (h : FPre wr (Own b wr g) L xs (.cons n t l)) (hn : n.size ≤ maxLen) (hb : Below wr.heap.size wr w1) (hx : t.V w1 (Fr wr w1) x) (hg : b ≤ g ∧ g < wr.heap.size) (vs : List Value) :
    FPre (setN w1 g o vs) (Own b (setN w1 g o vs) g) L (xs ++ [.string n, x]) l :=
  FPre.snoc L xs n t l x (FPre.same (own_kept hb vs) (own_up hb vs) L xs _ h) hn (t.V_same (fr_kept hg.2 vs) (fr_up hg vs) x hx)
/-- terms and entries, behind each other in a row -/
theorem TPre.same {w w' : World} {S S' : Nat → Prop} (hs : Same S w w') (hS : ∀ k, S k → S' k) : (L : TmL) → ∀ xs l, TPre w S L xs l → TPre w' S' L xs l
  | L, [], l, h => (TPre_nil _ _).2 ((TPre_nil _ _).1 h)
  | .nil, _ :: _, _, h => by simp [TPre] at h
  | .cons t L, cs :: xs, l, h => by
    simp only [TPre] at h ⊢
    exact ⟨t.In_same hs hS cs h.1, h.2.1, TPre.same hs hS L xs l h.2.2⟩
theorem TPre.step {b g o : Nat} {wr w1 : World} {L : TmL} {xs : List (Array Value)} {t : Tm} {l : TmL} {cs : Array Value} (h : TPre wr (Own b wr g) L xs (.cons t l)) (hb : Below wr.heap.size wr w1) (hx : t.In w1 (Fr wr w1) cs) (hz : cs.size = 11) (hg : b ≤ g ∧ g < wr.heap.size) (vs : List Value) :
    TPre (setN w1 g o vs) (Own b (setN w1 g o vs) g) L (xs ++ [cs]) l :=
  TPre.snoc L xs t l cs (TPre.same (own_kept hb vs) (own_up hb vs) L xs _ h) (t.In_same (fr_kept hg.2 vs) (fr_up hg vs) cs hx) hz
def EPre (w : World) (B : Nat → Prop) : TmF → List (ByteArray × Array Value) → TmF → Prop
  | L, [], l => L = l
  | .cons n t L, cs :: r, l => cs.1 = n ∧ n.size ≤ 140737488355328 ∧ t.In w B cs.2 ∧ cs.2.size = 11 ∧ EPre w B L r l
  | .nil, _ :: _, _ => False
def ecells (l : List (ByteArray × Array Value)) : List Value := l.flatMap fun x => .string x.1 :: x.2.toList
theorem EPre_nil {w : World} {B : Nat → Prop} (L l : TmF) : EPre w B L [] l ↔ L = l := by cases L <;> rfl
theorem EPre.snoc {w : World} {B : Nat → Prop} : (L : TmF) → ∀ xs n t l cs, EPre w B L xs (.cons n t l) → n.size ≤ 140737488355328 → t.In w B cs → cs.size = 11 → EPre w B L (xs ++ [(n, cs)]) l
  | L, [], n, t, l, cs, h, hn, hx, hz => by
    obtain rfl := (EPre_nil _ _).1 h
    simp only [List.nil_append, EPre]
    exact ⟨trivial, hn, hx, hz, trivial⟩
  | .nil, y :: ys, n, t, l, x, h, hn, hx, hz => by simp [EPre] at h
  | .cons m u L, y :: ys, n, t, l, x, h, hn, hx, hz => by
    simp only [List.cons_append, EPre] at h ⊢
    exact ⟨h.1, h.2.1, h.2.2.1, h.2.2.2.1, EPre.snoc L ys n t l x h.2.2.2.2 hn hx hz⟩
theorem EPre.same {w w' : World} {S S' : Nat → Prop} (hs : Same S w w') (hS : ∀ k, S k → S' k) : (L : TmF) → ∀ xs l, EPre w S L xs l → EPre w' S' L xs l
  | L, [], l, h => (EPre_nil _ _).2 ((EPre_nil _ _).1 h)
  | .nil, _ :: _, _, h => by simp [EPre] at h
  | .cons n t L, cs :: xs, l, h => by
    simp only [EPre] at h ⊢
    exact ⟨h.1, h.2.1, t.In_same hs hS _ h.2.2.1, h.2.2.2.1, EPre.same hs hS L xs l h.2.2.2.2⟩
theorem EPre.done {w : World} {B B' : Nat → Prop} (hB : ∀ k, B k → B' k) (g : Nat) (hg : B' g) : (L : TmF) → ∀ (xs : List (ByteArray × Array Value)) (j : Nat), EPre w B L xs .nil → (∀ i x, (ecells xs)[i]? = some x → w.cell? ⟨g, j * 12 + i, none⟩ = some x) → L.In w B' (some ⟨g, 0, none⟩) j
  | .nil, _, _, _, _ => by simp [TmF.In]
  | .cons n t L, [], j, h, _ => by simp [EPre] at h
  | .cons n t L, cs :: xs, j, h, hc => by
    simp only [EPre, TmF.In] at h ⊢
    obtain ⟨h0, h1, h2, h3, h4⟩ := h
    refine ⟨g, 0, cs.2, rfl, hg, ?_, h1, ?_, t.In_same (Same.refl _ _) hB cs.2 h2, EPre.done hB g hg L xs (j + 1) h4 ?_⟩
    · have := hc 0 (.string cs.1) (by simp [ecells])
      rw [h0] at this; simpa using this
    · intro x hx
      have hx' : x < cs.2.size := by omega
      rw [Array.getElem?_eq_getElem hx']
      have := hc (x + 1) cs.2[x] (by simp only [ecells, List.flatMap_cons]; rw [List.getElem?_append_left (by simp; omega)]; simp)
      rw [show 0 + j * 12 + 1 + x = j * 12 + (x + 1) by omega]; exact this
    · intro i x hi
      have := hc (i + 12) x (by simp only [ecells, List.flatMap_cons]; rw [List.getElem?_append_right (by simp; omega)]; simpa [h3, ecells] using hi)
      rw [show (j + 1) * 12 + i = j * 12 + (i + 12) by omega]; exact this
theorem EPre.step {b g o : Nat} {wr w1 : World} {L : TmF} {xs : List (ByteArray × Array Value)} {n : ByteArray} {t : Tm} {l : TmF} {cs : Array Value} (h : EPre wr (Own b wr g) L xs (.cons n t l)) (hn : n.size ≤ 140737488355328) (hb : Below wr.heap.size wr w1) (hx : t.In w1 (Fr wr w1) cs) (hz : cs.size = 11) (hg : b ≤ g ∧ g < wr.heap.size) (vs : List Value) :
    EPre (setN w1 g o vs) (Own b (setN w1 g o vs) g) L (xs ++ [(n, cs)]) l :=
  EPre.snoc L xs n t l cs (EPre.same (own_kept hb vs) (own_up hb vs) L xs _ h) hn (t.In_same (fr_kept hg.2 vs) (fr_up hg vs) cs hx) hz
/-- a block all of whose cells can be written -/
def Soft (w : World) (k : Nat) : Prop := ∀ j, w.frozen? ⟨k, j, none⟩ = false
/-- the blocks that are new in w' and can be written -/
def FrS (w w' : World) : Nat → Prop := fun k => w.heap.size ≤ k ∧ k < w'.heap.size ∧ Soft w' k
def OwnS (b : Nat) (w' : World) (g : Nat) : Nat → Prop := fun k => b ≤ k ∧ k < w'.heap.size ∧ k ≠ g ∧ Soft w' k
theorem Soft.same {w w' : World} {k : Nat} (h : Soft w k) (e : w'.heap[k]? = w.heap[k]?) : Soft w' k := fun j => by rw [World.frozen?_of_block (w := w) e]; exact h j
theorem Soft.row {w : World} {k : Nat} {cur : Array Value} {e : TypeId} (h : w.heap[k]? = some (.cells cur e (0, 0))) : Soft w k := fun j => frozen_of_row _ _ j _ _ h
theorem FrS.fr {w w' : World} : ∀ k, FrS w w' k → Fr w w' k := fun _ hk => ⟨hk.1, hk.2.1⟩
end Go.Proofs.YtnndlffidifddaaGreatDoor

/- strings.Clone and bytes.Clone: the same bytes, in new memory. -/
namespace Go.Proofs.YtnndlffidifddaaGreatDoor
open Go.RowKit

end Go.Proofs.YtnndlffidifddaaGreatDoor

/- value.valueOf and value.dictOf: the value of a term that can be, in new memory. -/
namespace Go.Proofs.YtnndlffidifddaaGreatDoor
open Go.RowKit

@[go_sem] theorem run_store_fl (P : Program) (w : World) (a : Addr) (m : Mode) (k : FloatKind) (n : Nat) : (store a (.float k n) m).run P w = stored P w a (.float k n) m := run_store P w a _ m rfl

theorem Tm.Ok.bounds {k : Int} {b : Bool} {i : Int} {f : Nat} {tx : ByteArray} {by' : ByteArray} {rf : Int} {l : TmL} {fs : TmF} {c : ByteArray} {v : Int} (h : Tm.Ok (.mk k b i f tx by' rf l fs c v)) :
    (k = 5 → tx.size ≤ 65536) ∧ (k = 6 → by'.size ≤ 65536) ∧ (k = 8 → l.len ≤ 4096) ∧ (k = 9 ∨ k = 10 → Sp.fieldsR fs.names = 0) ∧ (k = 10 → Sp.headR c v = 0) := by
  obtain ⟨n, p, d, h⟩ := h
  have ho : (Tm.mk k b i f tx by' rf l fs c v).own p n = 0 := by
    by_cases e : (Tm.mk k b i f tx by' rf l fs c v).own p n ≠ 0
    · rw [Tm.wk, if_pos e] at h; exact absurd h e
    · exact Decidable.not_not.1 e
  have he : Sp.ent k p n = 0 := Tm.own_ent _ _ _ ho
  simp only [Tm.own, he, ne_eq, not_true_eq_false, if_false] at ho
  refine ⟨fun e => ?_, fun e => ?_, fun e => ?_, fun e => ?_, fun e => ?_⟩
  · subst e; simp [Sp.len] at ho; omega
  · subst e; simp [Sp.len] at ho; omega
  · subst e; simp [Sp.len] at ho; omega
  · rcases e with rfl | rfl
    · simpa using ho
    · by_cases hh : Sp.headR c v = 0
      · simpa [hh] using ho
      · simp [hh] at ho
  · subst e
    by_cases hh : Sp.headR c v = 0
    · exact hh
    · simp [hh] at ho
theorem named_len : ∀ (l : List ByteArray) (a : ByteArray), Sp.named a l = true → ∀ n ∈ l, n.size ≤ 32
  | [], _, _, n, hn => by simp at hn
  | m :: l, a, h, n, hn => by
    simp only [Sp.named, Bool.and_eq_true] at h
    simp only [List.mem_cons] at hn
    rcases hn with rfl | hn
    · have := h.1.1; simp [Sp.isNm] at this; omega
    · exact named_len l m h.2 n hn
/-- names are short -/
def TmF.Nm (l : TmF) : Prop := ∀ n ∈ l.names, n.size ≤ 32
theorem TmF.nm {l : TmF} (h : Sp.fieldsR l.names = 0) : l.len ≤ 4096 ∧ l.Nm := by
  unfold Sp.fieldsR at h
  split at h
  · omega
  · rename_i h1
    rw [TmF.names_len] at h1
    split at h
    · rename_i h2; exact ⟨by omega, named_len _ _ h2⟩
    · omega
theorem TmF.Nm.head {n : ByteArray} {t : Tm} {l : TmF} (h : TmF.Nm (.cons n t l)) : n.size ≤ 32 ∧ l.Nm := ⟨h n (by simp [TmF.names]), fun m hm => h m (by simp [TmF.names, hm])⟩
theorem head_len {c : ByteArray} {v : Int} (h : Sp.headR c v = 0) : c.size ≤ 32 := by
  unfold Sp.headR at h
  split at h
  · omega
  · rename_i h1
    have : Sp.isNm c = true := by simpa using h1
    simp [Sp.isNm] at this; omega

theorem Tm.In_tc' {w : World} {B : Nat → Prop} {t : Tm} {cs : Array Value} (h : t.In w B cs) : ∃ k b i f tx ab nb cb rf al nl cl af nf cf c vr, cs = tcells k b i f tx (.slice ab nb cb) rf (.slice al nl cl) (.slice af nf cf) c vr := by
  cases t; simp only [Tm.In] at h; obtain ⟨_, _, _, _, _, _, rfl, _⟩ := h; exact ⟨_, _, _, _, _, _, _, _, _, _, _, _, _, _, _, _, _, rfl⟩

end Go.Proofs.YtnndlffidifddaaGreatDoor

/- The leaves of package value's order: numbers, texts, bools, floats, bytes. -/
namespace Go.Proofs.YtnndlffidifddaaGreatDoor
open Go.RowKit

theorem bits_run (f : Nat) (w : World) : (callFunc 25 #[.float .f64 f]).run Tryz.prog w = .ok (.value (.int .u64 f)) w := by
  rw [run_callFunc_extern Tryz.func25 (by kernel_rfl) (by kernel_rfl) (by kernel_rfl) (e := Extern.MathFloatBits.float64bits) (by kernel_rfl)]
  rfl

end Go.Proofs.YtnndlffidifddaaGreatDoor

/- Package value's order of two values is the plain order of their terms. -/
namespace Go.Proofs.YtnndlffidifddaaGreatDoor
open Go.RowKit

end Go.Proofs.YtnndlffidifddaaGreatDoor

/- Package value's order of dicts and records is the plain order of their terms' fields. -/
namespace Go.Proofs.YtnndlffidifddaaGreatDoor
open Go.RowKit

end Go.Proofs.YtnndlffidifddaaGreatDoor

/- value.Check at a term's value: what the plain walk through the term says. -/
namespace Go.Proofs.YtnndlffidifddaaGreatDoor
open Go.RowKit

/-- the walk of a whole term -/
def Tm.all (t : Tm) : Wr := t.wk 1 0 0
/-- the number of the first part that is wrong (0: none is), how many parts it has, how deep the deepest lies (0: it can't be) -/
def Tm.cAt (t : Tm) : Int := if t.all.e ≠ 0 then t.all.p - 1 else 0
def Tm.szN (t : Tm) : Int := if t.all.e ≠ 0 then 0 else t.all.p
def Tm.szD (t : Tm) : Int := if t.all.e ≠ 0 then 0 else t.all.d
/-- a term's kind as the document counts it -/
def Tm.kindK (t : Tm) : Int := if t.kind < 1 ∨ 11 < t.kind then 0 else t.kind
theorem Wk_new (w : World) : Wk (w.alloc (.cells #[.int .i64 0, .int .i64 0] 92)) w.heap.size 0 0 := by
  refine ⟨?_, ?_, ?_, ?_⟩ <;> simp

theorem walk_all (t : Tm) (v : Value) (B : Nat) (w : World) (hB : B ≤ w.heap.size) (h : t.V w (Lo B) v) :
    ∀ W, Below w.heap.size w W → Wk W w.heap.size 0 0 → Calls Tryz.prog 43 #[.pointer (some ⟨w.heap.size, 0, none⟩), v, .int .i64 1] W fun e w' => e = .returned (.int .i64 t.all.e) ∧ Wk w' w.heap.size t.all.p t.all.d ∧ Below w.heap.size W w' :=
  fun W hW hk => value_any t.sz t (Nat.le_refl _) w.heap.size v 0 0 1 W hk (t.V_same (Same.of_below hW hB) (Lo.le hB) v h) (by decide) (by decide) (by decide) (by decide)

set_option maxRecDepth 100000 in
set_option maxHeartbeats 400000 in
theorem Check_any (t : Tm) (v : Value) (B : Nat) (w : World) (hB : B ≤ w.heap.size) (h : t.V w (Lo B) v) :
    Calls Tryz.prog 31 #[v] w fun e w' => e = .returned (.tuple #[.int .i64 t.cAt, .int .i64 t.all.e]) ∧ Below w.heap.size w w' := by
  have HC := fun W a b => walk_all t v B w hB h W a b
  have HC : Hid _ := HC
  have hbd := t.wk_bd 1 0 0 (by decide) (by decide)
  by_cases he : t.all.e ≠ 0
  · have he' := ne_bool he
    have H : Hid (t.cAt = t.all.p - 1) := by show _ = _; unfold Tm.cAt; rw [if_pos he]
    have hp : 0 ≤ t.all.p ∧ t.all.p ≤ 16385 := ⟨hbd.1, hbd.2.1⟩
    clear h hbd he
    go_enter Tryz.func31, Tryz.ntmps31
    go_wp2_with (go_at_call 43; refine (HC.out _ ((Below.refl _ _).alloc (Nat.le_refl _) _) (Wk_new w)).mono ?_; rintro e w1 ⟨rfl, hk1, hb1⟩; obtain ⟨c0, c1, f0, f1⟩ := hk1)
    go_ret2
    rw [H.out]
    exact ⟨rfl, ((Below.refl _ _).alloc (Nat.le_refl _) _).trans hb1⟩
  · have he0 : t.all.e = 0 := Decidable.not_not.1 he
    have H : Hid (t.cAt = 0) := by show _ = _; unfold Tm.cAt; rw [if_neg he]
    clear h hbd he
    go_enter Tryz.func31, Tryz.ntmps31
    go_wp2_with (go_at_call 43; refine (HC.out _ ((Below.refl _ _).alloc (Nat.le_refl _) _) (Wk_new w)).mono ?_; rintro e w1 ⟨rfl, hk1, hb1⟩)
    go_ret2
    rw [H.out, he0]
    exact ⟨rfl, ((Below.refl _ _).alloc (Nat.le_refl _) _).trans hb1⟩

end Go.Proofs.YtnndlffidifddaaGreatDoor

/- Package value's order of any two values that can be is the plain order of their terms. -/
namespace Go.Proofs.YtnndlffidifddaaGreatDoor
open Go.RowKit

end Go.Proofs.YtnndlffidifddaaGreatDoor

/- value.termOf and value.entriesOf: the term of a value that can be, in new memory. -/
namespace Go.Proofs.YtnndlffidifddaaGreatDoor
open Go.RowKit

mutual
/-- a term without what plays no part -/
def Tm.clean : Tm → Tm
  | .mk k b i f tx by' rf l fs c v => .mk k (if k = 2 then b else false) (if k = 3 then i else 0) (if k = 4 then f else 0) (if k = 5 then tx else ByteArray.empty) (if k = 6 then by' else ByteArray.empty) (if k = 7 then rf else 0) (if k = 8 then l.clean else .nil) (if k = 9 ∨ k = 10 then fs.clean else .nil) (if k = 10 then c else ByteArray.empty) (if k = 10 then v else 0)
def TmL.clean : TmL → TmL
  | .nil => .nil
  | .cons t l => .cons t.clean l.clean
def TmF.clean : TmF → TmF
  | .nil => .nil
  | .cons n t l => .cons n t.clean l.clean
end
mutual
/-- numbers are in their bounds -/
def Tm.Bdd : Tm → Prop
  | .mk _ _ i f _ _ rf l fs _ v => (-9223372036854775808 ≤ i ∧ i ≤ 9223372036854775807) ∧ f < 18446744073709551616 ∧ (0 ≤ rf ∧ rf ≤ 18446744073709551615) ∧ (-9223372036854775808 ≤ v ∧ v ≤ 9223372036854775807) ∧ l.Bdd ∧ fs.Bdd
def TmL.Bdd : TmL → Prop
  | .nil => True
  | .cons t l => t.Bdd ∧ l.Bdd
def TmF.Bdd : TmF → Prop
  | .nil => True
  | .cons _ t l => t.Bdd ∧ l.Bdd
end
mutual
theorem Tm.In_bdd {w : World} {B : Nat → Prop} : (t : Tm) → ∀ cs, t.In w B cs → t.Bdd
  | .mk k b i f tx by' rf l fs c v, cs, h => by
    simp only [Tm.In] at h
    obtain ⟨ab, cb, al, cl, af, cf, rfl, hbd, hby, hl, hfs⟩ := h
    simp only [Tm.Bdd]
    exact ⟨⟨hbd.i0, hbd.i1⟩, hbd.f1, ⟨hbd.r0, hbd.r1⟩, ⟨hbd.v0, hbd.v1⟩, TmL.In_bdd l _ _ hl, TmF.In_bdd fs _ _ hfs⟩
theorem TmL.In_bdd {w : World} {B : Nat → Prop} : (l : TmL) → ∀ a j, l.In w B a j → l.Bdd
  | .nil, _, _, _ => trivial
  | .cons t l, a, j, h => by
    simp only [TmL.In] at h
    obtain ⟨_, _, _, _, _, _, ht, hl⟩ := h
    exact ⟨Tm.In_bdd t _ ht, TmL.In_bdd l _ _ hl⟩
theorem TmF.In_bdd {w : World} {B : Nat → Prop} : (l : TmF) → ∀ a j, l.In w B a j → l.Bdd
  | .nil, _, _, _ => trivial
  | .cons n t l, a, j, h => by
    simp only [TmF.In] at h
    obtain ⟨_, _, _, _, _, _, _, _, ht, hl⟩ := h
    exact ⟨Tm.In_bdd t _ ht, TmF.In_bdd l _ _ hl⟩
end
theorem TmL.clean_len : (l : TmL) → l.clean.len = l.len
  | .nil => rfl
  | .cons t l => by simp only [TmL.clean, TmL.len, TmL.clean_len l]
theorem TmF.clean_len : (l : TmF) → l.clean.len = l.len
  | .nil => rfl
  | .cons n t l => by simp only [TmF.clean, TmF.len, TmF.clean_len l]

end Go.Proofs.YtnndlffidifddaaGreatDoor


/- The document's reading of fields: what its loop carries. -/
import Derived.Test.YtmmiiapfefmcjaaJ23
import Derived.Test.YtmmiiapfefmcjaaJ7
import Derived.Deep.AppendSrc
import Derived.Deep.DeepAppendWide
namespace Go.Proofs.Ytmmiiapfefmcjaa
open Go.RowKit

theorem row12 {w1 : World} {g : Nat} {s z0 z1 z2 z3 z4 z5 z6 z7 z8 z9 z10 : Value} {t : TypeId} (h : w1.heap[g]? = some (.cells #[s, z0, z1, z2, z3, z4, z5, z6, z7, z8, z9, z10] t (0, 0))) (t0 t1 t2 t3 t4 t5 t6 t7 t8 t9 t10 : Value) : (setN w1 g 1 [t0, t1, t2, t3, t4, t5, t6, t7, t8, t9, t10]).heap[g]? = some (.cells #[s, t0, t1, t2, t3, t4, t5, t6, t7, t8, t9, t10] t (0, 0)) := by
  have h1 := heap_setCell_same _ g 1 _ _ t0 h
  have h2 := heap_setCell_same _ g 2 _ _ t1 h1
  have h3 := heap_setCell_same _ g 3 _ _ t2 h2
  have h4 := heap_setCell_same _ g 4 _ _ t3 h3
  have h5 := heap_setCell_same _ g 5 _ _ t4 h4
  have h6 := heap_setCell_same _ g 6 _ _ t5 h5
  have h7 := heap_setCell_same _ g 7 _ _ t6 h6
  have h8 := heap_setCell_same _ g 8 _ _ t7 h7
  have h9 := heap_setCell_same _ g 9 _ _ t8 h8
  have h10 := heap_setCell_same _ g 10 _ _ t9 h9
  have h11 := heap_setCell_same _ g 11 _ _ t10 h10
  simpa [setN] using h11
theorem RB.far {w wr wu : World} {a b c d e : Value} (h : RB w wr a b c d e) (hb : Below w.heap.size w wu) (hk : ∀ k, w.heap.size ≤ k → k < w.heap.size + 2 → wu.heap[k]? = wr.heap[k]?) : RB w wu a b c d e := by
  obtain ⟨z0, z1, z2, z3, z4, hr⟩ := h.res
  exact ⟨hb, by rw [hk _ (by omega) (by omega)]; exact h.box, z0, z1, z2, z3, z4, by rw [hk _ (by omega) (by omega)]; exact hr⟩
/-- what the loop over fields carries: the two boxes, and the row of the entries -/
structure QF (w wr : World) (a b c d e v : Value) (g j : Nat) (cs : List Value) : Prop where
  bx : RB w wr a b c d e
  own : wr.ownsRow (w.heap.size + 2) 83 12 v j cs
  blk : v.ownBlock = none ∨ v.ownBlock = some g
  lt : g < wr.heap.size
theorem QF.val {w wr : World} {a b c d e v : Value} {g j : Nat} {cs : List Value} (h : QF w wr a b c d e v g j cs) : ∃ al cl, v = .slice al j cl := by
  rcases h.own.2 with ⟨e, e0⟩ | ⟨g0, cap, cur, e, _⟩
  · exact ⟨none, 0, by rw [e, e0]⟩
  · exact ⟨_, _, e⟩
/-- an entry in the making: its box be was made behind wr; nothing else that was there has turned, but the reading -/
structure FE (w wr U : World) (a b c d e v : Value) (g j : Nat) (cs : List Value) (row : Array Value) : Prop where
  q : QF w U a b c d e v g j cs
  sz : wr.heap.size < U.heap.size
  far : ∀ k, k < wr.heap.size → k ≠ w.heap.size → U.heap[k]? = wr.heap[k]?
  row : U.heap[wr.heap.size]? = some (.cells row 83 (0, 0))
  two : w.heap.size + 2 ≤ wr.heap.size
theorem FE.new {w wr : World} {a b c d e v : Value} {g j : Nat} {cs : List Value} (h : QF w wr a b c d e v g j cs) (row : Array Value) : FE w wr (wr.alloc (.cells row 83)) a b c d e v g j cs row := by
  have hz := h.bx.lt
  refine ⟨⟨h.bx.call ((Below.refl _ _).alloc (Nat.le_refl _) _), owns_below ((Below.refl _ _).alloc (Nat.le_refl _) _) h.own, h.blk, by simp; have := h.lt; omega⟩, by simp, fun k hk _ => Below.heap_alloc _ _ _ hk, heap_alloc_new wr _, by omega⟩
theorem FE.call {w wr U w1 : World} {a b c d e v : Value} {g j : Nat} {cs : List Value} {row : Array Value} (h : FE w wr U a b c d e v g j cs row) (hb : Below U.heap.size U w1) : FE w wr w1 a b c d e v g j cs row :=
  ⟨⟨h.q.bx.call hb, owns_below hb h.q.own, h.q.blk, Nat.lt_of_lt_of_le h.q.lt hb.size⟩, Nat.lt_of_lt_of_le h.sz hb.size, fun k hk hn => by rw [hb.block k (Nat.lt_trans hk h.sz)]; exact h.far k hk hn, by rw [hb.block _ h.sz]; exact h.row, h.two⟩
theorem FE.put {w wr U : World} {a b c d e v : Value} {g j : Nat} {cs : List Value} {row : Array Value} (h : FE w wr U a b c d e v g j cs row) (a' b' c' d' e' : Value) : FE w wr (setN U w.heap.size 0 [a', b', c', d', e']) a' b' c' d' e' v g j cs row := by
  have h2 := h.two
  refine ⟨⟨h.q.bx.put a' b' c' d' e', owns_far h.q.own (fun g0 hg0 => ?_), h.q.blk, by rw [setN_size]; exact h.q.lt⟩, by rw [setN_size]; exact h.sz, fun k hk hn => by rw [setN_other hn]; exact h.far k hk hn, by rw [setN_other (by omega)]; exact h.row, h2⟩
  have := owns_at h.q.own g0 hg0
  rw [setN_other (by omega)]
/-- cells of the entry's own box are written -/
theorem FE.own {w wr U U' : World} {a b c d e v : Value} {g j : Nat} {cs : List Value} {row row' : Array Value} (h : FE w wr U a b c d e v g j cs row) (hg : v.ownBlock ≠ some wr.heap.size) (hz : U'.heap.size = U.heap.size) (hk : ∀ k, k ≠ wr.heap.size → U'.heap[k]? = U.heap[k]?) (hr : U'.heap[wr.heap.size]? = some (.cells row' 83 (0, 0))) (hb : Below w.heap.size w U') : FE w wr U' a b c d e v g j cs row' := by
  have h2 := h.two
  refine ⟨⟨h.q.bx.far hb (fun k _ hk2 => hk k (by omega)), owns_far h.q.own (fun g0 hg0 => hk g0 (fun e => hg (by rw [hg0, e]))), h.q.blk, by rw [hz]; exact h.q.lt⟩, by rw [hz]; exact h.sz, fun k hk1 hn => by rw [hk k (by omega)]; exact h.far k hk1 hn, hr, h2⟩
theorem QF.not {w wr : World} {a b c d e v : Value} {g j : Nat} {cs : List Value} (h : QF w wr a b c d e v g j cs) : v.ownBlock ≠ some wr.heap.size := fun hh => by have := (owns_at h.own _ hh).2; omega
theorem FE.name {w wr U : World} {a b c d e v : Value} {g j : Nat} {cs : List Value} {row : Array Value} (h : FE w wr U a b c d e v g j cs row) (hg : v.ownBlock ≠ some wr.heap.size) (x : Value) : FE w wr (U.setCell ⟨wr.heap.size, 0, none⟩ x) a b c d e v g j cs (row.setIfInBounds 0 x) := by
  have h2 := h.two
  refine h.own hg (by simp) (fun k hk => Below.heap_setCell _ _ _ _ (by simpa using hk)) (heap_setCell_same _ _ _ _ _ _ h.row) (h.q.bx.bel.setCell (by show w.heap.size ≤ wr.heap.size; omega) _)
theorem FE.rest {w wr U : World} {a b c d e v : Value} {g j : Nat} {cs : List Value} {s z0 z1 z2 z3 z4 z5 z6 z7 z8 z9 z10 : Value} (h : FE w wr U a b c d e v g j cs #[s, z0, z1, z2, z3, z4, z5, z6, z7, z8, z9, z10]) (hg : v.ownBlock ≠ some wr.heap.size) (t0 t1 t2 t3 t4 t5 t6 t7 t8 t9 t10 : Value) : FE w wr (setN U wr.heap.size 1 [t0, t1, t2, t3, t4, t5, t6, t7, t8, t9, t10]) a b c d e v g j cs #[s, t0, t1, t2, t3, t4, t5, t6, t7, t8, t9, t10] := by
  have h2 := h.two
  exact h.own hg (setN_size _ _ _) (fun k hk => setN_other hk _ _ _) (row12 h.row _ _ _ _ _ _ _ _ _ _ _) (setN_below (by omega) _ _ _ _ h.q.bx.bel)
/-- the entry was put behind the others -/
theorem FE.app {w wr U w3 : World} {a b c d e v : Value} {g j : Nat} {cs : List Value} {row : Array Value} (h : FE w wr U a b c d e v g j cs row) {o : Obj} {c1 : List Value} {g' cap' : Nat} (ho : w3.ownsRow (w.heap.size + 2) 83 12 (.slice (some ⟨g', 0, none⟩) (j + 1) cap') (j + 1) (cs ++ c1)) (hg : (U.alloc o).grownBy w3 v.ownBlock) (hor : v.ownBlock = some g' ∨ g' = U.heap.size + 1) :
    QF w w3 a b c d e (.slice (some ⟨g', 0, none⟩) (j + 1) cap') g' (j + 1) (cs ++ c1) ∧ (∀ k, w.heap.size + 2 ≤ k → k < U.heap.size → k ≠ g → w3.heap[k]? = U.heap[k]? ∧ k ≠ g') ∧ U.heap.size ≤ w3.heap.size := by
  have hz3 := hg.size
  simp at hz3
  have h2 := h.two
  have h1 := h.sz
  have hk : ∀ k, k < U.heap.size → some k ≠ v.ownBlock → w3.heap[k]? = U.heap[k]? := fun k hk hn => by rw [hg.block k (by simp; omega) hn, Below.heap_alloc _ _ _ hk]
  have hB : Below w.heap.size w w3 := ((h.q.bx.bel).alloc (by omega) o).grown hg (by simp; omega) (fun k e => by have := (owns_at h.q.own k e).1; omega)
  refine ⟨⟨h.q.bx.far hB (fun k _ hk4 => hk k (by omega) (fun e => by have := (owns_at h.q.own k e.symm).1; omega)), ho, .inr rfl, (ho.lt g' rfl).2⟩, fun k k1 k2 k3 => ⟨hk k k2 (fun e => by rcases h.q.blk with e' | e' <;> rw [e'] at e <;> simp at e; exact k3 e), ?_⟩, by omega⟩
  rintro rfl
  rcases hor with e | e
  · rcases h.q.blk with e' | e' <;> rw [e'] at e <;> simp at e
    exact k3 e.symm
  · omega
/-- what has been read of fields; ahead is the last name -/
def FI (xs : List Int) (start : Nat) (step : Nat → Nat → Rs (Tm × Nat)) (n a1 p len j aj pj qj : Nat) (erj : Int) (wr : World) (S : Nat → Prop) (ys : List (ByteArray × Array Value)) (ahead : List Int) : Prop :=
  (erj = 0 ∧ qj = 0 ∧ aj ≤ len ∧ (∀ L p2 a2, Sp.rdF xs start step n [] a1 p = .ok (L, p2) a2 → ∃ l, Sp.rdF xs start step (n - j) ahead aj pj = .ok (l, p2) a2 ∧ EPre wr S L ys l) ∧ (∀ q er, Sp.rdF xs start step n [] a1 p = .bad q er → Sp.rdF xs start step (n - j) ahead aj pj = .bad q er) ∧ ((j = 0 ∧ ahead = []) ∨ ∃ ys0 c0, ys = ys0 ++ [(Sp.txt ahead, c0)] ∧ c0.size = 11)) ∨ (erj ≠ 0 ∧ Sp.rdF xs start step n [] a1 p = .bad qj erj)
/-- what a field's reading came to -/
def FN (xs : List Int) (start : Nat) (step : Nat → Nat → Rs (Tm × Nat)) (len aj pj : Nat) (W w1 : World) (a2 p2 q : Nat) (er : Int) (sc : ByteArray) (cs : Array Value) (ahead nm : List Int) : Prop :=
  (er ≠ 0 ∧ (Sp.rdN xs aj start = .bad q er ∨ ∃ l a0, Sp.rdN xs aj start = .ok l a0 ∧ Sp.cmpS (Sp.txt l) (Sp.txt ahead) ≤ 0 ∧ q = start ∧ er = 8)) ∨ ∃ a0, Sp.rdN xs aj start = .ok nm a0 ∧ ¬ Sp.cmpS (Sp.txt nm) (Sp.txt ahead) ≤ 0 ∧ sc = Sp.txt nm ∧ cs.size = 11 ∧ TR step len a0 pj W w1 a2 p2 q er cs
theorem FI.next {xs : List Int} {start : Nat} {step : Nat → Nat → Rs (Tm × Nat)} {n a1 p len j aj pj qj : Nat} {erj : Int} {wr W w1 w' : World} {S S' : Nat → Prop} {ys : List (ByteArray × Array Value)} {ahead nm : List Int} {a2 p2 q : Nat} {er : Int} {sc : ByteArray} {cs : Array Value} (h : FI xs start step n a1 p len j aj pj qj erj wr S ys ahead) (he : erj = 0) (hj : j < n) (hT : FN xs start step len aj pj W w1 a2 p2 q er sc cs ahead nm)
    (hP : ∀ L l t, EPre wr S L ys (.cons sc t l) → sc.size ≤ 140737488355328 → t.In w1 (Fr W w1) cs → EPre w' S' L (ys ++ [(sc, cs)]) l) : FI xs start step n a1 p len (j + 1) a2 p2 q er w' S' (ys ++ [(sc, cs)]) nm := by
  rcases h with ⟨_, _, _, h4, h5, _⟩ | ⟨h, _⟩
  · have hm : n - j = (n - (j + 1)) + 1 := by omega
    have bad : ∀ q er, er ≠ 0 → Sp.rdF xs start step (n - j) ahead aj pj = .bad q er → FI xs start step n a1 p len (j + 1) a2 p2 q er w' S' (ys ++ [(sc, cs)]) nm := fun q er her hb => by
      refine .inr ⟨her, ?_⟩
      cases hr : Sp.rdF xs start step n [] a1 p with
      | ok x a3 =>
        obtain ⟨L, p3⟩ := x
        obtain ⟨l, hl, _⟩ := h4 L p3 a3 hr
        rw [hb] at hl; cases hl
      | bad q3 e3 => rw [← h5 q3 e3 hr, hb]
    rcases hT with ⟨her, hb | ⟨l, a0, hn, hc, rfl, rfl⟩⟩ | ⟨a0, hn, hc, rfl, hz, hT⟩
    · exact bad q er her (by rw [hm, Sp.rdF, hb])
    · exact bad _ _ her (by rw [hm, Sp.rdF, hn]; dsimp only; rw [if_pos hc])
    · have hsz : (Sp.txt nm).size ≤ 140737488355328 := by
        obtain ⟨m, b, _, hm32, _, rfl, _⟩ := rdN_ok hn
        rw [txt_size]; have := List.length_take_le m (xs.drop b); omega
      rcases hT with ⟨t, ht, hq, her, hle, hin⟩ | ⟨her, ht⟩
      · refine .inl ⟨her, hq, hle, fun L p3 a3 hr => ?_, fun q3 e3 hr => ?_, .inr ⟨ys, cs, rfl, hz⟩⟩
        · obtain ⟨l, hl, hp⟩ := h4 L p3 a3 hr
          rw [hm, Sp.rdF, hn] at hl
          dsimp only at hl
          rw [if_neg hc, ht] at hl
          dsimp only at hl
          split at hl
          · cases hl
          · rename_i l2 p4 a4 heq
            injection hl with e1 e2
            injection e1 with e1 e3
            subst e1 e2 e3
            exact ⟨l2, heq, hP L l2 t hp hsz hin⟩
        · have hl := h5 q3 e3 hr
          rw [hm, Sp.rdF, hn] at hl
          dsimp only at hl
          rw [if_neg hc, ht] at hl
          dsimp only at hl
          split at hl
          · rename_i q4 e4 heq
            injection hl with e1 e2
            subst e1 e2
            exact heq
          · cases hl
      · exact bad q er her (by rw [hm, Sp.rdF, hn]; dsimp only; rw [if_neg hc, ht])
  · exact absurd he h
/-- what a reading of fields tells -/
def FR (xs : List Int) (start : Nat) (step : Nat → Nat → Rs (Tm × Nat)) (n a1 p len : Nat) (w w' : World) (a2 p2 q : Nat) (er : Int) (al : Option Addr) (nl : Nat) : Prop :=
  (∃ L, Sp.rdF xs start step n [] a1 p = .ok (L, p2) a2 ∧ q = 0 ∧ er = 0 ∧ a2 ≤ len ∧ nl = L.len ∧ L.In w' (Fr w w') al 0) ∨ (er ≠ 0 ∧ Sp.rdF xs start step n [] a1 p = .bad q er)
theorem EPre.len {w : World} {S : Nat → Prop} : (L : TmF) → ∀ (ys : List (ByteArray × Array Value)) (l : TmF), EPre w S L ys l → L.len = ys.length + l.len ∧ (ecells ys).length = ys.length * 12
  | L, [], l, h => by have := (EPre_nil _ _).1 h; subst this; simp [ecells]
  | .nil, _ :: _, _, h => by simp [EPre] at h
  | .cons nm t L, y :: ys, l, h => by
    simp only [EPre] at h
    have ih := EPre.len L ys l h.2.2.2.2
    have e1 : ecells (y :: ys) = (.string y.1 :: y.2.toList) ++ ecells ys := by simp [ecells]
    refine ⟨by simp only [TmF.len, ih.1, List.length_cons]; omega, ?_⟩
    rw [e1, List.length_append, ih.2, List.length_cons, Array.length_toList, h.2.2.2.1, List.length_cons]; omega
theorem FI.fin {xs : List Int} {start : Nat} {step : Nat → Nat → Rs (Tm × Nat)} {n a1 p len j aj pj qj : Nat} {erj : Int} {w wr wu : World} {ys : List (ByteArray × Array Value)} {ahead : List Int} {a b c d e : Value} {al : Option Addr} {cl g : Nat} (hq : QF w wr a b c d e (.slice al j cl) g j (ecells ys)) (h : FI xs start step n a1 p len j aj pj qj erj wr (Own (w.heap.size + 2) wr g) ys ahead) (hend : erj ≠ 0 ∨ j = n) (hs : Same (fun k => w.heap.size + 2 ≤ k ∧ k < wr.heap.size) wr wu) (hz : wr.heap.size ≤ wu.heap.size) :
    FR xs start step n a1 p len w wu aj pj qj erj al j := by
  rcases h with ⟨h1, h2, h3, h4, h5, _⟩ | h
  · have hjn : j = n := by rcases hend with e | e; exact absurd h1 e; exact e
    subst hjn
    have hz0 : j - j = 0 := by omega
    rw [hz0] at h4 h5
    cases hr : Sp.rdF xs start step j [] a1 p with
    | bad q3 e3 => have := h5 q3 e3 hr; rw [Sp.rdF] at this; cases this
    | ok x a3 =>
      obtain ⟨L, p3⟩ := x
      obtain ⟨l, hl, hp⟩ := h4 L p3 a3 hr
      rw [Sp.rdF] at hl
      injection hl with e1 e2
      injection e1 with e1 e3
      subst e1 e2 e3
      have hlen : j = L.len := by
        have h6 := hq.own.1
        have h7 := EPre.len L ys .nil hp
        simp only [TmF.len, Nat.add_zero] at h7
        omega
      refine .inl ⟨L, hr ▸ rfl, h2, h1, h3, hlen, ?_⟩
      rcases hq.own.2 with ⟨e, e0⟩ | ⟨g0, cap, cur, e, hb0, _⟩
      · have : L = .nil := by cases L with
          | nil => rfl
          | cons m t l => simp [TmF.len] at hlen; omega
        subst this; exact trivial
      · injection e with e1 e2 e3
        subst e1
        have hown := hq.own
        have hp' := EPre.same (w' := wu) (S := Own (w.heap.size + 2) wr g) (S' := Own (w.heap.size + 2) wr g) (fun k hk => hs k ⟨hk.1, hk.2.1⟩) (fun _ h => h) L ys .nil hp
        refine EPre.done (B := Own (w.heap.size + 2) wr g) (fun k hk => ⟨by have := hk.1; omega, by have := hk.2.1; omega⟩) g0 ⟨by omega, by have := (hown.lt g0 rfl).2; omega⟩ L ys 0 hp' (fun i x hx => ?_)
        have h9 := hown.cells (g := g0) rfl i x hx
        rw [addr_add] at h9
        have h10 := World.cell?_of_block (w := wr) (w' := wu) (a := ⟨g0, i, none⟩) (hs g0 ⟨hb0, (hown.lt g0 rfl).2⟩)
        simp only [Nat.zero_mul, Nat.zero_add] at h9 ⊢
        rw [h10]; exact h9
  · exact .inr h
/-- where the last name lies -/
theorem QF.last {w wr : World} {a b c d e v : Value} {g j : Nat} {ys0 : List (ByteArray × Array Value)} {s : ByteArray} {c0 : Array Value} (h : QF w wr a b c d e v g j (ecells (ys0 ++ [(s, c0)]))) (hc : c0.size = 11) : ∃ g0 cap, v = .slice (some ⟨g0, 0, none⟩) j cap ∧ w.heap.size + 2 ≤ g0 ∧ g0 < wr.heap.size ∧ 0 < j ∧ wr.cell? ⟨g0, (j - 1) * 12, none⟩ = some (.string s) := by
  have e1 : ecells (ys0 ++ [(s, c0)]) = ecells ys0 ++ (.string s :: c0.toList) := by simp [ecells]
  have hl := h.own.1
  have hown := h.own
  rw [e1] at hl
  simp only [List.length_append, List.length_cons, Array.length_toList, hc] at hl
  rcases h.own.2 with ⟨ev, e0⟩ | ⟨g0, cap, cur, ev, hb0, _⟩
  · omega
  · subst ev
    have hl2 : (ecells ys0).length = (j - 1) * 12 := by omega
    refine ⟨g0, cap, rfl, hb0, (hown.lt g0 rfl).2, by omega, ?_⟩
    have h9 := hown.cells (g := g0) rfl ((j - 1) * 12) (.string s) (by rw [e1, List.getElem?_append_right (by omega)]; simp [hl2])
    rw [addr_add] at h9; simpa using h9
end Go.Proofs.Ytmmiiapfefmcjaa

/- 'append' of whatever source onto a row that the call itself made. -/
namespace Go.Proofs.Ytmmiiapfefmcjaa
open Go.RowKit

theorem run_app_src {P : Program} (w : World) (base : Nat) (t tx ty e : TypeId) (i : TypeInfo) (z : Value) (size bytes : Nat) (ht : P.underlying t = some (.slice e)) (hi : P.info? e = some i) (hz : i.zero = some z)
    (hsize : i.size = size) (hby : i.bytes = bytes) (hzs : z.cells.size = size) (g n cap : Nat) (xs : List Value) (hown : w.ownsRow base e size (.slice (some ⟨g, 0, none⟩) n cap) n xs)
    (x : Value) (m : Nat) (news : List Value) (hs : Src P size tx x m news w) (h63 : n + m ≤ maxLen) (hbytes : ((n + m) + (n + m) / 4 + 192) * bytes ≤ 281474976710656) (hbase : base ≤ w.heap.size) :
    ∃ g' cap' w', (Builtin.append_ #[t, tx] ty #[.slice (some ⟨g, 0, none⟩) n cap, x]).run P w = .ok (.slice (some ⟨g', 0, none⟩) (n + m) cap') w' ∧ w'.ownsRow base e size (.slice (some ⟨g', 0, none⟩) (n + m) cap') (n + m) (xs ++ news) ∧ w.grownBy w' (some g) ∧ (g' = g ∨ g' = w.heap.size) := by
  subst hsize
  subst hby
  have hlen : (xs ++ news).length = (n + m) * i.size := by rw [List.length_append, hown.1, hs.newsLen, Nat.add_mul]
  rcases hown.2 with ⟨e1, _⟩ | ⟨g1, cap1, cur, e1, hbg, hg, hnc, hcm, hcs, htake⟩
  · simp at e1
  simp only [Value.slice.injEq, Option.some.injEq, Addr.mk.injEq, and_true, true_and] at e1
  obtain ⟨rfl, rfl⟩ := e1
  by_cases hroom : n + m ≤ cap
  · have hfit : n * i.size + news.length ≤ cur.size := by rw [hs.newsLen, hcs, ← Nat.add_mul]; exact Nat.mul_le_mul_right _ hroom
    have hst := run_storeCells_at P g (n * i.size) e news 0 cur w hg (by simpa using hfit) hs.one
    simp only [Nat.add_zero] at hst
    have hr : (Builtin.append_ #[t, tx] ty #[.slice (some ⟨g, 0, none⟩) n cap, x]).run P w = .ok (.slice (some ⟨g, 0, none⟩) (n + m) cap) (w.setRow g (cur.toList.take (n * i.size) ++ news ++ cur.toList.drop (n * i.size + news.length)).toArray) := by
      rcases hs.kind with ⟨e', hk⟩ | hk <;> simp [Builtin.append_, run_underlying ht, run_underlying hk, sizeOf, typeInfo, hi, hs.len, hroom, hs.cells, Addr.add_lit, hst]
    refine ⟨g, cap, _, hr, ⟨hlen, .inr ⟨g, cap, _, rfl, hbg, setRow_heap w g cur _ e _ hg, hroom, hcm, ?_, ?_⟩⟩, ⟨rfl, rfl, rfl, by simp, fun k _ hk => setRow_other w g k _ (fun e => hk (by rw [e]))⟩, .inl rfl⟩
    · simp only [List.size_toArray, List.length_append, List.length_take, List.length_drop, Array.length_toList]
      omega
    · rw [htake, ← hlen]
      exact List.take_left
  · have holds : ∀ j u, xs[j]? = some u → w.cell? ((⟨g, 0, none⟩ : Addr).add j) = some u := hown.cells (g := g) rfl
    have hold : (Builtin.firstCells i.size n (.slice (some ⟨g, 0, none⟩) n cap)).run P w.drew = .ok xs.toArray w.drew := run_firstCells_some w.drew i.size n ⟨g, 0, none⟩ n cap xs hown.1 (by simpa using holds)
    have hr := run_append_grow_src (P := P) w t tx ty e i z ht hi hz (some ⟨g, 0, none⟩) n cap xs hold x m news hs (by omega) (by simp only [maxLen] at h63; omega) (growslice_fits_wide (by omega) hbytes)
    have hge := grownCap_ge w (n + m) cap e
    have hcm' : grownCap w (n + m) cap e ≤ maxLen := grownCap_le_maxLen w (n + m) cap e h63
    refine ⟨w.heap.size, _, _, hr, ⟨hlen, .inr ⟨w.heap.size, _, _, rfl, hbase, heap_alloc_new w.drew _, hge, hcm', ?_, ?_⟩⟩, ⟨rfl, rfl, rfl, by simp, fun k hk _ => heap_alloc_old w.drew _ hk⟩, .inr rfl⟩
    · simp only [Array.size_append, List.size_toArray, size_zeroCells, hzs, hlen, ← Nat.add_mul]
      congr 1
      omega
    · simp only [Array.toList_append]
      rw [← hlen]
      exact List.take_left
theorem wpList_app_src {P : Program} (w : World) {ops : Array Oper} {rest : List Oper} {o : Oper} {a : Act} {Q : Exit → Act → World → Prop} (hgd : o.guard = none) (s x : Operand) (t tx : TypeId)
    (ho : o.op = .call { callee := .builtin .append, args := #[s, x], argTypes := #[t, tx] })
    (base : Nat) (e : TypeId) (i : TypeInfo) (z : Value) (size bytes : Nat) (ht : P.underlying t = some (.slice e)) (hi : P.info? e = some i) (hz : i.zero = some z)
    (hsize : i.size = size) (hby : i.bytes = bytes) (hzs : z.cells.size = size) (g n cap : Nat) (xs : List Value) (hs : a.eval s = .slice (some ⟨g, 0, none⟩) n cap) (hown : w.ownsRow base e size (.slice (some ⟨g, 0, none⟩) n cap) n xs)
    (v : Value) (m : Nat) (news : List Value) (hx : a.eval x = v) (hsrc : Src P size tx v m news w) (h63 : n + m ≤ maxLen) (hbytes : ((n + m) + (n + m) / 4 + 192) * bytes ≤ 281474976710656) (hbase : base ≤ w.heap.size)
    (h : ∀ g' cap' w', w'.ownsRow base e size (.slice (some ⟨g', 0, none⟩) (n + m) cap') (n + m) (xs ++ news) → w.grownBy w' (some g) → (g' = g ∨ g' = w.heap.size) → wpList P ops Q rest (a.put o.dst (.slice (some ⟨g', 0, none⟩) (n + m) cap')) w') : wpList P ops Q (o :: rest) a w := by
  refine wpList_plain hgd fun K hK => ?_
  obtain ⟨g', cap', w', hr, h2, h3, h4⟩ := run_app_src (P := P) w base t tx o.type e i z size bytes ht hi hz hsize hby hzs g n cap xs hown v m news hsrc h63 hbytes hbase
  unfold Oper.wp execOp
  simp only [ho, resolve, invoke, builtin, Sem.run_bind, Sem.run_pure, Result.andThen_ok, List.map_toArray, List.map_cons, List.map_nil, hs, hx, hr]
  exact hK _ _ (h g' cap' w' h2 h3 h4)
end Go.Proofs.Ytmmiiapfefmcjaa


/- The document's reading of a value's body: a list. -/
import Derived.Test.YtmmiiapfefmcjaaJ19
import Derived.Test.YtmmiiapfefmcjaaJ22
namespace Go.Proofs.Ytmmiiapfefmcjaa
open Go.RowKit

/-- what a reading of one value tells -/
def TR (step : Nat → Nat → Rs (Tm × Nat)) (len at0 p0 : Nat) (W w' : World) (a2 p2 q : Nat) (er : Int) (cs : Array Value) : Prop :=
  (∃ t, step at0 p0 = .ok (t, p2) a2 ∧ q = 0 ∧ er = 0 ∧ a2 ≤ len ∧ t.In w' (Fr W w') cs) ∨ (er ≠ 0 ∧ step at0 p0 = .bad q er)
/-- what the loop over a list's parts carries: the four boxes, and the row of the terms -/
structure QB (w wr : World) (X : Array Value) (v : Value) (g j : Nat) (cs : List Value) : Prop where
  bx : R4 w wr X #[.int .i64 8, .bool false, .int .i64 0, .float .f64 0, .string ⟨#[]⟩, .slice none 0 0, .int .u64 0, v, .slice none 0 0, .string ⟨#[]⟩, .int .i64 0] #[.slice none 0 0, .int .i64 0, .int .i64 0, .int .i64 0, .int .i64 0] #[.int .i64 0, .bool false, .int .i64 0, .float .f64 0, .string ⟨#[]⟩, .slice none 0 0, .int .u64 0, .slice none 0 0, .slice none 0 0, .string ⟨#[]⟩, .int .i64 0]
  own : wr.ownsRow (w.heap.size + 4) 29 11 v j cs
  blk : v.ownBlock = none ∨ v.ownBlock = some g
  lt : g < wr.heap.size
/-- what has been read of a list -/
def LI (step : Nat → Nat → Rs (Tm × Nat)) (n a1 p len j aj pj qj : Nat) (erj : Int) (wr : World) (S : Nat → Prop) (ys : List (Array Value)) : Prop :=
  (erj = 0 ∧ qj = 0 ∧ aj ≤ len ∧ (∀ L p2 a2, Sp.rdL step n a1 p = .ok (L, p2) a2 → ∃ l, Sp.rdL step (n - j) aj pj = .ok (l, p2) a2 ∧ TPre wr S L ys l) ∧ (∀ q er, Sp.rdL step n a1 p = .bad q er → Sp.rdL step (n - j) aj pj = .bad q er)) ∨ (erj ≠ 0 ∧ Sp.rdL step n a1 p = .bad qj erj)
theorem owns_far {w w' : World} {base : Nat} {e : TypeId} {size : Nat} {v : Value} {n : Nat} {xs : List Value} (h : w.ownsRow base e size v n xs) (hk : ∀ g, v.ownBlock = some g → w'.heap[g]? = w.heap[g]?) : w'.ownsRow base e size v n xs := by
  refine ⟨h.1, ?_⟩
  rcases h.2 with hh | ⟨g, cap, cur, rfl, hb, hc, h3⟩
  · exact .inl hh
  · exact .inr ⟨g, cap, cur, rfl, hb, by rw [hk g rfl]; exact hc, h3⟩
theorem owns_at {w : World} {base : Nat} {e : TypeId} {size : Nat} {v : Value} {n : Nat} {xs : List Value} (h : w.ownsRow base e size v n xs) (g : Nat) (hg : v.ownBlock = some g) : base ≤ g ∧ g < w.heap.size := h.lt g hg
theorem R4.far {w wr wu : World} {X T Y Z : Array Value} (h : R4 w wr X T Y Z) (hb : Below w.heap.size w wu) (hk : ∀ k, w.heap.size ≤ k → k < w.heap.size + 4 → wu.heap[k]? = wr.heap[k]?) : R4 w wu X T Y Z :=
  ⟨hb, by rw [hk _ (by omega) (by omega)]; exact h.box, by rw [hk _ (by omega) (by omega)]; exact h.tbx, by rw [hk _ (by omega) (by omega)]; exact h.res, by rw [hk _ (by omega) (by omega)]; exact h.ter⟩
theorem R4.size {w wr : World} {X T Y Z : Array Value} (h : R4 w wr X T Y Z) : w.heap.size + 4 ≤ wr.heap.size := by have := lt_row h.ter; omega
theorem QB.val {w wr : World} {X : Array Value} {v : Value} {g j : Nat} {cs : List Value} (h : QB w wr X v g j cs) : ∃ al cl, v = .slice al j cl := by
  rcases h.own.2 with ⟨e, e0⟩ | ⟨g0, cap, cur, e, _⟩
  · exact ⟨none, 0, by rw [e, e0]⟩
  · exact ⟨_, _, e⟩
theorem QB.drew {w wr : World} {X : Array Value} {v : Value} {g j : Nat} {cs : List Value} (h : QB w wr X v g j cs) : QB w wr.drew X v g j cs := ⟨h.bx.drew, h.own, h.blk, h.lt⟩
/-- a part was put behind the others -/
theorem QB.app {w U w3 : World} {X : Array Value} {v : Value} {g j : Nat} {cs : List Value} (h : QB w U X v g j cs) {o : Obj} {c1 : List Value} {g' cap' : Nat} (ho : w3.ownsRow (w.heap.size + 4) 29 11 (.slice (some ⟨g', 0, none⟩) (j + 1) cap') (j + 1) (cs ++ c1)) (hg : (U.alloc o).grownBy w3 v.ownBlock) (hor : v.ownBlock = some g' ∨ g' = U.heap.size + 1) (hlt : g' < w3.heap.size) :
    (QB w (w3.setCell ⟨w.heap.size + 1, 7, none⟩ (.slice (some ⟨g', 0, none⟩) (j + 1) cap')) X (.slice (some ⟨g', 0, none⟩) (j + 1) cap') g' (j + 1) (cs ++ c1)) ∧ (∀ k, w.heap.size + 4 ≤ k → k < U.heap.size → k ≠ g → (w3.setCell ⟨w.heap.size + 1, 7, none⟩ (.slice (some ⟨g', 0, none⟩) (j + 1) cap')).heap[k]? = U.heap[k]? ∧ k ≠ g') ∧ U.heap.size ≤ (w3.setCell ⟨w.heap.size + 1, 7, none⟩ (.slice (some ⟨g', 0, none⟩) (j + 1) cap')).heap.size ∧ (w3.cell? ⟨w.heap.size + 1, 7, none⟩ = some v ∧ w3.frozen? ⟨w.heap.size + 1, 7, none⟩ = false) := by
  have hz0 := h.bx.size
  have hz3 := hg.size
  simp at hz3
  have hgl := h.lt
  have hne : ∀ k, k < w.heap.size + 4 → some k ≠ v.ownBlock := fun k hk e => by have := (owns_at h.own k e.symm).1; omega
  have hk : ∀ k, k < U.heap.size → some k ≠ v.ownBlock → w3.heap[k]? = U.heap[k]? := fun k hk hn => by rw [hg.block k (by simp; omega) hn, Below.heap_alloc _ _ _ hk]
  have hB : Below w.heap.size w w3 := ((h.bx.bel).alloc (by omega) o).grown hg (by simp; omega) (fun k e => by have := (owns_at h.own k e).1; omega)
  have h4 : R4 w w3 X #[.int .i64 8, .bool false, .int .i64 0, .float .f64 0, .string ⟨#[]⟩, .slice none 0 0, .int .u64 0, v, .slice none 0 0, .string ⟨#[]⟩, .int .i64 0] #[.slice none 0 0, .int .i64 0, .int .i64 0, .int .i64 0, .int .i64 0] #[.int .i64 0, .bool false, .int .i64 0, .float .f64 0, .string ⟨#[]⟩, .slice none 0 0, .int .u64 0, .slice none 0 0, .slice none 0 0, .string ⟨#[]⟩, .int .i64 0] := h.bx.far hB (fun k _ hk4 => hk k (by omega) (hne k hk4))
  have h5 := h4.set 7 (.slice (some ⟨g', 0, none⟩) (j + 1) cap')
  have hszc : (w3.setCell ⟨w.heap.size + 1, 7, none⟩ (.slice (some ⟨g', 0, none⟩) (j + 1) cap')).heap.size = w3.heap.size := by simp
  have hge := (ho.lt g' rfl).1
  refine ⟨⟨h5, owns_far ho (fun g0 hg0 => ?_), .inr rfl, by rw [hszc]; exact hlt⟩, fun k h1 h2 h3 => ⟨?_, ?_⟩, by rw [hszc]; omega, ?_, ?_⟩
  · simp only [Value.ownBlock, Option.some.injEq] at hg0
    rw [heap_setCell_other _ _ _ _ (by show g0 ≠ w.heap.size + 1; omega)]
  · rw [heap_setCell_other _ _ _ _ (by show k ≠ w.heap.size + 1; omega)]
    exact hk k h2 (fun e => by rcases h.blk with e' | e' <;> rw [e'] at e <;> simp at e; exact h3 e)
  · rintro rfl
    rcases hor with e | e
    · rcases h.blk with e' | e' <;> rw [e'] at e <;> simp at e
      exact h3 e.symm
    · omega
  · rw [cell_of_row _ _ 7 _ _ _ h4.tbx]; rfl
  · exact frozen_of_row _ _ 7 _ _ h4.tbx
/-- one more part was read -/
theorem LI.next {step : Nat → Nat → Rs (Tm × Nat)} {n a1 p len j aj pj qj : Nat} {erj : Int} {wr W w1 w' : World} {S S' : Nat → Prop} {ys : List (Array Value)} {a2 p2 q : Nat} {er : Int} {cs : Array Value} (h : LI step n a1 p len j aj pj qj erj wr S ys) (he : erj = 0) (hj : j < n) (hT : TR step len aj pj W w1 a2 p2 q er cs)
    (hP : ∀ L l t, TPre wr S L ys (.cons t l) → t.In w1 (Fr W w1) cs → TPre w' S' L (ys ++ [cs]) l) : LI step n a1 p len (j + 1) a2 p2 q er w' S' (ys ++ [cs]) := by
  rcases h with ⟨_, _, _, h4, h5⟩ | ⟨h, _⟩
  · have hm : n - j = (n - (j + 1)) + 1 := by omega
    rcases hT with ⟨t, ht, hq, her, hle, hin⟩ | ⟨her, ht⟩
    · refine .inl ⟨her, hq, hle, fun L p3 a3 hr => ?_, fun q3 e3 hr => ?_⟩
      · obtain ⟨l, hl, hp⟩ := h4 L p3 a3 hr
        rw [hm, Sp.rdL, ht] at hl
        dsimp only at hl
        split at hl
        · cases hl
        · rename_i l2 p4 a4 heq
          injection hl with e1 e2
          injection e1 with e1 e3
          subst e1 e2 e3
          exact ⟨l2, heq, hP L l2 t hp hin⟩
      · have hl := h5 q3 e3 hr
        rw [hm, Sp.rdL, ht] at hl
        dsimp only at hl
        split at hl
        · rename_i q4 e4 heq
          injection hl with e1 e2
          subst e1 e2
          exact heq
        · cases hl
    · refine .inr ⟨her, ?_⟩
      have hb : Sp.rdL step (n - j) aj pj = .bad q er := by rw [hm, Sp.rdL, ht]
      cases hr : Sp.rdL step n a1 p with
      | ok x a3 =>
        obtain ⟨L, p3⟩ := x
        obtain ⟨l, hl, _⟩ := h4 L p3 a3 hr
        rw [hb] at hl; cases hl
      | bad q3 e3 => rw [← h5 q3 e3 hr, hb]
  · exact absurd he h
/-- what a reading of a list tells -/
def LR (step : Nat → Nat → Rs (Tm × Nat)) (n a1 p len : Nat) (w w' : World) (a2 p2 q : Nat) (er : Int) (al : Option Addr) (nl : Nat) : Prop :=
  (∃ L, Sp.rdL step n a1 p = .ok (L, p2) a2 ∧ q = 0 ∧ er = 0 ∧ a2 ≤ len ∧ nl = L.len ∧ L.In w' (Fr w w') al 0) ∨ (er ≠ 0 ∧ Sp.rdL step n a1 p = .bad q er)
theorem TPre.cells {w : World} {S : Nat → Prop} : (L : TmL) → ∀ (ys : List (Array Value)) (l : TmL), TPre w S L ys l → (ys.flatMap (·.toList)).length = ys.length * 11
  | L, [], l, h => by simp
  | .nil, _ :: _, _, h => by simp [TPre] at h
  | .cons t L, y :: ys, l, h => by
    simp only [TPre] at h
    have := TPre.cells L ys l h.2.2
    simp only [List.flatMap_cons, List.length_append, this, List.length_cons, Array.length_toList, h.2.1]; omega
theorem TPre.len {w : World} {S : Nat → Prop} : (L : TmL) → ∀ (ys : List (Array Value)) (l : TmL), TPre w S L ys l → L.len = ys.length + l.len
  | L, [], l, h => by have := (TPre_nil _ _).1 h; subst this; simp
  | .nil, _ :: _, _, h => by simp [TPre] at h
  | .cons t L, y :: ys, l, h => by
    simp only [TPre] at h
    simp only [TmL.len, TPre.len L ys l h.2.2, List.length_cons]; omega
theorem LI.fin {step : Nat → Nat → Rs (Tm × Nat)} {n a1 p len j aj pj qj : Nat} {erj : Int} {w wr wu : World} {ys : List (Array Value)} {X : Array Value} {al : Option Addr} {cl g : Nat} (hq : QB w wr X (.slice al j cl) g j (ys.flatMap (·.toList))) (h : LI step n a1 p len j aj pj qj erj wr (Own (w.heap.size + 4) wr g) ys) (hend : erj ≠ 0 ∨ j = n) (hs : Same (fun k => w.heap.size + 4 ≤ k ∧ k < wr.heap.size) wr wu) (hz : wr.heap.size ≤ wu.heap.size) :
    LR step n a1 p len w wu aj pj qj erj al j := by
  rcases h with ⟨h1, h2, h3, h4, h5⟩ | h
  · have hjn : j = n := by rcases hend with e | e; exact absurd h1 e; exact e
    subst hjn
    have hz0 : j - j = 0 := by omega
    rw [hz0] at h4 h5
    cases hr : Sp.rdL step j a1 p with
    | bad q3 e3 => have := h5 q3 e3 hr; rw [Sp.rdL] at this; cases this
    | ok x a3 =>
      obtain ⟨L, p3⟩ := x
      obtain ⟨l, hl, hp⟩ := h4 L p3 a3 hr
      rw [Sp.rdL] at hl
      injection hl with e1 e2
      injection e1 with e1 e3
      subst e1 e2 e3
      have hlen : j = L.len := by
        have h6 := hq.own.1
        have h7 := TPre.len L ys .nil hp
        have h8 := TPre.cells L ys .nil hp
        simp only [TmL.len, Nat.add_zero] at h7
        rw [h8, h7.symm] at h6
        omega
      refine .inl ⟨L, hr ▸ rfl, h2, h1, h3, hlen, ?_⟩
      rcases hq.own.2 with ⟨e, e0⟩ | ⟨g0, cap, cur, e, hb0, _⟩
      · have : L = .nil := by cases L with
          | nil => rfl
          | cons t l => simp [TmL.len] at hlen; omega
        subst this; exact trivial
      · injection e with e1 e2 e3
        subst e1
        have hown := hq.own
        refine TPre.done (B := Own (w.heap.size + 4) wr g) (fun k hk => hs k ⟨hk.1, hk.2.1⟩) (fun k hk => ⟨by have := hk.1; omega, by have := hk.2.1; omega⟩) g0 ⟨by omega, by have := (hown.lt g0 rfl).2; omega⟩ L ys 0 hp (fun i x hx => ?_)
        have h9 := hown.cells (g := g0) rfl i x hx
        rw [addr_add] at h9
        have h10 := World.cell?_of_block (w := wr) (w' := wu) (a := ⟨g0, i, none⟩) (hs g0 ⟨hb0, (hown.lt g0 rfl).2⟩)
        simp only [Nat.zero_mul, Nat.zero_add] at h9 ⊢
        rw [h10]; exact h9
  · exact .inr h
end Go.Proofs.Ytmmiiapfefmcjaa


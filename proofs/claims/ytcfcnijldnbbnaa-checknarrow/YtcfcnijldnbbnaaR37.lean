/- What a value uses holds cells; a dict's fields that are being filled out of older ones, in a loop over an iterator. -/
import Derived.Test.YtcfcnijldnbbnaaR36
import Derived.Test.YtcfcnijldnbbnaaR32
import Derived.RangeFuncBox
import Derived.Test.YtcfcnijldnbbnaaR33
namespace Go.Proofs.Ytcfcnijldnbbnaa
open Go.RowKit Go.Shelf

/-- a block that holds cells -/
def Cl (w : World) (k : Nat) : Prop := ∃ c t z, w.heap[k]? = some (.cells c t z)
theorem Cl.of_cell {w : World} {p : Addr} {v : Value} (h : w.cell? p = some v) : Cl w p.block := by
  unfold World.cell? at h
  split at h
  · rename_i c t z e; exact ⟨c, t, z, e⟩
  · cases h
theorem Cl.lt {w : World} {k : Nat} (h : Cl w k) : k < w.heap.size := by
  obtain ⟨c, t, z, e⟩ := h
  exact (Array.getElem?_eq_some_iff.1 e).1
def AndC (w : World) (B : Nat → Prop) : Nat → Prop := fun k => B k ∧ Cl w k
theorem Ln.cells {w : World} {B : Nat → Prop} {e : TypeId} {size : Nat} {a : Option Addr} {n cap : Nat} (h : Ln w B e size a n cap) : Ln w (AndC w B) e size a n cap := by
  obtain ⟨h1, ⟨xs, h2, h3⟩, h4⟩ := h
  refine ⟨h1, ⟨xs, h2, h3⟩, fun g o p q => ⟨h4 g o p q, ?_⟩⟩
  rcases h3 with ⟨h3, -⟩ | ⟨g', cap', cur, e1, e2, e3, r⟩
  · rw [q] at h3; injection h3 with h3; cases h3
  · rw [q] at e1; injection e1 with e1; injection e1 with e1; injection e1 with e1 _ _; subst e1; exact ⟨_, _, _, e3⟩
theorem BytesAt.cells {w : World} {B : Nat → Prop} {a : Option Addr} {l : ByteArray} (h : BytesAt w B a l) : BytesAt w (AndC w B) a l := fun j hj => by
  obtain ⟨g, o, e, hg, hc⟩ := h j hj
  exact ⟨g, o, e, ⟨hg, Cl.of_cell hc⟩, hc⟩
mutual
theorem Tm.V_cells {w : World} {B : Nat → Prop} : (t : Tm) → ∀ v, t.V w B v → t.V w (AndC w B) v
  | .mk k b i f tx by' rf l fs c vr, v, h => by
    simp only [Tm.V] at h ⊢
    obtain ⟨h1, h2, h3, h4, h5, h6, h7, h8, h9, h10, h11, h12⟩ := h
    refine ⟨h1, h2, h3, h4, h5, ?_, h7, ?_, ?_, ?_, h11, h12⟩
    · intro hk; obtain ⟨a, cap, e, hm, hb⟩ := h6 hk; exact ⟨a, cap, e, hm.cells, hb.cells⟩
    · intro hk; obtain ⟨a, cap, e, hm, hb⟩ := h8 hk; exact ⟨a, cap, e, hm.cells, TmL.V_cells l _ _ hb⟩
    · intro hk; obtain ⟨a, cap, e, hm, hb⟩ := h9 hk; exact ⟨a, cap, e, hm.cells, TmF.V_cells fs _ _ hb⟩
    · intro hk
      obtain ⟨g, a, cap, e, hg, c0, c1, c2, hc, hm, hb⟩ := h10 hk
      exact ⟨g, a, cap, e, ⟨hg, Cl.of_cell c0⟩, c0, c1, c2, hc, hm.cells, TmF.V_cells fs _ _ hb⟩
theorem TmL.V_cells {w : World} {B : Nat → Prop} : (l : TmL) → ∀ a j, l.V w B a j → l.V w (AndC w B) a j
  | .nil, _, _, _ => by simp [TmL.V]
  | .cons t l, a, j, h => by
    simp only [TmL.V] at h ⊢
    obtain ⟨g, o, v, e, hg, hc, ht, hl⟩ := h
    exact ⟨g, o, v, e, ⟨hg, Cl.of_cell hc⟩, hc, Tm.V_cells t _ ht, TmL.V_cells l _ _ hl⟩
theorem TmF.V_cells {w : World} {B : Nat → Prop} : (l : TmF) → ∀ a j, l.V w B a j → l.V w (AndC w B) a j
  | .nil, _, _, _ => by simp [TmF.V]
  | .cons n t l, a, j, h => by
    simp only [TmF.V] at h ⊢
    obtain ⟨g, o, v, e, hg, hc, hd, hn, ht, hl⟩ := h
    exact ⟨g, o, v, e, ⟨hg, Cl.of_cell hc⟩, hc, hd, hn, Tm.V_cells t _ ht, TmF.V_cells l _ _ hl⟩
end
theorem FPre.cells {w : World} {S : Nat → Prop} : (L : TmF) → ∀ xs l, FPre w S L xs l → FPre w (AndC w S) L xs l
  | L, [], l, h => (FPre_nil L l).2 ((FPre_nil L l).1 h)
  | .nil, x :: xs, l, h => by cases xs <;> simp [FPre] at h
  | .cons n t L, [x], l, h => by simp [FPre] at h
  | .cons n t L, y :: x :: xs, l, h => by
    simp only [FPre] at h ⊢
    exact ⟨h.1, h.2.1, t.V_cells x h.2.2.1, FPre.cells L xs l h.2.2.2⟩
theorem FPre.room {w : World} {S : Nat → Prop} (r : TmF) : (L : TmF) → ∀ xs, FPre w S L xs .nil → FPre w S (L.app r) xs r
  | .nil, [], _ => (FPre_nil _ _).2 rfl
  | .cons n t L, [], h => by have := (FPre_nil _ _).1 h; cases this
  | .nil, x :: xs, h => by cases xs <;> simp [FPre] at h
  | .cons n t L, [x], h => by simp [FPre] at h
  | .cons n t L, y :: x :: xs, h => by
    simp only [FPre, TmF.app] at h ⊢
    exact ⟨h.1, h.2.1, h.2.2.1, FPre.room r L xs h.2.2.2⟩
theorem FPre.len2 {w : World} {S : Nat → Prop} : (L : TmF) → ∀ xs, FPre w S L xs .nil → L.len * 2 = xs.length
  | .nil, [], _ => rfl
  | .cons n t L, [], h => by have := (FPre_nil _ _).1 h; cases this
  | .nil, x :: xs, h => by cases xs <;> simp [FPre] at h
  | .cons n t L, [x], h => by simp [FPre] at h
  | .cons n t L, y :: x :: xs, h => by
    simp only [FPre] at h
    have := FPre.len2 L xs h.2.2.2
    simp [TmF.len]; omega

/-- the old blocks, and those from h9 on, but for the row's own -/
def SX (B h9 : Nat) (wr : World) (g : Nat) : Nat → Prop := fun k => (k < B ∨ (h9 ≤ k ∧ k < wr.heap.size)) ∧ k ≠ g
/-- the fields so far lie in the row of block g -/
structure NF (A : TmF) (B h3 h9 : Nat) (wr : World) (j g cap : Nat) (xs : List Value) : Prop where
  own : wr.ownsRow h3 55 2 (.slice (some ⟨g, 0, none⟩) j cap) j xs
  pre : FPre wr (SX B h9 wr g) A xs .nil
  here : (g = h3 ∨ h9 ≤ g) ∧ g < wr.heap.size
theorem NF.cl {A : TmF} {B h3 h9 : Nat} {wr : World} {j g cap : Nat} {xs : List Value} (h : NF A B h3 h9 wr j g cap xs) : Cl wr g := by
  obtain ⟨-, ⟨q, -⟩ | ⟨g', cap', cur, e1, e2, e3, r⟩⟩ := h.own
  · injection q with q; cases q
  · injection e1 with e1; injection e1 with e1; injection e1 with e1 _ _; subst e1; exact ⟨_, _, _, e3⟩
theorem NF.keep {A : TmF} {B h3 h9 : Nat} {wr w2 : World} {j g cap : Nat} {xs : List Value} (h : NF A B h3 h9 wr j g cap xs) (hz : wr.heap.size ≤ w2.heap.size) (hk : ∀ k, (k < B ∨ k = h3 ∨ h9 ≤ k) → Cl wr k → w2.heap[k]? = wr.heap[k]?) : NF A B h3 h9 w2 j g cap xs := by
  refine ⟨?_, ?_, h.here.1, by have := h.here.2; omega⟩
  · have hg : w2.heap[g]? = wr.heap[g]? := hk g (.inr h.here.1) h.cl
    obtain ⟨q0, q | ⟨g', cap', cur, e1, e2, e3, r⟩⟩ := h.own
    · exact ⟨q0, .inl q⟩
    · have e4 : g = g' := by injection e1 with e1; injection e1 with e1; injection e1
      subst e4
      exact ⟨q0, .inr ⟨g, cap', cur, e1, e2, hg.trans e3, r⟩⟩
  · refine FPre.same (S := AndC wr (SX B h9 wr g)) (fun k q => hk k ?_ q.2) (fun k q => ⟨?_, q.1.2⟩) A xs _ (FPre.cells A xs _ h.pre)
    · rcases q.1.1 with q1 | q1
      · exact .inl q1
      · exact .inr (.inr q1.1)
    · rcases q.1.1 with q1 | q1
      · exact .inl q1
      · exact .inr ⟨q1.1, by omega⟩
theorem NF.grown {A : TmF} {B h3 h9 : Nat} {wr w2 : World} {row : Option Nat} {j g cap : Nat} {xs : List Value} (h : NF A B h3 h9 wr j g cap xs) (hg : wr.grownBy w2 row) (hr : ∀ r, row = some r → ∃ o : Obj, wr.heap[r]? = some o ∧ o.isCells = false) : NF A B h3 h9 w2 j g cap xs :=
  h.keep hg.size fun k _ hc => hg.block k hc.lt fun e => by
    obtain ⟨o, h1, h2⟩ := hr k e.symm
    obtain ⟨c, t, z, h3⟩ := hc
    rw [h3] at h1; cases h1; cases h2
theorem NF.call {A : TmF} {B h3 h9 : Nat} {wr w2 : World} {j g cap : Nat} {xs : List Value} (h : NF A B h3 h9 wr j g cap xs) (hb : Below wr.heap.size wr w2) : NF A B h3 h9 w2 j g cap xs := h.keep hb.size fun k _ hc => hb.block k hc.lt
theorem NF.step {A : TmF} {B h3 h9 : Nat} {wr w3 : World} {j g cap : Nat} {xs : List Value} {T : Nat → Prop} {m : ByteArray} {y : Tm} {x : Value} {g' cap' : Nat} (hB : B ≤ h9) (h9w : h9 ≤ wr.heap.size) (h : NF A B h3 h9 wr j g cap xs) (hm : m.size ≤ maxLen) (hx : y.V wr T x) (hT : ∀ k, T k → SX B h9 wr g k)
    (ho : w3.ownsRow h3 55 2 (.slice (some ⟨g', 0, none⟩) (j + 1) cap') (j + 1) (xs ++ [.string m, x])) (hg : wr.grownBy w3 (some g)) (hor : some g = some g' ∨ g' = wr.heap.size) : NF (A.app (.cons m y .nil)) B h3 h9 w3 (j + 1) g' cap' (xs ++ [.string m, x]) := by
  have hz := hg.size
  have hlt := ho.lt g' rfl
  have hlow : ∀ k, SX B h9 wr g k → k < wr.heap.size := fun k hk => by
    rcases hk.1 with h1 | h1
    · omega
    · exact h1.2
  have hS : Same (SX B h9 wr g) wr w3 := fun k hk => hg.block k (hlow k hk) (by simpa using hk.2)
  have hU : ∀ k, SX B h9 wr g k → SX B h9 w3 g' k := fun k hk => by
    refine ⟨?_, fun e => ?_⟩
    · rcases hk.1 with h1 | h1
      · exact .inl h1
      · exact .inr ⟨h1.1, by omega⟩
    · rcases hor with e' | e'
      · injection e' with e'; exact hk.2 (by omega)
      · have := hlow k hk; omega
  refine ⟨ho, FPre.snoc _ xs m y .nil x (FPre.same hS hU _ xs _ (FPre.room _ A xs h.pre)) hm (y.V_same (fun k hk => hS k (hT k hk)) (fun k hk => hU k (hT k hk)) x hx), ?_, hlt.2⟩
  rcases hor with e | e
  · injection e with e; rw [← e]; exact h.here.1
  · exact .inr (by omega)
theorem NF.done {A : TmF} {B h3 h9 : Nat} {wr : World} {j g cap : Nat} {xs : List Value} (h39 : h3 ≤ h9) (h : NF A B h3 h9 wr j g cap xs) : j = A.len ∧ A.LV wr (fun k => k < B ∨ (h3 ≤ k ∧ k < wr.heap.size)) (some ⟨g, 0, none⟩) cap := by
  have hj : j = A.len := by
    have h1 := FPre.len2 A xs h.pre
    have h2 := h.own.1
    omega
  have hgl := h.here
  have hg : h3 ≤ g ∧ g < wr.heap.size := ⟨by omega, hgl.2⟩
  refine ⟨hj, ?_⟩
  subst hj
  refine ⟨Ln.of h.own (fun g' o p e => by injection e with e; injection e with e; subst e; exact .inr hg), ?_⟩
  refine FPre.done (S := SX B h9 wr g) (fun k hk => ?_) g (.inr hg) A xs 0 h.pre ?_
  · rcases hk.1 with h1 | h1
    · exact .inl h1
    · exact .inr ⟨by omega, h1.2⟩
  · intro i x hi
    have := h.own.cells (g := g) rfl i x hi
    rw [Nat.zero_mul, Nat.zero_add]
    have e : (⟨g, 0, none⟩ : Addr).add i = ⟨g, i, none⟩ := by
      unfold Addr.add; split
      · rename_i h0; rw [h0]
      · simp
    rw [e] at this; exact this
theorem NF.start {B h3 h9 : Nat} {wr : World} (h : wr.heap[h3]? = some (.cells #[] 55 (0, 0))) : NF .nil B h3 h9 wr 0 h3 0 [] :=
  ⟨⟨rfl, .inr ⟨h3, 0, #[], rfl, Nat.le_refl _, h, Nat.le_refl _, by simp [maxLen], rfl, rfl⟩⟩, (FPre_nil _ _).2 rfl, .inl rfl, (Array.getElem?_eq_some_iff.1 h).1⟩
end Go.Proofs.Ytcfcnijldnbbnaa

/- check.narrowDict: a dict as far as its fields are of a dict's type. -/
namespace Go.Proofs.Ytcfcnijldnbbnaa
open Go.RowKit Go.Shelf

theorem TyL.get_narFns : (l : TyL) → ∀ j t, l.get j = some t → l.narFns[j]? = some t.nar
  | .nil, j, t, h => by simp [TyL.get] at h
  | .cons u l, 0, t, h => by simp [TyL.get] at h; subst h; rfl
  | .cons u l, j + 1, t, h => by simp only [TyL.narFns]; exact TyL.get_narFns l j t h

theorem TmF.V_name : (l : TmF) → ∀ {w : World} {B : Nat → Prop} {a : Option Addr} {k j : Nat} {n : ByteArray}, l.V w B a k → l.names[j]? = some n → n.size ≤ maxLen
  | .nil, w, B, a, k, j, n, _, h => by simp [TmF.names] at h
  | .cons m x l, w, B, a, k, 0, n, hV, h => by
    simp only [TmF.V] at hV
    obtain ⟨_, _, _, _, _, _, _, hm, _, _⟩ := hV
    simp [TmF.names] at h
    subst h; exact hm
  | .cons m x l, w, B, a, k, j + 1, n, hV, h => by
    simp only [TmF.V] at hV
    obtain ⟨_, _, _, _, _, _, _, _, _, hl⟩ := hV
    exact TmF.V_name l (j := j) hl (by simpa [TmF.names] using h)

def NarDE (r : Option (TmF × Bool)) (B : Nat) (w : World) (e : Ending) (w' : World) : Prop := Below w.heap.size w w' ∧
  ((r = none ∧ e = .returned (.agg #[.nilIface, .bool false, .bool false])) ∨ ∃ A wh a cap, r = some (A, wh) ∧ e = .returned (.agg #[.iface 57 (.slice a A.len cap), .bool true, .bool wh]) ∧ A.LV w' (BF (Lo B) w w') a cap)
/-- what is kept through the rounds: all below the answer's box, and what the iterator reads -/
def DK (h : Nat) : Nat → Prop := fun k => k < h + 1 + 1 ∨ (h + 1 + 1 + 1 + 1 + 1 + 1 ≤ k ∧ k < h + 1 + 1 + 1 + 1 + 1 + 1 + 1 + 1 + 1)

theorem laid {w : World} {k : Nat} {o : Obj} (h : w.heap[k]? = some o) (o' : Obj) : (w.alloc o').heap[k]? = some o := (Below.heap_alloc _ _ _ (Array.getElem?_eq_some_iff.1 h).1).trans h
theorem laid_at (w : World) (o : Obj) (k : Nat) (e : w.heap.size = k) : (w.alloc o).heap[k]? = some o := e ▸ heap_alloc_new w o
theorem TmF.LV_cells {w : World} {B : Nat → Prop} (l : TmF) (a : Option Addr) (cap : Nat) (h : l.LV w B a cap) : l.LV w (AndC w B) a cap := ⟨h.1.cells, l.V_cells a 0 h.2⟩
theorem n0row {W : World} {q : Nat} {x y z : Value} {T : TypeId} (h : W.heap[q]? = some (.cells #[x, y, z] T (0, 0))) : W.cell? ⟨q, 0, none⟩ = some x ∧ W.cell? ⟨q, 1, none⟩ = some y ∧ W.cell? ⟨q, 2, none⟩ = some z ∧ W.frozen? ⟨q, 0, none⟩ = false ∧ W.frozen? ⟨q, 1, none⟩ = false ∧ W.frozen? ⟨q, 2, none⟩ = false :=
  ⟨by rw [cell_of_row _ _ _ _ _ _ h]; rfl, by rw [cell_of_row _ _ _ _ _ _ h]; rfl, by rw [cell_of_row _ _ _ _ _ _ h]; rfl, frozen_of_row _ _ _ _ _ h, frozen_of_row _ _ _ _ _ h, frozen_of_row _ _ _ _ _ h⟩
/-- the answer, written, and the loop's block shut -/
theorem ND_done {A : TmF} {B D : Nat} {w W0 W : World} {a : Option Addr} {cap : Nat} {vs : List Value} {o : Obj} (hz : w.heap.size + 1 + 1 + 1 ≤ W0.heap.size) (hD : W0.heap.size ≤ D) (hB : B ≤ w.heap.size) (hbw : Below w.heap.size w W) (hK : W.heap[D]? = some (.deferred (some [])))
    (hl : A.LV W (fun k => k < B ∨ (w.heap.size + 1 + 1 + 1 ≤ k ∧ k < W.heap.size)) a cap) : Below w.heap.size w ((setN W (w.heap.size + 1 + 1) 0 vs).putObj D o) ∧ A.LV ((setN W (w.heap.size + 1 + 1) 0 vs).putObj D o) (BF (Lo B) w ((setN W (w.heap.size + 1 + 1) 0 vs).putObj D o)) a cap := by
  have h1 := setN_below (show w.heap.size ≤ w.heap.size + 1 + 1 by omega) vs _ _ 0 hbw
  refine ⟨h1.trans ⟨rfl, rfl, rfl, by simp, fun k hk => World.putObj_heap_other (by omega)⟩, ?_⟩
  refine A.LV_same (B := AndC W _) (fun k hk => ?_) (fun k hk => ?_) a cap (A.LV_cells a cap hl)
  · have hne : k ≠ D := fun e => by
      obtain ⟨c, t, z, q⟩ := hk.2
      rw [e, hK] at q; cases q
    rw [World.putObj_heap_other hne, setN_other]
    rcases hk.1 with q | q <;> omega
  · rcases hk.1 with q | q
    · exact .inl q
    · exact .inr ⟨by omega, by rw [World.putObj_size, setN_size]; exact q.2⟩
/-- what holds between two rounds -/
structure NI (g : Int × Int → NSt) (B b : Nat) (af : Option Addr) (n cf : Nat) (w W0 : World) (pre : List (Int × Int)) (A : TmF) (wb : Bool) (j gq cap : Nat) (xs : List Value) (W : World) : Prop where
  fold : Sp.foldN g pre = some (A, wb)
  len : j ≤ pre.length
  c0 : W.cell? ⟨w.heap.size, 0, none⟩ = some (.pointer (some ⟨b, 0, none⟩))
  c1 : W.cell? ⟨w.heap.size + 1, 0, none⟩ = some (.slice af n cf)
  r2 : W.heap[w.heap.size + 1 + 1]? = some (.cells n0cells 80 (0, 0))
  b4 : Boxed W (w.heap.size + 1 + 1 + 1 + 1) 57 (.slice (some ⟨gq, 0, none⟩) j cap)
  b5 : Boxed W (w.heap.size + 1 + 1 + 1 + 1 + 1) 4 (.bool wb)
  nf : NF A B (w.heap.size + 1 + 1 + 1) W0.heap.size W j gq cap xs
  bel : Below w.heap.size w W
  sz : W0.heap.size ≤ W.heap.size
theorem NI.own {g : Int × Int → NSt} {B b : Nat} {af : Option Addr} {n cf : Nat} {w W0 : World} {pre : List (Int × Int)} {A : TmF} {wb : Bool} {j gq cap : Nat} {xs : List Value} {W W' : World} {row : Option Nat} (hz : w.heap.size ≤ W0.heap.size) (h : NI g B b af n cf w W0 pre A wb j gq cap xs W) (hg : W.grownBy W' row) (hr : ∀ r, row = some r → W0.heap.size ≤ r ∧ ∃ o : Obj, W.heap[r]? = some o ∧ o.isCells = false) : NI g B b af n cf w W0 pre A wb j gq cap xs W' :=
  have hk : ∀ k, Cl W k → W'.heap[k]? = W.heap[k]? := fun k hc => hg.block k hc.lt fun e => by
    obtain ⟨-, o, h1, h2⟩ := hr k e.symm
    obtain ⟨c, t, z, h3⟩ := hc
    rw [h3] at h1; cases h1; cases h2
  ⟨h.fold, h.len, by rw [World.cell?_of_block (hk _ (Cl.of_cell h.c0))]; exact h.c0, by rw [World.cell?_of_block (hk _ (Cl.of_cell h.c1))]; exact h.c1, (hk _ ⟨_, _, _, h.r2⟩).trans h.r2, (hk _ ⟨_, _, _, h.b4⟩).trans h.b4, (hk _ ⟨_, _, _, h.b5⟩).trans h.b5,
    h.nf.grown hg (fun r e => (hr r e).2), h.bel.grown hg h.bel.size (fun k e => Nat.le_trans hz (hr k e).1), Nat.le_trans h.sz hg.size⟩

theorem NI.upd {g : Int × Int → NSt} {B b : Nat} {af : Option Addr} {n cf : Nat} {w W0 : World} {pre pre2 : List (Int × Int)} {A A2 : TmF} {wb wb2 : Bool} {j gq cap j2 gq2 cap2 : Nat} {xs xs2 : List Value} {W W2 : World} (h : NI g B b af n cf w W0 pre A wb j gq cap xs W) (hf : Sp.foldN g pre2 = some (A2, wb2)) (hl : j2 ≤ pre2.length) (hb : Below (w.heap.size + 1 + 1 + 1) W W2)
    (b4 : Boxed W2 (w.heap.size + 1 + 1 + 1 + 1) 57 (.slice (some ⟨gq2, 0, none⟩) j2 cap2)) (b5 : Boxed W2 (w.heap.size + 1 + 1 + 1 + 1 + 1) 4 (.bool wb2)) (nf : NF A2 B (w.heap.size + 1 + 1 + 1) W0.heap.size W2 j2 gq2 cap2 xs2) : NI g B b af n cf w W0 pre2 A2 wb2 j2 gq2 cap2 xs2 W2 :=
  ⟨hf, hl, by rw [hb.cell (p := ⟨w.heap.size, 0, none⟩) (by show w.heap.size < _; omega)]; exact h.c0, by rw [hb.cell (p := ⟨w.heap.size + 1, 0, none⟩) (by show w.heap.size + 1 < _; omega)]; exact h.c1, (hb.block _ (by omega)).trans h.r2, b4, b5, nf, h.bel.trans (hb.mono (by omega)), Nat.le_trans h.sz hb.size⟩
section
variable {g : Int × Int → NSt} {B b : Nat} {af : Option Addr} {n cf : Nat} {w W0 : World} {pre : List (Int × Int)} {A : TmF} {wb : Bool} {j gq cap : Nat} {xs : List Value} {W : World}
theorem NI.plain (hz : w.heap.size + 1 + 1 + 1 + 1 + 1 + 1 + 1 + 1 + 1 ≤ W0.heap.size) (h : NI g B b af n cf w W0 pre A wb j gq cap xs W) {x : Int × Int} (hx : g x = some (none, true)) {W2 : World} (hb : Below W.heap.size W W2) : KeepsOthers W W2 ∧ KD (DK w.heap.size) W W2 ∧ NI g B b af n cf w W0 (pre ++ [x]) A wb j gq cap xs W2 := by
  have hs := h.sz
  have hl := h.len
  refine ⟨KeepsOthers.of_below hb, KD.of (fun k hk => by rcases hk with hk | hk <;> omega) hb, h.upd (by have := Sp.foldN_skip h.fold hx; simpa using this) (by simp; omega) (hb.mono (by omega)) ((hb.block _ h.b4.lt).trans h.b4) ((hb.block _ h.b5.lt).trans h.b5) (h.nf.call hb)⟩
theorem NI.r8 (hB : B ≤ w.heap.size) (hz : w.heap.size + 1 + 1 + 1 + 1 + 1 + 1 + 1 + 1 + 1 ≤ W0.heap.size) (h : NI g B b af n cf w W0 pre A wb j gq cap xs W) {W7 W8 : World} (h7 : Below W.heap.size W W7) (u : Bool) (e8 : W7.setCell ⟨w.heap.size + 1 + 1 + 1 + 1 + 1, 0, none⟩ (.bool u) = W8) :
    Below (w.heap.size + 1 + 1 + 1) W W8 ∧ KD (DK w.heap.size) W W8 ∧ KeepsOthers W W8 ∧ Boxed W8 (w.heap.size + 1 + 1 + 1 + 1) 57 (.slice (some ⟨gq, 0, none⟩) j cap) ∧ Boxed W8 (w.heap.size + 1 + 1 + 1 + 1 + 1) 4 (.bool u) ∧ NF A B (w.heap.size + 1 + 1 + 1) W0.heap.size W8 j gq cap xs ∧ (∀ k, k ≠ w.heap.size + 1 + 1 + 1 + 1 + 1 → W8.heap[k]? = W7.heap[k]?) ∧ W8.heap.size = W7.heap.size := by
  subst e8
  have hs := h.sz
  have hz7 := h7.size
  have b4 : Boxed W7 (w.heap.size + 1 + 1 + 1 + 1) 57 (.slice (some ⟨gq, 0, none⟩) j cap) := (h7.block _ h.b4.lt).trans h.b4
  have b5 : Boxed W7 (w.heap.size + 1 + 1 + 1 + 1 + 1) 4 (.bool wb) := (h7.block _ h.b5.lt).trans h.b5
  have ho : ∀ k, k ≠ w.heap.size + 1 + 1 + 1 + 1 + 1 → (W7.setCell ⟨w.heap.size + 1 + 1 + 1 + 1 + 1, 0, none⟩ (.bool u)).heap[k]? = W7.heap[k]? := fun k hk => heap_setCell_other _ _ _ _ hk
  have hss : (W7.setCell ⟨w.heap.size + 1 + 1 + 1 + 1 + 1, 0, none⟩ (.bool u)).heap.size = W7.heap.size := by simp
  refine ⟨(h7.mono (by omega)).setCell (p := ⟨w.heap.size + 1 + 1 + 1 + 1 + 1, 0, none⟩) (by show w.heap.size + 1 + 1 + 1 ≤ w.heap.size + 1 + 1 + 1 + 1 + 1; omega) _, ⟨by omega, fun k hk => ?_⟩, (KeepsOthers.of_below h7).trans (KeepsOthers.setCell _ _ _), b4.other (by omega) _, b5.set _, h.nf.keep (by omega) (fun k hk hc => ?_), ho, hss⟩
  · rw [ho k (by rcases hk with hk | hk <;> omega)]
    exact h7.block k (by rcases hk with hk | hk <;> omega)
  · have := hc.lt
    rw [ho k (by rcases hk with hk | hk | hk <;> omega)]
    exact h7.block k this
theorem NI.skip (hB : B ≤ w.heap.size) (hz : w.heap.size + 1 + 1 + 1 + 1 + 1 + 1 + 1 + 1 + 1 ≤ W0.heap.size) (h : NI g B b af n cf w W0 pre A wb j gq cap xs W) {W7 W8 : World} (h7 : Below W.heap.size W W7) {x : Int × Int} (hx : g x = some (none, false)) (e8 : W7.setCell ⟨w.heap.size + 1 + 1 + 1 + 1 + 1, 0, none⟩ (.bool false) = W8) :
    KeepsOthers W W8 ∧ KD (DK w.heap.size) W W8 ∧ NI g B b af n cf w W0 (pre ++ [x]) A false j gq cap xs W8 := by
  obtain ⟨q1, q2, q3, q4, q5, q6, -, -⟩ := h.r8 hB hz h7 false e8
  have hl := h.len
  exact ⟨q3, q2, h.upd (by have := Sp.foldN_skip h.fold hx; simpa using this) (by simp; omega) q1 q4 q5 q6⟩
theorem NI.kept (hB : B ≤ w.heap.size) (hz : w.heap.size + 1 + 1 + 1 + 1 + 1 + 1 + 1 + 1 + 1 ≤ W0.heap.size) (h : NI g B b af n cf w W0 pre A wb j gq cap xs W) {W6 W7 W8 W9 w10 : World} (h7 : Below W.heap.size W W7) (h76 : ∀ k, k ≠ W.heap.size → W7.heap[k]? = W6.heap[k]?) (hz7 : W7.heap.size = W6.heap.size) {x : Int × Int} {m : ByteArray} {y : Tm} {wh u : Bool} (hx : g x = some (some (m, y), wh)) (hu : (wb && wh) = u) (hm : m.size ≤ maxLen) {xr : Value} (hv : y.V W6 (fun k => k < B ∨ (W.heap.size < k ∧ k < W6.heap.size)) xr)
    (e8 : W7.setCell ⟨w.heap.size + 1 + 1 + 1 + 1 + 1, 0, none⟩ (.bool u) = W8) {o : Obj} (e9 : W8.drew.alloc o = W9) {g' cap' : Nat} (hown : w10.ownsRow (w.heap.size + 1 + 1 + 1) 55 2 (.slice (some ⟨g', 0, none⟩) (j + 1) cap') (j + 1) (xs ++ [.string m, xr])) (hg : W9.grownBy w10 (some gq)) (hor : some gq = some g' ∨ g' = W9.heap.size) :
    KeepsOthers W (w10.setCell ⟨w.heap.size + 1 + 1 + 1 + 1, 0, none⟩ (.slice (some ⟨g', 0, none⟩) (j + 1) cap')) ∧ KD (DK w.heap.size) W (w10.setCell ⟨w.heap.size + 1 + 1 + 1 + 1, 0, none⟩ (.slice (some ⟨g', 0, none⟩) (j + 1) cap')) ∧ NI g B b af n cf w W0 (pre ++ [x]) (A.app (.cons m y .nil)) u (j + 1) g' cap' (xs ++ [.string m, xr]) (w10.setCell ⟨w.heap.size + 1 + 1 + 1 + 1, 0, none⟩ (.slice (some ⟨g', 0, none⟩) (j + 1) cap')) := by
  obtain ⟨q1, q2, q3, q4, q5, q6, q7, q8⟩ := h.r8 hB hz h7 u e8
  have hl := h.len
  have hs := h.sz
  have hgq := q6.here
  have hgw := h.nf.here
  have hb9 : Below W8.heap.size W8 W9 := e9 ▸ (((Below.refl _ _).drew).alloc (Nat.le_refl _) _)
  have hz9 := hb9.size
  have hz10 := hg.size
  have h7s := h7.size
  have nf9 := q6.call hb9
  have b49 : Boxed W9 _ _ _ := (hb9.block _ q4.lt).trans q4
  have b59 : Boxed W9 _ _ _ := (hb9.block _ q5.lt).trans q5
  have b4' := b49.kept hg (fun e => by injection e with e; omega)
  have b5' := b59.kept hg (fun e => by injection e with e; omega)
  have hlow : ∀ k, (k < B ∨ (W.heap.size < k ∧ k < W6.heap.size)) → W9.heap[k]? = W6.heap[k]? := fun k hk => by
    rw [hb9.block k (by rcases hk with hk | hk <;> omega), q7 k (by rcases hk with hk | hk <;> omega), h76 k (by rcases hk with hk | hk <;> omega)]
  have hv9 : y.V W9 (fun k => k < B ∨ (W.heap.size < k ∧ k < W6.heap.size)) xr := y.V_same hlow (fun _ h => h) xr hv
  have nf10 := NF.step (by omega) (by omega) nf9 hm hv9 (fun k hk => ⟨by rcases hk with hk | hk <;> omega, by rcases hk with hk | hk <;> omega⟩) hown hg hor
  have hss : (w10.setCell ⟨w.heap.size + 1 + 1 + 1 + 1, 0, none⟩ (.slice (some ⟨g', 0, none⟩) (j + 1) cap')).heap.size = w10.heap.size := by simp
  have ho : ∀ k, k ≠ w.heap.size + 1 + 1 + 1 + 1 → (w10.setCell ⟨w.heap.size + 1 + 1 + 1 + 1, 0, none⟩ (.slice (some ⟨g', 0, none⟩) (j + 1) cap')).heap[k]? = w10.heap[k]? := fun k hk => heap_setCell_other _ _ _ _ hk
  have hb10 : Below (w.heap.size + 1 + 1 + 1) W w10 := (q1.trans (hb9.mono (by omega))).grown hg (by omega) (fun k e => by injection e with e; omega)
  refine ⟨?_, ⟨by omega, fun k hk => ?_⟩, h.upd ?_ (by simp; omega) (hb10.setCell (p := ⟨w.heap.size + 1 + 1 + 1 + 1, 0, none⟩) (by show w.heap.size + 1 + 1 + 1 ≤ w.heap.size + 1 + 1 + 1 + 1; omega) _) (b4'.set _) (b5'.other (by omega) _) (nf10.keep (by omega) (fun k hk _ => ho k (by rcases hk with hk | hk | hk <;> omega)))⟩
  · refine ((q3.trans (KeepsOthers.of_below hb9)).trans (KeepsOthers.of_grownBy hg (fun i o e hi => ?_))).trans (KeepsOthers.setCell _ _ _)
    obtain ⟨c, t, z, hc⟩ := nf9.cl
    injection e with e
    rw [← e, hc] at hi; cases hi; rfl
  · rw [ho k (by rcases hk with hk | hk <;> omega), hg.block k (by rcases hk with hk | hk <;> omega) (fun e => by injection e with e; rcases hk with hk | hk <;> omega), hb9.block k (by rcases hk with hk | hk <;> omega)]
    exact q2.block k hk
  · rw [← hu]; exact Sp.foldN_keep h.fold hx
end

def NIx (g : Int × Int → NSt) (B b : Nat) (af : Option Addr) (n cf : Nat) (w W0 : World) (pre : List (Int × Int)) (W : World) : Prop := ∃ A wb j gq cap xs, NI g B b af n cf w W0 pre A wb j gq cap xs W
theorem NIx.of {g : Int × Int → NSt} {B b : Nat} {af : Option Addr} {n cf : Nat} {w W0 : World} {pre : List (Int × Int)} {A : TmF} {wb : Bool} {j gq cap : Nat} {xs : List Value} {W : World} (h : NI g B b af n cf w W0 pre A wb j gq cap xs W) : NIx g B b af n cf w W0 pre W := ⟨A, wb, j, gq, cap, xs, h⟩
def NXx (g : Int × Int → NSt) (w : World) (c : Code) (pre : List (Int × Int)) (W : World) : Prop := (c = .ret ∧ ∃ x ∈ pre, g x = none) ∧ W.heap[w.heap.size + 1 + 1]? = some (.cells n0cells 80 (0, 0)) ∧ Below w.heap.size w W
theorem NXx.of {g : Int × Int → NSt} {w : World} {pre : List (Int × Int)} {x : Int × Int} {W : World} (hx : g x = none) (hr : W.heap[w.heap.size + 1 + 1]? = some (.cells n0cells 80 (0, 0))) (hb : Below w.heap.size w W) : NXx g w .ret (pre ++ [x]) W := ⟨⟨rfl, x, by simp, hx⟩, hr, hb⟩

set_option maxRecDepth 100000 in
set_option maxHeartbeats 4000000 in
theorem narDict_any (N : Nat) (HC : NarC N) (p : TyL) (hN : p.sz ≤ N) (hok : p.ok = true) (NS : List ByteArray) (KS : List Bool) (op : Bool) (F : TmF) (af : Option Addr) (cf b B : Nat) (ap an ak : Option Addr) (cp cn ck : Nat) (w : World) (hB : B ≤ w.heap.size) (hb : b < B)
    (c4 : w.cell? ⟨b, 4, none⟩ = some (.slice ap p.len cp)) (c5 : w.cell? ⟨b, 5, none⟩ = some (.slice an NS.length cn)) (c6 : w.cell? ⟨b, 6, none⟩ = some (.slice ak KS.length ck)) (c7 : w.cell? ⟨b, 7, none⟩ = some (.bool op))
    (hNS : NamesAt w (Lo B) an NS) (hKS : BoolsAt w (Lo B) ak KS) (hp : p.Sh w (Lo B) ap 0) (hF : F.V w (Lo B) af 0) (hgd : F.gd) (hl1 : NS.length = p.len) (hl2 : KS.length = NS.length) (hl3 : NS.length ≤ 4096) (hl4 : F.len ≤ 4096) (hcap : F.len ≤ cf) :
    Calls Try.prog 53 #[.pointer (some ⟨b, 0, none⟩), .slice af F.len cf] w (NarDE (Sp.foldN (Sp.nstep op KS p.narFns F.names F.vals) (Sp.mrg (NS.length + F.len) 0 0 NS F.names)) B w) := by
  unfold NarDE
  obtain ⟨i0, hi, hz0, hz1, hz2⟩ := info_parts Try.infoF
  have hbw : b < w.heap.size := by omega
  have hSame : ∀ W, Below w.heap.size w W → Same (Lo B) w W := fun W hW k hk => hW.block k (Nat.lt_of_lt_of_le hk hB)
  have HX : Hid (∀ W, Below w.heap.size w W → W.cell? ⟨b, 4, none⟩ = some (.slice ap p.len cp) ∧ W.cell? ⟨b, 5, none⟩ = some (.slice an NS.length cn) ∧ W.cell? ⟨b, 6, none⟩ = some (.slice ak KS.length ck) ∧ W.cell? ⟨b, 7, none⟩ = some (.bool op)) := fun W hW =>
    ⟨by rw [hW.cell (p := ⟨b, 4, none⟩) hbw]; exact c4, by rw [hW.cell (p := ⟨b, 5, none⟩) hbw]; exact c5, by rw [hW.cell (p := ⟨b, 6, none⟩) hbw]; exact c6, by rw [hW.cell (p := ⟨b, 7, none⟩) hbw]; exact c7⟩
  have HKB : Hid (∀ W i, Below w.heap.size w W → i < NS.length → ∃ s g o, KS[i]? = some s ∧ ak = some ⟨g, o, none⟩ ∧ W.cell? ⟨g, o + i, none⟩ = some (.bool s)) := fun W i hW hi => by
    obtain ⟨s, g, o, e1, e2, e3, e4⟩ := hKS.at (i := i) (by omega)
    exact ⟨s, g, o, e1, e2, by rw [(hSame W hW).cell (p := ⟨g, o + i, none⟩) e3]; exact e4⟩
  have HFI : Hid (∀ i, i < NS.length → ∃ t : Ty, p.narFns[i]? = some t.nar ∧ ∀ (W : World) (v : Tm) (x : Value), Below w.heap.size w W → v.all.e = 0 → v.V w (Lo B) x → Calls Try.prog 78 #[.pointer (some ⟨b, 0, none⟩), .int .i64 (i : Int), x] W (NarE (t.nar v) B W)) := fun i hi => by
    obtain ⟨t, ht⟩ := TyL.get_some p i (by omega)
    obtain ⟨g, o, b', q1, q2, q3, q4, q5, q6⟩ := TyL.Sh_at p hp hok ht
    rw [Nat.zero_add] at q3
    subst q1
    refine ⟨t, TyL.get_narFns p i t ht, fun W v x hW hv hx => narField_in t B b b' g o p.len cp W i v x (fun W' hW' => ?_) (Nat.le_trans hB hW.size) hb q2 (by omega) (by rw [hW.cell (p := ⟨b, 4, none⟩) hbw]; exact c4) (by rw [(hSame W hW).cell (p := ⟨g, o + i, none⟩) q2]; exact q3) (v.V_shape x hx)⟩
    have hW2 := below_to hW hW'
    exact HC t (by omega) q5 v x b' B W' hv (v.V_same (hSame W' hW2) (fun _ h => h) x hx) (t.Sh_same (hSame W' hW2) (fun _ h => h) b' q4) (Nat.le_trans hB hW2.size)
  have HFO : Hid (∀ (W : World) (v : Tm) (x : Value), Below w.heap.size w W → v.V w (Lo B) x → Calls Try.prog 78 #[.pointer (some ⟨b, 0, none⟩), .int .i64 (-1), x] W (NarE (if op then some (v, true) else none) B W)) := fun W v x hW hx =>
    narField_out B b W op v x (Nat.le_trans hB hW.size) hb (by rw [hW.cell (p := ⟨b, 7, none⟩) hbw]; exact c7) (v.V_same (hSame W hW) (fun _ h => h) x hx)
  have HFT : Hid (∀ j, j < F.len → ∃ (v : Tm) (g o : Nat) (m : ByteArray) (x : Value), F.vals.get j = some v ∧ F.names[j]? = some m ∧ m.size ≤ maxLen ∧ af = some ⟨g, o, none⟩ ∧ g < w.heap.size ∧ w.cell? ⟨g, o + j * 2, none⟩ = some (.string m) ∧ w.cell? ⟨g, o + j * 2 + 1, none⟩ = some x ∧ v.V w (Lo B) x ∧ v.all.e = 0) := fun j hj => by
    obtain ⟨v, hv⟩ := TmL.get_some F.vals j (by rw [TmF.vals_len]; exact hj)
    obtain ⟨g, o, x, e, hg, q0, q1, hx⟩ := TmF.V_at F hF (n := F.names[j]'(by rw [TmF.names_len]; exact hj)) (List.getElem?_eq_getElem _) hv
    rw [Nat.zero_add] at q0 q1
    exact ⟨v, g, o, _, x, hv, List.getElem?_eq_getElem _, TmF.V_name F hF (List.getElem?_eq_getElem _), e, Nat.lt_of_lt_of_le hg hB, q0, q1, hx, TmF.get_good F hgd j v hv⟩
  have HTG : Hid (∀ W, Calls Try.prog 62 #[.slice an NS.length cn, .slice af F.len cf, .func (.func 63) #[] #[]] W fun e w' =>
    e = .returned (.func (.func 87) #[] #[.pointer (some ⟨W.heap.size, 0, none⟩), .pointer (some ⟨W.heap.size + 1, 0, none⟩), .pointer (some ⟨W.heap.size + 1 + 1, 0, none⟩)]) ∧
      ((W.alloc (.cells #[.slice an NS.length cn] 31)).alloc (.cells #[.slice af F.len cf] 56)).alloc (.cells #[.func (.func 63) #[] #[]] 131) = w') := fun W => together_any an af NS.length cn F.len cf W
  have HMEM : Hid (∀ W, Below w.heap.size w W → NamesAt W (DK w.heap.size) an NS ∧ F.V W (DK w.heap.size) af 0) := fun W hW => ⟨hNS.same (hSame W hW) (fun k hk => .inl (by have : k < B := hk; omega)), F.V_same (hSame W hW) (fun k hk => .inl (by have : k < B := hk; omega)) af 0 hF⟩
  obtain ⟨g, HG⟩ : ∃ g, Hid (g = Sp.nstep op KS p.narFns F.names F.vals) := ⟨_, show _ = _ from rfl⟩
  obtain ⟨M, HM⟩ : ∃ M, Hid (M = Sp.mrg (NS.length + F.len) 0 0 NS F.names) := ⟨_, show _ = _ from rfl⟩
  rw [← HM.out, ← HG.out]
  have HLN : Hid (NS.length = p.len ∧ KS.length = NS.length) := ⟨hl1, hl2⟩
  have HB : Hid (B ≤ w.heap.size) := hB
  clear hNS hKS hp hF hgd HC hSame c4 c5 c6 c7 hok hN hl1 hl2
  obtain ⟨w4, hw4⟩ : ∃ w4, ((((((w.alloc (.cells #[.pointer (some ⟨b, 0, none⟩)] 64)).alloc (.cells #[.slice af F.len cf] 57)).alloc (.cells #[.nilIface, .bool false, .bool false] 80)).alloc (.cells #[] 55)).alloc (.cells #[.slice (some ⟨w.heap.size + 1 + 1 + 1, 0, none⟩) 0 0] 57)).alloc (.cells #[.bool true] 4)) = w4 := ⟨_, rfl⟩
  have HW4 : Hid (Below w.heap.size w w4 ∧ w4.heap.size = w.heap.size + 1 + 1 + 1 + 1 + 1 + 1 ∧ w4.cell? ⟨w.heap.size, 0, none⟩ = some (.pointer (some ⟨b, 0, none⟩)) ∧ w4.cell? ⟨w.heap.size + 1, 0, none⟩ = some (.slice af F.len cf) ∧ w4.heap[w.heap.size + 1 + 1]? = some (.cells n0cells 80 (0, 0)) ∧ w4.heap[w.heap.size + 1 + 1 + 1]? = some (.cells #[] 55 (0, 0)) ∧
      Boxed w4 (w.heap.size + 1 + 1 + 1 + 1) 57 (.slice (some ⟨w.heap.size + 1 + 1 + 1, 0, none⟩) 0 0) ∧ Boxed w4 (w.heap.size + 1 + 1 + 1 + 1 + 1) 4 (.bool true)) := by
    rw [← hw4]
    refine ⟨((((((Below.refl _ w).alloc (Nat.le_refl _) _).alloc (by simp) _).alloc (by simp; omega) _).alloc (by simp; omega) _).alloc (by simp; omega) _).alloc (by simp; omega) _, by simp only [World.size_alloc], ?_, ?_, ?_, ?_, ?_, ?_⟩
    · exact (((((Boxed.new w 64 (.pointer (some ⟨b, 0, none⟩))).alloc _).alloc _).alloc _).alloc _).alloc _ |>.cell
    · have := Boxed.new (w.alloc (.cells #[.pointer (some ⟨b, 0, none⟩)] 64)) 57 (.slice af F.len cf)
      simp only [World.size_alloc] at this
      exact ((((this.alloc _).alloc _).alloc _).alloc _).cell
    · exact laid (laid (laid (laid_at _ _ _ (by simp only [World.size_alloc])) _) _) _
    · exact laid (laid (laid_at _ _ _ (by simp only [World.size_alloc])) _) _
    · exact laid (laid_at _ _ _ (by simp only [World.size_alloc])) _
    · exact laid_at _ _ _ (by simp only [World.size_alloc])
  refine (callsIn_wide (n := 3)).1 ?_
  refine callsIn_of_wp_marks Try.func53 rfl trivial ?_ rfl
  simp only [Try.ntmps53, List.size_toArray, List.length_cons, List.length_nil, Nat.reduceAdd, Nat.reduceSub, Array.replicate_succ, Array.replicate_zero, List.push_toArray, List.append_toArray, List.nil_append, List.cons_append]
  gi_wp2
  clear hw4
  refine wpIn_wide.2 ?_
  have HK1 : Hid (∀ W, Below w4.heap.size w4 W → W.cell? ⟨w.heap.size, 0, none⟩ = some (.pointer (some ⟨b, 0, none⟩)) ∧ W.cell? ⟨w.heap.size + 1, 0, none⟩ = some (.slice af F.len cf) ∧ W.cell? ⟨b, 5, none⟩ = some (.slice an NS.length cn)) := fun W h => by
    obtain ⟨q1, q2, q3, q4, -, -⟩ := HW4.out
    exact ⟨by rw [h.cell (p := ⟨w.heap.size, 0, none⟩) (by show w.heap.size < _; omega)]; exact q3, by rw [h.cell (p := ⟨w.heap.size + 1, 0, none⟩) (by show w.heap.size + 1 < _; omega)]; exact q4, (HX.out W (q1.trans (h.mono q1.size))).2.1⟩
  have HDR : Hid (w4.drew.heap.size = w4.heap.size) := (rfl : _ = _)
  go_region_held3 (fun W => W.cell? ⟨w.heap.size, 0, none⟩ = some (.pointer (some ⟨b, 0, none⟩)) ∧ W.cell? ⟨w.heap.size + 1, 0, none⟩ = some (.slice af F.len cf) ∧ W.cell? ⟨b, 5, none⟩ = some (.slice an NS.length cn))
    (first | with_reducible exact HK1.out _ HBT.out | with_reducible exact HK1.out _ (Below.refl _ _).drew)
    ((go_at_call 62; refine (HTG.out _).mono ?_; rintro e W0 ⟨rfl, hW0⟩; have HBT : Hid (Below w4.heap.size w4 W0) := by (rw [← hW0]; exact (((((Below.refl _ _).drew).alloc (Nat.le_refl _) _).alloc (by simp) _).alloc (by simp; omega) _))))
  have HW0 : Hid (Below w.heap.size w W0 ∧ W0.heap.size = w4.heap.size + 1 + 1 + 1 ∧ W0.cell? ⟨w4.heap.size, 0, none⟩ = some (.slice an NS.length cn) ∧ W0.cell? ⟨w4.heap.size + 1, 0, none⟩ = some (.slice af F.len cf) ∧ W0.cell? ⟨w4.heap.size + 1 + 1, 0, none⟩ = some (.func (.func 63) #[] #[]) ∧
      NI g B b af F.len cf w W0 [] .nil true 0 (w.heap.size + 1 + 1 + 1) 0 [] W0) := by
    obtain ⟨q1, q2, q3, q4, q5, q6, q7, q8⟩ := HW4.out
    have b0 := Boxed.new w4.drew 31 (.slice an NS.length cn)
    have b1 := Boxed.new (w4.drew.alloc (.cells #[.slice an NS.length cn] 31)) 56 (.slice af F.len cf)
    have b2 := Boxed.new ((w4.drew.alloc (.cells #[.slice an NS.length cn] 31)).alloc (.cells #[.slice af F.len cf] 56)) 131 (.func (.func 63) #[] #[])
    simp only [World.size_alloc] at b1 b2
    obtain ⟨r1, r2, -⟩ := HK1.out W0 HBT.out
    have hblk : ∀ k, k < w4.heap.size → W0.heap[k]? = w4.heap[k]? := fun k hk => HBT.out.block k hk
    have hsz : W0.heap.size = w4.heap.size + 1 + 1 + 1 := by rw [← hW0]; simp only [World.size_alloc]; rfl
    refine ⟨q1.trans (HBT.out.mono q1.size), hsz, ?_, ?_, ?_, ⟨rfl, Nat.le_refl _, r1, r2, (hblk _ (by omega)).trans q5, (hblk _ (by omega)).trans q7, (hblk _ (by omega)).trans q8, NF.start ((hblk _ (by omega)).trans q6), q1.trans (HBT.out.mono q1.size), Nat.le_refl _⟩⟩
    · rw [← hW0]; exact ((b0.alloc _).alloc _).cell
    · rw [← hW0]; exact (b1.alloc _).cell
    · rw [← hW0]; exact b2.cell
  clear hW0
  obtain ⟨t1, t2, t3, t4, t5, t6⟩ := HW0.out
  have hw4s := HW4.out.2.1
  have HDK : Hid (∀ k, DK w.heap.size k → k < W0.heap.size) := fun k hk => by
    rcases hk with hk | hk <;> omega
  have HSQ := tog_stopsD (DK w.heap.size) (3 - 1) w4.heap.size (w4.heap.size + 1) (w4.heap.size + 1 + 1) NS F an af cn cf W0 HDK.out (.inr ⟨by omega, by omega⟩) (.inr ⟨by omega, by omega⟩) (.inr ⟨by omega, by omega⟩) t3 t4 t5 (HMEM.out W0 t1).1 (HMEM.out W0 t1).2 hl3 hl4
  rw [← HM.out] at HSQ
  have HSQ' : Hid _ := HSQ
  have HW4S : Hid (w4.heap.size = w.heap.size + 1 + 1 + 1 + 1 + 1 + 1) := hw4s
  clear HSQ HMEM HTG HBT HK1 hw4s
  gi_wp2
  refine' wpIn_rangeFunc_ownF rfl (by omega) (gf := 87) (lb := #[.pointer (some ⟨w4.heap.size, 0, none⟩), .pointer (some ⟨w4.heap.size + 1, 0, none⟩), .pointer (some ⟨w4.heap.size + 1 + 1, 0, none⟩)]) rfl trivial (enters_of Try.func87 (by kernel_rfl) rfl)
    HSQ'.out kd_t (kd_b HDK.out) (Below.refl _ _) (fun _ => rfl)
    (fun pre W => NIx g B b af F.len cf w W0 (pre.map (·.1)) W)
    (fun c pre W => NXx g w c (pre.map (·.1)) W)
    (fun pre W W' row hs hg hr => by obtain ⟨A, wb, j, gq, cap, xs, hs⟩ := hs; exact NIx.of (hs.own t1.size hg hr))
    (fun c pre W W' row hs hg hr => show NXx _ _ _ _ _ from ⟨hs.1, (hg.block _ (Array.getElem?_eq_some_iff.1 hs.2.1).1 (fun e => by obtain ⟨-, o, q1, q2⟩ := hr _ e.symm; rw [hs.2.1] at q1; cases q1; cases q2)).trans hs.2.1, hs.2.2.grown hg hs.2.2.size (fun k e => Nat.le_trans t1.size (hr k e).1)⟩)
    (NIx.of t6) _ ?assign ?body ?done ?stop
  case assign =>
    intro l x W K hK
    simp only [PQ.enc]
    gi_wp2
    exact hK
  case body =>
    rintro l pre ⟨⟨x1, x2⟩, hx⟩ W ⟨A, wb, jn, gq, cap, xs, hn⟩ hlen
    have HZ9 : Hid (w.heap.size + 1 + 1 + 1 + 1 + 1 + 1 + 1 + 1 + 1 ≤ W0.heap.size) := by show _ ≤ _; have := HW4S.out; omega
    have HN : Hid (NI g B b af F.len cf w W0 (pre.map (·.1)) A wb jn gq cap xs W) := hn
    have hjn : jn ≤ 8192 := by have := hn.len; simp at this; omega
    have hbW := hn.bel
    have hA : ∀ o {p : Addr} {v : Value}, W.cell? p = some v → (W.alloc o).cell? p = some v := fun o {p v} h => cell_below h ((Below.refl _ _).alloc (Nat.le_refl _) _)
    have HMP : Hid (∀ x : PQ NS.length F.len, (pre ++ [x]).map (·.1) = pre.map (·.1) ++ [x.1]) := fun x => by simp
    have c0 := hn.c0
    have hr2 := hn.r2
    clear HSQ' HW0 HW4 t3 t4 t5 t6 hn hlen
    rcases hx with ⟨e1, e2, e3⟩ | ⟨e1, e2, e3⟩ | ⟨e1, e2, e3, e4⟩
    · have e1 : x1 = -1 := e1
      subst e1
      obtain ⟨j, rfl⟩ := Int.eq_ofNat_of_zero_le e2
      have hjF : j < F.len := by have : (j : Int) < F.len := e3; omega
      have hj0 : (0 : Int) ≤ (j : Int) := Int.natCast_nonneg _
      have hj1 : (j : Int) < (F.len : Int) := by omega
      have hj2 : (j : Int) ≤ (cf : Int) := by omega
      obtain ⟨v, g2, o2, m, x, fv, fm, hmz, rfl, hg2, cm, cx, hvx, hvg⟩ := HFT.out j hjF
      obtain ⟨r, HR⟩ : ∃ r : Nar, Hid (r = if op then some (v, true) else none) := ⟨_, show _ = _ from rfl⟩
      have HO : Hid (∀ W', Below w.heap.size w W' → Calls Try.prog 78 #[.pointer (some ⟨b, 0, none⟩), .int .i64 (-1 : Int), x] W' (NarE r B W')) := fun W' h => by rw [HR.out]; exact HFO.out W' v x h hvx
      have HGS : Hid (∀ y wh, r = some (y, wh) → g (-1, (j : Int)) = some (some (m, y), wh)) := fun y wh h => by
        have n2 : ¬ ((j : Int) < 0) := by omega
        rw [HG.out]; rw [HR.out] at h; simp only [Sp.nstep, if_neg n2, Int.toNat_natCast, fm, fv]
        cases op <;> simp at h; obtain ⟨rfl, rfl⟩ := h; simp
      have HGN : Hid (r = none → g (-1, (j : Int)) = some (none, false)) := fun h => by
        have n2 : ¬ ((j : Int) < 0) := by omega
        rw [HG.out]; rw [HR.out] at h; simp only [Sp.nstep, if_neg n2, Int.toNat_natCast, fm, fv]
        cases op <;> simp at h; simp
      have dm : W.cell? ⟨g2, o2 + j * 2, none⟩ = some (.string m) := by rw [hbW.cell (p := ⟨g2, o2 + j * 2, none⟩) hg2]; exact cm
      have dx : W.cell? ⟨g2, o2 + j * 2 + 1, none⟩ = some x := by rw [hbW.cell (p := ⟨g2, o2 + j * 2 + 1, none⟩) hg2]; exact cx
      have c1 := HN.out.c1
      have HS7 : Hid (∀ W', Below W.heap.size W W' → W'.cell? ⟨w.heap.size, 0, none⟩ = some (.pointer (some ⟨b, 0, none⟩)) ∧ W'.cell? ⟨w.heap.size + 1, 0, none⟩ = some (.slice (some ⟨g2, o2, none⟩) F.len cf) ∧ W'.cell? ⟨g2, o2 + j * 2 + 1, none⟩ = some x ∧ W'.cell? ⟨g2, o2 + j * 2, none⟩ = some (.string m)) := fun W' h => ⟨cell_below c0 h, cell_below c1 h, cell_below dx h, cell_below dm h⟩
      have hxs := v.V_shape x hvx
      have HB5 : Hid (∀ o, Below W.heap.size W (W.alloc o).drew ∧ Below w.heap.size w (W.alloc o).drew) := fun o => ⟨((Below.refl _ _).alloc (Nat.le_refl _) _).drew, (hbW.alloc hbW.size _).drew⟩
      clear fv fm cm cx hvx hvg dm dx c1 hA
      dsimp only
      rcases hxs with rfl | ⟨T, y, rfl⟩
      · gi_wp2
        refine region_round (S := fun W' => W'.cell? ⟨w.heap.size, 0, none⟩ = some (.pointer (some ⟨b, 0, none⟩)) ∧ W'.cell? ⟨w.heap.size + 1, 0, none⟩ = some (.slice (some ⟨g2, o2, none⟩) F.len cf) ∧ W'.cell? ⟨g2, o2 + j * 2 + 1, none⟩ = some .nilIface ∧ W'.cell? ⟨g2, o2 + j * 2, none⟩ = some (.string m)) (by kernel_rfl) (by kernel_rfl) (HS7.out _ (HB5.out _).1) (fun hHeld => ?_)
        refine wpAnyH_take (i := 0) (oi := ⟨some 21, .load 64 (.tmp 2), 64, "narrow.go:49", #[], none⟩) (v := ?_) rfl (by kernel_rfl) (by kernel_rfl) (by kernel_rfl) (fun _ _ _ h => h) (Or.inl ⟨by rfl, ?_⟩) (by assumption) ?_
        rotate_left
        · intro w hSw; (try dsimp only at hSw); go_simp; try (with_reducible rfl)
        simp only [Act.put, List.setIfInBounds_toArray, List.set_cons_zero, List.set_cons_succ]
        refine wpAnyH_take (i := 1) (oi := ⟨some 22, .move (.tmp 7), 3, "narrow.go:49", #[], none⟩) (v := ?_) rfl (by kernel_rfl) (by kernel_rfl) (by kernel_rfl) (fun _ _ _ h => h) (Or.inl ⟨by rfl, ?_⟩) (by assumption) ?_
        rotate_left
        · intro w hSw; (try dsimp only at hSw); go_simp; try (with_reducible rfl)
        simp only [Act.put, List.setIfInBounds_toArray, List.set_cons_zero, List.set_cons_succ]
        refine wpAnyH_take (i := 2) (oi := ⟨some 23, .load 57 (.tmp 3), 57, "narrow.go:49", #[], none⟩) (v := ?_) rfl (by kernel_rfl) (by kernel_rfl) (by kernel_rfl) (fun _ _ _ h => h) (Or.inl ⟨by rfl, ?_⟩) (by assumption) ?_
        rotate_left
        · intro w hSw; (try dsimp only at hSw); go_simp; try (with_reducible rfl)
        simp only [Act.put, List.setIfInBounds_toArray, List.set_cons_zero, List.set_cons_succ]
        refine wpAnyH_take (i := 3) (oi := ⟨some 24, .move (.tmp 8), 3, "narrow.go:49", #[], none⟩) (v := ?_) rfl (by kernel_rfl) (by kernel_rfl) (by kernel_rfl) (fun _ _ _ h => h) (Or.inl ⟨by rfl, ?_⟩) (by assumption) ?_
        rotate_left
        · intro w hSw; (try dsimp only at hSw); go_simp; try (with_reducible rfl)
        simp only [Act.put, List.setIfInBounds_toArray, List.set_cons_zero, List.set_cons_succ]
        refine wpAnyH_take (i := 4) (oi := ⟨some 25, .indexAddr 57 (.tmp 23) (.tmp 24), 0, "narrow.go:49", #[⟨2, .data⟩, ⟨3, .data⟩], none⟩) (v := ?_) rfl (by kernel_rfl) (by kernel_rfl) (by kernel_rfl) (fun _ _ _ h => h) (Or.inl ⟨by rfl, ?_⟩) (by assumption) ?_
        rotate_left
        · intro w hSw; (try dsimp only at hSw); go_simp; try (with_reducible rfl)
        simp only [Act.put, List.setIfInBounds_toArray, List.set_cons_zero, List.set_cons_succ]
        refine wpAnyH_take (i := 5) (oi := ⟨some 26, .fieldAddr 55 (.tmp 25) 1, 0, "narrow.go:49", #[⟨4, .data⟩], none⟩) (v := ?_) rfl (by kernel_rfl) (by kernel_rfl) (by kernel_rfl) (fun _ _ _ h => h) (Or.inl ⟨by rfl, ?_⟩) (by assumption) ?_
        rotate_left
        · intro w hSw; (try dsimp only at hSw); go_simp; try (with_reducible rfl)
        simp only [Act.put, List.setIfInBounds_toArray, List.set_cons_zero, List.set_cons_succ]
        refine wpAnyH_take (i := 6) (oi := ⟨some 27, .load 20 (.tmp 26), 20, "narrow.go:49", #[⟨5, .data⟩], none⟩) (v := ?_) rfl (by kernel_rfl) (by kernel_rfl) (by kernel_rfl) (fun _ _ _ h => h) (Or.inl ⟨by rfl, ?_⟩) (by assumption) ?_
        rotate_left
        · intro w hSw; (try dsimp only at hSw); go_simp; try (with_reducible rfl)
        simp only [Act.put, List.setIfInBounds_toArray, List.set_cons_zero, List.set_cons_succ]
        refine wpAnyH_ready (rs := [7]) (by kernel_rfl) (by simp) ?_
        refine AllReadyH.cons (o := ⟨some 28, .call { callee := Go.Callee.value (.func 78), args := #[.tmp 21, .tmp 22, .tmp 27], argTypes := #[64, 3, 20] }, 80, "narrow.go:49", #[⟨0, .data⟩, ⟨1, .data⟩, ⟨6, .data⟩], none⟩) rfl (fun K hK => ?_) AllReadyH.nil
        go_simp
        refine (HO.out _ (HB5.out _).2).mono ?_
        rintro e W6 ⟨hb6, xr, ok, wh, rfl, hRR⟩
        have HB6 : Hid (Below W.heap.size W W6) := below_to (HB5.out _).1 hb6
        have hq6 : W6.heap[W.heap.size]? = some (.cells n0cells 80 (0, 0)) := (hb6.block _ (by show W.heap.size < (W.alloc _).heap.size; simp)).trans (heap_alloc_new W _)
        have hs6 : W.heap.size + 1 ≤ W6.heap.size := by have h : (W.alloc (.cells n0cells 80)).heap.size ≤ W6.heap.size := hb6.size; rw [World.size_alloc] at h; exact h
        have hshr := hRR.shape
        have HRR : Hid ((r = none ∧ ok = false ∧ wh = false ∧ xr = .nilIface) ∨ ∃ y, r = some (y, wh) ∧ ok = true ∧ y.V W6 (fun k => k < B ∨ (W.heap.size < k ∧ k < W6.heap.size)) xr) := by
          rcases hRR with q | ⟨y, q1, q2, q3⟩
          · exact .inl q
          · refine .inr ⟨y, q1, q2, y.V_same (Same.refl _ _) (fun k hk => ?_) xr q3⟩
            rcases hk with hk | hk
            · exact .inl hk
            · refine .inr ⟨?_, hk.2⟩
              have h : (W.alloc (.cells n0cells 80)).heap.size ≤ k := hk.1
              rw [World.size_alloc] at h; omega
        obtain ⟨q0, q1, q2, f0, f1, f2⟩ := n0row hq6
        obtain ⟨W7, hw7⟩ : ∃ W7, (((W6.setCell ⟨W.heap.size, 0, none⟩ xr).setCell ⟨W.heap.size, 1, none⟩ (.bool ok)).setCell ⟨W.heap.size, 2, none⟩ (.bool wh)) = W7 := ⟨_, rfl⟩
        have HW7 : Hid (Below W.heap.size W W7 ∧ W7.heap[W.heap.size]? = some (.cells #[xr, .bool ok, .bool wh] 80 (0, 0)) ∧ (∀ k, k ≠ W.heap.size → W7.heap[k]? = W6.heap[k]?) ∧ W7.heap.size = W6.heap.size) := by
          have e : setN W6 W.heap.size 0 [xr, .bool ok, .bool wh] = W7 := hw7
          rw [← e]
          exact ⟨setN_below (Nat.le_refl _) _ _ _ _ HB6.out, setN_box _ _ _ hq6 rfl, fun k hk => setN_other hk _ _ _, setN_size _ _ _⟩
        obtain ⟨p0, p1, p2, -, -, -⟩ := n0row HW7.out.2.1
        have hb57 : Boxed W7 (w.heap.size + 1 + 1 + 1 + 1 + 1) 4 (.bool wb) := (HW7.out.1.block _ HN.out.b5.lt).trans HN.out.b5
        have p5 := hb57.cell
        have f5 := hb57.frozen
        obtain ⟨W8, hw8⟩ : ∃ W8, W7.setCell ⟨w.heap.size + 1 + 1 + 1 + 1 + 1, 0, none⟩ (.bool (wb && wh)) = W8 := ⟨_, rfl⟩
        have HW8e : Hid (W7.setCell ⟨w.heap.size + 1 + 1 + 1 + 1 + 1, 0, none⟩ (.bool (wb && wh)) = W8) := hw8
        have HW8 := HN.out.r8 HB.out HZ9.out HW7.out.1 (wb && wh) hw8
        have hqne : W.heap.size ≠ w.heap.size + 1 + 1 + 1 + 1 + 1 := by have := HZ9.out; have := HN.out.sz; omega
        obtain ⟨s0, s1, s2, -, -, -⟩ := n0row ((HW8.2.2.2.2.2.2.1 _ hqne).trans HW7.out.2.1)
        have k0 : W8.cell? ⟨w.heap.size, 0, none⟩ = some (.pointer (some ⟨b, 0, none⟩)) := by rw [HW8.1.cell (p := ⟨w.heap.size, 0, none⟩) (by show w.heap.size < _; omega)]; exact c0
        have HW8 : Hid _ := HW8
        clear hRR hb6 hq6 hb57
        rcases HRR.out with ⟨hr, rfl, rfl, rfl⟩ | ⟨yt, hr, rfl, hyv⟩
        · have HG0 : Hid _ := HGN.out hr
          clear HRR hr hshr
          rw [Bool.and_false] at hw8
          cases wb
          all_goals
            go_wp2_with fail
            refine hK.out _ _ ?_ (fun hHeld => ?_)
            · exact HS7.out _ HB6.out
            clear hK K
            refine wpAnyH_ready (rs := [8]) (by kernel_rfl) (by simp) ?_
            refine AllReadyH.cons (o := ⟨none, .store 80 (.tmp 9) (.tmp 28), 0, "narrow.go:49", #[⟨7, .data⟩, ⟨7, .chain⟩, ⟨0, .phase⟩, ⟨1, .phase⟩, ⟨2, .phase⟩, ⟨3, .phase⟩, ⟨4, .phase⟩, ⟨5, .phase⟩, ⟨6, .phase⟩, ⟨7, .phase⟩], none⟩) rfl (fun K hK => ?_) AllReadyH.nil
            go_simp
            refine hK.out _ _ ?_ (fun hHeld => ?_)
            · exact HS7.out _ HW7.out.1
            clear hK K
            refine wpAnyH_done (by kernel_rfl) ?_ _
            refine Tame.normal ?_
            gi_wp2
            obtain ⟨u1, u2, u3⟩ := HN.out.skip HB.out HZ9.out HW7.out.1 (x := (-1, (j : Int))) HG0.out hw8
            exact ⟨u1, u2, by dsimp only; rw [HMP.out]; exact NIx.of u3⟩
        · have HGK : Hid (g (-1, (j : Int)) = some (some (m, yt), wh)) := HGS.out yt wh hr
          have HYV : Hid (yt.V W6 (fun k => k < B ∨ (W.heap.size < k ∧ k < W6.heap.size)) xr) := hyv
          have hgh := HW8.out.2.2.2.2.2.1.here
          have hgw := HN.out.nf.here
          have hz8 := HW8.out.1.size
          have hzn := HN.out.sz
          have HS10 : Hid (∀ W' : World, (∀ k, k < W8.heap.size → k ≠ gq → k ≠ w.heap.size + 1 + 1 + 1 + 1 → W'.heap[k]? = W8.heap[k]?) → W'.cell? ⟨w.heap.size + 1, 0, none⟩ = some (.slice (some ⟨g2, o2, none⟩) F.len cf) ∧ W'.cell? ⟨g2, o2 + j * 2, none⟩ = some (.string m) ∧ W'.cell? ⟨W.heap.size, 0, none⟩ = some xr) := fun W' h => by
            have hz := HZ9.out
            have hw0 := hbW.size
            have l1 : W.heap.size < W8.heap.size := (Array.getElem?_eq_some_iff.1 ((HW8.out.2.2.2.2.2.2.1 _ hqne).trans HW7.out.2.1)).1
            refine ⟨?_, ?_, ?_⟩
            · rw [World.cell?_of_block (a := ⟨w.heap.size + 1, 0, none⟩) (h _ (by show w.heap.size + 1 < _; omega) (by show w.heap.size + 1 ≠ _; omega) (by show w.heap.size + 1 ≠ _; omega)), HW8.out.1.cell (p := ⟨w.heap.size + 1, 0, none⟩) (by show w.heap.size + 1 < _; omega)]; exact HN.out.c1
            · rw [World.cell?_of_block (a := ⟨g2, o2 + j * 2, none⟩) (h _ (by show g2 < _; omega) (by show g2 ≠ _; omega) (by show g2 ≠ _; omega)), HW8.out.1.cell (p := ⟨g2, o2 + j * 2, none⟩) (by show g2 < _; omega)]; exact (HS7.out W (Below.refl _ _)).2.2.2
            · rw [World.cell?_of_block (a := ⟨W.heap.size, 0, none⟩) (h _ l1 (by show W.heap.size ≠ _; omega) (by show W.heap.size ≠ _; omega))]; exact s0
          obtain ⟨W9, hw9⟩ : ∃ W9, W8.drew.alloc (.cells #[.string m, xr] 55) = W9 := ⟨_, rfl⟩
          have HB9 : Hid (Below W8.heap.size W8 W9) := hw9 ▸ (((Below.refl _ _).drew).alloc (Nat.le_refl _) _)
          have HW9e : Hid (W8.drew.alloc (.cells #[.string m, xr] 55) = W9) := hw9
          have HNF9 := HW8.out.2.2.2.2.2.1.call HB9.out
          have HNF9 : Hid _ := HNF9
          have HNEW : Hid (∀ i u, [Value.string m, xr][i]? = some u → W9.cell? ((⟨W7.heap.size, 0, none⟩ : Addr).add i) = some u) := by rw [← hw9, ← HW8.out.2.2.2.2.2.2.2]; exact cell_two_new W8.drew _ _ _
          have k4 : W8.drew.cell? ⟨w.heap.size + 1 + 1 + 1 + 1, 0, none⟩ = some (.slice (some ⟨gq, 0, none⟩) jn cap) := HW8.out.2.2.2.1.cell
          have k9 : W9.cell? ⟨w.heap.size + 1 + 1 + 1 + 1, 0, none⟩ = some (.slice (some ⟨gq, 0, none⟩) jn cap) := (boxed_below HW8.out.2.2.2.1 HB9.out).cell
          have HONE : Hid (∀ u ∈ [Value.string m, xr], u.oneCell' = true) := by
            rcases hshr with rfl | ⟨T0, y0, rfl⟩
            · exact two_nil m
            · exact two_iface m T0 y0
          have hz9 := HB9.out.size
          have hbs9 : w.heap.size + 1 + 1 + 1 ≤ W9.heap.size := by have := HZ9.out; omega
          have HFIN : Hid (∀ (g' cap' : Nat) (w10 : World), w10.ownsRow (w.heap.size + 1 + 1 + 1) 55 2 (.slice (some ⟨g', 0, none⟩) (jn + 1) cap') (jn + 1) (xs ++ [.string m, xr]) → W9.grownBy w10 (some gq) → (some gq = some g' ∨ g' = W9.heap.size) → KeepsOthers W (w10.setCell ⟨w.heap.size + 1 + 1 + 1 + 1, 0, none⟩ (.slice (some ⟨g', 0, none⟩) (jn + 1) cap')) ∧ KD (DK w.heap.size) W (w10.setCell ⟨w.heap.size + 1 + 1 + 1 + 1, 0, none⟩ (.slice (some ⟨g', 0, none⟩) (jn + 1) cap')) ∧ NI g B b (some ⟨g2, o2, none⟩) F.len cf w W0 (pre.map (·.1) ++ [(-1, (j : Int))]) (A.app (.cons m yt .nil)) (wb && wh) (jn + 1) g' cap' (xs ++ [.string m, xr]) (w10.setCell ⟨w.heap.size + 1 + 1 + 1 + 1, 0, none⟩ (.slice (some ⟨g', 0, none⟩) (jn + 1) cap'))) := fun g' cap' w10 ho hg hor =>
            HN.out.kept HB.out HZ9.out HW7.out.1 HW7.out.2.2.1 HW7.out.2.2.2 HGK.out rfl hmz HYV.out HW8e.out HW9e.out ho hg hor
          have HB10 : Hid (∀ w10 : World, W9.grownBy w10 (some gq) → Boxed w10 (w.heap.size + 1 + 1 + 1 + 1) 57 (.slice (some ⟨gq, 0, none⟩) jn cap) ∧ (∀ k, k < W8.heap.size → k ≠ gq → k ≠ w.heap.size + 1 + 1 + 1 + 1 → w10.heap[k]? = W8.heap[k]?)) := fun w10 hg => ⟨(boxed_below HW8.out.2.2.2.1 HB9.out).kept hg (fun e => by injection e with e; have := HZ9.out; omega), fun k hk h1 _ => (hg.block k (by omega) (by simpa using h1)).trans (HB9.out.block k hk)⟩
          clear HRR hr hyv
          rcases hshr with rfl | ⟨T0, y0, rfl⟩
          · cases wb
            all_goals
              simp only [Bool.false_and, Bool.true_and] at hw8
              go_wp2_with fail
              refine hK.out _ _ ?_ (fun hHeld => ?_)
              · exact HS7.out _ HB6.out
              clear hK K
              refine wpAnyH_ready (rs := [8]) (by kernel_rfl) (by simp) ?_
              refine AllReadyH.cons (o := ⟨none, .store 80 (.tmp 9) (.tmp 28), 0, "narrow.go:49", #[⟨7, .data⟩, ⟨7, .chain⟩, ⟨0, .phase⟩, ⟨1, .phase⟩, ⟨2, .phase⟩, ⟨3, .phase⟩, ⟨4, .phase⟩, ⟨5, .phase⟩, ⟨6, .phase⟩, ⟨7, .phase⟩], none⟩) rfl (fun K hK => ?_) AllReadyH.nil
              go_simp
              refine hK.out _ _ ?_ (fun hHeld => ?_)
              · exact HS7.out _ HW7.out.1
              clear hK K
              refine wpAnyH_done (by kernel_rfl) ?_ _
              refine Tame.normal ?_
              gi_wp2
              refine region_round (S := fun W' => W'.cell? ⟨w.heap.size + 1, 0, none⟩ = some (.slice (some ⟨g2, o2, none⟩) F.len cf) ∧ W'.cell? ⟨g2, o2 + j * 2, none⟩ = some (.string m) ∧ W'.cell? ⟨W.heap.size, 0, none⟩ = some .nilIface) (by kernel_rfl) (by kernel_rfl) (HS10.out _ (fun _ _ _ _ => rfl)) (fun hHeld => ?_)
              refine wpAnyH_take (i := 1) (oi := ⟨some 38, .load 57 (.tmp 3), 57, "narrow.go:54", #[], none⟩) (v := ?_) rfl (by kernel_rfl) (by kernel_rfl) (by kernel_rfl) (fun _ _ _ h => h) (Or.inl ⟨by rfl, ?_⟩) (by assumption) ?_
              rotate_left
              · intro w hSw; (try dsimp only at hSw); go_simp; try (with_reducible rfl)
              simp only [Act.put, List.setIfInBounds_toArray, List.set_cons_zero, List.set_cons_succ]
              refine wpAnyH_take (i := 2) (oi := ⟨some 39, .move (.tmp 8), 3, "narrow.go:54", #[], none⟩) (v := ?_) rfl (by kernel_rfl) (by kernel_rfl) (by kernel_rfl) (fun _ _ _ h => h) (Or.inl ⟨by rfl, ?_⟩) (by assumption) ?_
              rotate_left
              · intro w hSw; (try dsimp only at hSw); go_simp; try (with_reducible rfl)
              simp only [Act.put, List.setIfInBounds_toArray, List.set_cons_zero, List.set_cons_succ]
              refine wpAnyH_take (i := 3) (oi := ⟨some 40, .indexAddr 57 (.tmp 38) (.tmp 39), 0, "narrow.go:54", #[⟨1, .data⟩, ⟨2, .data⟩], none⟩) (v := ?_) rfl (by kernel_rfl) (by kernel_rfl) (by kernel_rfl) (fun _ _ _ h => h) (Or.inl ⟨by rfl, ?_⟩) (by assumption) ?_
              rotate_left
              · intro w hSw; (try dsimp only at hSw); go_simp; try (with_reducible rfl)
              simp only [Act.put, List.setIfInBounds_toArray, List.set_cons_zero, List.set_cons_succ]
              refine wpAnyH_take (i := 4) (oi := ⟨some 41, .fieldAddr 55 (.tmp 40) 0, 0, "narrow.go:54", #[⟨3, .data⟩], none⟩) (v := ?_) rfl (by kernel_rfl) (by kernel_rfl) (by kernel_rfl) (fun _ _ _ h => h) (Or.inl ⟨by rfl, ?_⟩) (by assumption) ?_
              rotate_left
              · intro w hSw; (try dsimp only at hSw); go_simp; try (with_reducible rfl)
              simp only [Act.put, List.setIfInBounds_toArray, List.set_cons_zero, List.set_cons_succ]
              refine wpAnyH_take (i := 5) (oi := ⟨some 42, .load 9 (.tmp 41), 9, "narrow.go:54", #[⟨4, .data⟩], none⟩) (v := ?_) rfl (by kernel_rfl) (by kernel_rfl) (by kernel_rfl) (fun _ _ _ h => h) (Or.inl ⟨by rfl, ?_⟩) (by assumption) ?_
              rotate_left
              · intro w hSw; (try dsimp only at hSw); go_simp; try (with_reducible rfl)
              simp only [Act.put, List.setIfInBounds_toArray, List.set_cons_zero, List.set_cons_succ]
              refine wpAnyH_take (i := 6) (oi := ⟨some 43, .fieldAddr 80 (.tmp 9) 0, 0, "narrow.go:54", #[], none⟩) (v := ?_) rfl (by kernel_rfl) (by kernel_rfl) (by kernel_rfl) (fun _ _ _ h => h) (Or.inl ⟨by rfl, ?_⟩) (by assumption) ?_
              rotate_left
              · intro w hSw; (try dsimp only at hSw); go_simp; try (with_reducible rfl)
              simp only [Act.put, List.setIfInBounds_toArray, List.set_cons_zero, List.set_cons_succ]
              refine wpAnyH_take (i := 7) (oi := ⟨some 44, .load 20 (.tmp 43), 20, "narrow.go:54", #[⟨6, .data⟩], none⟩) (v := ?_) rfl (by kernel_rfl) (by kernel_rfl) (by kernel_rfl) (fun _ _ _ h => h) (Or.inl ⟨by rfl, ?_⟩) (by assumption) ?_
              rotate_left
              · intro w hSw; (try dsimp only at hSw); go_simp; try (with_reducible rfl)
              simp only [Act.put, List.setIfInBounds_toArray, List.set_cons_zero, List.set_cons_succ]
              refine wpAnyH_take (i := 8) (oi := ⟨some 45, .build 55 #[(0, .tmp 42), (1, .tmp 44)], 55, "narrow.go:54", #[⟨5, .data⟩, ⟨7, .data⟩], none⟩) (v := ?_) rfl (by kernel_rfl) (by kernel_rfl) (by kernel_rfl) (fun _ _ _ h => h) (Or.inl ⟨by rfl, ?_⟩) (by assumption) ?_
              rotate_left
              · intro w hSw; (try dsimp only at hSw); go_simp; try (with_reducible rfl)
              simp only [Act.put, List.setIfInBounds_toArray, List.set_cons_zero, List.set_cons_succ]
              refine wpAnyH_ready (rs := [0, 9]) (by kernel_rfl) (by simp) ?_
              refine AllReadyH.cons (o := ⟨some 37, .load 57 (.tmp 5), 57, "narrow.go:54", #[], none⟩) rfl (fun K hK => ?_) (AllReadyH.cons (o := ⟨some 46, .buildSlice 57 1 #[(0, .tmp 45)], 57, "narrow.go:54", #[⟨8, .data⟩], none⟩) rfl (fun K hK => ?_) AllReadyH.nil)
              · go_simp
                refine hK.out _ _ ?_ (fun hHeld => ?_)
                · exact HS10.out _ (fun _ _ _ _ => rfl)
                clear hK K
                refine wpAnyH_ready (rs := [9]) (by kernel_rfl) (by simp) ?_
                refine AllReadyH.cons (o := ⟨some 46, .buildSlice 57 1 #[(0, .tmp 45)], 57, "narrow.go:54", #[⟨8, .data⟩], none⟩) rfl (fun K hK => ?_) AllReadyH.nil
                go_simp
                refine hK.out _ _ ?_ (fun hHeld => ?_)
                · exact HS10.out _ (fun k hk _ _ => HB9.out.block k hk)
                clear hK K
                refine wpAnyH_ready (rs := [10]) (by kernel_rfl) (by simp) ?_
                refine AllReadyH.cons (o := ⟨some 47, .call { callee := Go.Callee.builtin Go.Builtin.append, args := #[.tmp 37, .tmp 46], argTypes := #[57, 57] }, 57, "narrow.go:54", #[⟨0, .data⟩, ⟨9, .data⟩], none⟩) rfl (fun K hK => ?_) AllReadyH.nil
                refine step_append_lies _ (by rfl) _ _ _ (by rfl) (w.heap.size + 1 + 1 + 1) 55 i0 _ 2 32 Try.undD hi hz0 hz1 hz2 rfl (by omega) _ jn xs (by rfl) HNF9.out.own ⟨W7.heap.size, 0, none⟩ 1 1 [.string m, .nilIface] (by rfl) (by rfl) HNEW.out HONE.out (by omega) (by unfold maxLen; omega) (by omega) hbs9 W9.heap.size rfl ?_
                intro g' cap' w10 hown hgrow hor hlt10
                have hgr : W9.grownBy w10 (some gq) := hgrow
                have HF10 : Hid _ := HFIN.out g' cap' w10 hown hgr (by simpa [Value.ownBlock] using hor)
                have HBX : Hid _ := HB10.out w10 hgr
                have d10 := HBX.out.1.cell
                have z10 := HBX.out.1.frozen
                clear hown hgrow hgr hor
                go_wp2_with fail
                refine hK.out _ _ ?_ (fun hHeld => ?_)
                · exact HS10.out _ HBX.out.2
                clear hK K
                refine wpAnyH_ready (rs := [11]) (by kernel_rfl) (by simp) ?_
                refine AllReadyH.cons (o := ⟨none, .store 57 (.tmp 5) (.tmp 47), 0, "narrow.go:54", #[⟨10, .data⟩, ⟨10, .chain⟩, ⟨0, .phase⟩, ⟨1, .phase⟩, ⟨2, .phase⟩, ⟨3, .phase⟩, ⟨4, .phase⟩, ⟨5, .phase⟩, ⟨6, .phase⟩, ⟨7, .phase⟩, ⟨8, .phase⟩, ⟨9, .phase⟩, ⟨10, .phase⟩], none⟩) rfl (fun K hK => ?_) AllReadyH.nil
                go_simp
                refine hK.out _ _ ?_ (fun hHeld => ?_)
                · exact HS10.out _ (fun k hk h1 h2 => (heap_setCell_other _ _ _ _ h2).trans (HBX.out.2 k hk h1 h2))
                clear hK K
                refine wpAnyH_done (by kernel_rfl) ?_ _
                refine Tame.normal ?_
                gi_wp2
                exact ⟨HF10.out.1, HF10.out.2.1, by dsimp only; rw [HMP.out]; exact NIx.of HF10.out.2.2⟩
              · go_simp
                refine hK.out _ _ ?_ (fun hHeld => ?_)
                · exact HS10.out _ (fun k hk _ _ => HB9.out.block k hk)
                clear hK K
                refine wpAnyH_ready (rs := [0]) (by kernel_rfl) (by simp) ?_
                refine AllReadyH.cons (o := ⟨some 37, .load 57 (.tmp 5), 57, "narrow.go:54", #[], none⟩) rfl (fun K hK => ?_) AllReadyH.nil
                go_simp
                refine hK.out _ _ ?_ (fun hHeld => ?_)
                · exact HS10.out _ (fun k hk _ _ => HB9.out.block k hk)
                clear hK K
                refine wpAnyH_ready (rs := [10]) (by kernel_rfl) (by simp) ?_
                refine AllReadyH.cons (o := ⟨some 47, .call { callee := Go.Callee.builtin Go.Builtin.append, args := #[.tmp 37, .tmp 46], argTypes := #[57, 57] }, 57, "narrow.go:54", #[⟨0, .data⟩, ⟨9, .data⟩], none⟩) rfl (fun K hK => ?_) AllReadyH.nil
                refine step_append_lies _ (by rfl) _ _ _ (by rfl) (w.heap.size + 1 + 1 + 1) 55 i0 _ 2 32 Try.undD hi hz0 hz1 hz2 rfl (by omega) _ jn xs (by rfl) HNF9.out.own ⟨W7.heap.size, 0, none⟩ 1 1 [.string m, .nilIface] (by rfl) (by rfl) HNEW.out HONE.out (by omega) (by unfold maxLen; omega) (by omega) hbs9 W9.heap.size rfl ?_
                intro g' cap' w10 hown hgrow hor hlt10
                have hgr : W9.grownBy w10 (some gq) := hgrow
                have HF10 : Hid _ := HFIN.out g' cap' w10 hown hgr (by simpa [Value.ownBlock] using hor)
                have HBX : Hid _ := HB10.out w10 hgr
                have d10 := HBX.out.1.cell
                have z10 := HBX.out.1.frozen
                clear hown hgrow hgr hor
                go_wp2_with fail
                refine hK.out _ _ ?_ (fun hHeld => ?_)
                · exact HS10.out _ HBX.out.2
                clear hK K
                refine wpAnyH_ready (rs := [11]) (by kernel_rfl) (by simp) ?_
                refine AllReadyH.cons (o := ⟨none, .store 57 (.tmp 5) (.tmp 47), 0, "narrow.go:54", #[⟨10, .data⟩, ⟨10, .chain⟩, ⟨0, .phase⟩, ⟨1, .phase⟩, ⟨2, .phase⟩, ⟨3, .phase⟩, ⟨4, .phase⟩, ⟨5, .phase⟩, ⟨6, .phase⟩, ⟨7, .phase⟩, ⟨8, .phase⟩, ⟨9, .phase⟩, ⟨10, .phase⟩], none⟩) rfl (fun K hK => ?_) AllReadyH.nil
                go_simp
                refine hK.out _ _ ?_ (fun hHeld => ?_)
                · exact HS10.out _ (fun k hk h1 h2 => (heap_setCell_other _ _ _ _ h2).trans (HBX.out.2 k hk h1 h2))
                clear hK K
                refine wpAnyH_done (by kernel_rfl) ?_ _
                refine Tame.normal ?_
                gi_wp2
                exact ⟨HF10.out.1, HF10.out.2.1, by dsimp only; rw [HMP.out]; exact NIx.of HF10.out.2.2⟩
          · cases wb
            all_goals
              simp only [Bool.false_and, Bool.true_and] at hw8
              go_wp2_with fail
              refine hK.out _ _ ?_ (fun hHeld => ?_)
              · exact HS7.out _ HB6.out
              clear hK K
              refine wpAnyH_ready (rs := [8]) (by kernel_rfl) (by simp) ?_
              refine AllReadyH.cons (o := ⟨none, .store 80 (.tmp 9) (.tmp 28), 0, "narrow.go:49", #[⟨7, .data⟩, ⟨7, .chain⟩, ⟨0, .phase⟩, ⟨1, .phase⟩, ⟨2, .phase⟩, ⟨3, .phase⟩, ⟨4, .phase⟩, ⟨5, .phase⟩, ⟨6, .phase⟩, ⟨7, .phase⟩], none⟩) rfl (fun K hK => ?_) AllReadyH.nil
              go_simp
              refine hK.out _ _ ?_ (fun hHeld => ?_)
              · exact HS7.out _ HW7.out.1
              clear hK K
              refine wpAnyH_done (by kernel_rfl) ?_ _
              refine Tame.normal ?_
              gi_wp2
              refine region_round (S := fun W' => W'.cell? ⟨w.heap.size + 1, 0, none⟩ = some (.slice (some ⟨g2, o2, none⟩) F.len cf) ∧ W'.cell? ⟨g2, o2 + j * 2, none⟩ = some (.string m) ∧ W'.cell? ⟨W.heap.size, 0, none⟩ = some (.iface T0 y0)) (by kernel_rfl) (by kernel_rfl) (HS10.out _ (fun _ _ _ _ => rfl)) (fun hHeld => ?_)
              refine wpAnyH_take (i := 1) (oi := ⟨some 38, .load 57 (.tmp 3), 57, "narrow.go:54", #[], none⟩) (v := ?_) rfl (by kernel_rfl) (by kernel_rfl) (by kernel_rfl) (fun _ _ _ h => h) (Or.inl ⟨by rfl, ?_⟩) (by assumption) ?_
              rotate_left
              · intro w hSw; (try dsimp only at hSw); go_simp; try (with_reducible rfl)
              simp only [Act.put, List.setIfInBounds_toArray, List.set_cons_zero, List.set_cons_succ]
              refine wpAnyH_take (i := 2) (oi := ⟨some 39, .move (.tmp 8), 3, "narrow.go:54", #[], none⟩) (v := ?_) rfl (by kernel_rfl) (by kernel_rfl) (by kernel_rfl) (fun _ _ _ h => h) (Or.inl ⟨by rfl, ?_⟩) (by assumption) ?_
              rotate_left
              · intro w hSw; (try dsimp only at hSw); go_simp; try (with_reducible rfl)
              simp only [Act.put, List.setIfInBounds_toArray, List.set_cons_zero, List.set_cons_succ]
              refine wpAnyH_take (i := 3) (oi := ⟨some 40, .indexAddr 57 (.tmp 38) (.tmp 39), 0, "narrow.go:54", #[⟨1, .data⟩, ⟨2, .data⟩], none⟩) (v := ?_) rfl (by kernel_rfl) (by kernel_rfl) (by kernel_rfl) (fun _ _ _ h => h) (Or.inl ⟨by rfl, ?_⟩) (by assumption) ?_
              rotate_left
              · intro w hSw; (try dsimp only at hSw); go_simp; try (with_reducible rfl)
              simp only [Act.put, List.setIfInBounds_toArray, List.set_cons_zero, List.set_cons_succ]
              refine wpAnyH_take (i := 4) (oi := ⟨some 41, .fieldAddr 55 (.tmp 40) 0, 0, "narrow.go:54", #[⟨3, .data⟩], none⟩) (v := ?_) rfl (by kernel_rfl) (by kernel_rfl) (by kernel_rfl) (fun _ _ _ h => h) (Or.inl ⟨by rfl, ?_⟩) (by assumption) ?_
              rotate_left
              · intro w hSw; (try dsimp only at hSw); go_simp; try (with_reducible rfl)
              simp only [Act.put, List.setIfInBounds_toArray, List.set_cons_zero, List.set_cons_succ]
              refine wpAnyH_take (i := 5) (oi := ⟨some 42, .load 9 (.tmp 41), 9, "narrow.go:54", #[⟨4, .data⟩], none⟩) (v := ?_) rfl (by kernel_rfl) (by kernel_rfl) (by kernel_rfl) (fun _ _ _ h => h) (Or.inl ⟨by rfl, ?_⟩) (by assumption) ?_
              rotate_left
              · intro w hSw; (try dsimp only at hSw); go_simp; try (with_reducible rfl)
              simp only [Act.put, List.setIfInBounds_toArray, List.set_cons_zero, List.set_cons_succ]
              refine wpAnyH_take (i := 6) (oi := ⟨some 43, .fieldAddr 80 (.tmp 9) 0, 0, "narrow.go:54", #[], none⟩) (v := ?_) rfl (by kernel_rfl) (by kernel_rfl) (by kernel_rfl) (fun _ _ _ h => h) (Or.inl ⟨by rfl, ?_⟩) (by assumption) ?_
              rotate_left
              · intro w hSw; (try dsimp only at hSw); go_simp; try (with_reducible rfl)
              simp only [Act.put, List.setIfInBounds_toArray, List.set_cons_zero, List.set_cons_succ]
              refine wpAnyH_take (i := 7) (oi := ⟨some 44, .load 20 (.tmp 43), 20, "narrow.go:54", #[⟨6, .data⟩], none⟩) (v := ?_) rfl (by kernel_rfl) (by kernel_rfl) (by kernel_rfl) (fun _ _ _ h => h) (Or.inl ⟨by rfl, ?_⟩) (by assumption) ?_
              rotate_left
              · intro w hSw; (try dsimp only at hSw); go_simp; try (with_reducible rfl)
              simp only [Act.put, List.setIfInBounds_toArray, List.set_cons_zero, List.set_cons_succ]
              refine wpAnyH_take (i := 8) (oi := ⟨some 45, .build 55 #[(0, .tmp 42), (1, .tmp 44)], 55, "narrow.go:54", #[⟨5, .data⟩, ⟨7, .data⟩], none⟩) (v := ?_) rfl (by kernel_rfl) (by kernel_rfl) (by kernel_rfl) (fun _ _ _ h => h) (Or.inl ⟨by rfl, ?_⟩) (by assumption) ?_
              rotate_left
              · intro w hSw; (try dsimp only at hSw); go_simp; try (with_reducible rfl)
              simp only [Act.put, List.setIfInBounds_toArray, List.set_cons_zero, List.set_cons_succ]
              refine wpAnyH_ready (rs := [0, 9]) (by kernel_rfl) (by simp) ?_
              refine AllReadyH.cons (o := ⟨some 37, .load 57 (.tmp 5), 57, "narrow.go:54", #[], none⟩) rfl (fun K hK => ?_) (AllReadyH.cons (o := ⟨some 46, .buildSlice 57 1 #[(0, .tmp 45)], 57, "narrow.go:54", #[⟨8, .data⟩], none⟩) rfl (fun K hK => ?_) AllReadyH.nil)
              · go_simp
                refine hK.out _ _ ?_ (fun hHeld => ?_)
                · exact HS10.out _ (fun _ _ _ _ => rfl)
                clear hK K
                refine wpAnyH_ready (rs := [9]) (by kernel_rfl) (by simp) ?_
                refine AllReadyH.cons (o := ⟨some 46, .buildSlice 57 1 #[(0, .tmp 45)], 57, "narrow.go:54", #[⟨8, .data⟩], none⟩) rfl (fun K hK => ?_) AllReadyH.nil
                go_simp
                refine hK.out _ _ ?_ (fun hHeld => ?_)
                · exact HS10.out _ (fun k hk _ _ => HB9.out.block k hk)
                clear hK K
                refine wpAnyH_ready (rs := [10]) (by kernel_rfl) (by simp) ?_
                refine AllReadyH.cons (o := ⟨some 47, .call { callee := Go.Callee.builtin Go.Builtin.append, args := #[.tmp 37, .tmp 46], argTypes := #[57, 57] }, 57, "narrow.go:54", #[⟨0, .data⟩, ⟨9, .data⟩], none⟩) rfl (fun K hK => ?_) AllReadyH.nil
                refine step_append_lies _ (by rfl) _ _ _ (by rfl) (w.heap.size + 1 + 1 + 1) 55 i0 _ 2 32 Try.undD hi hz0 hz1 hz2 rfl (by omega) _ jn xs (by rfl) HNF9.out.own ⟨W7.heap.size, 0, none⟩ 1 1 [.string m, (.iface T0 y0)] (by rfl) (by rfl) HNEW.out HONE.out (by omega) (by unfold maxLen; omega) (by omega) hbs9 W9.heap.size rfl ?_
                intro g' cap' w10 hown hgrow hor hlt10
                have hgr : W9.grownBy w10 (some gq) := hgrow
                have HF10 : Hid _ := HFIN.out g' cap' w10 hown hgr (by simpa [Value.ownBlock] using hor)
                have HBX : Hid _ := HB10.out w10 hgr
                have d10 := HBX.out.1.cell
                have z10 := HBX.out.1.frozen
                clear hown hgrow hgr hor
                go_wp2_with fail
                refine hK.out _ _ ?_ (fun hHeld => ?_)
                · exact HS10.out _ HBX.out.2
                clear hK K
                refine wpAnyH_ready (rs := [11]) (by kernel_rfl) (by simp) ?_
                refine AllReadyH.cons (o := ⟨none, .store 57 (.tmp 5) (.tmp 47), 0, "narrow.go:54", #[⟨10, .data⟩, ⟨10, .chain⟩, ⟨0, .phase⟩, ⟨1, .phase⟩, ⟨2, .phase⟩, ⟨3, .phase⟩, ⟨4, .phase⟩, ⟨5, .phase⟩, ⟨6, .phase⟩, ⟨7, .phase⟩, ⟨8, .phase⟩, ⟨9, .phase⟩, ⟨10, .phase⟩], none⟩) rfl (fun K hK => ?_) AllReadyH.nil
                go_simp
                refine hK.out _ _ ?_ (fun hHeld => ?_)
                · exact HS10.out _ (fun k hk h1 h2 => (heap_setCell_other _ _ _ _ h2).trans (HBX.out.2 k hk h1 h2))
                clear hK K
                refine wpAnyH_done (by kernel_rfl) ?_ _
                refine Tame.normal ?_
                gi_wp2
                exact ⟨HF10.out.1, HF10.out.2.1, by dsimp only; rw [HMP.out]; exact NIx.of HF10.out.2.2⟩
              · go_simp
                refine hK.out _ _ ?_ (fun hHeld => ?_)
                · exact HS10.out _ (fun k hk _ _ => HB9.out.block k hk)
                clear hK K
                refine wpAnyH_ready (rs := [0]) (by kernel_rfl) (by simp) ?_
                refine AllReadyH.cons (o := ⟨some 37, .load 57 (.tmp 5), 57, "narrow.go:54", #[], none⟩) rfl (fun K hK => ?_) AllReadyH.nil
                go_simp
                refine hK.out _ _ ?_ (fun hHeld => ?_)
                · exact HS10.out _ (fun k hk _ _ => HB9.out.block k hk)
                clear hK K
                refine wpAnyH_ready (rs := [10]) (by kernel_rfl) (by simp) ?_
                refine AllReadyH.cons (o := ⟨some 47, .call { callee := Go.Callee.builtin Go.Builtin.append, args := #[.tmp 37, .tmp 46], argTypes := #[57, 57] }, 57, "narrow.go:54", #[⟨0, .data⟩, ⟨9, .data⟩], none⟩) rfl (fun K hK => ?_) AllReadyH.nil
                refine step_append_lies _ (by rfl) _ _ _ (by rfl) (w.heap.size + 1 + 1 + 1) 55 i0 _ 2 32 Try.undD hi hz0 hz1 hz2 rfl (by omega) _ jn xs (by rfl) HNF9.out.own ⟨W7.heap.size, 0, none⟩ 1 1 [.string m, (.iface T0 y0)] (by rfl) (by rfl) HNEW.out HONE.out (by omega) (by unfold maxLen; omega) (by omega) hbs9 W9.heap.size rfl ?_
                intro g' cap' w10 hown hgrow hor hlt10
                have hgr : W9.grownBy w10 (some gq) := hgrow
                have HF10 : Hid _ := HFIN.out g' cap' w10 hown hgr (by simpa [Value.ownBlock] using hor)
                have HBX : Hid _ := HB10.out w10 hgr
                have d10 := HBX.out.1.cell
                have z10 := HBX.out.1.frozen
                clear hown hgrow hgr hor
                go_wp2_with fail
                refine hK.out _ _ ?_ (fun hHeld => ?_)
                · exact HS10.out _ HBX.out.2
                clear hK K
                refine wpAnyH_ready (rs := [11]) (by kernel_rfl) (by simp) ?_
                refine AllReadyH.cons (o := ⟨none, .store 57 (.tmp 5) (.tmp 47), 0, "narrow.go:54", #[⟨10, .data⟩, ⟨10, .chain⟩, ⟨0, .phase⟩, ⟨1, .phase⟩, ⟨2, .phase⟩, ⟨3, .phase⟩, ⟨4, .phase⟩, ⟨5, .phase⟩, ⟨6, .phase⟩, ⟨7, .phase⟩, ⟨8, .phase⟩, ⟨9, .phase⟩, ⟨10, .phase⟩], none⟩) rfl (fun K hK => ?_) AllReadyH.nil
                go_simp
                refine hK.out _ _ ?_ (fun hHeld => ?_)
                · exact HS10.out _ (fun k hk h1 h2 => (heap_setCell_other _ _ _ _ h2).trans (HBX.out.2 k hk h1 h2))
                clear hK K
                refine wpAnyH_done (by kernel_rfl) ?_ _
                refine Tame.normal ?_
                gi_wp2
                exact ⟨HF10.out.1, HF10.out.2.1, by dsimp only; rw [HMP.out]; exact NIx.of HF10.out.2.2⟩
      · gi_wp2
        refine region_round (S := fun W' => W'.cell? ⟨w.heap.size, 0, none⟩ = some (.pointer (some ⟨b, 0, none⟩)) ∧ W'.cell? ⟨w.heap.size + 1, 0, none⟩ = some (.slice (some ⟨g2, o2, none⟩) F.len cf) ∧ W'.cell? ⟨g2, o2 + j * 2 + 1, none⟩ = some (.iface T y) ∧ W'.cell? ⟨g2, o2 + j * 2, none⟩ = some (.string m)) (by kernel_rfl) (by kernel_rfl) (HS7.out _ (HB5.out _).1) (fun hHeld => ?_)
        refine wpAnyH_take (i := 0) (oi := ⟨some 21, .load 64 (.tmp 2), 64, "narrow.go:49", #[], none⟩) (v := ?_) rfl (by kernel_rfl) (by kernel_rfl) (by kernel_rfl) (fun _ _ _ h => h) (Or.inl ⟨by rfl, ?_⟩) (by assumption) ?_
        rotate_left
        · intro w hSw; (try dsimp only at hSw); go_simp; try (with_reducible rfl)
        simp only [Act.put, List.setIfInBounds_toArray, List.set_cons_zero, List.set_cons_succ]
        refine wpAnyH_take (i := 1) (oi := ⟨some 22, .move (.tmp 7), 3, "narrow.go:49", #[], none⟩) (v := ?_) rfl (by kernel_rfl) (by kernel_rfl) (by kernel_rfl) (fun _ _ _ h => h) (Or.inl ⟨by rfl, ?_⟩) (by assumption) ?_
        rotate_left
        · intro w hSw; (try dsimp only at hSw); go_simp; try (with_reducible rfl)
        simp only [Act.put, List.setIfInBounds_toArray, List.set_cons_zero, List.set_cons_succ]
        refine wpAnyH_take (i := 2) (oi := ⟨some 23, .load 57 (.tmp 3), 57, "narrow.go:49", #[], none⟩) (v := ?_) rfl (by kernel_rfl) (by kernel_rfl) (by kernel_rfl) (fun _ _ _ h => h) (Or.inl ⟨by rfl, ?_⟩) (by assumption) ?_
        rotate_left
        · intro w hSw; (try dsimp only at hSw); go_simp; try (with_reducible rfl)
        simp only [Act.put, List.setIfInBounds_toArray, List.set_cons_zero, List.set_cons_succ]
        refine wpAnyH_take (i := 3) (oi := ⟨some 24, .move (.tmp 8), 3, "narrow.go:49", #[], none⟩) (v := ?_) rfl (by kernel_rfl) (by kernel_rfl) (by kernel_rfl) (fun _ _ _ h => h) (Or.inl ⟨by rfl, ?_⟩) (by assumption) ?_
        rotate_left
        · intro w hSw; (try dsimp only at hSw); go_simp; try (with_reducible rfl)
        simp only [Act.put, List.setIfInBounds_toArray, List.set_cons_zero, List.set_cons_succ]
        refine wpAnyH_take (i := 4) (oi := ⟨some 25, .indexAddr 57 (.tmp 23) (.tmp 24), 0, "narrow.go:49", #[⟨2, .data⟩, ⟨3, .data⟩], none⟩) (v := ?_) rfl (by kernel_rfl) (by kernel_rfl) (by kernel_rfl) (fun _ _ _ h => h) (Or.inl ⟨by rfl, ?_⟩) (by assumption) ?_
        rotate_left
        · intro w hSw; (try dsimp only at hSw); go_simp; try (with_reducible rfl)
        simp only [Act.put, List.setIfInBounds_toArray, List.set_cons_zero, List.set_cons_succ]
        refine wpAnyH_take (i := 5) (oi := ⟨some 26, .fieldAddr 55 (.tmp 25) 1, 0, "narrow.go:49", #[⟨4, .data⟩], none⟩) (v := ?_) rfl (by kernel_rfl) (by kernel_rfl) (by kernel_rfl) (fun _ _ _ h => h) (Or.inl ⟨by rfl, ?_⟩) (by assumption) ?_
        rotate_left
        · intro w hSw; (try dsimp only at hSw); go_simp; try (with_reducible rfl)
        simp only [Act.put, List.setIfInBounds_toArray, List.set_cons_zero, List.set_cons_succ]
        refine wpAnyH_take (i := 6) (oi := ⟨some 27, .load 20 (.tmp 26), 20, "narrow.go:49", #[⟨5, .data⟩], none⟩) (v := ?_) rfl (by kernel_rfl) (by kernel_rfl) (by kernel_rfl) (fun _ _ _ h => h) (Or.inl ⟨by rfl, ?_⟩) (by assumption) ?_
        rotate_left
        · intro w hSw; (try dsimp only at hSw); go_simp; try (with_reducible rfl)
        simp only [Act.put, List.setIfInBounds_toArray, List.set_cons_zero, List.set_cons_succ]
        refine wpAnyH_ready (rs := [7]) (by kernel_rfl) (by simp) ?_
        refine AllReadyH.cons (o := ⟨some 28, .call { callee := Go.Callee.value (.func 78), args := #[.tmp 21, .tmp 22, .tmp 27], argTypes := #[64, 3, 20] }, 80, "narrow.go:49", #[⟨0, .data⟩, ⟨1, .data⟩, ⟨6, .data⟩], none⟩) rfl (fun K hK => ?_) AllReadyH.nil
        go_simp
        refine (HO.out _ (HB5.out _).2).mono ?_
        rintro e W6 ⟨hb6, xr, ok, wh, rfl, hRR⟩
        have HB6 : Hid (Below W.heap.size W W6) := below_to (HB5.out _).1 hb6
        have hq6 : W6.heap[W.heap.size]? = some (.cells n0cells 80 (0, 0)) := (hb6.block _ (by show W.heap.size < (W.alloc _).heap.size; simp)).trans (heap_alloc_new W _)
        have hs6 : W.heap.size + 1 ≤ W6.heap.size := by have h : (W.alloc (.cells n0cells 80)).heap.size ≤ W6.heap.size := hb6.size; rw [World.size_alloc] at h; exact h
        have hshr := hRR.shape
        have HRR : Hid ((r = none ∧ ok = false ∧ wh = false ∧ xr = .nilIface) ∨ ∃ y, r = some (y, wh) ∧ ok = true ∧ y.V W6 (fun k => k < B ∨ (W.heap.size < k ∧ k < W6.heap.size)) xr) := by
          rcases hRR with q | ⟨y, q1, q2, q3⟩
          · exact .inl q
          · refine .inr ⟨y, q1, q2, y.V_same (Same.refl _ _) (fun k hk => ?_) xr q3⟩
            rcases hk with hk | hk
            · exact .inl hk
            · refine .inr ⟨?_, hk.2⟩
              have h : (W.alloc (.cells n0cells 80)).heap.size ≤ k := hk.1
              rw [World.size_alloc] at h; omega
        obtain ⟨q0, q1, q2, f0, f1, f2⟩ := n0row hq6
        obtain ⟨W7, hw7⟩ : ∃ W7, (((W6.setCell ⟨W.heap.size, 0, none⟩ xr).setCell ⟨W.heap.size, 1, none⟩ (.bool ok)).setCell ⟨W.heap.size, 2, none⟩ (.bool wh)) = W7 := ⟨_, rfl⟩
        have HW7 : Hid (Below W.heap.size W W7 ∧ W7.heap[W.heap.size]? = some (.cells #[xr, .bool ok, .bool wh] 80 (0, 0)) ∧ (∀ k, k ≠ W.heap.size → W7.heap[k]? = W6.heap[k]?) ∧ W7.heap.size = W6.heap.size) := by
          have e : setN W6 W.heap.size 0 [xr, .bool ok, .bool wh] = W7 := hw7
          rw [← e]
          exact ⟨setN_below (Nat.le_refl _) _ _ _ _ HB6.out, setN_box _ _ _ hq6 rfl, fun k hk => setN_other hk _ _ _, setN_size _ _ _⟩
        obtain ⟨p0, p1, p2, -, -, -⟩ := n0row HW7.out.2.1
        have hb57 : Boxed W7 (w.heap.size + 1 + 1 + 1 + 1 + 1) 4 (.bool wb) := (HW7.out.1.block _ HN.out.b5.lt).trans HN.out.b5
        have p5 := hb57.cell
        have f5 := hb57.frozen
        obtain ⟨W8, hw8⟩ : ∃ W8, W7.setCell ⟨w.heap.size + 1 + 1 + 1 + 1 + 1, 0, none⟩ (.bool (wb && wh)) = W8 := ⟨_, rfl⟩
        have HW8e : Hid (W7.setCell ⟨w.heap.size + 1 + 1 + 1 + 1 + 1, 0, none⟩ (.bool (wb && wh)) = W8) := hw8
        have HW8 := HN.out.r8 HB.out HZ9.out HW7.out.1 (wb && wh) hw8
        have hqne : W.heap.size ≠ w.heap.size + 1 + 1 + 1 + 1 + 1 := by have := HZ9.out; have := HN.out.sz; omega
        obtain ⟨s0, s1, s2, -, -, -⟩ := n0row ((HW8.2.2.2.2.2.2.1 _ hqne).trans HW7.out.2.1)
        have k0 : W8.cell? ⟨w.heap.size, 0, none⟩ = some (.pointer (some ⟨b, 0, none⟩)) := by rw [HW8.1.cell (p := ⟨w.heap.size, 0, none⟩) (by show w.heap.size < _; omega)]; exact c0
        have HW8 : Hid _ := HW8
        clear hRR hb6 hq6 hb57
        rcases HRR.out with ⟨hr, rfl, rfl, rfl⟩ | ⟨yt, hr, rfl, hyv⟩
        · have HG0 : Hid _ := HGN.out hr
          clear HRR hr hshr
          rw [Bool.and_false] at hw8
          cases wb
          all_goals
            go_wp2_with fail
            refine hK.out _ _ ?_ (fun hHeld => ?_)
            · exact HS7.out _ HB6.out
            clear hK K
            refine wpAnyH_ready (rs := [8]) (by kernel_rfl) (by simp) ?_
            refine AllReadyH.cons (o := ⟨none, .store 80 (.tmp 9) (.tmp 28), 0, "narrow.go:49", #[⟨7, .data⟩, ⟨7, .chain⟩, ⟨0, .phase⟩, ⟨1, .phase⟩, ⟨2, .phase⟩, ⟨3, .phase⟩, ⟨4, .phase⟩, ⟨5, .phase⟩, ⟨6, .phase⟩, ⟨7, .phase⟩], none⟩) rfl (fun K hK => ?_) AllReadyH.nil
            go_simp
            refine hK.out _ _ ?_ (fun hHeld => ?_)
            · exact HS7.out _ HW7.out.1
            clear hK K
            refine wpAnyH_done (by kernel_rfl) ?_ _
            refine Tame.normal ?_
            gi_wp2
            obtain ⟨u1, u2, u3⟩ := HN.out.skip HB.out HZ9.out HW7.out.1 (x := (-1, (j : Int))) HG0.out hw8
            exact ⟨u1, u2, by dsimp only; rw [HMP.out]; exact NIx.of u3⟩
        · have HGK : Hid (g (-1, (j : Int)) = some (some (m, yt), wh)) := HGS.out yt wh hr
          have HYV : Hid (yt.V W6 (fun k => k < B ∨ (W.heap.size < k ∧ k < W6.heap.size)) xr) := hyv
          have hgh := HW8.out.2.2.2.2.2.1.here
          have hgw := HN.out.nf.here
          have hz8 := HW8.out.1.size
          have hzn := HN.out.sz
          have HS10 : Hid (∀ W' : World, (∀ k, k < W8.heap.size → k ≠ gq → k ≠ w.heap.size + 1 + 1 + 1 + 1 → W'.heap[k]? = W8.heap[k]?) → W'.cell? ⟨w.heap.size + 1, 0, none⟩ = some (.slice (some ⟨g2, o2, none⟩) F.len cf) ∧ W'.cell? ⟨g2, o2 + j * 2, none⟩ = some (.string m) ∧ W'.cell? ⟨W.heap.size, 0, none⟩ = some xr) := fun W' h => by
            have hz := HZ9.out
            have hw0 := hbW.size
            have l1 : W.heap.size < W8.heap.size := (Array.getElem?_eq_some_iff.1 ((HW8.out.2.2.2.2.2.2.1 _ hqne).trans HW7.out.2.1)).1
            refine ⟨?_, ?_, ?_⟩
            · rw [World.cell?_of_block (a := ⟨w.heap.size + 1, 0, none⟩) (h _ (by show w.heap.size + 1 < _; omega) (by show w.heap.size + 1 ≠ _; omega) (by show w.heap.size + 1 ≠ _; omega)), HW8.out.1.cell (p := ⟨w.heap.size + 1, 0, none⟩) (by show w.heap.size + 1 < _; omega)]; exact HN.out.c1
            · rw [World.cell?_of_block (a := ⟨g2, o2 + j * 2, none⟩) (h _ (by show g2 < _; omega) (by show g2 ≠ _; omega) (by show g2 ≠ _; omega)), HW8.out.1.cell (p := ⟨g2, o2 + j * 2, none⟩) (by show g2 < _; omega)]; exact (HS7.out W (Below.refl _ _)).2.2.2
            · rw [World.cell?_of_block (a := ⟨W.heap.size, 0, none⟩) (h _ l1 (by show W.heap.size ≠ _; omega) (by show W.heap.size ≠ _; omega))]; exact s0
          obtain ⟨W9, hw9⟩ : ∃ W9, W8.drew.alloc (.cells #[.string m, xr] 55) = W9 := ⟨_, rfl⟩
          have HB9 : Hid (Below W8.heap.size W8 W9) := hw9 ▸ (((Below.refl _ _).drew).alloc (Nat.le_refl _) _)
          have HW9e : Hid (W8.drew.alloc (.cells #[.string m, xr] 55) = W9) := hw9
          have HNF9 := HW8.out.2.2.2.2.2.1.call HB9.out
          have HNF9 : Hid _ := HNF9
          have HNEW : Hid (∀ i u, [Value.string m, xr][i]? = some u → W9.cell? ((⟨W7.heap.size, 0, none⟩ : Addr).add i) = some u) := by rw [← hw9, ← HW8.out.2.2.2.2.2.2.2]; exact cell_two_new W8.drew _ _ _
          have k4 : W8.drew.cell? ⟨w.heap.size + 1 + 1 + 1 + 1, 0, none⟩ = some (.slice (some ⟨gq, 0, none⟩) jn cap) := HW8.out.2.2.2.1.cell
          have k9 : W9.cell? ⟨w.heap.size + 1 + 1 + 1 + 1, 0, none⟩ = some (.slice (some ⟨gq, 0, none⟩) jn cap) := (boxed_below HW8.out.2.2.2.1 HB9.out).cell
          have HONE : Hid (∀ u ∈ [Value.string m, xr], u.oneCell' = true) := by
            rcases hshr with rfl | ⟨T0, y0, rfl⟩
            · exact two_nil m
            · exact two_iface m T0 y0
          have hz9 := HB9.out.size
          have hbs9 : w.heap.size + 1 + 1 + 1 ≤ W9.heap.size := by have := HZ9.out; omega
          have HFIN : Hid (∀ (g' cap' : Nat) (w10 : World), w10.ownsRow (w.heap.size + 1 + 1 + 1) 55 2 (.slice (some ⟨g', 0, none⟩) (jn + 1) cap') (jn + 1) (xs ++ [.string m, xr]) → W9.grownBy w10 (some gq) → (some gq = some g' ∨ g' = W9.heap.size) → KeepsOthers W (w10.setCell ⟨w.heap.size + 1 + 1 + 1 + 1, 0, none⟩ (.slice (some ⟨g', 0, none⟩) (jn + 1) cap')) ∧ KD (DK w.heap.size) W (w10.setCell ⟨w.heap.size + 1 + 1 + 1 + 1, 0, none⟩ (.slice (some ⟨g', 0, none⟩) (jn + 1) cap')) ∧ NI g B b (some ⟨g2, o2, none⟩) F.len cf w W0 (pre.map (·.1) ++ [(-1, (j : Int))]) (A.app (.cons m yt .nil)) (wb && wh) (jn + 1) g' cap' (xs ++ [.string m, xr]) (w10.setCell ⟨w.heap.size + 1 + 1 + 1 + 1, 0, none⟩ (.slice (some ⟨g', 0, none⟩) (jn + 1) cap'))) := fun g' cap' w10 ho hg hor =>
            HN.out.kept HB.out HZ9.out HW7.out.1 HW7.out.2.2.1 HW7.out.2.2.2 HGK.out rfl hmz HYV.out HW8e.out HW9e.out ho hg hor
          have HB10 : Hid (∀ w10 : World, W9.grownBy w10 (some gq) → Boxed w10 (w.heap.size + 1 + 1 + 1 + 1) 57 (.slice (some ⟨gq, 0, none⟩) jn cap) ∧ (∀ k, k < W8.heap.size → k ≠ gq → k ≠ w.heap.size + 1 + 1 + 1 + 1 → w10.heap[k]? = W8.heap[k]?)) := fun w10 hg => ⟨(boxed_below HW8.out.2.2.2.1 HB9.out).kept hg (fun e => by injection e with e; have := HZ9.out; omega), fun k hk h1 _ => (hg.block k (by omega) (by simpa using h1)).trans (HB9.out.block k hk)⟩
          clear HRR hr hyv
          rcases hshr with rfl | ⟨T0, y0, rfl⟩
          · cases wb
            all_goals
              simp only [Bool.false_and, Bool.true_and] at hw8
              go_wp2_with fail
              refine hK.out _ _ ?_ (fun hHeld => ?_)
              · exact HS7.out _ HB6.out
              clear hK K
              refine wpAnyH_ready (rs := [8]) (by kernel_rfl) (by simp) ?_
              refine AllReadyH.cons (o := ⟨none, .store 80 (.tmp 9) (.tmp 28), 0, "narrow.go:49", #[⟨7, .data⟩, ⟨7, .chain⟩, ⟨0, .phase⟩, ⟨1, .phase⟩, ⟨2, .phase⟩, ⟨3, .phase⟩, ⟨4, .phase⟩, ⟨5, .phase⟩, ⟨6, .phase⟩, ⟨7, .phase⟩], none⟩) rfl (fun K hK => ?_) AllReadyH.nil
              go_simp
              refine hK.out _ _ ?_ (fun hHeld => ?_)
              · exact HS7.out _ HW7.out.1
              clear hK K
              refine wpAnyH_done (by kernel_rfl) ?_ _
              refine Tame.normal ?_
              gi_wp2
              refine region_round (S := fun W' => W'.cell? ⟨w.heap.size + 1, 0, none⟩ = some (.slice (some ⟨g2, o2, none⟩) F.len cf) ∧ W'.cell? ⟨g2, o2 + j * 2, none⟩ = some (.string m) ∧ W'.cell? ⟨W.heap.size, 0, none⟩ = some .nilIface) (by kernel_rfl) (by kernel_rfl) (HS10.out _ (fun _ _ _ _ => rfl)) (fun hHeld => ?_)
              refine wpAnyH_take (i := 1) (oi := ⟨some 38, .load 57 (.tmp 3), 57, "narrow.go:54", #[], none⟩) (v := ?_) rfl (by kernel_rfl) (by kernel_rfl) (by kernel_rfl) (fun _ _ _ h => h) (Or.inl ⟨by rfl, ?_⟩) (by assumption) ?_
              rotate_left
              · intro w hSw; (try dsimp only at hSw); go_simp; try (with_reducible rfl)
              simp only [Act.put, List.setIfInBounds_toArray, List.set_cons_zero, List.set_cons_succ]
              refine wpAnyH_take (i := 2) (oi := ⟨some 39, .move (.tmp 8), 3, "narrow.go:54", #[], none⟩) (v := ?_) rfl (by kernel_rfl) (by kernel_rfl) (by kernel_rfl) (fun _ _ _ h => h) (Or.inl ⟨by rfl, ?_⟩) (by assumption) ?_
              rotate_left
              · intro w hSw; (try dsimp only at hSw); go_simp; try (with_reducible rfl)
              simp only [Act.put, List.setIfInBounds_toArray, List.set_cons_zero, List.set_cons_succ]
              refine wpAnyH_take (i := 3) (oi := ⟨some 40, .indexAddr 57 (.tmp 38) (.tmp 39), 0, "narrow.go:54", #[⟨1, .data⟩, ⟨2, .data⟩], none⟩) (v := ?_) rfl (by kernel_rfl) (by kernel_rfl) (by kernel_rfl) (fun _ _ _ h => h) (Or.inl ⟨by rfl, ?_⟩) (by assumption) ?_
              rotate_left
              · intro w hSw; (try dsimp only at hSw); go_simp; try (with_reducible rfl)
              simp only [Act.put, List.setIfInBounds_toArray, List.set_cons_zero, List.set_cons_succ]
              refine wpAnyH_take (i := 4) (oi := ⟨some 41, .fieldAddr 55 (.tmp 40) 0, 0, "narrow.go:54", #[⟨3, .data⟩], none⟩) (v := ?_) rfl (by kernel_rfl) (by kernel_rfl) (by kernel_rfl) (fun _ _ _ h => h) (Or.inl ⟨by rfl, ?_⟩) (by assumption) ?_
              rotate_left
              · intro w hSw; (try dsimp only at hSw); go_simp; try (with_reducible rfl)
              simp only [Act.put, List.setIfInBounds_toArray, List.set_cons_zero, List.set_cons_succ]
              refine wpAnyH_take (i := 5) (oi := ⟨some 42, .load 9 (.tmp 41), 9, "narrow.go:54", #[⟨4, .data⟩], none⟩) (v := ?_) rfl (by kernel_rfl) (by kernel_rfl) (by kernel_rfl) (fun _ _ _ h => h) (Or.inl ⟨by rfl, ?_⟩) (by assumption) ?_
              rotate_left
              · intro w hSw; (try dsimp only at hSw); go_simp; try (with_reducible rfl)
              simp only [Act.put, List.setIfInBounds_toArray, List.set_cons_zero, List.set_cons_succ]
              refine wpAnyH_take (i := 6) (oi := ⟨some 43, .fieldAddr 80 (.tmp 9) 0, 0, "narrow.go:54", #[], none⟩) (v := ?_) rfl (by kernel_rfl) (by kernel_rfl) (by kernel_rfl) (fun _ _ _ h => h) (Or.inl ⟨by rfl, ?_⟩) (by assumption) ?_
              rotate_left
              · intro w hSw; (try dsimp only at hSw); go_simp; try (with_reducible rfl)
              simp only [Act.put, List.setIfInBounds_toArray, List.set_cons_zero, List.set_cons_succ]
              refine wpAnyH_take (i := 7) (oi := ⟨some 44, .load 20 (.tmp 43), 20, "narrow.go:54", #[⟨6, .data⟩], none⟩) (v := ?_) rfl (by kernel_rfl) (by kernel_rfl) (by kernel_rfl) (fun _ _ _ h => h) (Or.inl ⟨by rfl, ?_⟩) (by assumption) ?_
              rotate_left
              · intro w hSw; (try dsimp only at hSw); go_simp; try (with_reducible rfl)
              simp only [Act.put, List.setIfInBounds_toArray, List.set_cons_zero, List.set_cons_succ]
              refine wpAnyH_take (i := 8) (oi := ⟨some 45, .build 55 #[(0, .tmp 42), (1, .tmp 44)], 55, "narrow.go:54", #[⟨5, .data⟩, ⟨7, .data⟩], none⟩) (v := ?_) rfl (by kernel_rfl) (by kernel_rfl) (by kernel_rfl) (fun _ _ _ h => h) (Or.inl ⟨by rfl, ?_⟩) (by assumption) ?_
              rotate_left
              · intro w hSw; (try dsimp only at hSw); go_simp; try (with_reducible rfl)
              simp only [Act.put, List.setIfInBounds_toArray, List.set_cons_zero, List.set_cons_succ]
              refine wpAnyH_ready (rs := [0, 9]) (by kernel_rfl) (by simp) ?_
              refine AllReadyH.cons (o := ⟨some 37, .load 57 (.tmp 5), 57, "narrow.go:54", #[], none⟩) rfl (fun K hK => ?_) (AllReadyH.cons (o := ⟨some 46, .buildSlice 57 1 #[(0, .tmp 45)], 57, "narrow.go:54", #[⟨8, .data⟩], none⟩) rfl (fun K hK => ?_) AllReadyH.nil)
              · go_simp
                refine hK.out _ _ ?_ (fun hHeld => ?_)
                · exact HS10.out _ (fun _ _ _ _ => rfl)
                clear hK K
                refine wpAnyH_ready (rs := [9]) (by kernel_rfl) (by simp) ?_
                refine AllReadyH.cons (o := ⟨some 46, .buildSlice 57 1 #[(0, .tmp 45)], 57, "narrow.go:54", #[⟨8, .data⟩], none⟩) rfl (fun K hK => ?_) AllReadyH.nil
                go_simp
                refine hK.out _ _ ?_ (fun hHeld => ?_)
                · exact HS10.out _ (fun k hk _ _ => HB9.out.block k hk)
                clear hK K
                refine wpAnyH_ready (rs := [10]) (by kernel_rfl) (by simp) ?_
                refine AllReadyH.cons (o := ⟨some 47, .call { callee := Go.Callee.builtin Go.Builtin.append, args := #[.tmp 37, .tmp 46], argTypes := #[57, 57] }, 57, "narrow.go:54", #[⟨0, .data⟩, ⟨9, .data⟩], none⟩) rfl (fun K hK => ?_) AllReadyH.nil
                refine step_append_lies _ (by rfl) _ _ _ (by rfl) (w.heap.size + 1 + 1 + 1) 55 i0 _ 2 32 Try.undD hi hz0 hz1 hz2 rfl (by omega) _ jn xs (by rfl) HNF9.out.own ⟨W7.heap.size, 0, none⟩ 1 1 [.string m, .nilIface] (by rfl) (by rfl) HNEW.out HONE.out (by omega) (by unfold maxLen; omega) (by omega) hbs9 W9.heap.size rfl ?_
                intro g' cap' w10 hown hgrow hor hlt10
                have hgr : W9.grownBy w10 (some gq) := hgrow
                have HF10 : Hid _ := HFIN.out g' cap' w10 hown hgr (by simpa [Value.ownBlock] using hor)
                have HBX : Hid _ := HB10.out w10 hgr
                have d10 := HBX.out.1.cell
                have z10 := HBX.out.1.frozen
                clear hown hgrow hgr hor
                go_wp2_with fail
                refine hK.out _ _ ?_ (fun hHeld => ?_)
                · exact HS10.out _ HBX.out.2
                clear hK K
                refine wpAnyH_ready (rs := [11]) (by kernel_rfl) (by simp) ?_
                refine AllReadyH.cons (o := ⟨none, .store 57 (.tmp 5) (.tmp 47), 0, "narrow.go:54", #[⟨10, .data⟩, ⟨10, .chain⟩, ⟨0, .phase⟩, ⟨1, .phase⟩, ⟨2, .phase⟩, ⟨3, .phase⟩, ⟨4, .phase⟩, ⟨5, .phase⟩, ⟨6, .phase⟩, ⟨7, .phase⟩, ⟨8, .phase⟩, ⟨9, .phase⟩, ⟨10, .phase⟩], none⟩) rfl (fun K hK => ?_) AllReadyH.nil
                go_simp
                refine hK.out _ _ ?_ (fun hHeld => ?_)
                · exact HS10.out _ (fun k hk h1 h2 => (heap_setCell_other _ _ _ _ h2).trans (HBX.out.2 k hk h1 h2))
                clear hK K
                refine wpAnyH_done (by kernel_rfl) ?_ _
                refine Tame.normal ?_
                gi_wp2
                exact ⟨HF10.out.1, HF10.out.2.1, by dsimp only; rw [HMP.out]; exact NIx.of HF10.out.2.2⟩
              · go_simp
                refine hK.out _ _ ?_ (fun hHeld => ?_)
                · exact HS10.out _ (fun k hk _ _ => HB9.out.block k hk)
                clear hK K
                refine wpAnyH_ready (rs := [0]) (by kernel_rfl) (by simp) ?_
                refine AllReadyH.cons (o := ⟨some 37, .load 57 (.tmp 5), 57, "narrow.go:54", #[], none⟩) rfl (fun K hK => ?_) AllReadyH.nil
                go_simp
                refine hK.out _ _ ?_ (fun hHeld => ?_)
                · exact HS10.out _ (fun k hk _ _ => HB9.out.block k hk)
                clear hK K
                refine wpAnyH_ready (rs := [10]) (by kernel_rfl) (by simp) ?_
                refine AllReadyH.cons (o := ⟨some 47, .call { callee := Go.Callee.builtin Go.Builtin.append, args := #[.tmp 37, .tmp 46], argTypes := #[57, 57] }, 57, "narrow.go:54", #[⟨0, .data⟩, ⟨9, .data⟩], none⟩) rfl (fun K hK => ?_) AllReadyH.nil
                refine step_append_lies _ (by rfl) _ _ _ (by rfl) (w.heap.size + 1 + 1 + 1) 55 i0 _ 2 32 Try.undD hi hz0 hz1 hz2 rfl (by omega) _ jn xs (by rfl) HNF9.out.own ⟨W7.heap.size, 0, none⟩ 1 1 [.string m, .nilIface] (by rfl) (by rfl) HNEW.out HONE.out (by omega) (by unfold maxLen; omega) (by omega) hbs9 W9.heap.size rfl ?_
                intro g' cap' w10 hown hgrow hor hlt10
                have hgr : W9.grownBy w10 (some gq) := hgrow
                have HF10 : Hid _ := HFIN.out g' cap' w10 hown hgr (by simpa [Value.ownBlock] using hor)
                have HBX : Hid _ := HB10.out w10 hgr
                have d10 := HBX.out.1.cell
                have z10 := HBX.out.1.frozen
                clear hown hgrow hgr hor
                go_wp2_with fail
                refine hK.out _ _ ?_ (fun hHeld => ?_)
                · exact HS10.out _ HBX.out.2
                clear hK K
                refine wpAnyH_ready (rs := [11]) (by kernel_rfl) (by simp) ?_
                refine AllReadyH.cons (o := ⟨none, .store 57 (.tmp 5) (.tmp 47), 0, "narrow.go:54", #[⟨10, .data⟩, ⟨10, .chain⟩, ⟨0, .phase⟩, ⟨1, .phase⟩, ⟨2, .phase⟩, ⟨3, .phase⟩, ⟨4, .phase⟩, ⟨5, .phase⟩, ⟨6, .phase⟩, ⟨7, .phase⟩, ⟨8, .phase⟩, ⟨9, .phase⟩, ⟨10, .phase⟩], none⟩) rfl (fun K hK => ?_) AllReadyH.nil
                go_simp
                refine hK.out _ _ ?_ (fun hHeld => ?_)
                · exact HS10.out _ (fun k hk h1 h2 => (heap_setCell_other _ _ _ _ h2).trans (HBX.out.2 k hk h1 h2))
                clear hK K
                refine wpAnyH_done (by kernel_rfl) ?_ _
                refine Tame.normal ?_
                gi_wp2
                exact ⟨HF10.out.1, HF10.out.2.1, by dsimp only; rw [HMP.out]; exact NIx.of HF10.out.2.2⟩
          · cases wb
            all_goals
              simp only [Bool.false_and, Bool.true_and] at hw8
              go_wp2_with fail
              refine hK.out _ _ ?_ (fun hHeld => ?_)
              · exact HS7.out _ HB6.out
              clear hK K
              refine wpAnyH_ready (rs := [8]) (by kernel_rfl) (by simp) ?_
              refine AllReadyH.cons (o := ⟨none, .store 80 (.tmp 9) (.tmp 28), 0, "narrow.go:49", #[⟨7, .data⟩, ⟨7, .chain⟩, ⟨0, .phase⟩, ⟨1, .phase⟩, ⟨2, .phase⟩, ⟨3, .phase⟩, ⟨4, .phase⟩, ⟨5, .phase⟩, ⟨6, .phase⟩, ⟨7, .phase⟩], none⟩) rfl (fun K hK => ?_) AllReadyH.nil
              go_simp
              refine hK.out _ _ ?_ (fun hHeld => ?_)
              · exact HS7.out _ HW7.out.1
              clear hK K
              refine wpAnyH_done (by kernel_rfl) ?_ _
              refine Tame.normal ?_
              gi_wp2
              refine region_round (S := fun W' => W'.cell? ⟨w.heap.size + 1, 0, none⟩ = some (.slice (some ⟨g2, o2, none⟩) F.len cf) ∧ W'.cell? ⟨g2, o2 + j * 2, none⟩ = some (.string m) ∧ W'.cell? ⟨W.heap.size, 0, none⟩ = some (.iface T0 y0)) (by kernel_rfl) (by kernel_rfl) (HS10.out _ (fun _ _ _ _ => rfl)) (fun hHeld => ?_)
              refine wpAnyH_take (i := 1) (oi := ⟨some 38, .load 57 (.tmp 3), 57, "narrow.go:54", #[], none⟩) (v := ?_) rfl (by kernel_rfl) (by kernel_rfl) (by kernel_rfl) (fun _ _ _ h => h) (Or.inl ⟨by rfl, ?_⟩) (by assumption) ?_
              rotate_left
              · intro w hSw; (try dsimp only at hSw); go_simp; try (with_reducible rfl)
              simp only [Act.put, List.setIfInBounds_toArray, List.set_cons_zero, List.set_cons_succ]
              refine wpAnyH_take (i := 2) (oi := ⟨some 39, .move (.tmp 8), 3, "narrow.go:54", #[], none⟩) (v := ?_) rfl (by kernel_rfl) (by kernel_rfl) (by kernel_rfl) (fun _ _ _ h => h) (Or.inl ⟨by rfl, ?_⟩) (by assumption) ?_
              rotate_left
              · intro w hSw; (try dsimp only at hSw); go_simp; try (with_reducible rfl)
              simp only [Act.put, List.setIfInBounds_toArray, List.set_cons_zero, List.set_cons_succ]
              refine wpAnyH_take (i := 3) (oi := ⟨some 40, .indexAddr 57 (.tmp 38) (.tmp 39), 0, "narrow.go:54", #[⟨1, .data⟩, ⟨2, .data⟩], none⟩) (v := ?_) rfl (by kernel_rfl) (by kernel_rfl) (by kernel_rfl) (fun _ _ _ h => h) (Or.inl ⟨by rfl, ?_⟩) (by assumption) ?_
              rotate_left
              · intro w hSw; (try dsimp only at hSw); go_simp; try (with_reducible rfl)
              simp only [Act.put, List.setIfInBounds_toArray, List.set_cons_zero, List.set_cons_succ]
              refine wpAnyH_take (i := 4) (oi := ⟨some 41, .fieldAddr 55 (.tmp 40) 0, 0, "narrow.go:54", #[⟨3, .data⟩], none⟩) (v := ?_) rfl (by kernel_rfl) (by kernel_rfl) (by kernel_rfl) (fun _ _ _ h => h) (Or.inl ⟨by rfl, ?_⟩) (by assumption) ?_
              rotate_left
              · intro w hSw; (try dsimp only at hSw); go_simp; try (with_reducible rfl)
              simp only [Act.put, List.setIfInBounds_toArray, List.set_cons_zero, List.set_cons_succ]
              refine wpAnyH_take (i := 5) (oi := ⟨some 42, .load 9 (.tmp 41), 9, "narrow.go:54", #[⟨4, .data⟩], none⟩) (v := ?_) rfl (by kernel_rfl) (by kernel_rfl) (by kernel_rfl) (fun _ _ _ h => h) (Or.inl ⟨by rfl, ?_⟩) (by assumption) ?_
              rotate_left
              · intro w hSw; (try dsimp only at hSw); go_simp; try (with_reducible rfl)
              simp only [Act.put, List.setIfInBounds_toArray, List.set_cons_zero, List.set_cons_succ]
              refine wpAnyH_take (i := 6) (oi := ⟨some 43, .fieldAddr 80 (.tmp 9) 0, 0, "narrow.go:54", #[], none⟩) (v := ?_) rfl (by kernel_rfl) (by kernel_rfl) (by kernel_rfl) (fun _ _ _ h => h) (Or.inl ⟨by rfl, ?_⟩) (by assumption) ?_
              rotate_left
              · intro w hSw; (try dsimp only at hSw); go_simp; try (with_reducible rfl)
              simp only [Act.put, List.setIfInBounds_toArray, List.set_cons_zero, List.set_cons_succ]
              refine wpAnyH_take (i := 7) (oi := ⟨some 44, .load 20 (.tmp 43), 20, "narrow.go:54", #[⟨6, .data⟩], none⟩) (v := ?_) rfl (by kernel_rfl) (by kernel_rfl) (by kernel_rfl) (fun _ _ _ h => h) (Or.inl ⟨by rfl, ?_⟩) (by assumption) ?_
              rotate_left
              · intro w hSw; (try dsimp only at hSw); go_simp; try (with_reducible rfl)
              simp only [Act.put, List.setIfInBounds_toArray, List.set_cons_zero, List.set_cons_succ]
              refine wpAnyH_take (i := 8) (oi := ⟨some 45, .build 55 #[(0, .tmp 42), (1, .tmp 44)], 55, "narrow.go:54", #[⟨5, .data⟩, ⟨7, .data⟩], none⟩) (v := ?_) rfl (by kernel_rfl) (by kernel_rfl) (by kernel_rfl) (fun _ _ _ h => h) (Or.inl ⟨by rfl, ?_⟩) (by assumption) ?_
              rotate_left
              · intro w hSw; (try dsimp only at hSw); go_simp; try (with_reducible rfl)
              simp only [Act.put, List.setIfInBounds_toArray, List.set_cons_zero, List.set_cons_succ]
              refine wpAnyH_ready (rs := [0, 9]) (by kernel_rfl) (by simp) ?_
              refine AllReadyH.cons (o := ⟨some 37, .load 57 (.tmp 5), 57, "narrow.go:54", #[], none⟩) rfl (fun K hK => ?_) (AllReadyH.cons (o := ⟨some 46, .buildSlice 57 1 #[(0, .tmp 45)], 57, "narrow.go:54", #[⟨8, .data⟩], none⟩) rfl (fun K hK => ?_) AllReadyH.nil)
              · go_simp
                refine hK.out _ _ ?_ (fun hHeld => ?_)
                · exact HS10.out _ (fun _ _ _ _ => rfl)
                clear hK K
                refine wpAnyH_ready (rs := [9]) (by kernel_rfl) (by simp) ?_
                refine AllReadyH.cons (o := ⟨some 46, .buildSlice 57 1 #[(0, .tmp 45)], 57, "narrow.go:54", #[⟨8, .data⟩], none⟩) rfl (fun K hK => ?_) AllReadyH.nil
                go_simp
                refine hK.out _ _ ?_ (fun hHeld => ?_)
                · exact HS10.out _ (fun k hk _ _ => HB9.out.block k hk)
                clear hK K
                refine wpAnyH_ready (rs := [10]) (by kernel_rfl) (by simp) ?_
                refine AllReadyH.cons (o := ⟨some 47, .call { callee := Go.Callee.builtin Go.Builtin.append, args := #[.tmp 37, .tmp 46], argTypes := #[57, 57] }, 57, "narrow.go:54", #[⟨0, .data⟩, ⟨9, .data⟩], none⟩) rfl (fun K hK => ?_) AllReadyH.nil
                refine step_append_lies _ (by rfl) _ _ _ (by rfl) (w.heap.size + 1 + 1 + 1) 55 i0 _ 2 32 Try.undD hi hz0 hz1 hz2 rfl (by omega) _ jn xs (by rfl) HNF9.out.own ⟨W7.heap.size, 0, none⟩ 1 1 [.string m, (.iface T0 y0)] (by rfl) (by rfl) HNEW.out HONE.out (by omega) (by unfold maxLen; omega) (by omega) hbs9 W9.heap.size rfl ?_
                intro g' cap' w10 hown hgrow hor hlt10
                have hgr : W9.grownBy w10 (some gq) := hgrow
                have HF10 : Hid _ := HFIN.out g' cap' w10 hown hgr (by simpa [Value.ownBlock] using hor)
                have HBX : Hid _ := HB10.out w10 hgr
                have d10 := HBX.out.1.cell
                have z10 := HBX.out.1.frozen
                clear hown hgrow hgr hor
                go_wp2_with fail
                refine hK.out _ _ ?_ (fun hHeld => ?_)
                · exact HS10.out _ HBX.out.2
                clear hK K
                refine wpAnyH_ready (rs := [11]) (by kernel_rfl) (by simp) ?_
                refine AllReadyH.cons (o := ⟨none, .store 57 (.tmp 5) (.tmp 47), 0, "narrow.go:54", #[⟨10, .data⟩, ⟨10, .chain⟩, ⟨0, .phase⟩, ⟨1, .phase⟩, ⟨2, .phase⟩, ⟨3, .phase⟩, ⟨4, .phase⟩, ⟨5, .phase⟩, ⟨6, .phase⟩, ⟨7, .phase⟩, ⟨8, .phase⟩, ⟨9, .phase⟩, ⟨10, .phase⟩], none⟩) rfl (fun K hK => ?_) AllReadyH.nil
                go_simp
                refine hK.out _ _ ?_ (fun hHeld => ?_)
                · exact HS10.out _ (fun k hk h1 h2 => (heap_setCell_other _ _ _ _ h2).trans (HBX.out.2 k hk h1 h2))
                clear hK K
                refine wpAnyH_done (by kernel_rfl) ?_ _
                refine Tame.normal ?_
                gi_wp2
                exact ⟨HF10.out.1, HF10.out.2.1, by dsimp only; rw [HMP.out]; exact NIx.of HF10.out.2.2⟩
              · go_simp
                refine hK.out _ _ ?_ (fun hHeld => ?_)
                · exact HS10.out _ (fun k hk _ _ => HB9.out.block k hk)
                clear hK K
                refine wpAnyH_ready (rs := [0]) (by kernel_rfl) (by simp) ?_
                refine AllReadyH.cons (o := ⟨some 37, .load 57 (.tmp 5), 57, "narrow.go:54", #[], none⟩) rfl (fun K hK => ?_) AllReadyH.nil
                go_simp
                refine hK.out _ _ ?_ (fun hHeld => ?_)
                · exact HS10.out _ (fun k hk _ _ => HB9.out.block k hk)
                clear hK K
                refine wpAnyH_ready (rs := [10]) (by kernel_rfl) (by simp) ?_
                refine AllReadyH.cons (o := ⟨some 47, .call { callee := Go.Callee.builtin Go.Builtin.append, args := #[.tmp 37, .tmp 46], argTypes := #[57, 57] }, 57, "narrow.go:54", #[⟨0, .data⟩, ⟨9, .data⟩], none⟩) rfl (fun K hK => ?_) AllReadyH.nil
                refine step_append_lies _ (by rfl) _ _ _ (by rfl) (w.heap.size + 1 + 1 + 1) 55 i0 _ 2 32 Try.undD hi hz0 hz1 hz2 rfl (by omega) _ jn xs (by rfl) HNF9.out.own ⟨W7.heap.size, 0, none⟩ 1 1 [.string m, (.iface T0 y0)] (by rfl) (by rfl) HNEW.out HONE.out (by omega) (by unfold maxLen; omega) (by omega) hbs9 W9.heap.size rfl ?_
                intro g' cap' w10 hown hgrow hor hlt10
                have hgr : W9.grownBy w10 (some gq) := hgrow
                have HF10 : Hid _ := HFIN.out g' cap' w10 hown hgr (by simpa [Value.ownBlock] using hor)
                have HBX : Hid _ := HB10.out w10 hgr
                have d10 := HBX.out.1.cell
                have z10 := HBX.out.1.frozen
                clear hown hgrow hgr hor
                go_wp2_with fail
                refine hK.out _ _ ?_ (fun hHeld => ?_)
                · exact HS10.out _ HBX.out.2
                clear hK K
                refine wpAnyH_ready (rs := [11]) (by kernel_rfl) (by simp) ?_
                refine AllReadyH.cons (o := ⟨none, .store 57 (.tmp 5) (.tmp 47), 0, "narrow.go:54", #[⟨10, .data⟩, ⟨10, .chain⟩, ⟨0, .phase⟩, ⟨1, .phase⟩, ⟨2, .phase⟩, ⟨3, .phase⟩, ⟨4, .phase⟩, ⟨5, .phase⟩, ⟨6, .phase⟩, ⟨7, .phase⟩, ⟨8, .phase⟩, ⟨9, .phase⟩, ⟨10, .phase⟩], none⟩) rfl (fun K hK => ?_) AllReadyH.nil
                go_simp
                refine hK.out _ _ ?_ (fun hHeld => ?_)
                · exact HS10.out _ (fun k hk h1 h2 => (heap_setCell_other _ _ _ _ h2).trans (HBX.out.2 k hk h1 h2))
                clear hK K
                refine wpAnyH_done (by kernel_rfl) ?_ _
                refine Tame.normal ?_
                gi_wp2
                exact ⟨HF10.out.1, HF10.out.2.1, by dsimp only; rw [HMP.out]; exact NIx.of HF10.out.2.2⟩
    · have e3 : x2 = -1 := e3
      subst e3
      obtain ⟨i, rfl⟩ := Int.eq_ofNat_of_zero_le e1
      have hiN : i < NS.length := by have : (i : Int) < NS.length := e2; omega
      have hi1 : (i : Int) < (KS.length : Int) := by have := HLN.out.2; omega
      have hi0 : (0 : Int) ≤ (i : Int) := Int.natCast_nonneg _
      obtain ⟨sb, g1, o1, ks, rfl, cs⟩ := HKB.out W i hbW hiN
      have HGX : Hid (g ((i : Int), -1) = if sb then some (none, true) else none) := by show _ = _; rw [HG.out]; simp [Sp.nstep, ks]
      have a0 := fun o => hA o c0
      have a6 := fun o => hA o (HX.out W hbW).2.2.1
      have asx := fun o => hA o cs
      have hr2' : ∀ o, (W.alloc o).heap[w.heap.size + 1 + 1]? = some (.cells n0cells 80 (0, 0)) := fun o => laid hr2 o
      have y0 := fun o => (n0row (hr2' o)).1
      have y1 := fun o => (n0row (hr2' o)).2.1
      have y2 := fun o => (n0row (hr2' o)).2.2.1
      have z0 := fun o => (n0row (hr2' o)).2.2.2.1
      have z1 := fun o => (n0row (hr2' o)).2.2.2.2.1
      have z2 := fun o => (n0row (hr2' o)).2.2.2.2.2
      have HR2 : Hid (∀ o, (W.alloc o).heap[w.heap.size + 1 + 1]? = some (.cells n0cells 80 (0, 0)) ∧ Below w.heap.size w (setN (W.alloc o) (w.heap.size + 1 + 1) 0 [.nilIface, .bool false, .bool false])) := fun o => ⟨hr2' o, setN_below (by omega) _ _ _ _ (hbW.alloc hbW.size _)⟩
      clear ks hr2' hr2 cs hA
      dsimp only
      cases sb with
      | true =>
        gi_wp2
        obtain ⟨u1, u2, u3⟩ := HN.out.plain HZ9.out (x := ((i : Int), -1)) (by rw [HGX.out]; rfl) ((Below.refl _ W).alloc (Nat.le_refl _) _)
        exact ⟨u1, u2, by dsimp only; rw [HMP.out]; exact NIx.of u3⟩
      | false =>
        gi_wp2
        refine ⟨?_, by dsimp only; rw [HMP.out]; exact NXx.of (by rw [HGX.out]; rfl) (setN_box _ _ _ (HR2.out _).1 rfl) (HR2.out _).2⟩
        exact (KeepsOthers.alloc _ _).trans (((KeepsOthers.setCell _ _ _).trans (KeepsOthers.setCell _ _ _)).trans (KeepsOthers.setCell _ _ _))
    · obtain ⟨i, rfl⟩ := Int.eq_ofNat_of_zero_le e1
      obtain ⟨j, rfl⟩ := Int.eq_ofNat_of_zero_le e3
      have hiN : i < NS.length := by have : (i : Int) < NS.length := e2; omega
      have hjF : j < F.len := by have : (j : Int) < F.len := e4; omega
      have hi1 : (i : Int) < (KS.length : Int) := by have := HLN.out.2; omega
      have hi0 : (0 : Int) ≤ (i : Int) := Int.natCast_nonneg _
      have hj0 : (0 : Int) ≤ (j : Int) := Int.natCast_nonneg _
      have hj1 : (j : Int) < (F.len : Int) := by omega
      have hj2 : (j : Int) ≤ (cf : Int) := by omega
      obtain ⟨v, g2, o2, m, x, fv, fm, hmz, rfl, hg2, cm, cx, hvx, hvg⟩ := HFT.out j hjF
      obtain ⟨sb, g1, o1, ks, rfl, cs⟩ := HKB.out W i hbW hiN
      obtain ⟨t, ft, HFC⟩ := HFI.out i hiN
      obtain ⟨r, HR⟩ : ∃ r : Nar, Hid (r = t.nar v) := ⟨_, show _ = _ from rfl⟩
      have HO : Hid (∀ W', Below w.heap.size w W' → Calls Try.prog 78 #[.pointer (some ⟨b, 0, none⟩), .int .i64 (i : Int), x] W' (NarE r B W')) := fun W' h => by rw [HR.out]; exact HFC W' v x h hvg hvx
      have HGS : Hid (∀ y wh, r = some (y, wh) → g ((i : Int), (j : Int)) = some (some (m, y), wh)) := fun y wh h => by
        have n1 : ¬ ((i : Int) < 0) := by omega
        have n2 : ¬ ((j : Int) < 0) := by omega
        rw [HG.out]; rw [HR.out] at h; simp only [Sp.nstep, if_neg n1, if_neg n2, Int.toNat_natCast, fm, fv, ft, h]
      have HGN : Hid (r = none → g ((i : Int), (j : Int)) = if sb then some (none, false) else none) := fun h => by
        have n1 : ¬ ((i : Int) < 0) := by omega
        have n2 : ¬ ((j : Int) < 0) := by omega
        rw [HG.out]; rw [HR.out] at h; simp only [Sp.nstep, if_neg n1, if_neg n2, Int.toNat_natCast, fm, fv, ft, h, ks]; rfl
      have dm : W.cell? ⟨g2, o2 + j * 2, none⟩ = some (.string m) := by rw [hbW.cell (p := ⟨g2, o2 + j * 2, none⟩) hg2]; exact cm
      have dx : W.cell? ⟨g2, o2 + j * 2 + 1, none⟩ = some x := by rw [hbW.cell (p := ⟨g2, o2 + j * 2 + 1, none⟩) hg2]; exact cx
      have c1 := HN.out.c1
      have HS7 : Hid (∀ W', Below W.heap.size W W' → W'.cell? ⟨w.heap.size, 0, none⟩ = some (.pointer (some ⟨b, 0, none⟩)) ∧ W'.cell? ⟨w.heap.size + 1, 0, none⟩ = some (.slice (some ⟨g2, o2, none⟩) F.len cf) ∧ W'.cell? ⟨g2, o2 + j * 2 + 1, none⟩ = some x ∧ W'.cell? ⟨g2, o2 + j * 2, none⟩ = some (.string m)) := fun W' h => ⟨cell_below c0 h, cell_below c1 h, cell_below dx h, cell_below dm h⟩
      have hxs := v.V_shape x hvx
      have HB5 : Hid (∀ o, Below W.heap.size W (W.alloc o).drew ∧ Below w.heap.size w (W.alloc o).drew) := fun o => ⟨((Below.refl _ _).alloc (Nat.le_refl _) _).drew, (hbW.alloc hbW.size _).drew⟩
      clear fv fm cm cx hvx hvg dm dx c1 hA ft HFC
      dsimp only
      rcases hxs with rfl | ⟨T, y, rfl⟩
      · gi_wp2
        refine region_round (S := fun W' => W'.cell? ⟨w.heap.size, 0, none⟩ = some (.pointer (some ⟨b, 0, none⟩)) ∧ W'.cell? ⟨w.heap.size + 1, 0, none⟩ = some (.slice (some ⟨g2, o2, none⟩) F.len cf) ∧ W'.cell? ⟨g2, o2 + j * 2 + 1, none⟩ = some .nilIface ∧ W'.cell? ⟨g2, o2 + j * 2, none⟩ = some (.string m)) (by kernel_rfl) (by kernel_rfl) (HS7.out _ (HB5.out _).1) (fun hHeld => ?_)
        refine wpAnyH_take (i := 0) (oi := ⟨some 21, .load 64 (.tmp 2), 64, "narrow.go:49", #[], none⟩) (v := ?_) rfl (by kernel_rfl) (by kernel_rfl) (by kernel_rfl) (fun _ _ _ h => h) (Or.inl ⟨by rfl, ?_⟩) (by assumption) ?_
        rotate_left
        · intro w hSw; (try dsimp only at hSw); go_simp; try (with_reducible rfl)
        simp only [Act.put, List.setIfInBounds_toArray, List.set_cons_zero, List.set_cons_succ]
        refine wpAnyH_take (i := 1) (oi := ⟨some 22, .move (.tmp 7), 3, "narrow.go:49", #[], none⟩) (v := ?_) rfl (by kernel_rfl) (by kernel_rfl) (by kernel_rfl) (fun _ _ _ h => h) (Or.inl ⟨by rfl, ?_⟩) (by assumption) ?_
        rotate_left
        · intro w hSw; (try dsimp only at hSw); go_simp; try (with_reducible rfl)
        simp only [Act.put, List.setIfInBounds_toArray, List.set_cons_zero, List.set_cons_succ]
        refine wpAnyH_take (i := 2) (oi := ⟨some 23, .load 57 (.tmp 3), 57, "narrow.go:49", #[], none⟩) (v := ?_) rfl (by kernel_rfl) (by kernel_rfl) (by kernel_rfl) (fun _ _ _ h => h) (Or.inl ⟨by rfl, ?_⟩) (by assumption) ?_
        rotate_left
        · intro w hSw; (try dsimp only at hSw); go_simp; try (with_reducible rfl)
        simp only [Act.put, List.setIfInBounds_toArray, List.set_cons_zero, List.set_cons_succ]
        refine wpAnyH_take (i := 3) (oi := ⟨some 24, .move (.tmp 8), 3, "narrow.go:49", #[], none⟩) (v := ?_) rfl (by kernel_rfl) (by kernel_rfl) (by kernel_rfl) (fun _ _ _ h => h) (Or.inl ⟨by rfl, ?_⟩) (by assumption) ?_
        rotate_left
        · intro w hSw; (try dsimp only at hSw); go_simp; try (with_reducible rfl)
        simp only [Act.put, List.setIfInBounds_toArray, List.set_cons_zero, List.set_cons_succ]
        refine wpAnyH_take (i := 4) (oi := ⟨some 25, .indexAddr 57 (.tmp 23) (.tmp 24), 0, "narrow.go:49", #[⟨2, .data⟩, ⟨3, .data⟩], none⟩) (v := ?_) rfl (by kernel_rfl) (by kernel_rfl) (by kernel_rfl) (fun _ _ _ h => h) (Or.inl ⟨by rfl, ?_⟩) (by assumption) ?_
        rotate_left
        · intro w hSw; (try dsimp only at hSw); go_simp; try (with_reducible rfl)
        simp only [Act.put, List.setIfInBounds_toArray, List.set_cons_zero, List.set_cons_succ]
        refine wpAnyH_take (i := 5) (oi := ⟨some 26, .fieldAddr 55 (.tmp 25) 1, 0, "narrow.go:49", #[⟨4, .data⟩], none⟩) (v := ?_) rfl (by kernel_rfl) (by kernel_rfl) (by kernel_rfl) (fun _ _ _ h => h) (Or.inl ⟨by rfl, ?_⟩) (by assumption) ?_
        rotate_left
        · intro w hSw; (try dsimp only at hSw); go_simp; try (with_reducible rfl)
        simp only [Act.put, List.setIfInBounds_toArray, List.set_cons_zero, List.set_cons_succ]
        refine wpAnyH_take (i := 6) (oi := ⟨some 27, .load 20 (.tmp 26), 20, "narrow.go:49", #[⟨5, .data⟩], none⟩) (v := ?_) rfl (by kernel_rfl) (by kernel_rfl) (by kernel_rfl) (fun _ _ _ h => h) (Or.inl ⟨by rfl, ?_⟩) (by assumption) ?_
        rotate_left
        · intro w hSw; (try dsimp only at hSw); go_simp; try (with_reducible rfl)
        simp only [Act.put, List.setIfInBounds_toArray, List.set_cons_zero, List.set_cons_succ]
        refine wpAnyH_ready (rs := [7]) (by kernel_rfl) (by simp) ?_
        refine AllReadyH.cons (o := ⟨some 28, .call { callee := Go.Callee.value (.func 78), args := #[.tmp 21, .tmp 22, .tmp 27], argTypes := #[64, 3, 20] }, 80, "narrow.go:49", #[⟨0, .data⟩, ⟨1, .data⟩, ⟨6, .data⟩], none⟩) rfl (fun K hK => ?_) AllReadyH.nil
        go_simp
        refine (HO.out _ (HB5.out _).2).mono ?_
        rintro e W6 ⟨hb6, xr, ok, wh, rfl, hRR⟩
        have HB6 : Hid (Below W.heap.size W W6) := below_to (HB5.out _).1 hb6
        have hq6 : W6.heap[W.heap.size]? = some (.cells n0cells 80 (0, 0)) := (hb6.block _ (by show W.heap.size < (W.alloc _).heap.size; simp)).trans (heap_alloc_new W _)
        have hs6 : W.heap.size + 1 ≤ W6.heap.size := by have h : (W.alloc (.cells n0cells 80)).heap.size ≤ W6.heap.size := hb6.size; rw [World.size_alloc] at h; exact h
        have hshr := hRR.shape
        have HRR : Hid ((r = none ∧ ok = false ∧ wh = false ∧ xr = .nilIface) ∨ ∃ y, r = some (y, wh) ∧ ok = true ∧ y.V W6 (fun k => k < B ∨ (W.heap.size < k ∧ k < W6.heap.size)) xr) := by
          rcases hRR with q | ⟨y, q1, q2, q3⟩
          · exact .inl q
          · refine .inr ⟨y, q1, q2, y.V_same (Same.refl _ _) (fun k hk => ?_) xr q3⟩
            rcases hk with hk | hk
            · exact .inl hk
            · refine .inr ⟨?_, hk.2⟩
              have h : (W.alloc (.cells n0cells 80)).heap.size ≤ k := hk.1
              rw [World.size_alloc] at h; omega
        obtain ⟨q0, q1, q2, f0, f1, f2⟩ := n0row hq6
        obtain ⟨W7, hw7⟩ : ∃ W7, (((W6.setCell ⟨W.heap.size, 0, none⟩ xr).setCell ⟨W.heap.size, 1, none⟩ (.bool ok)).setCell ⟨W.heap.size, 2, none⟩ (.bool wh)) = W7 := ⟨_, rfl⟩
        have HW7 : Hid (Below W.heap.size W W7 ∧ W7.heap[W.heap.size]? = some (.cells #[xr, .bool ok, .bool wh] 80 (0, 0)) ∧ (∀ k, k ≠ W.heap.size → W7.heap[k]? = W6.heap[k]?) ∧ W7.heap.size = W6.heap.size) := by
          have e : setN W6 W.heap.size 0 [xr, .bool ok, .bool wh] = W7 := hw7
          rw [← e]
          exact ⟨setN_below (Nat.le_refl _) _ _ _ _ HB6.out, setN_box _ _ _ hq6 rfl, fun k hk => setN_other hk _ _ _, setN_size _ _ _⟩
        obtain ⟨p0, p1, p2, -, -, -⟩ := n0row HW7.out.2.1
        have hb57 : Boxed W7 (w.heap.size + 1 + 1 + 1 + 1 + 1) 4 (.bool wb) := (HW7.out.1.block _ HN.out.b5.lt).trans HN.out.b5
        have p5 := hb57.cell
        have f5 := hb57.frozen
        obtain ⟨W8, hw8⟩ : ∃ W8, W7.setCell ⟨w.heap.size + 1 + 1 + 1 + 1 + 1, 0, none⟩ (.bool (wb && wh)) = W8 := ⟨_, rfl⟩
        have HW8e : Hid (W7.setCell ⟨w.heap.size + 1 + 1 + 1 + 1 + 1, 0, none⟩ (.bool (wb && wh)) = W8) := hw8
        have HW8 := HN.out.r8 HB.out HZ9.out HW7.out.1 (wb && wh) hw8
        have hqne : W.heap.size ≠ w.heap.size + 1 + 1 + 1 + 1 + 1 := by have := HZ9.out; have := HN.out.sz; omega
        obtain ⟨s0, s1, s2, -, -, -⟩ := n0row ((HW8.2.2.2.2.2.2.1 _ hqne).trans HW7.out.2.1)
        have k0 : W8.cell? ⟨w.heap.size, 0, none⟩ = some (.pointer (some ⟨b, 0, none⟩)) := by rw [HW8.1.cell (p := ⟨w.heap.size, 0, none⟩) (by show w.heap.size < _; omega)]; exact c0
        have hbw8 : Below w.heap.size w W8 := hbW.trans (HW8.1.mono (by omega))
        have k6 := (HX.out W8 hbw8).2.2.1
        obtain ⟨sb', g1', o1', ks', he', cs'⟩ := HKB.out W8 i hbw8 hiN
        have hsb : sb' = sb ∧ g1' = g1 ∧ o1' = o1 := by rw [ks] at ks'; injection ks' with ks'; injection he' with he'; injection he' with h1 h2; exact ⟨ks'.symm, h1.symm, h2.symm⟩
        obtain ⟨rfl, rfl, rfl⟩ := hsb
        have hr28 : W8.heap[w.heap.size + 1 + 1]? = some (.cells n0cells 80 (0, 0)) := (HW8.1.block _ (by omega)).trans hr2
        obtain ⟨v0, v1, v2, m0, m1, m2⟩ := n0row hr28
        have HR8 : Hid (KeepsOthers W W8 ∧ W8.heap[w.heap.size + 1 + 1]? = some (.cells n0cells 80 (0, 0)) ∧ Below w.heap.size w (setN W8 (w.heap.size + 1 + 1) 0 [.nilIface, .bool false, .bool false])) := ⟨HW8.2.2.1, hr28, setN_below (by omega) _ _ _ _ hbw8⟩
        have HW8 : Hid _ := HW8
        clear hRR hb6 hq6 hb57 hbw8 he' ks' hr28
        rcases HRR.out with ⟨hr, rfl, rfl, rfl⟩ | ⟨yt, hr, rfl, hyv⟩
        · have HG0 : Hid _ := HGN.out hr
          clear HRR hr hshr
          rw [Bool.and_false] at hw8
          cases sb' with
          | true =>
            cases wb
            all_goals
              go_wp2_with fail
              refine hK.out _ _ ?_ (fun hHeld => ?_)
              · exact HS7.out _ HB6.out
              clear hK K
              refine wpAnyH_ready (rs := [8]) (by kernel_rfl) (by simp) ?_
              refine AllReadyH.cons (o := ⟨none, .store 80 (.tmp 9) (.tmp 28), 0, "narrow.go:49", #[⟨7, .data⟩, ⟨7, .chain⟩, ⟨0, .phase⟩, ⟨1, .phase⟩, ⟨2, .phase⟩, ⟨3, .phase⟩, ⟨4, .phase⟩, ⟨5, .phase⟩, ⟨6, .phase⟩, ⟨7, .phase⟩], none⟩) rfl (fun K hK => ?_) AllReadyH.nil
              go_simp
              refine hK.out _ _ ?_ (fun hHeld => ?_)
              · exact HS7.out _ HW7.out.1
              clear hK K
              refine wpAnyH_done (by kernel_rfl) ?_ _
              refine Tame.normal ?_
              gi_wp2
              obtain ⟨u1, u2, u3⟩ := HN.out.skip HB.out HZ9.out HW7.out.1 (x := ((i : Int), (j : Int))) HG0.out hw8
              exact ⟨u1, u2, by dsimp only; rw [HMP.out]; exact NIx.of u3⟩
          | false =>
            cases wb
            all_goals
              go_wp2_with fail
              refine hK.out _ _ ?_ (fun hHeld => ?_)
              · exact HS7.out _ HB6.out
              clear hK K
              refine wpAnyH_ready (rs := [8]) (by kernel_rfl) (by simp) ?_
              refine AllReadyH.cons (o := ⟨none, .store 80 (.tmp 9) (.tmp 28), 0, "narrow.go:49", #[⟨7, .data⟩, ⟨7, .chain⟩, ⟨0, .phase⟩, ⟨1, .phase⟩, ⟨2, .phase⟩, ⟨3, .phase⟩, ⟨4, .phase⟩, ⟨5, .phase⟩, ⟨6, .phase⟩, ⟨7, .phase⟩], none⟩) rfl (fun K hK => ?_) AllReadyH.nil
              go_simp
              refine hK.out _ _ ?_ (fun hHeld => ?_)
              · exact HS7.out _ HW7.out.1
              clear hK K
              refine wpAnyH_done (by kernel_rfl) ?_ _
              refine Tame.normal ?_
              gi_wp2
              refine ⟨?_, by dsimp only; rw [HMP.out]; exact NXx.of HG0.out (setN_box _ _ _ HR8.out.2.1 rfl) HR8.out.2.2⟩
              exact HR8.out.1.trans (((KeepsOthers.setCell _ _ _).trans (KeepsOthers.setCell _ _ _)).trans (KeepsOthers.setCell _ _ _))
        · have HGK : Hid (g ((i : Int), (j : Int)) = some (some (m, yt), wh)) := HGS.out yt wh hr
          have HYV : Hid (yt.V W6 (fun k => k < B ∨ (W.heap.size < k ∧ k < W6.heap.size)) xr) := hyv
          have hgh := HW8.out.2.2.2.2.2.1.here
          have hgw := HN.out.nf.here
          have hz8 := HW8.out.1.size
          have hzn := HN.out.sz
          have HS10 : Hid (∀ W' : World, (∀ k, k < W8.heap.size → k ≠ gq → k ≠ w.heap.size + 1 + 1 + 1 + 1 → W'.heap[k]? = W8.heap[k]?) → W'.cell? ⟨w.heap.size + 1, 0, none⟩ = some (.slice (some ⟨g2, o2, none⟩) F.len cf) ∧ W'.cell? ⟨g2, o2 + j * 2, none⟩ = some (.string m) ∧ W'.cell? ⟨W.heap.size, 0, none⟩ = some xr) := fun W' h => by
            have hz := HZ9.out
            have hw0 := hbW.size
            have l1 : W.heap.size < W8.heap.size := (Array.getElem?_eq_some_iff.1 ((HW8.out.2.2.2.2.2.2.1 _ hqne).trans HW7.out.2.1)).1
            refine ⟨?_, ?_, ?_⟩
            · rw [World.cell?_of_block (a := ⟨w.heap.size + 1, 0, none⟩) (h _ (by show w.heap.size + 1 < _; omega) (by show w.heap.size + 1 ≠ _; omega) (by show w.heap.size + 1 ≠ _; omega)), HW8.out.1.cell (p := ⟨w.heap.size + 1, 0, none⟩) (by show w.heap.size + 1 < _; omega)]; exact HN.out.c1
            · rw [World.cell?_of_block (a := ⟨g2, o2 + j * 2, none⟩) (h _ (by show g2 < _; omega) (by show g2 ≠ _; omega) (by show g2 ≠ _; omega)), HW8.out.1.cell (p := ⟨g2, o2 + j * 2, none⟩) (by show g2 < _; omega)]; exact (HS7.out W (Below.refl _ _)).2.2.2
            · rw [World.cell?_of_block (a := ⟨W.heap.size, 0, none⟩) (h _ l1 (by show W.heap.size ≠ _; omega) (by show W.heap.size ≠ _; omega))]; exact s0
          obtain ⟨W9, hw9⟩ : ∃ W9, W8.drew.alloc (.cells #[.string m, xr] 55) = W9 := ⟨_, rfl⟩
          have HB9 : Hid (Below W8.heap.size W8 W9) := hw9 ▸ (((Below.refl _ _).drew).alloc (Nat.le_refl _) _)
          have HW9e : Hid (W8.drew.alloc (.cells #[.string m, xr] 55) = W9) := hw9
          have HNF9 := HW8.out.2.2.2.2.2.1.call HB9.out
          have HNF9 : Hid _ := HNF9
          have HNEW : Hid (∀ i u, [Value.string m, xr][i]? = some u → W9.cell? ((⟨W7.heap.size, 0, none⟩ : Addr).add i) = some u) := by rw [← hw9, ← HW8.out.2.2.2.2.2.2.2]; exact cell_two_new W8.drew _ _ _
          have k4 : W8.drew.cell? ⟨w.heap.size + 1 + 1 + 1 + 1, 0, none⟩ = some (.slice (some ⟨gq, 0, none⟩) jn cap) := HW8.out.2.2.2.1.cell
          have k9 : W9.cell? ⟨w.heap.size + 1 + 1 + 1 + 1, 0, none⟩ = some (.slice (some ⟨gq, 0, none⟩) jn cap) := (boxed_below HW8.out.2.2.2.1 HB9.out).cell
          have HONE : Hid (∀ u ∈ [Value.string m, xr], u.oneCell' = true) := by
            rcases hshr with rfl | ⟨T0, y0, rfl⟩
            · exact two_nil m
            · exact two_iface m T0 y0
          have hz9 := HB9.out.size
          have hbs9 : w.heap.size + 1 + 1 + 1 ≤ W9.heap.size := by have := HZ9.out; omega
          have HFIN : Hid (∀ (g' cap' : Nat) (w10 : World), w10.ownsRow (w.heap.size + 1 + 1 + 1) 55 2 (.slice (some ⟨g', 0, none⟩) (jn + 1) cap') (jn + 1) (xs ++ [.string m, xr]) → W9.grownBy w10 (some gq) → (some gq = some g' ∨ g' = W9.heap.size) → KeepsOthers W (w10.setCell ⟨w.heap.size + 1 + 1 + 1 + 1, 0, none⟩ (.slice (some ⟨g', 0, none⟩) (jn + 1) cap')) ∧ KD (DK w.heap.size) W (w10.setCell ⟨w.heap.size + 1 + 1 + 1 + 1, 0, none⟩ (.slice (some ⟨g', 0, none⟩) (jn + 1) cap')) ∧ NI g B b (some ⟨g2, o2, none⟩) F.len cf w W0 (pre.map (·.1) ++ [((i : Int), (j : Int))]) (A.app (.cons m yt .nil)) (wb && wh) (jn + 1) g' cap' (xs ++ [.string m, xr]) (w10.setCell ⟨w.heap.size + 1 + 1 + 1 + 1, 0, none⟩ (.slice (some ⟨g', 0, none⟩) (jn + 1) cap'))) := fun g' cap' w10 ho hg hor =>
            HN.out.kept HB.out HZ9.out HW7.out.1 HW7.out.2.2.1 HW7.out.2.2.2 HGK.out rfl hmz HYV.out HW8e.out HW9e.out ho hg hor
          have HB10 : Hid (∀ w10 : World, W9.grownBy w10 (some gq) → Boxed w10 (w.heap.size + 1 + 1 + 1 + 1) 57 (.slice (some ⟨gq, 0, none⟩) jn cap) ∧ (∀ k, k < W8.heap.size → k ≠ gq → k ≠ w.heap.size + 1 + 1 + 1 + 1 → w10.heap[k]? = W8.heap[k]?)) := fun w10 hg => ⟨(boxed_below HW8.out.2.2.2.1 HB9.out).kept hg (fun e => by injection e with e; have := HZ9.out; omega), fun k hk h1 _ => (hg.block k (by omega) (by simpa using h1)).trans (HB9.out.block k hk)⟩
          clear HRR hr hyv
          rcases hshr with rfl | ⟨T0, y0, rfl⟩
          · cases wb
            all_goals
              simp only [Bool.false_and, Bool.true_and] at hw8
              go_wp2_with fail
              refine hK.out _ _ ?_ (fun hHeld => ?_)
              · exact HS7.out _ HB6.out
              clear hK K
              refine wpAnyH_ready (rs := [8]) (by kernel_rfl) (by simp) ?_
              refine AllReadyH.cons (o := ⟨none, .store 80 (.tmp 9) (.tmp 28), 0, "narrow.go:49", #[⟨7, .data⟩, ⟨7, .chain⟩, ⟨0, .phase⟩, ⟨1, .phase⟩, ⟨2, .phase⟩, ⟨3, .phase⟩, ⟨4, .phase⟩, ⟨5, .phase⟩, ⟨6, .phase⟩, ⟨7, .phase⟩], none⟩) rfl (fun K hK => ?_) AllReadyH.nil
              go_simp
              refine hK.out _ _ ?_ (fun hHeld => ?_)
              · exact HS7.out _ HW7.out.1
              clear hK K
              refine wpAnyH_done (by kernel_rfl) ?_ _
              refine Tame.normal ?_
              gi_wp2
              refine region_round (S := fun W' => W'.cell? ⟨w.heap.size + 1, 0, none⟩ = some (.slice (some ⟨g2, o2, none⟩) F.len cf) ∧ W'.cell? ⟨g2, o2 + j * 2, none⟩ = some (.string m) ∧ W'.cell? ⟨W.heap.size, 0, none⟩ = some .nilIface) (by kernel_rfl) (by kernel_rfl) (HS10.out _ (fun _ _ _ _ => rfl)) (fun hHeld => ?_)
              refine wpAnyH_take (i := 1) (oi := ⟨some 38, .load 57 (.tmp 3), 57, "narrow.go:54", #[], none⟩) (v := ?_) rfl (by kernel_rfl) (by kernel_rfl) (by kernel_rfl) (fun _ _ _ h => h) (Or.inl ⟨by rfl, ?_⟩) (by assumption) ?_
              rotate_left
              · intro w hSw; (try dsimp only at hSw); go_simp; try (with_reducible rfl)
              simp only [Act.put, List.setIfInBounds_toArray, List.set_cons_zero, List.set_cons_succ]
              refine wpAnyH_take (i := 2) (oi := ⟨some 39, .move (.tmp 8), 3, "narrow.go:54", #[], none⟩) (v := ?_) rfl (by kernel_rfl) (by kernel_rfl) (by kernel_rfl) (fun _ _ _ h => h) (Or.inl ⟨by rfl, ?_⟩) (by assumption) ?_
              rotate_left
              · intro w hSw; (try dsimp only at hSw); go_simp; try (with_reducible rfl)
              simp only [Act.put, List.setIfInBounds_toArray, List.set_cons_zero, List.set_cons_succ]
              refine wpAnyH_take (i := 3) (oi := ⟨some 40, .indexAddr 57 (.tmp 38) (.tmp 39), 0, "narrow.go:54", #[⟨1, .data⟩, ⟨2, .data⟩], none⟩) (v := ?_) rfl (by kernel_rfl) (by kernel_rfl) (by kernel_rfl) (fun _ _ _ h => h) (Or.inl ⟨by rfl, ?_⟩) (by assumption) ?_
              rotate_left
              · intro w hSw; (try dsimp only at hSw); go_simp; try (with_reducible rfl)
              simp only [Act.put, List.setIfInBounds_toArray, List.set_cons_zero, List.set_cons_succ]
              refine wpAnyH_take (i := 4) (oi := ⟨some 41, .fieldAddr 55 (.tmp 40) 0, 0, "narrow.go:54", #[⟨3, .data⟩], none⟩) (v := ?_) rfl (by kernel_rfl) (by kernel_rfl) (by kernel_rfl) (fun _ _ _ h => h) (Or.inl ⟨by rfl, ?_⟩) (by assumption) ?_
              rotate_left
              · intro w hSw; (try dsimp only at hSw); go_simp; try (with_reducible rfl)
              simp only [Act.put, List.setIfInBounds_toArray, List.set_cons_zero, List.set_cons_succ]
              refine wpAnyH_take (i := 5) (oi := ⟨some 42, .load 9 (.tmp 41), 9, "narrow.go:54", #[⟨4, .data⟩], none⟩) (v := ?_) rfl (by kernel_rfl) (by kernel_rfl) (by kernel_rfl) (fun _ _ _ h => h) (Or.inl ⟨by rfl, ?_⟩) (by assumption) ?_
              rotate_left
              · intro w hSw; (try dsimp only at hSw); go_simp; try (with_reducible rfl)
              simp only [Act.put, List.setIfInBounds_toArray, List.set_cons_zero, List.set_cons_succ]
              refine wpAnyH_take (i := 6) (oi := ⟨some 43, .fieldAddr 80 (.tmp 9) 0, 0, "narrow.go:54", #[], none⟩) (v := ?_) rfl (by kernel_rfl) (by kernel_rfl) (by kernel_rfl) (fun _ _ _ h => h) (Or.inl ⟨by rfl, ?_⟩) (by assumption) ?_
              rotate_left
              · intro w hSw; (try dsimp only at hSw); go_simp; try (with_reducible rfl)
              simp only [Act.put, List.setIfInBounds_toArray, List.set_cons_zero, List.set_cons_succ]
              refine wpAnyH_take (i := 7) (oi := ⟨some 44, .load 20 (.tmp 43), 20, "narrow.go:54", #[⟨6, .data⟩], none⟩) (v := ?_) rfl (by kernel_rfl) (by kernel_rfl) (by kernel_rfl) (fun _ _ _ h => h) (Or.inl ⟨by rfl, ?_⟩) (by assumption) ?_
              rotate_left
              · intro w hSw; (try dsimp only at hSw); go_simp; try (with_reducible rfl)
              simp only [Act.put, List.setIfInBounds_toArray, List.set_cons_zero, List.set_cons_succ]
              refine wpAnyH_take (i := 8) (oi := ⟨some 45, .build 55 #[(0, .tmp 42), (1, .tmp 44)], 55, "narrow.go:54", #[⟨5, .data⟩, ⟨7, .data⟩], none⟩) (v := ?_) rfl (by kernel_rfl) (by kernel_rfl) (by kernel_rfl) (fun _ _ _ h => h) (Or.inl ⟨by rfl, ?_⟩) (by assumption) ?_
              rotate_left
              · intro w hSw; (try dsimp only at hSw); go_simp; try (with_reducible rfl)
              simp only [Act.put, List.setIfInBounds_toArray, List.set_cons_zero, List.set_cons_succ]
              refine wpAnyH_ready (rs := [0, 9]) (by kernel_rfl) (by simp) ?_
              refine AllReadyH.cons (o := ⟨some 37, .load 57 (.tmp 5), 57, "narrow.go:54", #[], none⟩) rfl (fun K hK => ?_) (AllReadyH.cons (o := ⟨some 46, .buildSlice 57 1 #[(0, .tmp 45)], 57, "narrow.go:54", #[⟨8, .data⟩], none⟩) rfl (fun K hK => ?_) AllReadyH.nil)
              · go_simp
                refine hK.out _ _ ?_ (fun hHeld => ?_)
                · exact HS10.out _ (fun _ _ _ _ => rfl)
                clear hK K
                refine wpAnyH_ready (rs := [9]) (by kernel_rfl) (by simp) ?_
                refine AllReadyH.cons (o := ⟨some 46, .buildSlice 57 1 #[(0, .tmp 45)], 57, "narrow.go:54", #[⟨8, .data⟩], none⟩) rfl (fun K hK => ?_) AllReadyH.nil
                go_simp
                refine hK.out _ _ ?_ (fun hHeld => ?_)
                · exact HS10.out _ (fun k hk _ _ => HB9.out.block k hk)
                clear hK K
                refine wpAnyH_ready (rs := [10]) (by kernel_rfl) (by simp) ?_
                refine AllReadyH.cons (o := ⟨some 47, .call { callee := Go.Callee.builtin Go.Builtin.append, args := #[.tmp 37, .tmp 46], argTypes := #[57, 57] }, 57, "narrow.go:54", #[⟨0, .data⟩, ⟨9, .data⟩], none⟩) rfl (fun K hK => ?_) AllReadyH.nil
                refine step_append_lies _ (by rfl) _ _ _ (by rfl) (w.heap.size + 1 + 1 + 1) 55 i0 _ 2 32 Try.undD hi hz0 hz1 hz2 rfl (by omega) _ jn xs (by rfl) HNF9.out.own ⟨W7.heap.size, 0, none⟩ 1 1 [.string m, .nilIface] (by rfl) (by rfl) HNEW.out HONE.out (by omega) (by unfold maxLen; omega) (by omega) hbs9 W9.heap.size rfl ?_
                intro g' cap' w10 hown hgrow hor hlt10
                have hgr : W9.grownBy w10 (some gq) := hgrow
                have HF10 : Hid _ := HFIN.out g' cap' w10 hown hgr (by simpa [Value.ownBlock] using hor)
                have HBX : Hid _ := HB10.out w10 hgr
                have d10 := HBX.out.1.cell
                have z10 := HBX.out.1.frozen
                clear hown hgrow hgr hor
                go_wp2_with fail
                refine hK.out _ _ ?_ (fun hHeld => ?_)
                · exact HS10.out _ HBX.out.2
                clear hK K
                refine wpAnyH_ready (rs := [11]) (by kernel_rfl) (by simp) ?_
                refine AllReadyH.cons (o := ⟨none, .store 57 (.tmp 5) (.tmp 47), 0, "narrow.go:54", #[⟨10, .data⟩, ⟨10, .chain⟩, ⟨0, .phase⟩, ⟨1, .phase⟩, ⟨2, .phase⟩, ⟨3, .phase⟩, ⟨4, .phase⟩, ⟨5, .phase⟩, ⟨6, .phase⟩, ⟨7, .phase⟩, ⟨8, .phase⟩, ⟨9, .phase⟩, ⟨10, .phase⟩], none⟩) rfl (fun K hK => ?_) AllReadyH.nil
                go_simp
                refine hK.out _ _ ?_ (fun hHeld => ?_)
                · exact HS10.out _ (fun k hk h1 h2 => (heap_setCell_other _ _ _ _ h2).trans (HBX.out.2 k hk h1 h2))
                clear hK K
                refine wpAnyH_done (by kernel_rfl) ?_ _
                refine Tame.normal ?_
                gi_wp2
                exact ⟨HF10.out.1, HF10.out.2.1, by dsimp only; rw [HMP.out]; exact NIx.of HF10.out.2.2⟩
              · go_simp
                refine hK.out _ _ ?_ (fun hHeld => ?_)
                · exact HS10.out _ (fun k hk _ _ => HB9.out.block k hk)
                clear hK K
                refine wpAnyH_ready (rs := [0]) (by kernel_rfl) (by simp) ?_
                refine AllReadyH.cons (o := ⟨some 37, .load 57 (.tmp 5), 57, "narrow.go:54", #[], none⟩) rfl (fun K hK => ?_) AllReadyH.nil
                go_simp
                refine hK.out _ _ ?_ (fun hHeld => ?_)
                · exact HS10.out _ (fun k hk _ _ => HB9.out.block k hk)
                clear hK K
                refine wpAnyH_ready (rs := [10]) (by kernel_rfl) (by simp) ?_
                refine AllReadyH.cons (o := ⟨some 47, .call { callee := Go.Callee.builtin Go.Builtin.append, args := #[.tmp 37, .tmp 46], argTypes := #[57, 57] }, 57, "narrow.go:54", #[⟨0, .data⟩, ⟨9, .data⟩], none⟩) rfl (fun K hK => ?_) AllReadyH.nil
                refine step_append_lies _ (by rfl) _ _ _ (by rfl) (w.heap.size + 1 + 1 + 1) 55 i0 _ 2 32 Try.undD hi hz0 hz1 hz2 rfl (by omega) _ jn xs (by rfl) HNF9.out.own ⟨W7.heap.size, 0, none⟩ 1 1 [.string m, .nilIface] (by rfl) (by rfl) HNEW.out HONE.out (by omega) (by unfold maxLen; omega) (by omega) hbs9 W9.heap.size rfl ?_
                intro g' cap' w10 hown hgrow hor hlt10
                have hgr : W9.grownBy w10 (some gq) := hgrow
                have HF10 : Hid _ := HFIN.out g' cap' w10 hown hgr (by simpa [Value.ownBlock] using hor)
                have HBX : Hid _ := HB10.out w10 hgr
                have d10 := HBX.out.1.cell
                have z10 := HBX.out.1.frozen
                clear hown hgrow hgr hor
                go_wp2_with fail
                refine hK.out _ _ ?_ (fun hHeld => ?_)
                · exact HS10.out _ HBX.out.2
                clear hK K
                refine wpAnyH_ready (rs := [11]) (by kernel_rfl) (by simp) ?_
                refine AllReadyH.cons (o := ⟨none, .store 57 (.tmp 5) (.tmp 47), 0, "narrow.go:54", #[⟨10, .data⟩, ⟨10, .chain⟩, ⟨0, .phase⟩, ⟨1, .phase⟩, ⟨2, .phase⟩, ⟨3, .phase⟩, ⟨4, .phase⟩, ⟨5, .phase⟩, ⟨6, .phase⟩, ⟨7, .phase⟩, ⟨8, .phase⟩, ⟨9, .phase⟩, ⟨10, .phase⟩], none⟩) rfl (fun K hK => ?_) AllReadyH.nil
                go_simp
                refine hK.out _ _ ?_ (fun hHeld => ?_)
                · exact HS10.out _ (fun k hk h1 h2 => (heap_setCell_other _ _ _ _ h2).trans (HBX.out.2 k hk h1 h2))
                clear hK K
                refine wpAnyH_done (by kernel_rfl) ?_ _
                refine Tame.normal ?_
                gi_wp2
                exact ⟨HF10.out.1, HF10.out.2.1, by dsimp only; rw [HMP.out]; exact NIx.of HF10.out.2.2⟩
          · cases wb
            all_goals
              simp only [Bool.false_and, Bool.true_and] at hw8
              go_wp2_with fail
              refine hK.out _ _ ?_ (fun hHeld => ?_)
              · exact HS7.out _ HB6.out
              clear hK K
              refine wpAnyH_ready (rs := [8]) (by kernel_rfl) (by simp) ?_
              refine AllReadyH.cons (o := ⟨none, .store 80 (.tmp 9) (.tmp 28), 0, "narrow.go:49", #[⟨7, .data⟩, ⟨7, .chain⟩, ⟨0, .phase⟩, ⟨1, .phase⟩, ⟨2, .phase⟩, ⟨3, .phase⟩, ⟨4, .phase⟩, ⟨5, .phase⟩, ⟨6, .phase⟩, ⟨7, .phase⟩], none⟩) rfl (fun K hK => ?_) AllReadyH.nil
              go_simp
              refine hK.out _ _ ?_ (fun hHeld => ?_)
              · exact HS7.out _ HW7.out.1
              clear hK K
              refine wpAnyH_done (by kernel_rfl) ?_ _
              refine Tame.normal ?_
              gi_wp2
              refine region_round (S := fun W' => W'.cell? ⟨w.heap.size + 1, 0, none⟩ = some (.slice (some ⟨g2, o2, none⟩) F.len cf) ∧ W'.cell? ⟨g2, o2 + j * 2, none⟩ = some (.string m) ∧ W'.cell? ⟨W.heap.size, 0, none⟩ = some (.iface T0 y0)) (by kernel_rfl) (by kernel_rfl) (HS10.out _ (fun _ _ _ _ => rfl)) (fun hHeld => ?_)
              refine wpAnyH_take (i := 1) (oi := ⟨some 38, .load 57 (.tmp 3), 57, "narrow.go:54", #[], none⟩) (v := ?_) rfl (by kernel_rfl) (by kernel_rfl) (by kernel_rfl) (fun _ _ _ h => h) (Or.inl ⟨by rfl, ?_⟩) (by assumption) ?_
              rotate_left
              · intro w hSw; (try dsimp only at hSw); go_simp; try (with_reducible rfl)
              simp only [Act.put, List.setIfInBounds_toArray, List.set_cons_zero, List.set_cons_succ]
              refine wpAnyH_take (i := 2) (oi := ⟨some 39, .move (.tmp 8), 3, "narrow.go:54", #[], none⟩) (v := ?_) rfl (by kernel_rfl) (by kernel_rfl) (by kernel_rfl) (fun _ _ _ h => h) (Or.inl ⟨by rfl, ?_⟩) (by assumption) ?_
              rotate_left
              · intro w hSw; (try dsimp only at hSw); go_simp; try (with_reducible rfl)
              simp only [Act.put, List.setIfInBounds_toArray, List.set_cons_zero, List.set_cons_succ]
              refine wpAnyH_take (i := 3) (oi := ⟨some 40, .indexAddr 57 (.tmp 38) (.tmp 39), 0, "narrow.go:54", #[⟨1, .data⟩, ⟨2, .data⟩], none⟩) (v := ?_) rfl (by kernel_rfl) (by kernel_rfl) (by kernel_rfl) (fun _ _ _ h => h) (Or.inl ⟨by rfl, ?_⟩) (by assumption) ?_
              rotate_left
              · intro w hSw; (try dsimp only at hSw); go_simp; try (with_reducible rfl)
              simp only [Act.put, List.setIfInBounds_toArray, List.set_cons_zero, List.set_cons_succ]
              refine wpAnyH_take (i := 4) (oi := ⟨some 41, .fieldAddr 55 (.tmp 40) 0, 0, "narrow.go:54", #[⟨3, .data⟩], none⟩) (v := ?_) rfl (by kernel_rfl) (by kernel_rfl) (by kernel_rfl) (fun _ _ _ h => h) (Or.inl ⟨by rfl, ?_⟩) (by assumption) ?_
              rotate_left
              · intro w hSw; (try dsimp only at hSw); go_simp; try (with_reducible rfl)
              simp only [Act.put, List.setIfInBounds_toArray, List.set_cons_zero, List.set_cons_succ]
              refine wpAnyH_take (i := 5) (oi := ⟨some 42, .load 9 (.tmp 41), 9, "narrow.go:54", #[⟨4, .data⟩], none⟩) (v := ?_) rfl (by kernel_rfl) (by kernel_rfl) (by kernel_rfl) (fun _ _ _ h => h) (Or.inl ⟨by rfl, ?_⟩) (by assumption) ?_
              rotate_left
              · intro w hSw; (try dsimp only at hSw); go_simp; try (with_reducible rfl)
              simp only [Act.put, List.setIfInBounds_toArray, List.set_cons_zero, List.set_cons_succ]
              refine wpAnyH_take (i := 6) (oi := ⟨some 43, .fieldAddr 80 (.tmp 9) 0, 0, "narrow.go:54", #[], none⟩) (v := ?_) rfl (by kernel_rfl) (by kernel_rfl) (by kernel_rfl) (fun _ _ _ h => h) (Or.inl ⟨by rfl, ?_⟩) (by assumption) ?_
              rotate_left
              · intro w hSw; (try dsimp only at hSw); go_simp; try (with_reducible rfl)
              simp only [Act.put, List.setIfInBounds_toArray, List.set_cons_zero, List.set_cons_succ]
              refine wpAnyH_take (i := 7) (oi := ⟨some 44, .load 20 (.tmp 43), 20, "narrow.go:54", #[⟨6, .data⟩], none⟩) (v := ?_) rfl (by kernel_rfl) (by kernel_rfl) (by kernel_rfl) (fun _ _ _ h => h) (Or.inl ⟨by rfl, ?_⟩) (by assumption) ?_
              rotate_left
              · intro w hSw; (try dsimp only at hSw); go_simp; try (with_reducible rfl)
              simp only [Act.put, List.setIfInBounds_toArray, List.set_cons_zero, List.set_cons_succ]
              refine wpAnyH_take (i := 8) (oi := ⟨some 45, .build 55 #[(0, .tmp 42), (1, .tmp 44)], 55, "narrow.go:54", #[⟨5, .data⟩, ⟨7, .data⟩], none⟩) (v := ?_) rfl (by kernel_rfl) (by kernel_rfl) (by kernel_rfl) (fun _ _ _ h => h) (Or.inl ⟨by rfl, ?_⟩) (by assumption) ?_
              rotate_left
              · intro w hSw; (try dsimp only at hSw); go_simp; try (with_reducible rfl)
              simp only [Act.put, List.setIfInBounds_toArray, List.set_cons_zero, List.set_cons_succ]
              refine wpAnyH_ready (rs := [0, 9]) (by kernel_rfl) (by simp) ?_
              refine AllReadyH.cons (o := ⟨some 37, .load 57 (.tmp 5), 57, "narrow.go:54", #[], none⟩) rfl (fun K hK => ?_) (AllReadyH.cons (o := ⟨some 46, .buildSlice 57 1 #[(0, .tmp 45)], 57, "narrow.go:54", #[⟨8, .data⟩], none⟩) rfl (fun K hK => ?_) AllReadyH.nil)
              · go_simp
                refine hK.out _ _ ?_ (fun hHeld => ?_)
                · exact HS10.out _ (fun _ _ _ _ => rfl)
                clear hK K
                refine wpAnyH_ready (rs := [9]) (by kernel_rfl) (by simp) ?_
                refine AllReadyH.cons (o := ⟨some 46, .buildSlice 57 1 #[(0, .tmp 45)], 57, "narrow.go:54", #[⟨8, .data⟩], none⟩) rfl (fun K hK => ?_) AllReadyH.nil
                go_simp
                refine hK.out _ _ ?_ (fun hHeld => ?_)
                · exact HS10.out _ (fun k hk _ _ => HB9.out.block k hk)
                clear hK K
                refine wpAnyH_ready (rs := [10]) (by kernel_rfl) (by simp) ?_
                refine AllReadyH.cons (o := ⟨some 47, .call { callee := Go.Callee.builtin Go.Builtin.append, args := #[.tmp 37, .tmp 46], argTypes := #[57, 57] }, 57, "narrow.go:54", #[⟨0, .data⟩, ⟨9, .data⟩], none⟩) rfl (fun K hK => ?_) AllReadyH.nil
                refine step_append_lies _ (by rfl) _ _ _ (by rfl) (w.heap.size + 1 + 1 + 1) 55 i0 _ 2 32 Try.undD hi hz0 hz1 hz2 rfl (by omega) _ jn xs (by rfl) HNF9.out.own ⟨W7.heap.size, 0, none⟩ 1 1 [.string m, (.iface T0 y0)] (by rfl) (by rfl) HNEW.out HONE.out (by omega) (by unfold maxLen; omega) (by omega) hbs9 W9.heap.size rfl ?_
                intro g' cap' w10 hown hgrow hor hlt10
                have hgr : W9.grownBy w10 (some gq) := hgrow
                have HF10 : Hid _ := HFIN.out g' cap' w10 hown hgr (by simpa [Value.ownBlock] using hor)
                have HBX : Hid _ := HB10.out w10 hgr
                have d10 := HBX.out.1.cell
                have z10 := HBX.out.1.frozen
                clear hown hgrow hgr hor
                go_wp2_with fail
                refine hK.out _ _ ?_ (fun hHeld => ?_)
                · exact HS10.out _ HBX.out.2
                clear hK K
                refine wpAnyH_ready (rs := [11]) (by kernel_rfl) (by simp) ?_
                refine AllReadyH.cons (o := ⟨none, .store 57 (.tmp 5) (.tmp 47), 0, "narrow.go:54", #[⟨10, .data⟩, ⟨10, .chain⟩, ⟨0, .phase⟩, ⟨1, .phase⟩, ⟨2, .phase⟩, ⟨3, .phase⟩, ⟨4, .phase⟩, ⟨5, .phase⟩, ⟨6, .phase⟩, ⟨7, .phase⟩, ⟨8, .phase⟩, ⟨9, .phase⟩, ⟨10, .phase⟩], none⟩) rfl (fun K hK => ?_) AllReadyH.nil
                go_simp
                refine hK.out _ _ ?_ (fun hHeld => ?_)
                · exact HS10.out _ (fun k hk h1 h2 => (heap_setCell_other _ _ _ _ h2).trans (HBX.out.2 k hk h1 h2))
                clear hK K
                refine wpAnyH_done (by kernel_rfl) ?_ _
                refine Tame.normal ?_
                gi_wp2
                exact ⟨HF10.out.1, HF10.out.2.1, by dsimp only; rw [HMP.out]; exact NIx.of HF10.out.2.2⟩
              · go_simp
                refine hK.out _ _ ?_ (fun hHeld => ?_)
                · exact HS10.out _ (fun k hk _ _ => HB9.out.block k hk)
                clear hK K
                refine wpAnyH_ready (rs := [0]) (by kernel_rfl) (by simp) ?_
                refine AllReadyH.cons (o := ⟨some 37, .load 57 (.tmp 5), 57, "narrow.go:54", #[], none⟩) rfl (fun K hK => ?_) AllReadyH.nil
                go_simp
                refine hK.out _ _ ?_ (fun hHeld => ?_)
                · exact HS10.out _ (fun k hk _ _ => HB9.out.block k hk)
                clear hK K
                refine wpAnyH_ready (rs := [10]) (by kernel_rfl) (by simp) ?_
                refine AllReadyH.cons (o := ⟨some 47, .call { callee := Go.Callee.builtin Go.Builtin.append, args := #[.tmp 37, .tmp 46], argTypes := #[57, 57] }, 57, "narrow.go:54", #[⟨0, .data⟩, ⟨9, .data⟩], none⟩) rfl (fun K hK => ?_) AllReadyH.nil
                refine step_append_lies _ (by rfl) _ _ _ (by rfl) (w.heap.size + 1 + 1 + 1) 55 i0 _ 2 32 Try.undD hi hz0 hz1 hz2 rfl (by omega) _ jn xs (by rfl) HNF9.out.own ⟨W7.heap.size, 0, none⟩ 1 1 [.string m, (.iface T0 y0)] (by rfl) (by rfl) HNEW.out HONE.out (by omega) (by unfold maxLen; omega) (by omega) hbs9 W9.heap.size rfl ?_
                intro g' cap' w10 hown hgrow hor hlt10
                have hgr : W9.grownBy w10 (some gq) := hgrow
                have HF10 : Hid _ := HFIN.out g' cap' w10 hown hgr (by simpa [Value.ownBlock] using hor)
                have HBX : Hid _ := HB10.out w10 hgr
                have d10 := HBX.out.1.cell
                have z10 := HBX.out.1.frozen
                clear hown hgrow hgr hor
                go_wp2_with fail
                refine hK.out _ _ ?_ (fun hHeld => ?_)
                · exact HS10.out _ HBX.out.2
                clear hK K
                refine wpAnyH_ready (rs := [11]) (by kernel_rfl) (by simp) ?_
                refine AllReadyH.cons (o := ⟨none, .store 57 (.tmp 5) (.tmp 47), 0, "narrow.go:54", #[⟨10, .data⟩, ⟨10, .chain⟩, ⟨0, .phase⟩, ⟨1, .phase⟩, ⟨2, .phase⟩, ⟨3, .phase⟩, ⟨4, .phase⟩, ⟨5, .phase⟩, ⟨6, .phase⟩, ⟨7, .phase⟩, ⟨8, .phase⟩, ⟨9, .phase⟩, ⟨10, .phase⟩], none⟩) rfl (fun K hK => ?_) AllReadyH.nil
                go_simp
                refine hK.out _ _ ?_ (fun hHeld => ?_)
                · exact HS10.out _ (fun k hk h1 h2 => (heap_setCell_other _ _ _ _ h2).trans (HBX.out.2 k hk h1 h2))
                clear hK K
                refine wpAnyH_done (by kernel_rfl) ?_ _
                refine Tame.normal ?_
                gi_wp2
                exact ⟨HF10.out.1, HF10.out.2.1, by dsimp only; rw [HMP.out]; exact NIx.of HF10.out.2.2⟩
      · gi_wp2
        refine region_round (S := fun W' => W'.cell? ⟨w.heap.size, 0, none⟩ = some (.pointer (some ⟨b, 0, none⟩)) ∧ W'.cell? ⟨w.heap.size + 1, 0, none⟩ = some (.slice (some ⟨g2, o2, none⟩) F.len cf) ∧ W'.cell? ⟨g2, o2 + j * 2 + 1, none⟩ = some (.iface T y) ∧ W'.cell? ⟨g2, o2 + j * 2, none⟩ = some (.string m)) (by kernel_rfl) (by kernel_rfl) (HS7.out _ (HB5.out _).1) (fun hHeld => ?_)
        refine wpAnyH_take (i := 0) (oi := ⟨some 21, .load 64 (.tmp 2), 64, "narrow.go:49", #[], none⟩) (v := ?_) rfl (by kernel_rfl) (by kernel_rfl) (by kernel_rfl) (fun _ _ _ h => h) (Or.inl ⟨by rfl, ?_⟩) (by assumption) ?_
        rotate_left
        · intro w hSw; (try dsimp only at hSw); go_simp; try (with_reducible rfl)
        simp only [Act.put, List.setIfInBounds_toArray, List.set_cons_zero, List.set_cons_succ]
        refine wpAnyH_take (i := 1) (oi := ⟨some 22, .move (.tmp 7), 3, "narrow.go:49", #[], none⟩) (v := ?_) rfl (by kernel_rfl) (by kernel_rfl) (by kernel_rfl) (fun _ _ _ h => h) (Or.inl ⟨by rfl, ?_⟩) (by assumption) ?_
        rotate_left
        · intro w hSw; (try dsimp only at hSw); go_simp; try (with_reducible rfl)
        simp only [Act.put, List.setIfInBounds_toArray, List.set_cons_zero, List.set_cons_succ]
        refine wpAnyH_take (i := 2) (oi := ⟨some 23, .load 57 (.tmp 3), 57, "narrow.go:49", #[], none⟩) (v := ?_) rfl (by kernel_rfl) (by kernel_rfl) (by kernel_rfl) (fun _ _ _ h => h) (Or.inl ⟨by rfl, ?_⟩) (by assumption) ?_
        rotate_left
        · intro w hSw; (try dsimp only at hSw); go_simp; try (with_reducible rfl)
        simp only [Act.put, List.setIfInBounds_toArray, List.set_cons_zero, List.set_cons_succ]
        refine wpAnyH_take (i := 3) (oi := ⟨some 24, .move (.tmp 8), 3, "narrow.go:49", #[], none⟩) (v := ?_) rfl (by kernel_rfl) (by kernel_rfl) (by kernel_rfl) (fun _ _ _ h => h) (Or.inl ⟨by rfl, ?_⟩) (by assumption) ?_
        rotate_left
        · intro w hSw; (try dsimp only at hSw); go_simp; try (with_reducible rfl)
        simp only [Act.put, List.setIfInBounds_toArray, List.set_cons_zero, List.set_cons_succ]
        refine wpAnyH_take (i := 4) (oi := ⟨some 25, .indexAddr 57 (.tmp 23) (.tmp 24), 0, "narrow.go:49", #[⟨2, .data⟩, ⟨3, .data⟩], none⟩) (v := ?_) rfl (by kernel_rfl) (by kernel_rfl) (by kernel_rfl) (fun _ _ _ h => h) (Or.inl ⟨by rfl, ?_⟩) (by assumption) ?_
        rotate_left
        · intro w hSw; (try dsimp only at hSw); go_simp; try (with_reducible rfl)
        simp only [Act.put, List.setIfInBounds_toArray, List.set_cons_zero, List.set_cons_succ]
        refine wpAnyH_take (i := 5) (oi := ⟨some 26, .fieldAddr 55 (.tmp 25) 1, 0, "narrow.go:49", #[⟨4, .data⟩], none⟩) (v := ?_) rfl (by kernel_rfl) (by kernel_rfl) (by kernel_rfl) (fun _ _ _ h => h) (Or.inl ⟨by rfl, ?_⟩) (by assumption) ?_
        rotate_left
        · intro w hSw; (try dsimp only at hSw); go_simp; try (with_reducible rfl)
        simp only [Act.put, List.setIfInBounds_toArray, List.set_cons_zero, List.set_cons_succ]
        refine wpAnyH_take (i := 6) (oi := ⟨some 27, .load 20 (.tmp 26), 20, "narrow.go:49", #[⟨5, .data⟩], none⟩) (v := ?_) rfl (by kernel_rfl) (by kernel_rfl) (by kernel_rfl) (fun _ _ _ h => h) (Or.inl ⟨by rfl, ?_⟩) (by assumption) ?_
        rotate_left
        · intro w hSw; (try dsimp only at hSw); go_simp; try (with_reducible rfl)
        simp only [Act.put, List.setIfInBounds_toArray, List.set_cons_zero, List.set_cons_succ]
        refine wpAnyH_ready (rs := [7]) (by kernel_rfl) (by simp) ?_
        refine AllReadyH.cons (o := ⟨some 28, .call { callee := Go.Callee.value (.func 78), args := #[.tmp 21, .tmp 22, .tmp 27], argTypes := #[64, 3, 20] }, 80, "narrow.go:49", #[⟨0, .data⟩, ⟨1, .data⟩, ⟨6, .data⟩], none⟩) rfl (fun K hK => ?_) AllReadyH.nil
        go_simp
        refine (HO.out _ (HB5.out _).2).mono ?_
        rintro e W6 ⟨hb6, xr, ok, wh, rfl, hRR⟩
        have HB6 : Hid (Below W.heap.size W W6) := below_to (HB5.out _).1 hb6
        have hq6 : W6.heap[W.heap.size]? = some (.cells n0cells 80 (0, 0)) := (hb6.block _ (by show W.heap.size < (W.alloc _).heap.size; simp)).trans (heap_alloc_new W _)
        have hs6 : W.heap.size + 1 ≤ W6.heap.size := by have h : (W.alloc (.cells n0cells 80)).heap.size ≤ W6.heap.size := hb6.size; rw [World.size_alloc] at h; exact h
        have hshr := hRR.shape
        have HRR : Hid ((r = none ∧ ok = false ∧ wh = false ∧ xr = .nilIface) ∨ ∃ y, r = some (y, wh) ∧ ok = true ∧ y.V W6 (fun k => k < B ∨ (W.heap.size < k ∧ k < W6.heap.size)) xr) := by
          rcases hRR with q | ⟨y, q1, q2, q3⟩
          · exact .inl q
          · refine .inr ⟨y, q1, q2, y.V_same (Same.refl _ _) (fun k hk => ?_) xr q3⟩
            rcases hk with hk | hk
            · exact .inl hk
            · refine .inr ⟨?_, hk.2⟩
              have h : (W.alloc (.cells n0cells 80)).heap.size ≤ k := hk.1
              rw [World.size_alloc] at h; omega
        obtain ⟨q0, q1, q2, f0, f1, f2⟩ := n0row hq6
        obtain ⟨W7, hw7⟩ : ∃ W7, (((W6.setCell ⟨W.heap.size, 0, none⟩ xr).setCell ⟨W.heap.size, 1, none⟩ (.bool ok)).setCell ⟨W.heap.size, 2, none⟩ (.bool wh)) = W7 := ⟨_, rfl⟩
        have HW7 : Hid (Below W.heap.size W W7 ∧ W7.heap[W.heap.size]? = some (.cells #[xr, .bool ok, .bool wh] 80 (0, 0)) ∧ (∀ k, k ≠ W.heap.size → W7.heap[k]? = W6.heap[k]?) ∧ W7.heap.size = W6.heap.size) := by
          have e : setN W6 W.heap.size 0 [xr, .bool ok, .bool wh] = W7 := hw7
          rw [← e]
          exact ⟨setN_below (Nat.le_refl _) _ _ _ _ HB6.out, setN_box _ _ _ hq6 rfl, fun k hk => setN_other hk _ _ _, setN_size _ _ _⟩
        obtain ⟨p0, p1, p2, -, -, -⟩ := n0row HW7.out.2.1
        have hb57 : Boxed W7 (w.heap.size + 1 + 1 + 1 + 1 + 1) 4 (.bool wb) := (HW7.out.1.block _ HN.out.b5.lt).trans HN.out.b5
        have p5 := hb57.cell
        have f5 := hb57.frozen
        obtain ⟨W8, hw8⟩ : ∃ W8, W7.setCell ⟨w.heap.size + 1 + 1 + 1 + 1 + 1, 0, none⟩ (.bool (wb && wh)) = W8 := ⟨_, rfl⟩
        have HW8e : Hid (W7.setCell ⟨w.heap.size + 1 + 1 + 1 + 1 + 1, 0, none⟩ (.bool (wb && wh)) = W8) := hw8
        have HW8 := HN.out.r8 HB.out HZ9.out HW7.out.1 (wb && wh) hw8
        have hqne : W.heap.size ≠ w.heap.size + 1 + 1 + 1 + 1 + 1 := by have := HZ9.out; have := HN.out.sz; omega
        obtain ⟨s0, s1, s2, -, -, -⟩ := n0row ((HW8.2.2.2.2.2.2.1 _ hqne).trans HW7.out.2.1)
        have k0 : W8.cell? ⟨w.heap.size, 0, none⟩ = some (.pointer (some ⟨b, 0, none⟩)) := by rw [HW8.1.cell (p := ⟨w.heap.size, 0, none⟩) (by show w.heap.size < _; omega)]; exact c0
        have hbw8 : Below w.heap.size w W8 := hbW.trans (HW8.1.mono (by omega))
        have k6 := (HX.out W8 hbw8).2.2.1
        obtain ⟨sb', g1', o1', ks', he', cs'⟩ := HKB.out W8 i hbw8 hiN
        have hsb : sb' = sb ∧ g1' = g1 ∧ o1' = o1 := by rw [ks] at ks'; injection ks' with ks'; injection he' with he'; injection he' with h1 h2; exact ⟨ks'.symm, h1.symm, h2.symm⟩
        obtain ⟨rfl, rfl, rfl⟩ := hsb
        have hr28 : W8.heap[w.heap.size + 1 + 1]? = some (.cells n0cells 80 (0, 0)) := (HW8.1.block _ (by omega)).trans hr2
        obtain ⟨v0, v1, v2, m0, m1, m2⟩ := n0row hr28
        have HR8 : Hid (KeepsOthers W W8 ∧ W8.heap[w.heap.size + 1 + 1]? = some (.cells n0cells 80 (0, 0)) ∧ Below w.heap.size w (setN W8 (w.heap.size + 1 + 1) 0 [.nilIface, .bool false, .bool false])) := ⟨HW8.2.2.1, hr28, setN_below (by omega) _ _ _ _ hbw8⟩
        have HW8 : Hid _ := HW8
        clear hRR hb6 hq6 hb57 hbw8 he' ks' hr28
        rcases HRR.out with ⟨hr, rfl, rfl, rfl⟩ | ⟨yt, hr, rfl, hyv⟩
        · have HG0 : Hid _ := HGN.out hr
          clear HRR hr hshr
          rw [Bool.and_false] at hw8
          cases sb' with
          | true =>
            cases wb
            all_goals
              go_wp2_with fail
              refine hK.out _ _ ?_ (fun hHeld => ?_)
              · exact HS7.out _ HB6.out
              clear hK K
              refine wpAnyH_ready (rs := [8]) (by kernel_rfl) (by simp) ?_
              refine AllReadyH.cons (o := ⟨none, .store 80 (.tmp 9) (.tmp 28), 0, "narrow.go:49", #[⟨7, .data⟩, ⟨7, .chain⟩, ⟨0, .phase⟩, ⟨1, .phase⟩, ⟨2, .phase⟩, ⟨3, .phase⟩, ⟨4, .phase⟩, ⟨5, .phase⟩, ⟨6, .phase⟩, ⟨7, .phase⟩], none⟩) rfl (fun K hK => ?_) AllReadyH.nil
              go_simp
              refine hK.out _ _ ?_ (fun hHeld => ?_)
              · exact HS7.out _ HW7.out.1
              clear hK K
              refine wpAnyH_done (by kernel_rfl) ?_ _
              refine Tame.normal ?_
              gi_wp2
              obtain ⟨u1, u2, u3⟩ := HN.out.skip HB.out HZ9.out HW7.out.1 (x := ((i : Int), (j : Int))) HG0.out hw8
              exact ⟨u1, u2, by dsimp only; rw [HMP.out]; exact NIx.of u3⟩
          | false =>
            cases wb
            all_goals
              go_wp2_with fail
              refine hK.out _ _ ?_ (fun hHeld => ?_)
              · exact HS7.out _ HB6.out
              clear hK K
              refine wpAnyH_ready (rs := [8]) (by kernel_rfl) (by simp) ?_
              refine AllReadyH.cons (o := ⟨none, .store 80 (.tmp 9) (.tmp 28), 0, "narrow.go:49", #[⟨7, .data⟩, ⟨7, .chain⟩, ⟨0, .phase⟩, ⟨1, .phase⟩, ⟨2, .phase⟩, ⟨3, .phase⟩, ⟨4, .phase⟩, ⟨5, .phase⟩, ⟨6, .phase⟩, ⟨7, .phase⟩], none⟩) rfl (fun K hK => ?_) AllReadyH.nil
              go_simp
              refine hK.out _ _ ?_ (fun hHeld => ?_)
              · exact HS7.out _ HW7.out.1
              clear hK K
              refine wpAnyH_done (by kernel_rfl) ?_ _
              refine Tame.normal ?_
              gi_wp2
              refine ⟨?_, by dsimp only; rw [HMP.out]; exact NXx.of HG0.out (setN_box _ _ _ HR8.out.2.1 rfl) HR8.out.2.2⟩
              exact HR8.out.1.trans (((KeepsOthers.setCell _ _ _).trans (KeepsOthers.setCell _ _ _)).trans (KeepsOthers.setCell _ _ _))
        · have HGK : Hid (g ((i : Int), (j : Int)) = some (some (m, yt), wh)) := HGS.out yt wh hr
          have HYV : Hid (yt.V W6 (fun k => k < B ∨ (W.heap.size < k ∧ k < W6.heap.size)) xr) := hyv
          have hgh := HW8.out.2.2.2.2.2.1.here
          have hgw := HN.out.nf.here
          have hz8 := HW8.out.1.size
          have hzn := HN.out.sz
          have HS10 : Hid (∀ W' : World, (∀ k, k < W8.heap.size → k ≠ gq → k ≠ w.heap.size + 1 + 1 + 1 + 1 → W'.heap[k]? = W8.heap[k]?) → W'.cell? ⟨w.heap.size + 1, 0, none⟩ = some (.slice (some ⟨g2, o2, none⟩) F.len cf) ∧ W'.cell? ⟨g2, o2 + j * 2, none⟩ = some (.string m) ∧ W'.cell? ⟨W.heap.size, 0, none⟩ = some xr) := fun W' h => by
            have hz := HZ9.out
            have hw0 := hbW.size
            have l1 : W.heap.size < W8.heap.size := (Array.getElem?_eq_some_iff.1 ((HW8.out.2.2.2.2.2.2.1 _ hqne).trans HW7.out.2.1)).1
            refine ⟨?_, ?_, ?_⟩
            · rw [World.cell?_of_block (a := ⟨w.heap.size + 1, 0, none⟩) (h _ (by show w.heap.size + 1 < _; omega) (by show w.heap.size + 1 ≠ _; omega) (by show w.heap.size + 1 ≠ _; omega)), HW8.out.1.cell (p := ⟨w.heap.size + 1, 0, none⟩) (by show w.heap.size + 1 < _; omega)]; exact HN.out.c1
            · rw [World.cell?_of_block (a := ⟨g2, o2 + j * 2, none⟩) (h _ (by show g2 < _; omega) (by show g2 ≠ _; omega) (by show g2 ≠ _; omega)), HW8.out.1.cell (p := ⟨g2, o2 + j * 2, none⟩) (by show g2 < _; omega)]; exact (HS7.out W (Below.refl _ _)).2.2.2
            · rw [World.cell?_of_block (a := ⟨W.heap.size, 0, none⟩) (h _ l1 (by show W.heap.size ≠ _; omega) (by show W.heap.size ≠ _; omega))]; exact s0
          obtain ⟨W9, hw9⟩ : ∃ W9, W8.drew.alloc (.cells #[.string m, xr] 55) = W9 := ⟨_, rfl⟩
          have HB9 : Hid (Below W8.heap.size W8 W9) := hw9 ▸ (((Below.refl _ _).drew).alloc (Nat.le_refl _) _)
          have HW9e : Hid (W8.drew.alloc (.cells #[.string m, xr] 55) = W9) := hw9
          have HNF9 := HW8.out.2.2.2.2.2.1.call HB9.out
          have HNF9 : Hid _ := HNF9
          have HNEW : Hid (∀ i u, [Value.string m, xr][i]? = some u → W9.cell? ((⟨W7.heap.size, 0, none⟩ : Addr).add i) = some u) := by rw [← hw9, ← HW8.out.2.2.2.2.2.2.2]; exact cell_two_new W8.drew _ _ _
          have k4 : W8.drew.cell? ⟨w.heap.size + 1 + 1 + 1 + 1, 0, none⟩ = some (.slice (some ⟨gq, 0, none⟩) jn cap) := HW8.out.2.2.2.1.cell
          have k9 : W9.cell? ⟨w.heap.size + 1 + 1 + 1 + 1, 0, none⟩ = some (.slice (some ⟨gq, 0, none⟩) jn cap) := (boxed_below HW8.out.2.2.2.1 HB9.out).cell
          have HONE : Hid (∀ u ∈ [Value.string m, xr], u.oneCell' = true) := by
            rcases hshr with rfl | ⟨T0, y0, rfl⟩
            · exact two_nil m
            · exact two_iface m T0 y0
          have hz9 := HB9.out.size
          have hbs9 : w.heap.size + 1 + 1 + 1 ≤ W9.heap.size := by have := HZ9.out; omega
          have HFIN : Hid (∀ (g' cap' : Nat) (w10 : World), w10.ownsRow (w.heap.size + 1 + 1 + 1) 55 2 (.slice (some ⟨g', 0, none⟩) (jn + 1) cap') (jn + 1) (xs ++ [.string m, xr]) → W9.grownBy w10 (some gq) → (some gq = some g' ∨ g' = W9.heap.size) → KeepsOthers W (w10.setCell ⟨w.heap.size + 1 + 1 + 1 + 1, 0, none⟩ (.slice (some ⟨g', 0, none⟩) (jn + 1) cap')) ∧ KD (DK w.heap.size) W (w10.setCell ⟨w.heap.size + 1 + 1 + 1 + 1, 0, none⟩ (.slice (some ⟨g', 0, none⟩) (jn + 1) cap')) ∧ NI g B b (some ⟨g2, o2, none⟩) F.len cf w W0 (pre.map (·.1) ++ [((i : Int), (j : Int))]) (A.app (.cons m yt .nil)) (wb && wh) (jn + 1) g' cap' (xs ++ [.string m, xr]) (w10.setCell ⟨w.heap.size + 1 + 1 + 1 + 1, 0, none⟩ (.slice (some ⟨g', 0, none⟩) (jn + 1) cap'))) := fun g' cap' w10 ho hg hor =>
            HN.out.kept HB.out HZ9.out HW7.out.1 HW7.out.2.2.1 HW7.out.2.2.2 HGK.out rfl hmz HYV.out HW8e.out HW9e.out ho hg hor
          have HB10 : Hid (∀ w10 : World, W9.grownBy w10 (some gq) → Boxed w10 (w.heap.size + 1 + 1 + 1 + 1) 57 (.slice (some ⟨gq, 0, none⟩) jn cap) ∧ (∀ k, k < W8.heap.size → k ≠ gq → k ≠ w.heap.size + 1 + 1 + 1 + 1 → w10.heap[k]? = W8.heap[k]?)) := fun w10 hg => ⟨(boxed_below HW8.out.2.2.2.1 HB9.out).kept hg (fun e => by injection e with e; have := HZ9.out; omega), fun k hk h1 _ => (hg.block k (by omega) (by simpa using h1)).trans (HB9.out.block k hk)⟩
          clear HRR hr hyv
          rcases hshr with rfl | ⟨T0, y0, rfl⟩
          · cases wb
            all_goals
              simp only [Bool.false_and, Bool.true_and] at hw8
              go_wp2_with fail
              refine hK.out _ _ ?_ (fun hHeld => ?_)
              · exact HS7.out _ HB6.out
              clear hK K
              refine wpAnyH_ready (rs := [8]) (by kernel_rfl) (by simp) ?_
              refine AllReadyH.cons (o := ⟨none, .store 80 (.tmp 9) (.tmp 28), 0, "narrow.go:49", #[⟨7, .data⟩, ⟨7, .chain⟩, ⟨0, .phase⟩, ⟨1, .phase⟩, ⟨2, .phase⟩, ⟨3, .phase⟩, ⟨4, .phase⟩, ⟨5, .phase⟩, ⟨6, .phase⟩, ⟨7, .phase⟩], none⟩) rfl (fun K hK => ?_) AllReadyH.nil
              go_simp
              refine hK.out _ _ ?_ (fun hHeld => ?_)
              · exact HS7.out _ HW7.out.1
              clear hK K
              refine wpAnyH_done (by kernel_rfl) ?_ _
              refine Tame.normal ?_
              gi_wp2
              refine region_round (S := fun W' => W'.cell? ⟨w.heap.size + 1, 0, none⟩ = some (.slice (some ⟨g2, o2, none⟩) F.len cf) ∧ W'.cell? ⟨g2, o2 + j * 2, none⟩ = some (.string m) ∧ W'.cell? ⟨W.heap.size, 0, none⟩ = some .nilIface) (by kernel_rfl) (by kernel_rfl) (HS10.out _ (fun _ _ _ _ => rfl)) (fun hHeld => ?_)
              refine wpAnyH_take (i := 1) (oi := ⟨some 38, .load 57 (.tmp 3), 57, "narrow.go:54", #[], none⟩) (v := ?_) rfl (by kernel_rfl) (by kernel_rfl) (by kernel_rfl) (fun _ _ _ h => h) (Or.inl ⟨by rfl, ?_⟩) (by assumption) ?_
              rotate_left
              · intro w hSw; (try dsimp only at hSw); go_simp; try (with_reducible rfl)
              simp only [Act.put, List.setIfInBounds_toArray, List.set_cons_zero, List.set_cons_succ]
              refine wpAnyH_take (i := 2) (oi := ⟨some 39, .move (.tmp 8), 3, "narrow.go:54", #[], none⟩) (v := ?_) rfl (by kernel_rfl) (by kernel_rfl) (by kernel_rfl) (fun _ _ _ h => h) (Or.inl ⟨by rfl, ?_⟩) (by assumption) ?_
              rotate_left
              · intro w hSw; (try dsimp only at hSw); go_simp; try (with_reducible rfl)
              simp only [Act.put, List.setIfInBounds_toArray, List.set_cons_zero, List.set_cons_succ]
              refine wpAnyH_take (i := 3) (oi := ⟨some 40, .indexAddr 57 (.tmp 38) (.tmp 39), 0, "narrow.go:54", #[⟨1, .data⟩, ⟨2, .data⟩], none⟩) (v := ?_) rfl (by kernel_rfl) (by kernel_rfl) (by kernel_rfl) (fun _ _ _ h => h) (Or.inl ⟨by rfl, ?_⟩) (by assumption) ?_
              rotate_left
              · intro w hSw; (try dsimp only at hSw); go_simp; try (with_reducible rfl)
              simp only [Act.put, List.setIfInBounds_toArray, List.set_cons_zero, List.set_cons_succ]
              refine wpAnyH_take (i := 4) (oi := ⟨some 41, .fieldAddr 55 (.tmp 40) 0, 0, "narrow.go:54", #[⟨3, .data⟩], none⟩) (v := ?_) rfl (by kernel_rfl) (by kernel_rfl) (by kernel_rfl) (fun _ _ _ h => h) (Or.inl ⟨by rfl, ?_⟩) (by assumption) ?_
              rotate_left
              · intro w hSw; (try dsimp only at hSw); go_simp; try (with_reducible rfl)
              simp only [Act.put, List.setIfInBounds_toArray, List.set_cons_zero, List.set_cons_succ]
              refine wpAnyH_take (i := 5) (oi := ⟨some 42, .load 9 (.tmp 41), 9, "narrow.go:54", #[⟨4, .data⟩], none⟩) (v := ?_) rfl (by kernel_rfl) (by kernel_rfl) (by kernel_rfl) (fun _ _ _ h => h) (Or.inl ⟨by rfl, ?_⟩) (by assumption) ?_
              rotate_left
              · intro w hSw; (try dsimp only at hSw); go_simp; try (with_reducible rfl)
              simp only [Act.put, List.setIfInBounds_toArray, List.set_cons_zero, List.set_cons_succ]
              refine wpAnyH_take (i := 6) (oi := ⟨some 43, .fieldAddr 80 (.tmp 9) 0, 0, "narrow.go:54", #[], none⟩) (v := ?_) rfl (by kernel_rfl) (by kernel_rfl) (by kernel_rfl) (fun _ _ _ h => h) (Or.inl ⟨by rfl, ?_⟩) (by assumption) ?_
              rotate_left
              · intro w hSw; (try dsimp only at hSw); go_simp; try (with_reducible rfl)
              simp only [Act.put, List.setIfInBounds_toArray, List.set_cons_zero, List.set_cons_succ]
              refine wpAnyH_take (i := 7) (oi := ⟨some 44, .load 20 (.tmp 43), 20, "narrow.go:54", #[⟨6, .data⟩], none⟩) (v := ?_) rfl (by kernel_rfl) (by kernel_rfl) (by kernel_rfl) (fun _ _ _ h => h) (Or.inl ⟨by rfl, ?_⟩) (by assumption) ?_
              rotate_left
              · intro w hSw; (try dsimp only at hSw); go_simp; try (with_reducible rfl)
              simp only [Act.put, List.setIfInBounds_toArray, List.set_cons_zero, List.set_cons_succ]
              refine wpAnyH_take (i := 8) (oi := ⟨some 45, .build 55 #[(0, .tmp 42), (1, .tmp 44)], 55, "narrow.go:54", #[⟨5, .data⟩, ⟨7, .data⟩], none⟩) (v := ?_) rfl (by kernel_rfl) (by kernel_rfl) (by kernel_rfl) (fun _ _ _ h => h) (Or.inl ⟨by rfl, ?_⟩) (by assumption) ?_
              rotate_left
              · intro w hSw; (try dsimp only at hSw); go_simp; try (with_reducible rfl)
              simp only [Act.put, List.setIfInBounds_toArray, List.set_cons_zero, List.set_cons_succ]
              refine wpAnyH_ready (rs := [0, 9]) (by kernel_rfl) (by simp) ?_
              refine AllReadyH.cons (o := ⟨some 37, .load 57 (.tmp 5), 57, "narrow.go:54", #[], none⟩) rfl (fun K hK => ?_) (AllReadyH.cons (o := ⟨some 46, .buildSlice 57 1 #[(0, .tmp 45)], 57, "narrow.go:54", #[⟨8, .data⟩], none⟩) rfl (fun K hK => ?_) AllReadyH.nil)
              · go_simp
                refine hK.out _ _ ?_ (fun hHeld => ?_)
                · exact HS10.out _ (fun _ _ _ _ => rfl)
                clear hK K
                refine wpAnyH_ready (rs := [9]) (by kernel_rfl) (by simp) ?_
                refine AllReadyH.cons (o := ⟨some 46, .buildSlice 57 1 #[(0, .tmp 45)], 57, "narrow.go:54", #[⟨8, .data⟩], none⟩) rfl (fun K hK => ?_) AllReadyH.nil
                go_simp
                refine hK.out _ _ ?_ (fun hHeld => ?_)
                · exact HS10.out _ (fun k hk _ _ => HB9.out.block k hk)
                clear hK K
                refine wpAnyH_ready (rs := [10]) (by kernel_rfl) (by simp) ?_
                refine AllReadyH.cons (o := ⟨some 47, .call { callee := Go.Callee.builtin Go.Builtin.append, args := #[.tmp 37, .tmp 46], argTypes := #[57, 57] }, 57, "narrow.go:54", #[⟨0, .data⟩, ⟨9, .data⟩], none⟩) rfl (fun K hK => ?_) AllReadyH.nil
                refine step_append_lies _ (by rfl) _ _ _ (by rfl) (w.heap.size + 1 + 1 + 1) 55 i0 _ 2 32 Try.undD hi hz0 hz1 hz2 rfl (by omega) _ jn xs (by rfl) HNF9.out.own ⟨W7.heap.size, 0, none⟩ 1 1 [.string m, .nilIface] (by rfl) (by rfl) HNEW.out HONE.out (by omega) (by unfold maxLen; omega) (by omega) hbs9 W9.heap.size rfl ?_
                intro g' cap' w10 hown hgrow hor hlt10
                have hgr : W9.grownBy w10 (some gq) := hgrow
                have HF10 : Hid _ := HFIN.out g' cap' w10 hown hgr (by simpa [Value.ownBlock] using hor)
                have HBX : Hid _ := HB10.out w10 hgr
                have d10 := HBX.out.1.cell
                have z10 := HBX.out.1.frozen
                clear hown hgrow hgr hor
                go_wp2_with fail
                refine hK.out _ _ ?_ (fun hHeld => ?_)
                · exact HS10.out _ HBX.out.2
                clear hK K
                refine wpAnyH_ready (rs := [11]) (by kernel_rfl) (by simp) ?_
                refine AllReadyH.cons (o := ⟨none, .store 57 (.tmp 5) (.tmp 47), 0, "narrow.go:54", #[⟨10, .data⟩, ⟨10, .chain⟩, ⟨0, .phase⟩, ⟨1, .phase⟩, ⟨2, .phase⟩, ⟨3, .phase⟩, ⟨4, .phase⟩, ⟨5, .phase⟩, ⟨6, .phase⟩, ⟨7, .phase⟩, ⟨8, .phase⟩, ⟨9, .phase⟩, ⟨10, .phase⟩], none⟩) rfl (fun K hK => ?_) AllReadyH.nil
                go_simp
                refine hK.out _ _ ?_ (fun hHeld => ?_)
                · exact HS10.out _ (fun k hk h1 h2 => (heap_setCell_other _ _ _ _ h2).trans (HBX.out.2 k hk h1 h2))
                clear hK K
                refine wpAnyH_done (by kernel_rfl) ?_ _
                refine Tame.normal ?_
                gi_wp2
                exact ⟨HF10.out.1, HF10.out.2.1, by dsimp only; rw [HMP.out]; exact NIx.of HF10.out.2.2⟩
              · go_simp
                refine hK.out _ _ ?_ (fun hHeld => ?_)
                · exact HS10.out _ (fun k hk _ _ => HB9.out.block k hk)
                clear hK K
                refine wpAnyH_ready (rs := [0]) (by kernel_rfl) (by simp) ?_
                refine AllReadyH.cons (o := ⟨some 37, .load 57 (.tmp 5), 57, "narrow.go:54", #[], none⟩) rfl (fun K hK => ?_) AllReadyH.nil
                go_simp
                refine hK.out _ _ ?_ (fun hHeld => ?_)
                · exact HS10.out _ (fun k hk _ _ => HB9.out.block k hk)
                clear hK K
                refine wpAnyH_ready (rs := [10]) (by kernel_rfl) (by simp) ?_
                refine AllReadyH.cons (o := ⟨some 47, .call { callee := Go.Callee.builtin Go.Builtin.append, args := #[.tmp 37, .tmp 46], argTypes := #[57, 57] }, 57, "narrow.go:54", #[⟨0, .data⟩, ⟨9, .data⟩], none⟩) rfl (fun K hK => ?_) AllReadyH.nil
                refine step_append_lies _ (by rfl) _ _ _ (by rfl) (w.heap.size + 1 + 1 + 1) 55 i0 _ 2 32 Try.undD hi hz0 hz1 hz2 rfl (by omega) _ jn xs (by rfl) HNF9.out.own ⟨W7.heap.size, 0, none⟩ 1 1 [.string m, .nilIface] (by rfl) (by rfl) HNEW.out HONE.out (by omega) (by unfold maxLen; omega) (by omega) hbs9 W9.heap.size rfl ?_
                intro g' cap' w10 hown hgrow hor hlt10
                have hgr : W9.grownBy w10 (some gq) := hgrow
                have HF10 : Hid _ := HFIN.out g' cap' w10 hown hgr (by simpa [Value.ownBlock] using hor)
                have HBX : Hid _ := HB10.out w10 hgr
                have d10 := HBX.out.1.cell
                have z10 := HBX.out.1.frozen
                clear hown hgrow hgr hor
                go_wp2_with fail
                refine hK.out _ _ ?_ (fun hHeld => ?_)
                · exact HS10.out _ HBX.out.2
                clear hK K
                refine wpAnyH_ready (rs := [11]) (by kernel_rfl) (by simp) ?_
                refine AllReadyH.cons (o := ⟨none, .store 57 (.tmp 5) (.tmp 47), 0, "narrow.go:54", #[⟨10, .data⟩, ⟨10, .chain⟩, ⟨0, .phase⟩, ⟨1, .phase⟩, ⟨2, .phase⟩, ⟨3, .phase⟩, ⟨4, .phase⟩, ⟨5, .phase⟩, ⟨6, .phase⟩, ⟨7, .phase⟩, ⟨8, .phase⟩, ⟨9, .phase⟩, ⟨10, .phase⟩], none⟩) rfl (fun K hK => ?_) AllReadyH.nil
                go_simp
                refine hK.out _ _ ?_ (fun hHeld => ?_)
                · exact HS10.out _ (fun k hk h1 h2 => (heap_setCell_other _ _ _ _ h2).trans (HBX.out.2 k hk h1 h2))
                clear hK K
                refine wpAnyH_done (by kernel_rfl) ?_ _
                refine Tame.normal ?_
                gi_wp2
                exact ⟨HF10.out.1, HF10.out.2.1, by dsimp only; rw [HMP.out]; exact NIx.of HF10.out.2.2⟩
          · cases wb
            all_goals
              simp only [Bool.false_and, Bool.true_and] at hw8
              go_wp2_with fail
              refine hK.out _ _ ?_ (fun hHeld => ?_)
              · exact HS7.out _ HB6.out
              clear hK K
              refine wpAnyH_ready (rs := [8]) (by kernel_rfl) (by simp) ?_
              refine AllReadyH.cons (o := ⟨none, .store 80 (.tmp 9) (.tmp 28), 0, "narrow.go:49", #[⟨7, .data⟩, ⟨7, .chain⟩, ⟨0, .phase⟩, ⟨1, .phase⟩, ⟨2, .phase⟩, ⟨3, .phase⟩, ⟨4, .phase⟩, ⟨5, .phase⟩, ⟨6, .phase⟩, ⟨7, .phase⟩], none⟩) rfl (fun K hK => ?_) AllReadyH.nil
              go_simp
              refine hK.out _ _ ?_ (fun hHeld => ?_)
              · exact HS7.out _ HW7.out.1
              clear hK K
              refine wpAnyH_done (by kernel_rfl) ?_ _
              refine Tame.normal ?_
              gi_wp2
              refine region_round (S := fun W' => W'.cell? ⟨w.heap.size + 1, 0, none⟩ = some (.slice (some ⟨g2, o2, none⟩) F.len cf) ∧ W'.cell? ⟨g2, o2 + j * 2, none⟩ = some (.string m) ∧ W'.cell? ⟨W.heap.size, 0, none⟩ = some (.iface T0 y0)) (by kernel_rfl) (by kernel_rfl) (HS10.out _ (fun _ _ _ _ => rfl)) (fun hHeld => ?_)
              refine wpAnyH_take (i := 1) (oi := ⟨some 38, .load 57 (.tmp 3), 57, "narrow.go:54", #[], none⟩) (v := ?_) rfl (by kernel_rfl) (by kernel_rfl) (by kernel_rfl) (fun _ _ _ h => h) (Or.inl ⟨by rfl, ?_⟩) (by assumption) ?_
              rotate_left
              · intro w hSw; (try dsimp only at hSw); go_simp; try (with_reducible rfl)
              simp only [Act.put, List.setIfInBounds_toArray, List.set_cons_zero, List.set_cons_succ]
              refine wpAnyH_take (i := 2) (oi := ⟨some 39, .move (.tmp 8), 3, "narrow.go:54", #[], none⟩) (v := ?_) rfl (by kernel_rfl) (by kernel_rfl) (by kernel_rfl) (fun _ _ _ h => h) (Or.inl ⟨by rfl, ?_⟩) (by assumption) ?_
              rotate_left
              · intro w hSw; (try dsimp only at hSw); go_simp; try (with_reducible rfl)
              simp only [Act.put, List.setIfInBounds_toArray, List.set_cons_zero, List.set_cons_succ]
              refine wpAnyH_take (i := 3) (oi := ⟨some 40, .indexAddr 57 (.tmp 38) (.tmp 39), 0, "narrow.go:54", #[⟨1, .data⟩, ⟨2, .data⟩], none⟩) (v := ?_) rfl (by kernel_rfl) (by kernel_rfl) (by kernel_rfl) (fun _ _ _ h => h) (Or.inl ⟨by rfl, ?_⟩) (by assumption) ?_
              rotate_left
              · intro w hSw; (try dsimp only at hSw); go_simp; try (with_reducible rfl)
              simp only [Act.put, List.setIfInBounds_toArray, List.set_cons_zero, List.set_cons_succ]
              refine wpAnyH_take (i := 4) (oi := ⟨some 41, .fieldAddr 55 (.tmp 40) 0, 0, "narrow.go:54", #[⟨3, .data⟩], none⟩) (v := ?_) rfl (by kernel_rfl) (by kernel_rfl) (by kernel_rfl) (fun _ _ _ h => h) (Or.inl ⟨by rfl, ?_⟩) (by assumption) ?_
              rotate_left
              · intro w hSw; (try dsimp only at hSw); go_simp; try (with_reducible rfl)
              simp only [Act.put, List.setIfInBounds_toArray, List.set_cons_zero, List.set_cons_succ]
              refine wpAnyH_take (i := 5) (oi := ⟨some 42, .load 9 (.tmp 41), 9, "narrow.go:54", #[⟨4, .data⟩], none⟩) (v := ?_) rfl (by kernel_rfl) (by kernel_rfl) (by kernel_rfl) (fun _ _ _ h => h) (Or.inl ⟨by rfl, ?_⟩) (by assumption) ?_
              rotate_left
              · intro w hSw; (try dsimp only at hSw); go_simp; try (with_reducible rfl)
              simp only [Act.put, List.setIfInBounds_toArray, List.set_cons_zero, List.set_cons_succ]
              refine wpAnyH_take (i := 6) (oi := ⟨some 43, .fieldAddr 80 (.tmp 9) 0, 0, "narrow.go:54", #[], none⟩) (v := ?_) rfl (by kernel_rfl) (by kernel_rfl) (by kernel_rfl) (fun _ _ _ h => h) (Or.inl ⟨by rfl, ?_⟩) (by assumption) ?_
              rotate_left
              · intro w hSw; (try dsimp only at hSw); go_simp; try (with_reducible rfl)
              simp only [Act.put, List.setIfInBounds_toArray, List.set_cons_zero, List.set_cons_succ]
              refine wpAnyH_take (i := 7) (oi := ⟨some 44, .load 20 (.tmp 43), 20, "narrow.go:54", #[⟨6, .data⟩], none⟩) (v := ?_) rfl (by kernel_rfl) (by kernel_rfl) (by kernel_rfl) (fun _ _ _ h => h) (Or.inl ⟨by rfl, ?_⟩) (by assumption) ?_
              rotate_left
              · intro w hSw; (try dsimp only at hSw); go_simp; try (with_reducible rfl)
              simp only [Act.put, List.setIfInBounds_toArray, List.set_cons_zero, List.set_cons_succ]
              refine wpAnyH_take (i := 8) (oi := ⟨some 45, .build 55 #[(0, .tmp 42), (1, .tmp 44)], 55, "narrow.go:54", #[⟨5, .data⟩, ⟨7, .data⟩], none⟩) (v := ?_) rfl (by kernel_rfl) (by kernel_rfl) (by kernel_rfl) (fun _ _ _ h => h) (Or.inl ⟨by rfl, ?_⟩) (by assumption) ?_
              rotate_left
              · intro w hSw; (try dsimp only at hSw); go_simp; try (with_reducible rfl)
              simp only [Act.put, List.setIfInBounds_toArray, List.set_cons_zero, List.set_cons_succ]
              refine wpAnyH_ready (rs := [0, 9]) (by kernel_rfl) (by simp) ?_
              refine AllReadyH.cons (o := ⟨some 37, .load 57 (.tmp 5), 57, "narrow.go:54", #[], none⟩) rfl (fun K hK => ?_) (AllReadyH.cons (o := ⟨some 46, .buildSlice 57 1 #[(0, .tmp 45)], 57, "narrow.go:54", #[⟨8, .data⟩], none⟩) rfl (fun K hK => ?_) AllReadyH.nil)
              · go_simp
                refine hK.out _ _ ?_ (fun hHeld => ?_)
                · exact HS10.out _ (fun _ _ _ _ => rfl)
                clear hK K
                refine wpAnyH_ready (rs := [9]) (by kernel_rfl) (by simp) ?_
                refine AllReadyH.cons (o := ⟨some 46, .buildSlice 57 1 #[(0, .tmp 45)], 57, "narrow.go:54", #[⟨8, .data⟩], none⟩) rfl (fun K hK => ?_) AllReadyH.nil
                go_simp
                refine hK.out _ _ ?_ (fun hHeld => ?_)
                · exact HS10.out _ (fun k hk _ _ => HB9.out.block k hk)
                clear hK K
                refine wpAnyH_ready (rs := [10]) (by kernel_rfl) (by simp) ?_
                refine AllReadyH.cons (o := ⟨some 47, .call { callee := Go.Callee.builtin Go.Builtin.append, args := #[.tmp 37, .tmp 46], argTypes := #[57, 57] }, 57, "narrow.go:54", #[⟨0, .data⟩, ⟨9, .data⟩], none⟩) rfl (fun K hK => ?_) AllReadyH.nil
                refine step_append_lies _ (by rfl) _ _ _ (by rfl) (w.heap.size + 1 + 1 + 1) 55 i0 _ 2 32 Try.undD hi hz0 hz1 hz2 rfl (by omega) _ jn xs (by rfl) HNF9.out.own ⟨W7.heap.size, 0, none⟩ 1 1 [.string m, (.iface T0 y0)] (by rfl) (by rfl) HNEW.out HONE.out (by omega) (by unfold maxLen; omega) (by omega) hbs9 W9.heap.size rfl ?_
                intro g' cap' w10 hown hgrow hor hlt10
                have hgr : W9.grownBy w10 (some gq) := hgrow
                have HF10 : Hid _ := HFIN.out g' cap' w10 hown hgr (by simpa [Value.ownBlock] using hor)
                have HBX : Hid _ := HB10.out w10 hgr
                have d10 := HBX.out.1.cell
                have z10 := HBX.out.1.frozen
                clear hown hgrow hgr hor
                go_wp2_with fail
                refine hK.out _ _ ?_ (fun hHeld => ?_)
                · exact HS10.out _ HBX.out.2
                clear hK K
                refine wpAnyH_ready (rs := [11]) (by kernel_rfl) (by simp) ?_
                refine AllReadyH.cons (o := ⟨none, .store 57 (.tmp 5) (.tmp 47), 0, "narrow.go:54", #[⟨10, .data⟩, ⟨10, .chain⟩, ⟨0, .phase⟩, ⟨1, .phase⟩, ⟨2, .phase⟩, ⟨3, .phase⟩, ⟨4, .phase⟩, ⟨5, .phase⟩, ⟨6, .phase⟩, ⟨7, .phase⟩, ⟨8, .phase⟩, ⟨9, .phase⟩, ⟨10, .phase⟩], none⟩) rfl (fun K hK => ?_) AllReadyH.nil
                go_simp
                refine hK.out _ _ ?_ (fun hHeld => ?_)
                · exact HS10.out _ (fun k hk h1 h2 => (heap_setCell_other _ _ _ _ h2).trans (HBX.out.2 k hk h1 h2))
                clear hK K
                refine wpAnyH_done (by kernel_rfl) ?_ _
                refine Tame.normal ?_
                gi_wp2
                exact ⟨HF10.out.1, HF10.out.2.1, by dsimp only; rw [HMP.out]; exact NIx.of HF10.out.2.2⟩
              · go_simp
                refine hK.out _ _ ?_ (fun hHeld => ?_)
                · exact HS10.out _ (fun k hk _ _ => HB9.out.block k hk)
                clear hK K
                refine wpAnyH_ready (rs := [0]) (by kernel_rfl) (by simp) ?_
                refine AllReadyH.cons (o := ⟨some 37, .load 57 (.tmp 5), 57, "narrow.go:54", #[], none⟩) rfl (fun K hK => ?_) AllReadyH.nil
                go_simp
                refine hK.out _ _ ?_ (fun hHeld => ?_)
                · exact HS10.out _ (fun k hk _ _ => HB9.out.block k hk)
                clear hK K
                refine wpAnyH_ready (rs := [10]) (by kernel_rfl) (by simp) ?_
                refine AllReadyH.cons (o := ⟨some 47, .call { callee := Go.Callee.builtin Go.Builtin.append, args := #[.tmp 37, .tmp 46], argTypes := #[57, 57] }, 57, "narrow.go:54", #[⟨0, .data⟩, ⟨9, .data⟩], none⟩) rfl (fun K hK => ?_) AllReadyH.nil
                refine step_append_lies _ (by rfl) _ _ _ (by rfl) (w.heap.size + 1 + 1 + 1) 55 i0 _ 2 32 Try.undD hi hz0 hz1 hz2 rfl (by omega) _ jn xs (by rfl) HNF9.out.own ⟨W7.heap.size, 0, none⟩ 1 1 [.string m, (.iface T0 y0)] (by rfl) (by rfl) HNEW.out HONE.out (by omega) (by unfold maxLen; omega) (by omega) hbs9 W9.heap.size rfl ?_
                intro g' cap' w10 hown hgrow hor hlt10
                have hgr : W9.grownBy w10 (some gq) := hgrow
                have HF10 : Hid _ := HFIN.out g' cap' w10 hown hgr (by simpa [Value.ownBlock] using hor)
                have HBX : Hid _ := HB10.out w10 hgr
                have d10 := HBX.out.1.cell
                have z10 := HBX.out.1.frozen
                clear hown hgrow hgr hor
                go_wp2_with fail
                refine hK.out _ _ ?_ (fun hHeld => ?_)
                · exact HS10.out _ HBX.out.2
                clear hK K
                refine wpAnyH_ready (rs := [11]) (by kernel_rfl) (by simp) ?_
                refine AllReadyH.cons (o := ⟨none, .store 57 (.tmp 5) (.tmp 47), 0, "narrow.go:54", #[⟨10, .data⟩, ⟨10, .chain⟩, ⟨0, .phase⟩, ⟨1, .phase⟩, ⟨2, .phase⟩, ⟨3, .phase⟩, ⟨4, .phase⟩, ⟨5, .phase⟩, ⟨6, .phase⟩, ⟨7, .phase⟩, ⟨8, .phase⟩, ⟨9, .phase⟩, ⟨10, .phase⟩], none⟩) rfl (fun K hK => ?_) AllReadyH.nil
                go_simp
                refine hK.out _ _ ?_ (fun hHeld => ?_)
                · exact HS10.out _ (fun k hk h1 h2 => (heap_setCell_other _ _ _ _ h2).trans (HBX.out.2 k hk h1 h2))
                clear hK K
                refine wpAnyH_done (by kernel_rfl) ?_ _
                refine Tame.normal ?_
                gi_wp2
                exact ⟨HF10.out.1, HF10.out.2.1, by dsimp only; rw [HMP.out]; exact NIx.of HF10.out.2.2⟩
  case done =>
    rintro D ys W hD hS ⟨A, wb, j, gq, cap, xs, hn⟩ hK
    have hw4s := HW4S.out
    obtain ⟨hjA, hlv⟩ := NF.done (by omega) hn.nf
    subst hjA
    have HF : Hid (Sp.foldN g M = some (A, wb)) := by show _ = _; rw [← hS]; exact hn.fold
    have d4 := hn.b4.cell
    have d5 := hn.b5.cell
    obtain ⟨y0, y1, y2, z0, z1, z2⟩ := n0row hn.r2
    have HE : Hid (∀ vs o, Below w.heap.size w ((setN W (w.heap.size + 1 + 1) 0 vs).putObj D o) ∧ A.LV ((setN W (w.heap.size + 1 + 1) 0 vs).putObj D o) (BF (Lo B) w ((setN W (w.heap.size + 1 + 1) 0 vs).putObj D o)) (some ⟨gq, 0, none⟩) cap) := fun vs o => ND_done (by omega) hD HB.out hn.bel hK hlv
    have HR2 : Hid (∀ a b c o, ((setN W (w.heap.size + 1 + 1) 0 [a, b, c]).putObj D o).heap[w.heap.size + 1 + 1]? = some (.cells #[a, b, c] 80 (0, 0)) ∧ (setN W (w.heap.size + 1 + 1) 0 [a, b, c]).heap[D]? = some (.deferred (some []))) := fun a b c o => ⟨by rw [World.putObj_heap_other (by omega)]; exact setN_box a b c hn.r2 rfl, by rw [setN_other (by omega)]; exact hK⟩
    clear hS hn HSQ' HW0 HW4 t3 t4 t5 t6 hlv hw4s
    gi_wp2
    refine ⟨by simp, .inl ⟨_, _, rfl, run_takeDeferred (HR2.out _ _ _ (.deferred none)).2, ?_⟩⟩
    obtain ⟨e0, e1, e2, -⟩ := n0row (HR2.out (.iface 57 (.slice (some ⟨gq, 0, none⟩) A.len cap)) (.bool true) (.bool wb) (.deferred none)).1
    refine ⟨.agg #[.iface 57 (.slice (some ⟨gq, 0, none⟩) A.len cap), .bool true, .bool wb], ?_, (HE.out [.iface 57 (.slice (some ⟨gq, 0, none⟩) A.len cap), .bool true, .bool wb] (.deferred none)).1, .inr ⟨A, wb, some ⟨gq, 0, none⟩, cap, HF.out, rfl, (HE.out [.iface 57 (.slice (some ⟨gq, 0, none⟩) A.len cap), .bool true, .bool wb] (.deferred none)).2⟩⟩
    simp only [setN] at e0 e1 e2
    simp [results, Try.f53, go_sem, e0, e1, e2]
  case stop =>
    rintro D c pre W hD ⟨rest, hrest⟩ ⟨⟨rfl, x, hx, hgx⟩, hr2, hB5⟩ hK
    have hw4s := HW4S.out
    have HF : Hid (Sp.foldN g M = none) := by
      show _ = _
      rw [← hrest]
      exact Sp.foldN_stop hgx _ (List.mem_append_left _ hx)
    have hrp : (W.putObj D (.deferred none)).heap[w.heap.size + 1 + 1]? = some (.cells n0cells 80 (0, 0)) := by rw [World.putObj_heap_other (by omega)]; exact hr2
    clear HSQ' HW0 HW4 t3 t4 t5 t6 hrest hgx hw4s
    gi_wp2
    refine ⟨by simp, .inl ⟨_, _, rfl, run_takeDeferred hK, ?_⟩⟩
    obtain ⟨y0, y1, y2, -⟩ := n0row hrp
    refine ⟨.agg #[.nilIface, .bool false, .bool false], ?_, hB5.trans (belowK_b (w := w) (Nat.le_refl _) W D _ _ (by have := t1.size; omega) hK rfl rfl), .inl ⟨HF.out, rfl⟩⟩
    simp [results, Try.f53, go_sem, y0, y1, y2]
end Go.Proofs.Ytcfcnijldnbbnaa


/- Rows of one's own whose elements have k cells each: append of any source. -/
import Derived.Test.YtikhpbidbcfedaaGreatKp2
import Derived.Test.YtikhpbidbcfedaaGreatKp10
import Derived.Test.YtikhpbidbcfedaaGreatKp9
import Derived.OrdersHeld
import Derived.Deep.RegionHeld
import Derived.Deep.AppendLies
namespace Go.Proofs.YtikhpbidbcfedaaGreat
open Go.RowKit

structure OwnK (w : World) (e : TypeId) (k g n cap : Nat) (xs : List Value) : Prop where
  len : xs.length = n * k
  blk : ∃ cur : Array Value, w.heap[g]? = some (.cells cur e (0, 0)) ∧ n ≤ cap ∧ cap ≤ maxLen ∧ cur.size = cap * k ∧ xs = cur.toList.take (n * k)
theorem OwnK.lt {w : World} {e : TypeId} {k g n cap : Nat} {xs : List Value} (h : OwnK w e k g n cap xs) : g < w.heap.size := by
  obtain ⟨cur, h1, _⟩ := h.blk
  exact (Array.getElem?_eq_some_iff.1 h1).1
theorem OwnK.cell {w : World} {e : TypeId} {k g n cap : Nat} {xs : List Value} (h : OwnK w e k g n cap xs) {t : Nat} {x : Value} (ht : xs[t]? = some x) : w.cell? ⟨g, t, none⟩ = some x := by
  obtain ⟨cur, h1, h2, h3, h4, h5⟩ := h.blk
  rw [h5, List.getElem?_take] at ht
  split at ht
  · simpa [World.cell?, h1] using ht
  · cases ht
theorem OwnK.free {w : World} {e : TypeId} {k g n cap : Nat} {xs : List Value} (h : OwnK w e k g n cap xs) (t : Nat) : w.frozen? ⟨g, t, none⟩ = false := by
  obtain ⟨cur, h1, _⟩ := h.blk
  simp [World.frozen?, h1]
theorem OwnK.keep {w w' : World} {e : TypeId} {k g n cap : Nat} {xs : List Value} (h : OwnK w e k g n cap xs) (hb : w'.heap[g]? = w.heap[g]?) : OwnK w' e k g n cap xs := by
  obtain ⟨cur, h1, h2⟩ := h.blk
  exact ⟨h.len, cur, hb.trans h1, h2⟩
end Go.Proofs.YtikhpbidbcfedaaGreat

/- tenonref14: the row of calls grows by one. -/
namespace Go.Proofs.YtikhpbidbcfedaaGreat
open Go.RowKit

def cv : List (Int × Bool) → List Value
  | [] => []
  | p :: l => .int .u64 p.1 :: .bool p.2 :: cv l
end Go.Proofs.YtikhpbidbcfedaaGreat

/- tenonref14.find and place: where a node stands among rising ones. -/
namespace Go.Proofs.YtikhpbidbcfedaaGreat
open Go.RowKit Go.ChangeMaps

def Sp.fnd (N : List Int) (x : Int) : Nat := (N.filter fun y => decide (y < x)).length
def RgN (w : World) (gb : Nat) (gs : Option Nat) (c : Nat) (N : List Int) : Prop := w.cell? ⟨gb, 0, none⟩ = some (.slice (adr gs) N.length c) ∧ Nds w gs c N
def Sp.plc (N : List Int) (x : Int) : Int := if x ∈ N then (N.idxOf x : Int) else -1
end Go.Proofs.YtikhpbidbcfedaaGreat

/- graph.walk: walks with any visitor: what is asked of one, and how a walk ends. -/
namespace Go.Proofs.YtikhpbidbcfedaaGreat
open Go.RowKit Go.ChangeMaps

structure Kw (M : Nat → Prop) (w w' : World) : Prop where
  os : w'.os = w.os
  tape : w'.tape = w.tape
  output : w'.output = w.output
  size : w.heap.size ≤ w'.heap.size
  block : ∀ j, j < w.heap.size → ¬ M j → w'.heap[j]? = w.heap[j]?
theorem Kw.refl (M : Nat → Prop) (w : World) : Kw M w w := ⟨rfl, rfl, rfl, Nat.le_refl _, fun _ _ _ => rfl⟩
theorem Kw.trans {M : Nat → Prop} {a b d : World} (h : Kw M a b) (k : Kw M b d) : Kw M a d := ⟨k.os.trans h.os, k.tape.trans h.tape, k.output.trans h.output, Nat.le_trans h.size k.size, fun j h1 h2 => (k.block j (Nat.lt_of_lt_of_le h1 h.size) h2).trans (h.block j h1 h2)⟩
theorem Kw.mono {M M' : Nat → Prop} {w w' : World} (h : Kw M w w') (hm : ∀ j, M j → M' j) : Kw M' w w' := ⟨h.os, h.tape, h.output, h.size, fun j h1 h2 => h.block j h1 fun h3 => h2 (hm j h3)⟩
theorem Kw.alloc {M : Nat → Prop} {a w : World} (h : Kw M a w) (o : Obj) : Kw M a (w.alloc o) := h.trans ⟨rfl, rfl, rfl, by simp, fun j h1 _ => Below.heap_alloc w o j h1⟩
theorem Kw.drew {M : Nat → Prop} {a w : World} (h : Kw M a w) : Kw M a w.drew := ⟨h.os, h.tape, h.output, h.size, h.block⟩
theorem Kw.set {M : Nat → Prop} {c o : Nat} {a w : World} (h : Kw M a w) (hc : M c ∨ a.heap.size ≤ c) (v : Value) : Kw M a (w.setCell ⟨c, o, none⟩ v) := ⟨h.os, h.tape, h.output, by simpa [World.setCell] using h.size, fun j h1 h2 => (Below.heap_setCell _ _ _ _ (show j ≠ c by intro e; subst e; rcases hc with hc | hc; exact h2 hc; omega)).trans (h.block j h1 h2)⟩

def BEnd (r : Option Bool) (e : Ending) : Prop := match r with | some b => e = .returned (.bool b) | none => ∃ v, e = .panicked [{ v := v, recovered := false }]
abbrev bv (l : List Bool) : List Value := l.map Value.bool
structure VisH (σ : Type) (V : Vr σ) (n m0 eb : Nat) (M : Nat → Prop) (I : σ → World → Prop) (Fe Fl : Nat) (ce cl : Array Value) : Prop where
  keep : ∀ s (W W' : World), I s W → W.heap.size ≤ W'.heap.size → (∀ k, k < W.heap.size → k ≠ eb → W'.heap[k]? = W.heap[k]?) → W'.os = W.os → W'.tape = W.tape → W'.output = W.output → I s W'
  enter : ∀ s j (W : World), j < n → I s W → Calls Tryz.prog Fe (#[.int .i64 (j : Nat)] ++ ce) W fun e W' => BEnd (V.enter s j).1 e ∧ I (V.enter s j).2 W' ∧ Kw M W W'
  leave : ∀ s j (W : World), j < n → I s W → Calls Tryz.prog Fl (#[.int .i64 (j : Nat)] ++ cl) W fun e W' => BEnd (V.leave s j).1 e ∧ I (V.leave s j).2 W' ∧ Kw M W W'
  ecf : ∀ (j : Nat) (W : World), Sem.run Tryz.prog (callFunc Fe (#[.int .i64 (j : Nat)] ++ ce)) W = .ok (.enter Fe (#[.int .i64 (j : Nat)] ++ ce)) W
  lcf : ∀ (j : Nat) (W : World), Sem.run Tryz.prog (callFunc Fl (#[.int .i64 (j : Nat)] ++ cl)) W = .ok (.enter Fl (#[.int .i64 (j : Nat)] ++ cl)) W
  old : ∀ k, M k → k < m0
  eo : eb < m0 ∧ ¬ M eb
def Sta (M : Nat → Prop) (eb : Nat) (gs : Option Nat) : Prop := ∀ g, gs = some g → ¬ M g ∧ g ≠ eb
structure WkI (σ : Type) (n m0 eb : Nat) (M : Nat → Prop) (I : σ → World → Prop) (nx : Nat → List Nat) (lo xb : Nat) (bl : Nat → Option Nat) (cp : Nat → Nat) (st : Wst σ) (w : World) : Prop where
  inv : I st.2 w
  ent : OwnR w 4 eb n n (bv st.1)
  nxt : NxR w lo xb n bl cp (fun t => (nx t).map (fun j : Nat => (j : Int)))
  sz : m0 ≤ w.heap.size
  sx : ¬ M xb ∧ xb ≠ eb
  sb : ∀ t, t < n → Sta M eb (bl t)
  nb : ∀ t, t < n → ∀ j ∈ nx t, j < n
theorem WkI.len {σ : Type} {n m0 eb : Nat} {M : Nat → Prop} {I : σ → World → Prop} {nx : Nat → List Nat} {lo xb : Nat} {bl : Nat → Option Nat} {cp : Nat → Nat} {st : Wst σ} {w : World} (h : WkI σ n m0 eb M I nx lo xb bl cp st w) : st.1.length = n := by simpa using h.ent.len
theorem WkI.step {σ : Type} {n m0 eb : Nat} {M : Nat → Prop} {I : σ → World → Prop} {nx : Nat → List Nat} {lo xb : Nat} {bl : Nat → Option Nat} {cp : Nat → Nat} {st : Wst σ} {w w' : World} {s' : σ} (h : WkI σ n m0 eb M I nx lo xb bl cp st w) (hk : Kw M w w') (hm : ¬ M eb) (hI : I s' w') : WkI σ n m0 eb M I nx lo xb bl cp (st.1, s') w' :=
  ⟨hI, h.ent.keep (hk.block eb h.ent.lt hm), h.nxt.keep (hk.block xb h.nxt.lt.1 h.sx.1) (fun t g ht hg => hk.block g (h.nxt.lt.2 t g ht hg) (h.sb t ht g hg).1), Nat.le_trans h.sz hk.size, h.sx, h.sb, h.nb⟩
theorem WkI.alloc {σ : Type} {V : Vr σ} {n m0 eb : Nat} {M : Nat → Prop} {I : σ → World → Prop} {Fe Fl : Nat} {ce cl : Array Value} {nx : Nat → List Nat} {lo xb : Nat} {bl : Nat → Option Nat} {cp : Nat → Nat} {st : Wst σ} {w : World} (hV : VisH σ V n m0 eb M I Fe Fl ce cl) (h : WkI σ n m0 eb M I nx lo xb bl cp st w) (o : Obj) : WkI σ n m0 eb M I nx lo xb bl cp st (w.alloc o) :=
  ⟨hV.keep _ w _ h.inv (by simp) (fun k h1 _ => Below.heap_alloc w o k h1) rfl rfl rfl, h.ent.keep (Below.heap_alloc w o eb h.ent.lt), h.nxt.keep (Below.heap_alloc w o xb h.nxt.lt.1) (fun t g ht hg => Below.heap_alloc w o g (h.nxt.lt.2 t g ht hg)), by rw [al_size]; have := h.sz; omega, h.sx, h.sb, h.nb⟩
theorem WkI.drew {σ : Type} {V : Vr σ} {n m0 eb : Nat} {M : Nat → Prop} {I : σ → World → Prop} {Fe Fl : Nat} {ce cl : Array Value} {nx : Nat → List Nat} {lo xb : Nat} {bl : Nat → Option Nat} {cp : Nat → Nat} {st : Wst σ} {w : World} (hV : VisH σ V n m0 eb M I Fe Fl ce cl) (h : WkI σ n m0 eb M I nx lo xb bl cp st w) : WkI σ n m0 eb M I nx lo xb bl cp st w.drew :=
  ⟨hV.keep _ w _ h.inv (Nat.le_refl _) (fun _ _ _ => rfl) rfl rfl rfl, h.ent.keep rfl, h.nxt.keep rfl (fun _ _ _ _ => rfl), h.sz, h.sx, h.sb, h.nb⟩
theorem WkI.mark {σ : Type} {V : Vr σ} {n m0 eb : Nat} {M : Nat → Prop} {I : σ → World → Prop} {Fe Fl : Nat} {ce cl : Array Value} {nx : Nat → List Nat} {lo xb : Nat} {bl : Nat → Option Nat} {cp : Nat → Nat} {st : Wst σ} {w : World} (hV : VisH σ V n m0 eb M I Fe Fl ce cl) (h : WkI σ n m0 eb M I nx lo xb bl cp st w) (j : Nat) : WkI σ n m0 eb M I nx lo xb bl cp (st.1.set j true, st.2) (w.setCell ⟨eb, j, none⟩ (.bool true)) := by
  have e : ∀ k, k ≠ eb → (w.setCell ⟨eb, j, none⟩ (.bool true)).heap[k]? = w.heap[k]? := fun k hk => Below.heap_setCell w _ _ k hk
  refine ⟨hV.keep _ w _ h.inv (by simp [World.setCell]) (fun k _ h2 => e k h2) rfl rfl rfl, ?_, h.nxt.keep (e xb h.sx.2) (fun t g ht hg => e g (h.sb t ht g hg).2), by simpa [World.setCell] using h.sz, h.sx, h.sb, h.nb⟩
  have := h.ent.set j (.bool true)
  rw [show bv (st.1.set j true) = (bv st.1).set j (.bool true) from List.map_set]
  exact this
def WkE (σ : Type) (n m0 eb : Nat) (M : Nat → Prop) (I : σ → World → Prop) (nx : Nat → List Nat) (lo xb : Nat) (bl : Nat → Option Nat) (cp : Nat → Nat) (r : Option Bool × Wst σ) (w : World) (e : Ending) (w' : World) : Prop :=
  BEnd r.1 e ∧ WkI σ n m0 eb M I nx lo xb bl cp r.2 w' ∧ Kw (fun k => M k ∨ k = eb) w w'
end Go.Proofs.YtikhpbidbcfedaaGreat

/- Shorter words for walks through regions that draw their order. -/
namespace Go.Proofs.YtikhpbidbcfedaaGreat

theorem lsA {α : Type} (a : List α) (i : Nat) (x : α) : a.toArray.setIfInBounds i x = (a.set i x).toArray := List.setIfInBounds_toArray a i x
theorem lsB {α : Type} (x y : α) (l : List α) : (x :: l).set 0 y = y :: l := List.set_cons_zero
theorem lsC {α : Type} (x y : α) (l : List α) (i : Nat) : (x :: l).set (i + 1) y = x :: l.set i y := List.set_cons_succ
theorem tkH {P : Program} {l : List Oper} {Q : Exit → Act → World → Prop} {md : Region.Mode} {S : World → Prop} {i : Nat} {oi : Oper} {v : Value} {fuel : Nat} {listed : Array Bool} {a : Act} {w : World} (hi : l[i]? = some oi)
    (hb : (Region.noSelect l.toArray && Region.free md l.toArray listed i && (Region.ready md l.toArray listed).contains i) = true) (hw : Region.wanted oi (yielded l.toArray a.tmps) = true) (hy : ∀ w, S w → (execOp a.eval oi).run P w = .ok (.value v) w) (hS : S w)
    (h : wpAnyH P md l.toArray Q S fuel (listed.setIfInBounds i true) (a.put oi.dst v) w) (hQ : ∀ c a w, Q (.panic c) (a.put oi.dst v) w → Q (.panic c) a w := by first | exact fun _ _ _ h => h | exact fun _ _ _ h => absurd h.1 (fun e => by cases e)) : wpAnyH P md l.toArray Q S (fuel + 1) listed a w := by
  simp only [Bool.and_eq_true] at hb
  exact wpAnyH_take (ops := l.toArray) (by simpa using hi) hb.1.1 hb.1.2 hb.2 hQ (Or.inl ⟨hw, hy⟩) hS h
theorem arC {P : Program} {l : List Oper} {Q : Exit → Act → World → Prop} {md : Region.Mode} {S : World → Prop} {fuel : Nat} {listed : Array Bool} {a : Act} {w : World} {i : Nat} {o : Oper} {rs : List Nat} (ho : l[i]? = some o)
    (h : ∀ K' : Act → World → Prop, Shut (∀ a w, S w → (S w → wpAnyH P md l.toArray Q S fuel (listed.setIfInBounds i true) a w) → K' a w) → if Region.wanted o (yielded l.toArray a.tmps) = true then Oper.wp P o a w K' Q else K' (a.put o.dst undef) w)
    (hs : AllReadyH P md l.toArray Q S fuel listed a w rs) : AllReadyH P md l.toArray Q S fuel listed a w (i :: rs) := AllReadyH.cons (ops := l.toArray) (by simpa using ho) h hs
end Go.Proofs.YtikhpbidbcfedaaGreat

/- A region that draws its order, whose loads wait for nothing but a certain operation (a store) waits for them: they may be taken first, if what they read holds still till that operation comes up; behind it nothing is asked. -/
namespace Go.Proofs.YtikhpbidbcfedaaGreat

section
variable {P : Program} {ops : Array Oper} {Q : Exit → Act → World → Prop} {md : Region.Mode} {S : World → Prop} {m : Nat}

def wpAnyM (P : Program) (md : Region.Mode) (ops : Array Oper) (Q : Exit → Act → World → Prop) (S : World → Prop) (m : Nat) : Nat → Array Bool → Act → World → Prop
  | 0, listed, a, w => Region.ready md ops listed = [] ∧ Q .normal a w
  | fuel + 1, listed, a, w =>
    (Region.ready md ops listed = [] → Q .normal a w) ∧
    ∀ i ∈ Region.ready md ops listed, wpOp P ops Q i (fun a' w' => ((listed.setIfInBounds i true).getD m false = true ∨ S w') ∧ wpAnyM P md ops Q S m fuel (listed.setIfInBounds i true) a' w') a w

theorem wpAny_of_mark : ∀ (fuel : Nat) (listed : Array Bool) (a : Act) (w : World), wpAnyM P md ops Q S m fuel listed a w → wpAny P md ops Q fuel listed a w
  | 0, _, _, _, h => h
  | fuel + 1, _, _, _, h => ⟨h.1, fun i hi => wpOp_mono (fun a' w' h' => wpAny_of_mark fuel _ a' w' h'.2) (h.2 i hi)⟩

def waitsL (md : Region.Mode) (ops : Array Oper) : List Nat → Nat → Bool
  | [], _ => true
  | k :: ks, i => (match ops[k]? with | some o => o.after.any fun e => Region.binds md e && e.on == ks.headD i | none => false) && waitsL md ops ks i
theorem waitsL_not {listed : Array Bool} {i j : Nat} (hi : listed.getD i false = false) (hj : j ∈ Region.ready md ops listed) : (ks : List Nat) → waitsL md ops ks i = true → (∀ k ∈ ks, listed.getD k false = false) → j ∉ ks
  | [], _, _ => by simp
  | k :: ks, h, hu => by
    simp only [waitsL, Bool.and_eq_true] at h
    intro hmem
    rcases List.mem_cons.1 hmem with e | hmem
    rotate_left
    · exact waitsL_not hi hj ks h.2 (fun q hq => hu q (List.mem_cons_of_mem _ hq)) hmem
    obtain ⟨hjun, oj, hoj, hall⟩ := mem_ready.1 hj
    have h1 := h.1
    rw [← e, hoj] at h1
    obtain ⟨q, hq, hx⟩ := Array.any_eq_true.1 h1
    rw [Bool.and_eq_true] at hx
    have h2 := hall oj.after[q] (Array.getElem_mem hq) hx.1
    have h3 : oj.after[q].on = ks.headD i := by simpa using hx.2
    have h4 : listed.getD (ks.headD i) false = false := by
      cases ks with
      | nil => exact hi
      | cons k2 ks => exact hu k2 (by simp)
    rw [h3] at h2
    rw [Array.getD_eq_getD_getElem?] at h4
    rw [Array.getD_eq_getD_getElem?] at h2
    cases hg : listed[ks.headD i]? with
    | none => rw [hg] at h2; simp at h2
    | some b => rw [hg] at h2 h4; simp at h2 h4; rw [h2] at h4; cases h4

theorem wpAnyM_first {i : Nat} {oi : Oper} {v : Value} {ks : List Nat} (hi : ops[i]? = some oi) (hwait : waitsL md ops (m :: ks) i = true) (hmi : i ∉ m :: ks) (hsel : ∀ (j : Nat) (o : Oper) cs b, ops[j]? = some o → o.op ≠ .select cs b)
    (hQ : ∀ c a w, Q (.panic c) (a.put oi.dst v) w → Q (.panic c) a w) (fuel : Nat) :
    ∀ (listed : Array Bool) (a : Act) (w : World), (∀ j oj, ops[j]? = some oj → j ≠ i → listed.getD j true = false → (∀ e ∈ oj.after, Region.binds md e = true → e.on ≠ i) → oi.apart ops oj = true) →
      (∀ k ∈ m :: ks, listed.getD k false = false) → i ∈ Region.ready md ops listed → YieldsIf P ops S oi v a → S w → wpAnyM P md ops Q S m fuel (listed.setIfInBounds i true) (a.put oi.dst v) w → wpAnyM P md ops Q S m (fuel + 1) listed a w := by
  have hmi' : m ≠ i := fun e => hmi (by simp [e])
  induction fuel with
  | zero =>
    intro listed a w _ hm hr hy hS H
    refine ⟨fun h => (by rw [h] at hr; cases hr), fun j hj => ?_⟩
    by_cases hji : j = i
    · subst hji; exact hy.wpOp hi hS ⟨.inr hS, H⟩
    · have := ready_mono hj hji
      rw [H.1] at this
      cases this
  | succ fuel ih =>
    intro listed a w hfree hm hr hy hS H
    refine ⟨fun h => (by rw [h] at hr; cases hr), fun j hj => ?_⟩
    by_cases hji : j = i
    · subst hji; exact hy.wpOp hi hS ⟨.inr hS, H⟩
    · have h1 := H.2 j (ready_mono hj hji)
      obtain ⟨hjun, oj, hoj, hall⟩ := mem_ready.1 hj
      have hiu : listed.getD i false = false := by
        have h0 := (mem_ready.1 hr).1
        rw [Array.getD_eq_getD_getElem?] at h0 ⊢
        cases hg : listed[i]? with
        | none => rfl
        | some b => rw [hg] at h0; simpa using h0
      have hnot : ∀ e ∈ oj.after, Region.binds md e = true → e.on ≠ i := fun e he hb heq => by
        have h1 := hall e he hb
        have h0 := (mem_ready.1 hr).1
        rw [heq] at h1
        rcases Nat.lt_or_ge i listed.size with h' | h'
        · simp [h'] at h0 h1; rw [h0] at h1; cases h1
        · simp [Array.getElem?_eq_none h'] at h1
      have hjp := waitsL_not hiu hj (m :: ks) hwait hm
      have hjm : j ≠ m := fun e => hjp (by simp [e])
      have h2 := wpOp_putIf hoj (hfree j oj hoj hji hjun hnot) (fun cs b => hsel i oi cs b hi) (fun cs b => hsel j oj cs b hoj) hQ hy h1
      have hfree' : ∀ k ok, ops[k]? = some ok → k ≠ i → (listed.setIfInBounds j true).getD k true = false → (∀ e ∈ ok.after, Region.binds md e = true → e.on ≠ i) → oi.apart ops ok = true := fun k ok hk hki hun hno => by
        refine hfree k ok hk hki ?_ hno
        by_cases hjk : j = k
        · subst hjk; exact hjun
        · rw [getD_set_ne true hjk] at hun; exact hun
      have hmj : ∀ k ∈ m :: ks, (listed.setIfInBounds j true).getD k false = false := fun k hk => by
        have hjk : j ≠ k := fun e => hjp (by rw [e]; exact hk)
        rw [getD_set_ne false hjk]; exact hm k hk
      refine wpOp_mono (fun a' w' h3 => ?_) h2
      have hS' : S w' := by
        rcases h3.2.1 with h | h
        · rw [getD_set_ne false hjm, getD_set_ne false (Ne.symm hmi'), hm m (by simp)] at h; cases h
        · exact h
      refine ⟨.inr hS', ih (listed.setIfInBounds j true) a' w' hfree' hmj (ready_mono hr (Ne.symm hji)) h3.1 hS' ?_⟩
      rw [Array.setIfInBounds_comm _ _ hji]
      exact h3.2.2

theorem wpAnyM_pure {i : Nat} {oi : Oper} {v : Value} (hi : ops[i]? = some oi) (hmi : m ≠ i) (hsel : ∀ (j : Nat) (o : Oper) cs b, ops[j]? = some o → o.op ≠ .select cs b)
    (hQ : ∀ c a w, Q (.panic c) (a.put oi.dst v) w → Q (.panic c) a w) (fuel : Nat) :
    ∀ (listed : Array Bool) (a : Act) (w : World), (∀ j oj, ops[j]? = some oj → j ≠ i → listed.getD j true = false → (∀ e ∈ oj.after, Region.binds md e = true → e.on ≠ i) → oi.apart ops oj = true) →
      i ∈ Region.ready md ops listed → YieldsIf P ops (fun _ => True) oi v a → (listed.getD m false = true ∨ S w) → wpAnyM P md ops Q S m fuel (listed.setIfInBounds i true) (a.put oi.dst v) w → wpAnyM P md ops Q S m (fuel + 1) listed a w := by
  have keep : ∀ {listed : Array Bool} {w : World}, (listed.getD m false = true ∨ S w) → ((listed.setIfInBounds i true).getD m false = true ∨ S w) := fun h => by rw [getD_set_ne false (Ne.symm hmi)]; exact h
  induction fuel with
  | zero =>
    intro listed a w _ hr hy hS H
    refine ⟨fun h => (by rw [h] at hr; cases hr), fun j hj => ?_⟩
    by_cases hji : j = i
    · subst hji; exact hy.wpOp hi trivial ⟨keep hS, H⟩
    · have := ready_mono hj hji
      rw [H.1] at this
      cases this
  | succ fuel ih =>
    intro listed a w hfree hr hy hS H
    refine ⟨fun h => (by rw [h] at hr; cases hr), fun j hj => ?_⟩
    by_cases hji : j = i
    · subst hji; exact hy.wpOp hi trivial ⟨keep hS, H⟩
    · have h1 := H.2 j (ready_mono hj hji)
      obtain ⟨hjun, oj, hoj, hall⟩ := mem_ready.1 hj
      have hnot : ∀ e ∈ oj.after, Region.binds md e = true → e.on ≠ i := fun e he hb heq => by
        have h1 := hall e he hb
        have h0 := (mem_ready.1 hr).1
        rw [heq] at h1
        rcases Nat.lt_or_ge i listed.size with h' | h'
        · simp [h'] at h0 h1; rw [h0] at h1; cases h1
        · simp [Array.getElem?_eq_none h'] at h1
      have h2 := wpOp_putIf hoj (hfree j oj hoj hji hjun hnot) (fun cs b => hsel i oi cs b hi) (fun cs b => hsel j oj cs b hoj) hQ hy h1
      have hfree' : ∀ k ok, ops[k]? = some ok → k ≠ i → (listed.setIfInBounds j true).getD k true = false → (∀ e ∈ ok.after, Region.binds md e = true → e.on ≠ i) → oi.apart ops ok = true := fun k ok hk hki hun hno => by
        refine hfree k ok hk hki ?_ hno
        by_cases hjk : j = k
        · subst hjk; exact hjun
        · rw [getD_set_ne true hjk] at hun; exact hun
      refine wpOp_mono (fun a' w' h3 => ?_) h2
      have hS' : (listed.setIfInBounds j true).getD m false = true ∨ S w' := by
        have := h3.2.1
        rw [Array.setIfInBounds_comm _ _ (Ne.symm hji), getD_set_ne false (Ne.symm hmi)] at this
        exact this
      refine ⟨hS', ih (listed.setIfInBounds j true) a' w' hfree' (ready_mono hr (Ne.symm hji)) h3.1 hS' ?_⟩
      rw [Array.setIfInBounds_comm _ _ hji]
      exact h3.2.2

theorem wpAnyM_take {i : Nat} {oi : Oper} {v : Value} {fuel : Nat} {listed : Array Bool} {a : Act} {w : World} (ks : List Nat) (hi : ops[i]? = some oi) (hwait : waitsL md ops (m :: ks) i = true) (hmi : ((m :: ks).contains i) = false)
    (hs : Region.noSelect ops = true) (hf : Region.free md ops listed i = true) (hr : (Region.ready md ops listed).contains i = true) (hm : ((m :: ks).all fun k => !listed.getD k false) = true)
    (hQ : ∀ c a w, Q (.panic c) (a.put oi.dst v) w → Q (.panic c) a w) (hy : YieldsIf P ops S oi v a) (hS : S w)
    (h : wpAnyM P md ops Q S m fuel (listed.setIfInBounds i true) (a.put oi.dst v) w) : wpAnyM P md ops Q S m (fuel + 1) listed a w :=
  wpAnyM_first hi hwait (fun hx => by rw [List.contains_eq_mem] at hmi; simp only [decide_eq_false_iff_not] at hmi; exact hmi hx) (Region.noSelect_spec hs) hQ fuel listed a w (Region.free_spec hi hf) (fun k hk => by have := List.all_eq_true.1 hm k hk; simpa using this) (by simpa using hr) hy hS h
theorem wpAnyM_free {i : Nat} {oi : Oper} {v : Value} {fuel : Nat} {listed : Array Bool} {a : Act} {w : World} (hi : ops[i]? = some oi) (hmi : (m != i) = true)
    (hs : Region.noSelect ops = true) (hf : Region.free md ops listed i = true) (hr : (Region.ready md ops listed).contains i = true)
    (hQ : ∀ c a w, Q (.panic c) (a.put oi.dst v) w → Q (.panic c) a w) (hy : YieldsIf P ops (fun _ => True) oi v a) (hS : listed.getD m false = true ∨ S w)
    (h : wpAnyM P md ops Q S m fuel (listed.setIfInBounds i true) (a.put oi.dst v) w) : wpAnyM P md ops Q S m (fuel + 1) listed a w :=
  wpAnyM_pure hi (by simpa using hmi) (Region.noSelect_spec hs) hQ fuel listed a w (Region.free_spec hi hf) (by simpa using hr) hy hS h
theorem wpAnyM_one {i : Nat} {o : Oper} {fuel : Nat} {listed : Array Bool} {a : Act} {w : World} (hr : Region.ready md ops listed = [i]) (ho : ops[i]? = some o)
    (h : ∀ K' : Act → World → Prop, Shut (∀ a w, ((listed.setIfInBounds i true).getD m false = true ∨ S w) → wpAnyM P md ops Q S m fuel (listed.setIfInBounds i true) a w → K' a w) → if Region.wanted o (yielded ops a.tmps) = true then Oper.wp P o a w K' Q else K' (a.put o.dst undef) w) :
    wpAnyM P md ops Q S m (fuel + 1) listed a w := by
  refine ⟨fun h0 => (by rw [hr] at h0; cases h0), fun j hj => ?_⟩
  rw [hr] at hj
  have hj : j = i := by simpa using hj
  subst hj
  exact wpOp_step ho (fun K' hK => h K' (fun a w hS hW => hK a w ⟨hS, hW⟩))
theorem wpAnyM_done {listed : Array Bool} {a : Act} {w : World} (hr : Region.ready md ops listed = []) (h : Q .normal a w) : ∀ fuel, wpAnyM P md ops Q S m fuel listed a w
  | 0 => ⟨hr, h⟩
  | _ + 1 => ⟨fun _ => h, by rw [hr]; simp⟩
theorem tkM {l : List Oper} {i : Nat} {oi : Oper} {v : Value} {fuel : Nat} {listed : Array Bool} {a : Act} {w : World} (ks : List Nat) (hi : l[i]? = some oi)
    (hb : (waitsL md l.toArray (m :: ks) i && !((m :: ks).contains i) && Region.noSelect l.toArray && Region.free md l.toArray listed i && (Region.ready md l.toArray listed).contains i && ((m :: ks).all fun k => !listed.getD k false)) = true)
    (hw : Region.wanted oi (yielded l.toArray a.tmps) = true) (hy : ∀ w, S w → (execOp a.eval oi).run P w = .ok (.value v) w) (hS : S w)
    (h : wpAnyM P md l.toArray Q S m fuel (listed.setIfInBounds i true) (a.put oi.dst v) w) (hQ : ∀ c a w, Q (.panic c) (a.put oi.dst v) w → Q (.panic c) a w := by exact fun _ _ _ h => h) : wpAnyM P md l.toArray Q S m (fuel + 1) listed a w := by
  simp only [Bool.and_eq_true] at hb
  obtain ⟨⟨⟨⟨⟨h1, h2⟩, h3⟩, h4⟩, h5⟩, h6⟩ := hb
  exact wpAnyM_take (ops := l.toArray) ks (by simpa using hi) h1 (by simpa only [Bool.not_eq_true'] using h2) h3 h4 h5 h6 hQ (Or.inl ⟨hw, hy⟩) hS h
theorem tkF {l : List Oper} {i : Nat} {oi : Oper} {v : Value} {fuel : Nat} {listed : Array Bool} {a : Act} {w : World} (hi : l[i]? = some oi)
    (hb : ((m != i) && Region.noSelect l.toArray && Region.free md l.toArray listed i && (Region.ready md l.toArray listed).contains i) = true)
    (hw : Region.wanted oi (yielded l.toArray a.tmps) = true) (hy : ∀ w, True → (execOp a.eval oi).run P w = .ok (.value v) w) (hS : listed.getD m false = true ∨ S w)
    (h : wpAnyM P md l.toArray Q S m fuel (listed.setIfInBounds i true) (a.put oi.dst v) w) (hQ : ∀ c a w, Q (.panic c) (a.put oi.dst v) w → Q (.panic c) a w := by exact fun _ _ _ h => h) : wpAnyM P md l.toArray Q S m (fuel + 1) listed a w := by
  simp only [Bool.and_eq_true] at hb
  obtain ⟨⟨⟨h1, h2⟩, h3⟩, h4⟩ := hb
  exact wpAnyM_free (ops := l.toArray) (by simpa using hi) h1 h2 h3 h4 hQ (Or.inl ⟨hw, hy⟩) hS h
theorem tkO {l : List Oper} {i : Nat} {o : Oper} {fuel : Nat} {listed : Array Bool} {a : Act} {w : World} (hr : Region.ready md l.toArray listed = [i]) (ho : l[i]? = some o)
    (h : ∀ K' : Act → World → Prop, Shut (∀ a w, ((listed.setIfInBounds i true).getD m false = true ∨ S w) → wpAnyM P md l.toArray Q S m fuel (listed.setIfInBounds i true) a w → K' a w) → if Region.wanted o (yielded l.toArray a.tmps) = true then Oper.wp P o a w K' Q else K' (a.put o.dst undef) w) :
    wpAnyM P md l.toArray Q S m (fuel + 1) listed a w := wpAnyM_one (ops := l.toArray) hr (by simpa using ho) h
theorem wp_region_mark {id : Nat} {a : Act} {w : World} (S : World → Prop) (m : Nat) (hm : P.follows .mixedOrders = true) (h : wpAnyM P .any ops Q S m ops.size (Array.replicate ops.size false) a w.drew) : (Code.region id ops true).wp P Q a w :=
  wp_region_any hm (wpAny_of_mark _ _ _ _ h)
end
end Go.Proofs.YtikhpbidbcfedaaGreat

/- tenonref14.(*Graph).edges: the document's graph lists its edges. -/
namespace Go.Proofs.YtikhpbidbcfedaaGreat
open Go.RowKit Go.ChangeMaps

def ev : List (Int × Int) → List Value
  | [] => []
  | p :: l => .int .u64 p.1 :: .int .u64 p.2 :: ev l
theorem ev_get : ∀ (l : List (Int × Int)) (t : Nat) (e : Int × Int), l[t]? = some e → (ev l)[t * 2]? = some (.int .u64 e.1) ∧ (ev l)[t * 2 + 1]? = some (.int .u64 e.2)
  | q :: l, 0, e, h => by simp at h; subst h; simp [ev]
  | q :: l, t + 1, e, h => by
    have := ev_get l t e (by simpa using h)
    rw [show (t + 1) * 2 = t * 2 + 1 + 1 by omega]
    simpa [ev] using this
def NdE (w : World) (gs : Option Nat) (c : Nat) (l : List (Int × Int)) : Prop := (gs = none → l = [] ∧ c = 0) ∧ ∀ g, gs = some g → OwnK w 38 2 g l.length c (ev l)
theorem NdE.keep {w w' : World} {gs : Option Nat} {c : Nat} {l : List (Int × Int)} (h : NdE w gs c l) (hb : ∀ g, gs = some g → w'.heap[g]? = w.heap[g]?) : NdE w' gs c l := ⟨h.1, fun g hg => (h.2 g hg).keep (hb g hg)⟩
def Sp.eds (N : List Int) (nx : Nat → List Nat) (i k : Nat) : List (Int × Int) := ((List.range i).map fun t => (nx t).map fun j => (N.getD t 0, N.getD j 0)).flatten ++ ((nx i).take k).map fun j => (N.getD i 0, N.getD j 0)
end Go.Proofs.YtikhpbidbcfedaaGreat

/- tenonref14.with: a further number among rising ones. -/
namespace Go.Proofs.YtikhpbidbcfedaaGreat
open Go.RowKit Go.ChangeMaps

def Sp.ins (l : List Int) (x : Int) : List Int := if x ∈ l then l else l.take (Sp.fnd l x) ++ [x] ++ l.drop (Sp.fnd l x)
end Go.Proofs.YtikhpbidbcfedaaGreat

/- tenonref14.Make: what stands between its steps. -/
namespace Go.Proofs.YtikhpbidbcfedaaGreat
open Go.RowKit Go.ChangeMaps

end Go.Proofs.YtikhpbidbcfedaaGreat

/- tenonref14.Make: the document's graph of any nodes and edges. -/
namespace Go.Proofs.YtikhpbidbcfedaaGreat
open Go.RowKit Go.ChangeMaps

end Go.Proofs.YtikhpbidbcfedaaGreat


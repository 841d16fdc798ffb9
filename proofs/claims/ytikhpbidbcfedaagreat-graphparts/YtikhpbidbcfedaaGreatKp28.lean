/- graph.parts: rows of rows of nodes; what lies in memory between two rounds. -/
import Derived.Test.YtikhpbidbcfedaaGreatKp27
import Derived.RangeFuncNested
import Derived.RangeFuncFrom
import Derived.RangeFuncBound
import Derived.RangeFuncCalls
import Derived.RangeFuncLeaves
import Derived.OrdersIn
import Derived.Deep.RegionHeld3
namespace Go.Proofs.YtikhpbidbcfedaaGreat
open Go.RowKit Go.ChangeMaps

def CeK (W W' : World) : Prop := ∀ (k : Nat) (c : Array Value) (e : TypeId) (f : Nat × Nat), W.heap[k]? = some (.cells c e f) → W'.heap[k]? = W.heap[k]?
theorem CeK.of_row {W W' : World} {row : Option Nat} {B : Nat} (hg : W.grownBy W' row) (hr : ∀ r, row = some r → B ≤ r ∧ ∃ o : Obj, W.heap[r]? = some o ∧ o.isCells = false) : CeK W W' := fun k c e f h => by
  refine hg.block k (Array.getElem?_eq_some_iff.1 h).1 fun er => ?_
  obtain ⟨_, o, h1, h2⟩ := hr k er.symm
  rw [h] at h1; injection h1 with h1; subst h1
  cases h2
theorem Tryz.infoRr : (Tryz.prog.info? 22).map (fun i => (i.zero, i.size, i.bytes)) = some (some (.slice none 0 0), 1, 24) := by kernel_rfl
theorem Tryz.undRr : Tryz.prog.underlying 40 = some (.slice 22) := by kernel_rfl
abbrev Hd : Type := Option Nat × Nat × List Int
def pv (T : List Hd) : List Value := T.map fun q => .slice (adr q.1) q.2.2.length q.2.1
structure PtR (W : World) (gs : Option Nat) (c : Nat) (T : List Hd) : Prop where
  nil : gs = none → T = [] ∧ c = 0
  own : ∀ g, gs = some g → OwnR W 22 g T.length c (pv T)
  rows : ∀ q ∈ T, NdR W q.1 q.2.1 q.2.2
theorem OwnR.cek {W W' : World} {e : TypeId} {g n cap : Nat} {xs : List Value} (h : OwnR W e g n cap xs) (hc : CeK W W') : OwnR W' e g n cap xs := by
  obtain ⟨cur, h1, _⟩ := h.blk
  exact h.keep (hc g cur e (0, 0) h1)
theorem PtR.cek {W W' : World} {gs : Option Nat} {c : Nat} {T : List Hd} (h : PtR W gs c T) (hc : CeK W W') : PtR W' gs c T :=
  ⟨h.nil, fun g hg => (h.own g hg).cek hc, fun q hq => ⟨(h.rows q hq).1, fun g hg => ((h.rows q hq).2 g hg).cek hc⟩⟩
theorem PtR.keep {W W' : World} {gs : Option Nat} {c : Nat} {T : List Hd} (h : PtR W gs c T) (hc : ∀ (k : Nat) (cc : Array Value) (e : TypeId), W.heap[k]? = some (.cells cc e (0, 0)) → (e = 22 ∨ e = 25) → W'.heap[k]? = W.heap[k]?) : PtR W' gs c T :=
  ⟨h.nil, fun g hg => (h.own g hg).keep (by obtain ⟨cur, h1, _⟩ := (h.own g hg).blk; exact hc g cur _ h1 (.inl rfl)), fun q hq => ⟨(h.rows q hq).1, fun g hg => ((h.rows q hq).2 g hg).keep (by obtain ⟨cur, h1, _⟩ := ((h.rows q hq).2 g hg).blk; exact hc g cur _ h1 (.inr rfl))⟩⟩
theorem appP (gs : Option Nat) (c : Nat) (T : List Hd) (w : World) (h : PtR w gs c T) (q : Hd) (hq : NdR w q.1 q.2.1 q.2.2) (hl : T.length ≤ 8192) (ty : TypeId) :
    ∃ g' c' w', (Builtin.append_ #[40, 40] ty #[.slice (adr gs) T.length c, .slice (some ⟨w.heap.size, 0, none⟩) 1 1]).run Tryz.prog (w.alloc (.cells #[.slice (adr q.1) q.2.2.length q.2.1] 22)) = .ok (.slice (some ⟨g', 0, none⟩) (T.length + 1) c') w' ∧
      PtR w' (some g') c' (T ++ [q]) ∧ (w.alloc (.cells #[.slice (adr q.1) q.2.2.length q.2.1] 22)).grownBy w' gs ∧ (gs = some g' ∨ w.heap.size < g') := by
  obtain ⟨i0, hi, hz0, hz1, hz2⟩ := info_parts Tryz.infoRr
  obtain ⟨x, hx⟩ : ∃ x : Value, x = .slice (adr q.1) q.2.2.length q.2.1 := ⟨_, rfl⟩
  have hone : x.oneCell' = true := by rw [hx]; rfl
  have hlx : ∀ j u, [x][j]? = some u → (w.alloc (.cells #[x] 22)).cell? ((⟨w.heap.size, 0, none⟩ : Addr).add j) = some u := cell_one_new _ _ _
  have fin : ∀ g' c' w', OwnR w' 22 g' (T.length + 1) c' (pv T ++ [x]) → (w.alloc (.cells #[x] 22)).grownBy w' gs → PtR w' (some g') c' (T ++ [q]) := fun g' c' w' ho hgr => by
    refine ⟨(fun e => by cases e), fun g hg => ?_, fun p hp => ?_⟩
    · injection hg with hg; subst hg
      have e : pv (T ++ [q]) = pv T ++ [x] := by rw [hx]; simp [pv]
      rw [e, List.length_append]; exact ho
    · have hp' : NdR w p.1 p.2.1 p.2.2 := by
        rcases List.mem_append.1 hp with hp | hp
        · exact h.rows p hp
        · simp at hp; subst hp; exact hq
      refine hp'.keep fun g hg => ?_
      have hgl := (hp'.2 g hg).lt
      refine (hgr.block g (by rw [al_size]; omega) fun e => ?_).trans (Below.heap_alloc _ _ g hgl)
      obtain ⟨c1, h1, _⟩ := (h.own g e.symm).blk
      obtain ⟨c2, h2, _⟩ := (hp'.2 g hg).blk
      rw [h1] at h2
      injection h2 with h2; injection h2 with _ h2
      exact absurd h2 (by decide)
  rw [← hx]
  cases gs with
  | some g =>
    have ho := (h.own g rfl).keep (Below.heap_alloc w (.cells #[x] 22) g (h.own g rfl).lt)
    obtain ⟨g', c', w', h1, h2, h3, h4⟩ := run_appS (P := Tryz.prog) (w.alloc (.cells #[x] 22)) 40 40 ty 22 i0 (.slice none 0 0) 24 Tryz.undRr hi hz0 hz1 hz2 rfl g T.length c (pv T) ho _ 1 [x] (Src.ofSlice _ Tryz.undRr ⟨w.heap.size, 0, none⟩ 1 1 [x] rfl hlx (fun u hu => by simp at hu; subst hu; exact hone)) (by omega) (by decide)
    exact ⟨g', c', w', h1, fin g' c' w' h2 h3, h3, h4.imp (fun e => by rw [e]) (fun e => by rw [e, al_size]; omega)⟩
  | none =>
    obtain ⟨rfl, rfl⟩ := h.nil rfl
    have hr := run_append_nil (P := Tryz.prog) (w.alloc (.cells #[x] 22)) 40 ty 22 i0 (.slice none 0 0) Tryz.undRr hi hz0 ⟨w.heap.size, 0, none⟩ 1 1 [x] (by rw [hz1]; rfl) hlx (by decide) (by decide) (by rw [hz2]; decide)
    have hge := grownCap_ge (w.alloc (.cells #[x] 22)) 1 0 22
    have hcm := grownCap_le_maxLen (w.alloc (.cells #[x] 22)) 1 0 22 (by simp [maxLen])
    refine ⟨_, _, _, hr, fin _ _ _ ⟨by simp [pv], _, heap_alloc_new _ _, by simpa using hge, hcm, ?_, ?_⟩ ⟨rfl, rfl, rfl, by simp, fun k hk _ => Below.heap_alloc (w.alloc (.cells #[x] 22)).drew _ k hk⟩, ⟨rfl, rfl, rfl, by simp, fun k hk _ => Below.heap_alloc (w.alloc (.cells #[x] 22)).drew _ k hk⟩, .inr (by rw [al_size]; omega)⟩
    · simp only [Array.size_append, List.size_toArray, size_zeroCells, List.length_cons, List.length_nil]
      have : (Value.slice none 0 0).cells.size = 1 := rfl
      rw [this]; omega
    · simp [pv]
structure PtI (w : World) (L gb B7 B8 B9 xT eT lo : Nat) (nb : Nat → List Nat) (bl : Nat → Option Nat) (cp : Nat → Nat) (E : List Bool) (T : List Hd) (gs : Option Nat) (c : Nat) (W : World) : Prop where
  bG : W.heap[w.heap.size]? = some (.cells #[.pointer (some ⟨gb, 0, none⟩)] 27 (0, 0))
  b7 : ∃ v, W.heap[B7]? = some (.cells #[v] 60 (0, 0))
  b8 : W.heap[B8]? = some (.cells (wsC xT eT L 55 57 #[] #[.pointer (some ⟨B7, 0, none⟩)]) 83 (0, 0))
  b9 : W.heap[B9]? = some (.cells #[.slice (adr gs) T.length c] 40 (0, 0))
  ent : OwnR W 4 eT L L (bv E)
  nxt : NxR W lo xT L bl cp (fun t => (nb t).map (fun j : Nat => (j : Int)))
  row : PtR W gs c T
  ord : w.heap.size < B7 ∧ B7 < xT ∧ B7 < eT ∧ xT < B8 ∧ eT < B8 ∧ xT ≠ eT ∧ B9 = B8 + 1 ∧ B7 < B8 ∧ B9 < W.heap.size ∧ (∀ t g, t < L → bl t = some g → B7 < g ∧ g ≠ eT ∧ g < B8) ∧ ∀ g, gs = some g → B9 + 1 < g
theorem PtI.cek {w W W' : World} {L gb B7 B8 B9 xT eT lo : Nat} {nb : Nat → List Nat} {bl : Nat → Option Nat} {cp : Nat → Nat} {E : List Bool} {T : List Hd} {gs : Option Nat} {c : Nat} (h : PtI w L gb B7 B8 B9 xT eT lo nb bl cp E T gs c W) (hc : CeK W W') (hz : W.heap.size ≤ W'.heap.size) : PtI w L gb B7 B8 B9 xT eT lo nb bl cp E T gs c W' := by
  obtain ⟨v, h7⟩ := h.b7
  refine ⟨(hc _ _ _ _ h.bG).trans h.bG, ⟨v, (hc _ _ _ _ h7).trans h7⟩, (hc _ _ _ _ h.b8).trans h.b8, (hc _ _ _ _ h.b9).trans h.b9, h.ent.cek hc, ?_, h.row.cek hc, ?_⟩
  · obtain ⟨cur, h1, _⟩ := h.nxt.blk
    refine h.nxt.keep (hc _ _ _ _ h1) fun t g ht hg => ?_
    obtain ⟨c2, h2, _⟩ := ((h.nxt.row t ht).2 g hg).blk
    exact hc _ _ _ _ h2
  · obtain ⟨a1, a2, a3, a4, a5, a6, a7, a8, a9, a10⟩ := h.ord
    exact ⟨a1, a2, a3, a4, a5, a6, a7, a8, by omega, a10⟩
theorem bkl_ex {L : Nat} : ∀ (m : Nat) (l : List Nat), l.length = m → (∀ x ∈ l, x < L) → ∃ bs : List (BP L), BkL L l bs ∧ bs.map (fun x => x.1.2) = l.reverse
  | 0, l, hm, _ => by
    have : l = [] := List.length_eq_zero_iff.1 hm
    subst this
    exact ⟨[], ⟨rfl, fun k x h => by simp at h⟩, rfl⟩
  | m + 1, l, hm, hl => by
    rcases List.eq_nil_or_concat l with rfl | ⟨l', n, rfl⟩
    · simp at hm
    rw [List.concat_eq_append] at hm hl ⊢
    obtain ⟨bs, h1, h2⟩ := bkl_ex m l' (by simpa using hm) (fun x hx => hl x (by simp [hx]))
    refine ⟨⟨(l'.length, n), hl n (by simp)⟩ :: bs, ⟨by simp [h1.len], fun k x hx => ?_⟩, by simp [h2]⟩
    cases k with
    | zero => simp at hx; subst hx; simp
    | succ k =>
      obtain ⟨h3, h4⟩ := h1.at_ k x (by simpa using hx)
      refine ⟨by simp; omega, ?_⟩
      rw [List.getElem?_append_left (List.getElem?_eq_some_iff.1 h4).1]; exact h4
def PtJ (w : World) (N : List Int) (gb B7 B8 B9 xT eT lo : Nat) (nb : Nat → List Nat) (bl : Nat → Option Nat) (cp : Nat → Nat) (Sz : Nat) (pre : List (BP N.length)) (W : World) : Prop :=
  (∃ T gs c, T.map (fun q : Hd => q.2.2) = (Sp.pts nb N.length (pre.map fun x => x.1.2)).2.map (fun p => Sp.rfs N (Sp.upn N.length p)) ∧ PtI w N.length gb B7 B8 B9 xT eT lo nb bl cp (Sp.pts nb N.length (pre.map fun x => x.1.2)).1 T gs c W) ∧ Below w.heap.size w W ∧ Sz ≤ W.heap.size
theorem ptJ_own {w : World} {N : List Int} {gb B7 B8 B9 xT eT lo : Nat} {nb : Nat → List Nat} {bl : Nat → Option Nat} {cp : Nat → Nat} {Sz B : Nat} (hB : w.heap.size ≤ B) : OwnFrom B (PtJ w N gb B7 B8 B9 xT eT lo nb bl cp Sz) := fun pre A C row hs hg hr => by
  obtain ⟨⟨T, gs, c, h1, h2⟩, h3, h4⟩ := hs
  exact ⟨⟨T, gs, c, h1, h2.cek (CeK.of_row hg hr) hg.size⟩, h3.grown hg h3.size (fun k e => Nat.le_trans hB (hr k e).1), Nat.le_trans h4 hg.size⟩
def PtE (w : World) (ps : List (List Int)) (e : Ending) (w' : World) : Prop := ∃ (T : List Hd) (gs : Option Nat) (c : Nat), e = .returned (.slice (adr gs) T.length c) ∧ T.map (fun q : Hd => q.2.2) = ps ∧ PtR w' gs c T ∧ (∀ g, gs = some g → w.heap.size ≤ g) ∧ Below w.heap.size w w'
theorem lf_walk (F3 : Nat) (hF : ∀ (B m0 : Nat) (s : List Nat) (j : Nat) (W : World), LfI B m0 s W → m0 ≤ W.heap.size → s.length < 16384 → Calls Tryz.prog F3 #[.int .i64 (j : Nat), .pointer (some ⟨B, 0, none⟩)] W fun e W' => e = .returned (.bool true) ∧ LfI B m0 (s ++ [j]) W' ∧ KwO (Sp.lfM B m0) W W')
    (hc : ∀ (args : Array Value) (W : World), Sem.run Tryz.prog (callFunc F3 args) W = .ok (.enter F3 args) W)
    (L eb B xb lo : Nat) (nx : Nat → List Nat) (bl : Nat → Option Nat) (cp : Nat → Nat) (W : World) (E : List Bool) (l : List Nat) (gs : Option Nat) (c : Nat)
    (hE : OwnR W 4 eb L L (bv E)) (hB : W.heap[B]? = some (.cells #[.slice none 0 0] 60 (0, 0))) (hx : NxR W lo xb L bl cp (fun t => (nx t).map (fun j : Nat => (j : Int))))
    (n1 : eb ≠ B) (n2 : xb ≠ B) (n3 : xb ≠ eb) (n4 : ∀ t g, t < L → bl t = some g → g ≠ B ∧ g ≠ eb) (n5 : ∀ g, gs = some g → g ≠ B ∧ g ≠ eb)
    (hl : ∀ j ∈ l, j < L) (hnd : NdI W gs c (l.map fun j : Nat => (j : Int))) (hll : l.length ≤ 4096) (hb : ∀ i, ∀ x ∈ nx i, x < L) (hnl : ∀ t, (nx t).length ≤ 4096) (hL : L ≤ 4096) :
    Calls Tryz.prog 46 #[.agg (wsC xb eb L 55 F3 #[] #[.pointer (some ⟨B, 0, none⟩)]), .slice (adr gs) l.length c] W fun e W' => e = .returned (.bool true) ∧ LfI B W.heap.size (wAll (wOne Sp.lf nx L) l (E, [])).2.2 W' ∧ OwnR W' 4 eb L L (bv (wAll (wOne Sp.lf nx L) l (E, [])).2.1) ∧ KwO (fun k o => Sp.lfM B W.heap.size k o ∨ k = eb) W W' := by
  have hBl := (Array.getElem?_eq_some_iff.1 hB).1
  have hEl : E.length = L := by simpa using hE.len
  have hcf : Sp.cf E ≤ L := by have := cf_len E; omega
  have hV := lf_vis F3 L W.heap.size eb B hE.lt n1 hBl (hF B W.heap.size) hc
  have nM : ∀ k, k < W.heap.size → k ≠ B → ∀ o, ¬ Sp.lfM B W.heap.size k o := fun k h1 h2 o h => by
    rcases h with h | ⟨h, _⟩
    · exact h2 h
    · omega
  have hxl := hx.lt
  have hW : WkJ (List Nat) List.length (2 * L) L W.heap.size eb (Sp.lfM B W.heap.size) (fun s W' => LfI B W.heap.size s W' ∧ W.heap.size ≤ W'.heap.size) nx lo xb bl cp (E, []) W :=
    ⟨⟨⟨none, 0, hB, ⟨fun _ => ⟨rfl, rfl⟩, fun g hg => by cases hg⟩, (fun g hg => by cases hg), hBl⟩, Nat.le_refl _⟩, hE, hx, Nat.le_refl _, ⟨nM xb hxl.1 n2, n3⟩, fun t ht g hg => ⟨nM g (hxl.2 t g ht hg) (n4 t g ht hg).1, (n4 t g ht hg).2⟩, fun t _ j hj => hb t j hj, by show 0 + 2 * Sp.cf E ≤ 2 * L ∧ 2 * L ≤ 16384; omega⟩
  have h := walk_allO hV (fun t _ => hnl t) L (2 * L) l (E, []) W gs c hW hcf hl hnd (fun g hg => ⟨nM g (hnd.2 g hg).lt (n5 g hg).1, (n5 g hg).2⟩) (by omega)
  have H := lf_all (lf_one hb L) l E [] hEl hl hcf
  refine h.mono ?_
  rintro e W' ⟨q1, q2, q3⟩
  rw [H.ok] at q1
  exact ⟨q1, q2.inv.1, q2.ent, q3⟩
end Go.Proofs.YtikhpbidbcfedaaGreat

/- A region that draws its order, in a round of a range over a function: it may be walked as everywhere. -/
namespace Go.Proofs.YtikhpbidbcfedaaGreat
open Go.RowKit

@[go_sem] theorem semAt_round (l : Nat) (ρ : Operand → Value) (o : Oper) (h : ∀ c, o.op ≠ .defer c) : Oper.semAt (some l) ρ o = execOp ρ o := Oper.semAt_eq (some l) ρ o h
theorem rowsIn_wide {n : Nat} {P : Program} {row : String} {args : Array Value} {w : World} {R : Value → World → Prop} (h : Rows P row args w R) : RowsIn Fence.wide n P row args w R := fun c cs _ =>
  let ⟨v, w', r, s⟩ := h c cs; ⟨v, w', r, stepsIn_wide.2 s⟩
theorem Oper.wp_round {o : Oper} {l n : Nat} {P : Program} {a : Act} {w : World} {K : Act → World → Prop} {Q : Exit → Act → World → Prop} (hd : ∀ c, o.op ≠ .defer c) (h : o.wp P a w K Q) : o.wpIn (Fence.wide.inRound l) n P a w K Q := by
  refine ⟨fun _ _ => trivial, ?_⟩
  unfold Oper.wp at h
  rw [Oper.semAt_eq _ _ _ hd]
  generalize (execOp a.eval o).run P w = r at *
  cases r with
  | ok x w' =>
    cases x <;> simp only [Oper.upon, Oper.uponIn] at h ⊢ <;>
      first
        | exact h
        | exact ⟨fun h => (by cases h), callsIn_wide.2 h⟩
        | exact ⟨fun h => (by cases h), rowsIn_wide h⟩
  | halt x w' => cases x <;> simp only [Oper.upon, Oper.uponIn] at h ⊢ <;> exact h
def noDefer (ops : Array Oper) : Bool := ops.all fun o => match o.op with | .defer _ => false | _ => true
theorem noDefer_at {ops : Array Oper} (h : noDefer ops = true) {i : Nat} {o : Oper} (hi : ops[i]? = some o) : ∀ c, o.op ≠ .defer c := fun c e => by
  have h1 := Array.all_eq_true_iff_forall_mem.1 h o (Array.mem_of_getElem? hi)
  rw [e] at h1; cases h1
theorem wpAnyIn_of_any {l n : Nat} {P : Program} {md : Region.Mode} {ops : Array Oper} {Q : Exit → Act → World → Prop} (hd : noDefer ops = true) (hQ : ¬ LetsOut Q) : ∀ (fuel : Nat) (listed : Array Bool) (a : Act) (w : World), wpAny P md ops Q fuel listed a w → wpAnyIn (Fence.wide.inRound l) n P md ops Q fuel listed a w
  | 0, _, _, _, h => h
  | fuel + 1, listed, a, w, h => by
    refine ⟨h.1, fun i hi => ?_⟩
    have h1 := h.2 i hi
    refine wpOpIn_mono (fun a' w' h' => wpAnyIn_of_any hd hQ fuel _ a' w' h') ?_
    unfold wpOp at h1
    unfold wpOpIn
    cases ho : ops[i]? with
    | none => simp only [ho] at h1 ⊢; exact h1
    | some o =>
      simp only [ho] at h1 ⊢
      by_cases hw : Region.wanted o (yielded ops a.tmps) = true
      · rw [if_pos hw] at h1 ⊢
        rcases h1 with h1 | ⟨_, h1⟩
        · exact Oper.wp_round (noDefer_at hd ho) h1
        · exact absurd h1 hQ
      · rw [if_neg hw] at h1 ⊢
        exact ⟨fun _ _ => trivial, h1⟩
def Tame (Q : Exit → Act → World → Prop) : Exit → Act → World → Prop
  | .panic _, _, _ => False
  | .outgrown, _, _ => False
  | e, a, w => Q e a w
theorem Tame.normal {Q : Exit → Act → World → Prop} {a : Act} {w : World} (h : Q .normal a w) : Tame Q .normal a w := h
theorem Tame.imp {Q : Exit → Act → World → Prop} : ∀ (e : Exit) (a : Act) (w : World), Tame Q e a w → Q e a w := fun e a w h => by
  cases e <;> first | exact h | exact (h : False).elim
theorem Tame.lets {Q : Exit → Act → World → Prop} : ¬ LetsOut (Tame Q) := fun ⟨_, _, h⟩ => h
end Go.Proofs.YtikhpbidbcfedaaGreat


/- graph.connect: plain facts, and its first loop. -/
import Derived.Test.YtghfikeakfiopaaK11
namespace Go.Proofs.Ytghfikeakfiopaa
open Go.RowKit Go.ChangeMaps

structure EdgesAt (w : World) (B : Nat) (a : Option Addr) (E : List (Int × Int)) : Prop where
  row : ∀ t e, E[t]? = some e → ∃ b o, a = some ⟨b, o, none⟩ ∧ b < B ∧ w.cell? ⟨b, o + t * 2, none⟩ = some (.int .u64 e.1) ∧ w.cell? ⟨b, o + t * 2 + 1, none⟩ = some (.int .u64 e.2)
  nil : E = [] → a = none ∨ ∃ b o, a = some ⟨b, o, none⟩
  bd : ∀ e ∈ E, (0 ≤ e.1 ∧ e.1 < 18446744073709551616) ∧ 0 ≤ e.2 ∧ e.2 < 18446744073709551616
theorem EdgesAt.keep {w w' : World} {B : Nat} {a : Option Addr} {E : List (Int × Int)} (h : EdgesAt w B a E) (hs : ∀ k, k < B → w'.heap[k]? = w.heap[k]?) : EdgesAt w' B a E := ⟨fun t e he => by
  obtain ⟨b, o, h1, h2, h3, h4⟩ := h.row t e he
  exact ⟨b, o, h1, h2, by rw [World.cell?_of_block (w := w) (hs b h2)]; exact h3, by rw [World.cell?_of_block (w := w) (hs b h2)]; exact h4⟩, h.nil, h.bd⟩

def Sp.rw (N : List Int) (E : List (Int × Int)) (t : Nat) : List Int := (E.filter fun e => e.1 == N.getD t 0).map fun e => (N.idxOf e.2 : Int)
theorem rw_len (N : List Int) (E : List (Int × Int)) (t : Nat) : (Sp.rw N E t).length ≤ E.length := by
  unfold Sp.rw; rw [List.length_map]; exact List.length_filter_le _ _
theorem idx_of {N : List Int} (hn : N.Nodup) {t : Nat} {x : Int} (h : N[t]? = some x) : N.idxOf x = t := by
  obtain ⟨ht, rfl⟩ := List.getElem?_eq_some_iff.1 h
  exact hn.idxOf_getElem t ht
theorem rw_snoc {N : List Int} (hn : N.Nodup) (E : List (Int × Int)) {f p : Nat} {e : Int × Int} (hf : N[f]? = some e.1) (hp : N[p]? = some e.2) {t : Nat} (ht : t < N.length) : Sp.rw N (E ++ [e]) t = if t = f then Sp.rw N E f ++ [(p : Int)] else Sp.rw N E t := by
  unfold Sp.rw
  rw [List.filter_append, List.map_append]
  have hte : (e.1 == N.getD t 0) = decide (t = f) := by
    rw [Bool.eq_iff_iff, beq_iff_eq, decide_eq_true_eq, List.getD_eq_getElem?_getD, List.getElem?_eq_getElem ht]
    simp only [Option.getD_some]
    constructor
    · intro h
      have h1 : N[t]? = some e.1 := by rw [List.getElem?_eq_getElem ht, h]
      rw [← idx_of hn h1, ← idx_of hn hf]
    · rintro rfl
      rw [List.getElem?_eq_getElem ht] at hf
      exact (Option.some.inj hf).symm
  by_cases e1 : t = f
  · rw [if_pos e1, List.filter_cons, hte, decide_eq_true e1, ← e1]
    simp [idx_of hn hp]
  · rw [if_neg e1, List.filter_cons, hte, decide_eq_false e1]
    simp

structure CnG (w : World) (gb mb xb n : Nat) (v0 : Value) (G : List (Int × Int)) (es : Array MapEntry) (ck : Nat) (N : List Int) : Prop where
  cells : w.heap[gb]? = some (.cells #[v0, .map (some mb), .slice (some ⟨xb, 0, none⟩) n n] 68 (0, 0))
  mp : MpI w mb G es ck
  fro : ∀ k v, (k, v) ∈ G → ∃ t : Nat, v = t ∧ N[t]? = some k
  to : ∀ k, k ∈ N → ∃ v, (k, v) ∈ G
  ne : gb ≠ xb ∧ mb ≠ xb
  len : N.length = n
  nd : N.Nodup
theorem CnG.keep {w w' : World} {gb mb xb n : Nat} {v0 : Value} {G : List (Int × Int)} {es : Array MapEntry} {ck : Nat} {N : List Int} (h : CnG w gb mb xb n v0 G es ck N) (hs : Srt w (some xb) w') : CnG w' gb mb xb n v0 G es ck N :=
  ⟨(hs.2.2.2.2 gb (Array.getElem?_eq_some_iff.1 h.cells).1 (fun e => h.ne.1 (Option.some.inj e).symm)).trans h.cells, h.mp.keep (hs.2.2.2.2 mb (Array.getElem?_eq_some_iff.1 h.mp.blk).1 (fun e => h.ne.2 (Option.some.inj e).symm)), h.fro, h.to, h.ne, h.len, h.nd⟩
theorem CnG.cell {w : World} {gb mb xb n : Nat} {v0 : Value} {G : List (Int × Int)} {es : Array MapEntry} {ck : Nat} {N : List Int} (h : CnG w gb mb xb n v0 G es ck N) : w.cell? ⟨gb, 1, none⟩ = some (.map (some mb)) ∧ w.cell? ⟨gb, 2, none⟩ = some (.slice (some ⟨xb, 0, none⟩) n n) :=
  ⟨by simp [World.cell?, h.cells], by simp [World.cell?, h.cells]⟩
theorem CnG.look {w : World} {gb mb xb n : Nat} {v0 : Value} {G : List (Int × Int)} {es : Array MapEntry} {ck : Nat} {N : List Int} (h : CnG w gb mb xb n v0 G es ck N) {x : Int} (h0 : 0 ≤ x) (h1 : x < 18446744073709551616) :
    ((∀ W : World, W.heap[mb]? = w.heap[mb]? → (Instr.lookup 66 (.map (some mb)) (.int .u64 x) true).run Try.prog W = .ok (.tuple #[.int .i64 0, .bool false]) W) ∧ x ∉ N) ∨ ∃ t : Nat, (∀ W : World, W.heap[mb]? = w.heap[mb]? → (Instr.lookup 66 (.map (some mb)) (.int .u64 x) true).run Try.prog W = .ok (.tuple #[.int .i64 t, .bool true]) W) ∧ N[t]? = some x := by
  by_cases hx : x ∈ N
  · obtain ⟨v, hv⟩ := h.to x hx
    obtain ⟨t, rfl, ht⟩ := h.fro x v hv
    refine .inr ⟨t, fun W hW => ?_, ht⟩
    rcases (h.mp.keep hW).lookup h0 h1 with ⟨_, h3⟩ | ⟨v', h2, h3⟩
    · exact absurd rfl (h3 _ hv)
    · obtain ⟨t', rfl, ht'⟩ := h.fro x v' h3
      rw [h2, ← idx_of h.nd ht, ← idx_of h.nd ht']
  · refine .inl ⟨fun W hW => ?_, hx⟩
    rcases (h.mp.keep hW).lookup h0 h1 with ⟨h2, _⟩ | ⟨v', h2, h3⟩
    · exact h2
    · obtain ⟨t', _, ht'⟩ := h.fro x v' h3
      exact absurd (List.mem_of_getElem? ht') hx
end Go.Proofs.Ytghfikeakfiopaa

/- graph.walk: walks with any visitor: what is asked of one, and how a walk ends. -/
namespace Go.Proofs.Ytghfikeakfiopaa
open Go.RowKit Go.ChangeMaps

structure Kw (M : Nat → Prop) (w w' : World) : Prop where
  os : w'.os = w.os
  tape : w'.tape = w.tape
  output : w'.output = w.output
  size : w.heap.size ≤ w'.heap.size
  block : ∀ j, j < w.heap.size → ¬ M j → w'.heap[j]? = w.heap[j]?
theorem Kw.refl (M : Nat → Prop) (w : World) : Kw M w w := ⟨rfl, rfl, rfl, Nat.le_refl _, fun _ _ _ => rfl⟩
theorem Kw.trans {M : Nat → Prop} {a b d : World} (h : Kw M a b) (k : Kw M b d) : Kw M a d := ⟨k.os.trans h.os, k.tape.trans h.tape, k.output.trans h.output, Nat.le_trans h.size k.size, fun j h1 h2 => (k.block j (Nat.lt_of_lt_of_le h1 h.size) h2).trans (h.block j h1 h2)⟩
theorem Kw.mono {M M' : Nat → Prop} {w w' : World} (h : Kw M w w') (hm : ∀ j, M j → M' j) : Kw M' w w' := ⟨h.os, h.tape, h.output, h.size, fun j h1 h2 => h.block j h1 fun h3 => h2 (hm j h3)⟩
theorem Kw.alloc {M : Nat → Prop} {a w : World} (h : Kw M a w) (o : Obj) : Kw M a (w.alloc o) := h.trans ⟨rfl, rfl, rfl, by simp, fun j h1 _ => Below.heap_alloc w o j h1⟩
theorem Kw.drew {M : Nat → Prop} {a w : World} (h : Kw M a w) : Kw M a w.drew := ⟨h.os, h.tape, h.output, h.size, h.block⟩
theorem Kw.set {M : Nat → Prop} {c o : Nat} {a w : World} (h : Kw M a w) (hc : M c ∨ a.heap.size ≤ c) (v : Value) : Kw M a (w.setCell ⟨c, o, none⟩ v) := ⟨h.os, h.tape, h.output, by simpa [World.setCell] using h.size, fun j h1 h2 => (Below.heap_setCell _ _ _ _ (show j ≠ c by intro e; subst e; rcases hc with hc | hc; exact h2 hc; omega)).trans (h.block j h1 h2)⟩

def BEnd (r : Option Bool) (e : Ending) : Prop := match r with | some b => e = .returned (.bool b) | none => ∃ v, e = .panicked [{ v := v, recovered := false }]
abbrev bv (l : List Bool) : List Value := l.map Value.bool
structure VisH (σ : Type) (V : Vr σ) (n m0 eb : Nat) (M : Nat → Prop) (I : σ → World → Prop) (Fe Fl : Nat) (ce cl : Array Value) : Prop where
  keep : ∀ s (W W' : World), I s W → W.heap.size ≤ W'.heap.size → (∀ k, k < W.heap.size → k ≠ eb → W'.heap[k]? = W.heap[k]?) → W'.os = W.os → W'.tape = W.tape → W'.output = W.output → I s W'
  enter : ∀ s j (W : World), j < n → I s W → Calls Try.prog Fe (#[.int .i64 (j : Nat)] ++ ce) W fun e W' => BEnd (V.enter s j).1 e ∧ I (V.enter s j).2 W' ∧ Kw M W W'
  leave : ∀ s j (W : World), j < n → I s W → Calls Try.prog Fl (#[.int .i64 (j : Nat)] ++ cl) W fun e W' => BEnd (V.leave s j).1 e ∧ I (V.leave s j).2 W' ∧ Kw M W W'
  ecf : ∀ (j : Nat) (W : World), Sem.run Try.prog (callFunc Fe (#[.int .i64 (j : Nat)] ++ ce)) W = .ok (.enter Fe (#[.int .i64 (j : Nat)] ++ ce)) W
  lcf : ∀ (j : Nat) (W : World), Sem.run Try.prog (callFunc Fl (#[.int .i64 (j : Nat)] ++ cl)) W = .ok (.enter Fl (#[.int .i64 (j : Nat)] ++ cl)) W
  old : ∀ k, M k → k < m0
  eo : eb < m0 ∧ ¬ M eb
def Sta (M : Nat → Prop) (eb : Nat) (gs : Option Nat) : Prop := ∀ g, gs = some g → ¬ M g ∧ g ≠ eb
structure WkI (σ : Type) (n m0 eb : Nat) (M : Nat → Prop) (I : σ → World → Prop) (nx : Nat → List Nat) (lo xb : Nat) (bl : Nat → Option Nat) (cp : Nat → Nat) (st : Wst σ) (w : World) : Prop where
  inv : I st.2 w
  ent : OwnR w 4 eb n n (bv st.1)
  nxt : NxR w lo xb n bl cp (fun t => (nx t).map (fun j : Nat => (j : Int)))
  sz : m0 ≤ w.heap.size
  sx : ¬ M xb ∧ xb ≠ eb
  sb : ∀ t, t < n → Sta M eb (bl t)
  nb : ∀ t, t < n → ∀ j ∈ nx t, j < n
theorem WkI.len {σ : Type} {n m0 eb : Nat} {M : Nat → Prop} {I : σ → World → Prop} {nx : Nat → List Nat} {lo xb : Nat} {bl : Nat → Option Nat} {cp : Nat → Nat} {st : Wst σ} {w : World} (h : WkI σ n m0 eb M I nx lo xb bl cp st w) : st.1.length = n := by simpa using h.ent.len
theorem WkI.step {σ : Type} {n m0 eb : Nat} {M : Nat → Prop} {I : σ → World → Prop} {nx : Nat → List Nat} {lo xb : Nat} {bl : Nat → Option Nat} {cp : Nat → Nat} {st : Wst σ} {w w' : World} {s' : σ} (h : WkI σ n m0 eb M I nx lo xb bl cp st w) (hk : Kw M w w') (hm : ¬ M eb) (hI : I s' w') : WkI σ n m0 eb M I nx lo xb bl cp (st.1, s') w' :=
  ⟨hI, h.ent.keep (hk.block eb h.ent.lt hm), h.nxt.keep (hk.block xb h.nxt.lt.1 h.sx.1) (fun t g ht hg => hk.block g (h.nxt.lt.2 t g ht hg) (h.sb t ht g hg).1), Nat.le_trans h.sz hk.size, h.sx, h.sb, h.nb⟩
theorem WkI.alloc {σ : Type} {V : Vr σ} {n m0 eb : Nat} {M : Nat → Prop} {I : σ → World → Prop} {Fe Fl : Nat} {ce cl : Array Value} {nx : Nat → List Nat} {lo xb : Nat} {bl : Nat → Option Nat} {cp : Nat → Nat} {st : Wst σ} {w : World} (hV : VisH σ V n m0 eb M I Fe Fl ce cl) (h : WkI σ n m0 eb M I nx lo xb bl cp st w) (o : Obj) : WkI σ n m0 eb M I nx lo xb bl cp st (w.alloc o) :=
  ⟨hV.keep _ w _ h.inv (by simp) (fun k h1 _ => Below.heap_alloc w o k h1) rfl rfl rfl, h.ent.keep (Below.heap_alloc w o eb h.ent.lt), h.nxt.keep (Below.heap_alloc w o xb h.nxt.lt.1) (fun t g ht hg => Below.heap_alloc w o g (h.nxt.lt.2 t g ht hg)), by rw [al_size]; have := h.sz; omega, h.sx, h.sb, h.nb⟩
theorem WkI.drew {σ : Type} {V : Vr σ} {n m0 eb : Nat} {M : Nat → Prop} {I : σ → World → Prop} {Fe Fl : Nat} {ce cl : Array Value} {nx : Nat → List Nat} {lo xb : Nat} {bl : Nat → Option Nat} {cp : Nat → Nat} {st : Wst σ} {w : World} (hV : VisH σ V n m0 eb M I Fe Fl ce cl) (h : WkI σ n m0 eb M I nx lo xb bl cp st w) : WkI σ n m0 eb M I nx lo xb bl cp st w.drew :=
  ⟨hV.keep _ w _ h.inv (Nat.le_refl _) (fun _ _ _ => rfl) rfl rfl rfl, h.ent.keep rfl, h.nxt.keep rfl (fun _ _ _ _ => rfl), h.sz, h.sx, h.sb, h.nb⟩
theorem WkI.mark {σ : Type} {V : Vr σ} {n m0 eb : Nat} {M : Nat → Prop} {I : σ → World → Prop} {Fe Fl : Nat} {ce cl : Array Value} {nx : Nat → List Nat} {lo xb : Nat} {bl : Nat → Option Nat} {cp : Nat → Nat} {st : Wst σ} {w : World} (hV : VisH σ V n m0 eb M I Fe Fl ce cl) (h : WkI σ n m0 eb M I nx lo xb bl cp st w) (j : Nat) : WkI σ n m0 eb M I nx lo xb bl cp (st.1.set j true, st.2) (w.setCell ⟨eb, j, none⟩ (.bool true)) := by
  have e : ∀ k, k ≠ eb → (w.setCell ⟨eb, j, none⟩ (.bool true)).heap[k]? = w.heap[k]? := fun k hk => Below.heap_setCell w _ _ k hk
  refine ⟨hV.keep _ w _ h.inv (by simp [World.setCell]) (fun k _ h2 => e k h2) rfl rfl rfl, ?_, h.nxt.keep (e xb h.sx.2) (fun t g ht hg => e g (h.sb t ht g hg).2), by simpa [World.setCell] using h.sz, h.sx, h.sb, h.nb⟩
  have := h.ent.set j (.bool true)
  rw [show bv (st.1.set j true) = (bv st.1).set j (.bool true) from List.map_set]
  exact this
def WkE (σ : Type) (n m0 eb : Nat) (M : Nat → Prop) (I : σ → World → Prop) (nx : Nat → List Nat) (lo xb : Nat) (bl : Nat → Option Nat) (cp : Nat → Nat) (r : Option Bool × Wst σ) (w : World) (e : Ending) (w' : World) : Prop :=
  BEnd r.1 e ∧ WkI σ n m0 eb M I nx lo xb bl cp r.2 w' ∧ Kw (fun k => M k ∨ k = eb) w w'
end Go.Proofs.Ytghfikeakfiopaa

/- graph.walk.all, given one. -/
namespace Go.Proofs.Ytghfikeakfiopaa
open Go.RowKit Go.ChangeMaps

def wsC (xb eb n Fe Fl : Nat) (ce cl : Array Value) : Array Value := #[.slice (some ⟨xb, 0, none⟩) n n, .slice (some ⟨eb, 0, none⟩) n n, .func (.func Fe) #[] ce, .func (.func Fl) #[] cl]
section
variable {σ : Type} {V : Vr σ} {n m0 eb : Nat} {M : Nat → Prop} {I : σ → World → Prop} {Fe Fl : Nat} {ce cl : Array Value} {nx : Nat → List Nat} {lo xb : Nat} {bl : Nat → Option Nat} {cp : Nat → Nat}
def OneC (σ : Type) (V : Vr σ) (n m0 eb : Nat) (M : Nat → Prop) (I : σ → World → Prop) (Fe Fl : Nat) (ce cl : Array Value) (nx : Nat → List Nat) (lo xb : Nat) (bl : Nat → Option Nat) (cp : Nat → Nat) (f : Nat) : Prop :=
  ∀ j st W, WkI σ n m0 eb M I nx lo xb bl cp st W → j < n → st.1[j]? = some false → Sp.cf st.1 ≤ f → Calls Try.prog 34 #[.agg (wsC xb eb n Fe Fl ce cl), .int .i64 (j : Nat)] W (WkE σ n m0 eb M I nx lo xb bl cp (wOne V nx f j st) W)
def AllC (σ : Type) (V : Vr σ) (n m0 eb : Nat) (M : Nat → Prop) (I : σ → World → Prop) (Fe Fl : Nat) (ce cl : Array Value) (nx : Nat → List Nat) (lo xb : Nat) (bl : Nat → Option Nat) (cp : Nat → Nat) (f : Nat) : Prop :=
  ∀ (l : List Nat) st W gs c, WkI σ n m0 eb M I nx lo xb bl cp st W → Sp.cf st.1 ≤ f → (∀ j ∈ l, j < n) → NdI W gs c (l.map fun j : Nat => (j : Int)) → Sta M eb gs → l.length * 8 ≤ 140737488355328 → Calls Try.prog 26 #[.agg (wsC xb eb n Fe Fl ce cl), .slice (adr gs) l.length c] W (WkE σ n m0 eb M I nx lo xb bl cp (wAll (wOne V nx f) l st) W)

set_option maxRecDepth 100000 in
set_option maxHeartbeats 8000000 in
theorem all_of (hV : VisH σ V n m0 eb M I Fe Fl ce cl) (f : Nat) (hOne : OneC σ V n m0 eb M I Fe Fl ce cl nx lo xb bl cp f) : AllC σ V n m0 eb M I Fe Fl ce cl nx lo xb bl cp f := by
  intro l st W gs c hW hcf hl hnd hsta hlen
  have HO : Hid (OneC σ V n m0 eb M I Fe Fl ce cl nx lo xb bl cp f) := hOne
  have HV : Hid (VisH σ V n m0 eb M I Fe Fl ce cl) := hV
  obtain ⟨W0, hW0⟩ : ∃ W0, W.alloc (.cells (wsC xb eb n Fe Fl ce cl) 64) = W0 := ⟨_, rfl⟩
  have HB0 : Hid (∀ X, Kw (fun k => M k ∨ k = eb) W0 X → X.heap[W.heap.size]? = some (.cells (wsC xb eb n Fe Fl ce cl) 64 (0, 0))) := fun X hX => by
    have h1 : W0.heap[W.heap.size]? = some (.cells (wsC xb eb n Fe Fl ce cl) 64 (0, 0)) := by rw [← hW0]; exact heap_alloc_new _ _
    refine (hX.block _ (Array.getElem?_eq_some_iff.1 h1).1 ?_).trans h1
    have hz := hW.sz
    rintro (h | h)
    · have := hV.old _ h; omega
    · have := hV.eo.1; omega
  have HW0 : Hid (WkI σ n m0 eb M I nx lo xb bl cp st W0) := by rw [← hW0]; exact hW.alloc hV _
  have HK0 : Hid (Kw (fun k => M k ∨ k = eb) W W0) := by rw [← hW0]; exact (Kw.refl _ _).alloc _
  have HR : Hid (∀ X, Kw (fun k => M k ∨ k = eb) W0 X → ∀ t j, l[t]? = some j → ∃ g, gs = some g ∧ X.cell? ⟨g, t, none⟩ = some (.int .i64 (j : Nat))) := fun X hX t j ht => by
    cases gs with
    | none => have := (hnd.1 rfl).1; rw [List.map_eq_nil_iff] at this; subst this; simp at ht
    | some g =>
      have ho := hnd.2 g rfl
      refine ⟨g, rfl, ?_⟩
      have e1 : W0.heap[g]? = W.heap[g]? := by rw [← hW0]; exact Below.heap_alloc W _ g ho.lt
      have e2 : X.heap[g]? = W0.heap[g]? := hX.block g (by have := ho.lt; rw [← hW0, al_size]; omega) (by rintro (h | h); exact (hsta g rfl).1 h; exact (hsta g rfl).2 h)
      exact (ho.keep (e2.trans e1)).cell (by simp [iv, ht])
  have HL : Hid (∀ j ∈ l, j < n) := hl
  have HCF : Hid (Sp.cf st.1 ≤ f) := hcf
  have hbx : W0.cell? ⟨W.heap.size, 1, none⟩ = some (.slice (some ⟨eb, 0, none⟩) n n) := by
    simp [World.cell?, HB0.out W0 (Kw.refl _ _), wsC]
  clear hW hcf hl hnd hsta hOne hV hbx
  go_enter Try.func26, Try.ntmps26
  go_wp2
  go_loopw [9] (fun v9 wr => ∃ (i : Nat) (s1 : Wst σ), v9 = .int .i64 i ∧ i ≤ l.length ∧ Hid (WkI σ n m0 eb M I nx lo xb bl cp s1 wr ∧ Kw (fun k => M k ∨ k = eb) W0 wr ∧ wAll (wOne V nx f) (l.drop i) s1 = wAll (wOne V nx f) l st ∧ Sp.cf s1.1 ≤ f)) (fun v9 _ => l.length - (intOf v9).toNat)
  case atStart => exact ⟨0, st, rfl, Nat.zero_le _, HW0.out, Kw.refl _ _, rfl, HCF.out⟩
  case round =>
    obtain ⟨i, s1, rfl, hi, HI⟩ := hrel
    have hb := HB0.out wr HI.out.2.1
    have hb0 : wr.cell? ⟨W.heap.size, 0, none⟩ = some (.slice (some ⟨xb, 0, none⟩) n n) := by simp [World.cell?, hb, wsC]
    have hb1 : wr.cell? ⟨W.heap.size, 1, none⟩ = some (.slice (some ⟨eb, 0, none⟩) n n) := by simp [World.cell?, hb, wsC]
    have hb2 : wr.cell? ⟨W.heap.size, 2, none⟩ = some (.func (.func Fe) #[] ce) := by simp [World.cell?, hb, wsC]
    have hb3 : wr.cell? ⟨W.heap.size, 3, none⟩ = some (.func (.func Fl) #[] cl) := by simp [World.cell?, hb, wsC]
    clear hb
    by_cases hlt : i < l.length
    · obtain ⟨j, hj⟩ : ∃ j, l[i]? = some j := ⟨_, List.getElem?_eq_getElem hlt⟩
      obtain ⟨g, rfl, hcj⟩ := HR.out wr HI.out.2.1 i j hj
      have hjn : j < n := HL.out j (List.mem_of_getElem? hj)
      have ea : adr (some g) = some ⟨g, 0, none⟩ := rfl
      have hdr : l.drop i = j :: l.drop (i + 1) := by
        rw [List.getElem?_eq_getElem hlt] at hj
        injection hj with hj
        rw [← hj]; exact List.drop_eq_getElem_cons hlt
      obtain ⟨bj, hbj⟩ : ∃ bj, s1.1[j]? = some bj := ⟨_, List.getElem?_eq_getElem (by rw [HI.out.1.len]; exact hjn)⟩
      have hce : wr.cell? ⟨eb, j, none⟩ = some (.bool bj) := HI.out.1.ent.cell (by simp [bv, hbj])
      have hgd : s1.1.getD j false = bj := by rw [List.getD_eq_getElem?_getD, hbj]; rfl
      have E1 : Hid (wAll (wOne V nx f) (l.drop i) s1 = if bj = true then wAll (wOne V nx f) (l.drop (i + 1)) s1 else if (wOne V nx f j s1).1 = some true then wAll (wOne V nx f) (l.drop (i + 1)) (wOne V nx f j s1).2 else wOne V nx f j s1) := by
        show _ = _
        rw [hdr, wAll, hgd]
      clear hdr hgd hj
      cases bj with
      | true =>
        go_wp2
        go_roundw
        case rel => exact ⟨i + 1, s1, by go_num, by omega, HI.out.1, HI.out.2.1, by rw [← HI.out.2.2.1, E1.out, if_pos rfl], HI.out.2.2.2⟩
        case measure => simp [intOf]; omega
      | false =>
        have hO := HO.out j s1 wr HI.out.1 hjn hbj HI.out.2.2.2
        have HM : Hid (Mor s1.1 (wOne V nx f j s1).2.1) := wOne_mor V nx f j s1
        obtain ⟨r, hr⟩ : ∃ r, r = wOne V nx f j s1 := ⟨_, rfl⟩
        rw [← hr] at hO HM
        have E2 : Hid (wAll (wOne V nx f) l st = if r.1 = some true then wAll (wOne V nx f) (l.drop (i + 1)) r.2 else r) := by
          show _ = _
          rw [← HI.out.2.2.1, E1.out, if_neg (by decide), ← hr]
        have HKI : Hid (Kw (fun k => M k ∨ k = eb) W0 wr ∧ Sp.cf s1.1 ≤ f) := ⟨HI.out.2.1, HI.out.2.2.2⟩
        clear hr E1 hbj HI
        obtain ⟨r1, r2⟩ := r
        cases r1 with
        | none =>
          go_wp2_with (go_at_call 34; refine hO.mono ?_; rintro e w2 ⟨⟨v, rfl⟩, q1, q2⟩; exact ⟨rfl, (by rw [E2.out, if_neg (by simp)]; exact ⟨⟨v, rfl⟩, q1, HK0.out.trans (HKI.out.1.trans q2)⟩)⟩)
        | some b =>
          cases b with
          | false =>
            go_wp2_with (go_at_call 34; refine hO.mono ?_; rintro e w2 ⟨q0, q1, q2⟩; obtain rfl : e = .returned (.bool false) := q0)
            go_ret
            rw [E2.out, if_neg (by simp)]
            exact ⟨rfl, q1, HK0.out.trans (HKI.out.1.trans q2)⟩
          | true =>
            go_wp2_with (go_at_call 34; refine hO.mono ?_; rintro e w2 ⟨q0, q1, q2⟩; obtain rfl : e = .returned (.bool true) := q0)
            go_roundw
            case rel =>
              refine ⟨_, _, _, _, _, _, _, _, _, _, _, _, _, _, _, _, _, _, _, ?_, rfl⟩
              exact ⟨i + 1, r2, by go_num, by omega, q1, HKI.out.1.trans q2, by rw [E2.out, if_pos trivial], Nat.le_trans HM.out.cf HKI.out.2⟩
            case measure => simp [intOf]; omega
    · obtain rfl : i = l.length := by omega
      have E3 : Hid (wAll (wOne V nx f) l st = (some true, s1)) := by
        show _ = _
        rw [← HI.out.2.2.1, List.drop_of_length_le (Nat.le_refl _), wAll]
      go_wp2
      go_ret
      rw [E3.out]
      exact ⟨rfl, HI.out.1, HK0.out.trans HI.out.2.1⟩
end
end Go.Proofs.Ytghfikeakfiopaa


/- == of edges and of calls; edges as the source of an append. -/
import Derived.Test.YtghfikeakfiopaaK17
import Derived.Laws.StructEq
import Derived.Test.YtghfikeakfiopaaK14
import Derived.Test.YtghfikeakfiopaaK12
import Derived.Test.YtghfikeakfiopaaK15
namespace Go.Proofs.Ytghfikeakfiopaa
open Go.RowKit

theorem Try.fldE : (Try.prog.fieldsOf 47).toList = [⟨"From", 36, 0, false, "", "", 0⟩, ⟨"To", 36, 1, false, "", "", 8⟩] := by kernel_rfl
theorem Try.fldC : (Try.prog.fieldsOf 38).toList = [⟨"Node", 36, 0, false, "", "", 0⟩, ⟨"Leave", 4, 1, false, "", "", 8⟩] := by kernel_rfl
theorem eq_ed (x y x' y' : Int) (W : World) : (Op.equalIn 10000 47 (.agg #[.int .u64 x, .int .u64 y]) (.agg #[.int .u64 x', .int .u64 y'])).run Try.prog W = .ok (x == x' && y == y') W := by
  rw [run_equalIn_struct (P := Try.prog) W 9999 47 _ _ (by kernel_rfl) (by kernel_rfl), Try.fldE]
  have u3 : Try.prog.underlying 36 = some (.int .u64) := by kernel_rfl
  have pa : ∀ (V : World) (n i : Int), (part 36 #[.int .u64 n, .int .u64 i] 0).run Try.prog V = .ok (.int .u64 n) V := fun V n i => by kernel_rfl
  have pc : ∀ (V : World) (n i : Int), (part 36 #[.int .u64 n, .int .u64 i] 1).run Try.prog V = .ok (.int .u64 i) V := fun V n i => by kernel_rfl
  have qc : ∀ (V : World) (m n : Int), (Op.equalIn 9999 36 (.int .u64 m) (.int .u64 n)).run Try.prog V = .ok (m == n) V := fun V m n => run_equalIn_int V 9998 36 .u64 .u64 _ _ u3
  have en : ("From" : String) ≠ "_" := by decide
  have ea : ("To" : String) ≠ "_" := by decide
  simp only [Op.eqFields, if_pos en, if_pos ea, Sem.run_bind, pa, Result.andThen_ok, Sem.run_ite, qc, pc, Sem.run_pure]
  by_cases h1 : x = x'
  · by_cases h2 : y = y'
    · simp [h1, h2]
    · simp [h1, h2]
  · simp [h1]
theorem neq_ed (x y x' y' : Int) (W : World) : (binOp .neq 47 (.agg #[.int .u64 x, .int .u64 y]) (.agg #[.int .u64 x', .int .u64 y'])).run Try.prog W = .ok (.bool (!(x == x' && y == y'))) W := by
  rw [run_neq_struct, eq_ed]; rfl
@[go_sem] theorem eqg_ed (p q : Operand) (xs ys : Array Value) (W : World) : (eqGuard .neq 47 p q (.agg xs) (.agg ys)).run Try.prog W = .ok () W := run_eqGuard_agg W _ _ _ _ _ _ (by kernel_rfl)
theorem eq_ca (x x' : Int) (y y' : Bool) (W : World) : (Op.equalIn 10000 38 (.agg #[.int .u64 x, .bool y]) (.agg #[.int .u64 x', .bool y'])).run Try.prog W = .ok (x == x' && y == y') W := by
  rw [run_equalIn_struct (P := Try.prog) W 9999 38 _ _ (by kernel_rfl) (by kernel_rfl), Try.fldC]
  have u3 : Try.prog.underlying 36 = some (.int .u64) := by kernel_rfl
  have u4 : Try.prog.underlying 4 = some .bool := by kernel_rfl
  have pa : ∀ (V : World) (n : Int) (i : Bool), (part 36 #[.int .u64 n, .bool i] 0).run Try.prog V = .ok (.int .u64 n) V := fun V n i => by kernel_rfl
  have pc : ∀ (V : World) (n : Int) (i : Bool), (part 4 #[.int .u64 n, .bool i] 1).run Try.prog V = .ok (.bool i) V := fun V n i => by kernel_rfl
  have qc : ∀ (V : World) (m n : Int), (Op.equalIn 9999 36 (.int .u64 m) (.int .u64 n)).run Try.prog V = .ok (m == n) V := fun V m n => run_equalIn_int V 9998 36 .u64 .u64 _ _ u3
  have qb : ∀ (V : World) (m n : Bool), (Op.equalIn 9999 4 (.bool m) (.bool n)).run Try.prog V = .ok (m == n) V := fun V m n => run_equalIn_bool' V 9998 4 _ _ u4
  have en : ("Node" : String) ≠ "_" := by decide
  have ea : ("Leave" : String) ≠ "_" := by decide
  simp only [Op.eqFields, if_pos en, if_pos ea, Sem.run_bind, pa, Result.andThen_ok, Sem.run_ite, qc, pc, qb, Sem.run_pure]
  by_cases h1 : x = x'
  · by_cases h2 : y = y' <;> simp [h1, h2]
  · simp [h1]
theorem eql_ca (x x' : Int) (y y' : Bool) (W : World) : (binOp .eql 38 (.agg #[.int .u64 x, .bool y]) (.agg #[.int .u64 x', .bool y'])).run Try.prog W = .ok (.bool (x == x' && y == y')) W := by
  rw [run_eql_struct, eq_ca]; rfl
@[go_sem] theorem eqg_ca (p q : Operand) (xs ys : Array Value) (W : World) : (eqGuard .eql 38 p q (.agg xs) (.agg ys)).run Try.prog W = .ok () W := run_eqGuard_agg W _ _ _ _ _ _ (by kernel_rfl)

theorem ev_at : ∀ (E : List (Int × Int)) (j : Nat) (u : Value), (ev E)[j]? = some u → ∃ t e, E[t]? = some e ∧ ((j = t * 2 ∧ u = .int .u64 e.1) ∨ (j = t * 2 + 1 ∧ u = .int .u64 e.2))
  | [], j, u, h => by simp [ev] at h
  | p :: E, 0, u, h => by simp [ev] at h; exact ⟨0, p, rfl, .inl ⟨rfl, h.symm⟩⟩
  | p :: E, 1, u, h => by simp [ev] at h; exact ⟨0, p, rfl, .inr ⟨rfl, h.symm⟩⟩
  | p :: E, j + 2, u, h => by
    obtain ⟨t, e, h1, h2⟩ := ev_at E j u (by simpa [ev] using h)
    exact ⟨t + 1, e, by simpa using h1, by rcases h2 with ⟨h2, h3⟩ | ⟨h2, h3⟩; exact .inl ⟨by omega, h3⟩; exact .inr ⟨by omega, h3⟩⟩
theorem ev_one (E : List (Int × Int)) : ∀ u ∈ ev E, u.oneCell' = true := fun u hu => by
  obtain ⟨j, hj⟩ := List.mem_iff_getElem?.1 hu
  obtain ⟨t, e, _, ⟨_, rfl⟩ | ⟨_, rfl⟩⟩ := ev_at E j u hj <;> rfl
theorem EdgesAt.src {w : World} {B : Nat} {a : Option Addr} {E : List (Int × Int)} (h : EdgesAt w B a E) (c : Nat) : Src Try.prog 2 23 (.slice a E.length c) E.length (ev E) w := by
  by_cases hx : E = []
  · subst hx
    rcases h.nil rfl with rfl | ⟨b, o, rfl⟩
    · exact Src.ofNil _ Try.undEd c
    · exact Src.ofSlice _ Try.undEd ⟨b, o, none⟩ 0 c [] rfl (fun j u hj => by simp at hj) (fun u hu => by simp at hu)
  · obtain ⟨b, o, rfl⟩ : ∃ b o, a = some ⟨b, o, none⟩ := by
      cases E with
      | nil => exact absurd rfl hx
      | cons e E => obtain ⟨b, o, h1, _⟩ := h.row 0 e rfl; exact ⟨b, o, h1⟩
    refine Src.ofSlice _ Try.undEd ⟨b, o, none⟩ E.length c (ev E) (by rw [ev_len]) (fun j u hj => ?_) (ev_one E)
    rw [addN]
    obtain ⟨t, e, he, h2⟩ := ev_at E j u hj
    obtain ⟨b', o', e', _, h3, h4⟩ := h.row t e he
    simp at e'
    obtain ⟨rfl, rfl⟩ := e'
    rcases h2 with ⟨rfl, rfl⟩ | ⟨rfl, rfl⟩
    · exact h3
    · rw [← Nat.add_assoc]; exact h4
theorem OwnK.alloc0 (w : World) (e : TypeId) (k : Nat) : OwnK (w.alloc (.cells #[] e)) e k w.heap.size 0 0 [] := ⟨by simp, #[], heap_alloc_new w _, Nat.le_refl _, by simp [maxLen], by simp, by simp⟩
end Go.Proofs.Ytghfikeakfiopaa

/- tenonref14.Visit.call: a call is written down. -/
namespace Go.Proofs.Ytghfikeakfiopaa
open Go.RowKit Go.ChangeMaps

def vcC (e0 e1 : Value) (P : Int) (gs : Option Nat) (n c : Nat) (e4 e5 e6 : Value) (ov : Bool) (er : Int) : Array Value := #[e0, e1, .int .i64 P, .slice (adr gs) n c, e4, e5, e6, .bool ov, .int .i64 er]
def CallE (vb : Nat) (e0 e1 : Value) (P : Int) (gs : Option Nat) (l : List (Int × Bool)) (e4 e5 e6 : Value) (ov : Bool) (er : Int) (x : Int) (b : Bool) (w : World) (e : Ending) (w' : World) : Prop :=
  ∃ g' c', e = .returned (.bool (!decide (((l.length + 1 : Nat) : Int) = P))) ∧ w'.heap[vb]? = some (.cells (vcC e0 e1 P (some g') (l.length + 1) c' e4 e5 e6 (if ((l.length + 1 : Nat) : Int) = P then true else ov) (if ((l.length + 1 : Nat) : Int) = P then 9 else er)) 33 (0, 0)) ∧ NdC w' (some g') c' (l ++ [(x, b)]) ∧ (gs = some g' ∨ w.heap.size < g') ∧ w.heap.size ≤ w'.heap.size ∧ (∀ k, k < w.heap.size → k ≠ vb → gs ≠ some k → w'.heap[k]? = w.heap[k]?) ∧ w'.os = w.os ∧ w'.tape = w.tape ∧ w'.output = w.output
set_option maxRecDepth 100000 in
set_option maxHeartbeats 4000000 in
theorem call_any (vb : Nat) (e0 e1 : Value) (P : Int) (gs : Option Nat) (c : Nat) (l : List (Int × Bool)) (e4 e5 e6 : Value) (ov : Bool) (er : Int) (x : Int) (b : Bool) (w : World) (hv : w.heap[vb]? = some (.cells (vcC e0 e1 P gs l.length c e4 e5 e6 ov er) 33 (0, 0))) (h : NdC w gs c l) (hg : gs ≠ some vb) (hl : l.length * 8 ≤ 140737488355328 / 4) :
    Calls Try.prog 33 #[.pointer (some ⟨vb, 0, none⟩), .int .u64 x, .bool b] w (CallE vb e0 e1 P gs l e4 e5 e6 ov er x b w) := by
  have c3 : w.cell? ⟨vb, 3, none⟩ = some (.slice (adr gs) l.length c) := by simp [World.cell?, hv, vcC]
  obtain ⟨g', c', w4, hap, ho4, hgr4, hor4⟩ := appC gs c l w h x b hl 30
  have hvl : vb < w.heap.size := (Array.getElem?_eq_some_iff.1 hv).1
  have hv4 : w4.heap[vb]? = some (.cells (vcC e0 e1 P gs l.length c e4 e5 e6 ov er) 33 (0, 0)) := by
    rw [hgr4.block vb (by rw [al_size]; omega) (fun e => hg e.symm), Below.heap_alloc _ _ _ hvl]; exact hv
  have d3 : ∀ o, (w.alloc o).cell? ⟨vb, 3, none⟩ = some (.slice (adr gs) l.length c) := fun o => by rw [World.cell?_of_block (w := w) (Below.heap_alloc w o vb hvl)]; exact c3
  have k3 : w4.cell? ⟨vb, 3, none⟩ = some (.slice (adr gs) l.length c) := by simp [World.cell?, hv4, vcC]
  have f4 : ∀ t, w4.frozen? ⟨vb, t, none⟩ = false := fun t => by simp [World.frozen?, hv4]
  go_enter Try.func33, Try.ntmps33
  go_wp2_with (at_builtin; refine wpList_ranS _ rfl _ _ 30 30 rfl _ _ _ _ rfl rfl hap ?_)
  obtain ⟨W5, hW5⟩ : ∃ W5, w4.setCell ⟨vb, 3, none⟩ (.slice (some ⟨g', 0, none⟩) (l.length + 1) c') = W5 := ⟨_, rfl⟩
  have hv5 : W5.heap[vb]? = some (.cells (vcC e0 e1 P (some g') (l.length + 1) c' e4 e5 e6 ov er) 33 (0, 0)) := by
    rw [← hW5, Sort.setCell_eq]; show (w4.heap.modify vb _)[vb]? = _
    rw [Array.getElem?_modify, if_pos rfl, hv4]; rfl
  rw [hW5]
  have m3 : W5.cell? ⟨vb, 3, none⟩ = some (.slice (some ⟨g', 0, none⟩) (l.length + 1) c') := by simp [World.cell?, hv5, vcC, adr]
  have m2 : W5.cell? ⟨vb, 2, none⟩ = some (.int .i64 P) := by simp [World.cell?, hv5, vcC]
  have HF : Hid (∀ X : World, (∀ k, k ≠ vb → X.heap[k]? = W5.heap[k]?) → X.heap.size = W5.heap.size → X.os = W5.os → X.tape = W5.tape → X.output = W5.output → NdC X (some g') c' (l ++ [(x, b)]) ∧ (gs = some g' ∨ w.heap.size < g') ∧ w.heap.size ≤ X.heap.size ∧ (∀ k, k < w.heap.size → k ≠ vb → gs ≠ some k → X.heap[k]? = w.heap[k]?) ∧ X.os = w.os ∧ X.tape = w.tape ∧ X.output = w.output) := by
    intro X h1 h2 h3 h4 h5
    have e5 : ∀ k, k ≠ vb → W5.heap[k]? = w4.heap[k]? := fun k hk => by rw [← hW5]; exact Below.heap_setCell w4 _ _ k hk
    have z5 : W5.heap.size = w4.heap.size := by rw [← hW5]; simp [World.setCell]
    have hs := hgr4.size
    rw [al_size] at hs
    have hgv : g' ≠ vb := by rintro rfl; rcases hor4 with h | h; exact hg h; omega
    refine ⟨⟨(fun h => by cases h), fun g hgg => ?_⟩, hor4, by omega, fun k k1 k2 k3 => ?_, ?_, ?_, ?_⟩
    · injection hgg with hgg; subst hgg
      have := ho4.keep ((h1 g' hgv).trans (e5 g' hgv))
      simpa using this
    · rw [h1 k k2, e5 k k2, hgr4.block k (by rw [al_size]; omega) (fun e => k3 e.symm), Below.heap_alloc _ _ _ k1]
    · rw [h3, ← hW5]; exact hgr4.os
    · rw [h4, ← hW5]; exact hgr4.tape
    · rw [h5, ← hW5]; exact hgr4.output
  have m7 : W5.cell? ⟨vb, 7, none⟩ = some (.bool ov) := by simp [World.cell?, hv5, vcC]
  have m8 : W5.cell? ⟨vb, 8, none⟩ = some (.int .i64 er) := by simp [World.cell?, hv5, vcC]
  have f5 : ∀ t, W5.frozen? ⟨vb, t, none⟩ = false := fun t => by simp [World.frozen?, hv5]
  clear hap ho4 hgr4 hor4 hv4 d3 k3 f4 hW5 h
  go_region
  by_cases hP : ((l.length + 1 : Nat) : Int) = P
  · have hE : ((l.length : Int) + 1 == P) = true := by simpa using hP
    rw [hE]
    have n8 : ∀ v, (W5.drew.setCell ⟨vb, 7, none⟩ v).cell? ⟨vb, 8, none⟩ = some (.int .i64 er) := fun v => by rw [World.cell?_setCell_other _ _ _ _ (by intro e; injection e with e1 e2; omega)]; exact m8
    go_wp2_with fail
    go_ret
    refine ⟨g', c', by rw [decide_eq_true hP]; rfl, ?_, HF.out _ ?_ ?_ rfl rfl rfl⟩
    · rw [if_pos hP, if_pos hP, Sort.setCell_eq, Sort.setCell_eq]
      show ((W5.heap.modify vb _).modify vb _)[vb]? = _
      rw [Array.getElem?_modify, if_pos rfl, Array.getElem?_modify, if_pos rfl, hv5]; rfl
    · intro k hk
      exact (Below.heap_setCell (W5.setCell ⟨vb, 7, none⟩ (.bool true)) ⟨vb, 8, none⟩ (.int .i64 9) k hk).trans (Below.heap_setCell W5 ⟨vb, 7, none⟩ (.bool true) k hk)
    · simp [World.setCell]
  · have hE : ((l.length : Int) + 1 == P) = false := by simpa using hP
    rw [hE]
    go_wp2_with fail
    go_ret
    exact ⟨g', c', by rw [decide_eq_false hP]; rfl, by rw [if_neg hP, if_neg hP]; exact hv5, HF.out _ (fun _ _ => rfl) rfl rfl rfl rfl⟩
end Go.Proofs.Ytghfikeakfiopaa

/- tenonref14: a Visit while the document's graph is walked: what it holds, and how it changes. -/
namespace Go.Proofs.Ytghfikeakfiopaa
open Go.RowKit Go.ChangeMaps

def BlsAt (w : World) (vb : Nat) (a : Option Addr) (l : List Bool) : Prop := ∀ t b, l[t]? = some b → ∃ g o, a = some ⟨g, o, none⟩ ∧ g < w.heap.size ∧ g ≠ vb ∧ w.cell? ⟨g, o + t, none⟩ = some (.bool b)
structure VSt (w0 : World) (vb gb : Nat) (N : List Int) (gn : Option Nat) (cn : Nat) (nx : Nat → List Nat) (lo xb : Nat) (bl : Nat → Option Nat) (cp : Nat → Nat) (aE : Option Addr) (En : List Bool) (aL : Option Addr) (Le : List Bool) : Prop where
  nds : RgN w0 gb gn cn N
  to : w0.cell? ⟨gb, 2, none⟩ = some (.slice (some ⟨xb, 0, none⟩) N.length N.length)
  nxt : NxR w0 lo xb N.length bl cp (fun t => (nx t).map (fun j : Nat => (j : Int)))
  gl : gb < w0.heap.size ∧ vb < w0.heap.size
  ne : gb ≠ vb ∧ (∀ g, gn = some g → g ≠ vb) ∧ xb ≠ vb ∧ ∀ t g, t < N.length → bl t = some g → g ≠ vb
  ent : BlsAt w0 vb aE En
  lev : BlsAt w0 vb aL Le
  nb : ∀ t, t < N.length → ∀ j ∈ nx t, j < N.length
  nl : N.length ≤ 4096 ∧ ∀ t, t < N.length → (nx t).length ≤ 4096

structure VIx (w0 : World) (vb inb n : Nat) (eE eL : Value) (P : Int) (K : Nat) (gs : Option Nat) (c : Nat) (st : Wst VS) (ov : Bool) (er : Int) (W : World) : Prop where
  vis : W.heap[vb]? = some (.cells (vcC eE eL P gs st.2.calls.length c (.slice (some ⟨inb, 0, none⟩) n n) (.int .i64 st.2.en) (.int .i64 st.2.le) ov er) 33 (0, 0))
  cal : NdC W gs c st.2.calls
  cne : ∀ g, gs = some g → w0.heap.size ≤ g ∧ g ≠ inb
  ent : OwnR W 4 inb n n (bv st.1)
  old : vb < w0.heap.size ∧ w0.heap.size ≤ inb
  fr : Kw (fun k => k = vb) w0 W
  bd : st.2.calls.length + 2 * Sp.cf st.1 ≤ K
  es : st.2.en ≤ st.2.calls.length ∧ st.2.le ≤ st.2.calls.length
section
variable {w0 W : World} {vb inb n : Nat} {eE eL : Value} {P : Int} {K : Nat} {gs : Option Nat} {c : Nat} {st : Wst VS} {ov : Bool} {er : Int}
theorem VIx.len (h : VIx w0 vb inb n eE eL P K gs c st ov er W) : st.1.length = n := by simpa using h.ent.len
theorem VIx.ne (h : VIx w0 vb inb n eE eL P K gs c st ov er W) : inb ≠ vb ∧ gs ≠ some vb := ⟨by have := h.old; omega, fun e => by have := (h.cne vb e).1; have := h.old; omega⟩
theorem VIx.cells (h : VIx w0 vb inb n eE eL P K gs c st ov er W) : W.cell? ⟨vb, 0, none⟩ = some eE ∧ W.cell? ⟨vb, 1, none⟩ = some eL ∧ W.cell? ⟨vb, 4, none⟩ = some (.slice (some ⟨inb, 0, none⟩) n n) ∧ W.cell? ⟨vb, 5, none⟩ = some (.int .i64 st.2.en) ∧ W.cell? ⟨vb, 6, none⟩ = some (.int .i64 st.2.le) ∧ W.cell? ⟨vb, 7, none⟩ = some (.bool ov) ∧ ∀ i, W.frozen? ⟨vb, i, none⟩ = false := by
  refine ⟨?_, ?_, ?_, ?_, ?_, ?_, fun i => ?_⟩ <;> simp [World.cell?, World.frozen?, h.vis, vcC]
theorem VIx.entc (h : VIx w0 vb inb n eE eL P K gs c st ov er W) {j : Nat} (hj : j < n) : W.cell? ⟨inb, j, none⟩ = some (.bool (st.1.getD j false)) ∧ W.frozen? ⟨inb, j, none⟩ = false := by
  have hl := h.len
  refine ⟨h.ent.cell ?_, h.ent.free j⟩
  simp [bv, List.getD_eq_getElem?_getD, List.getElem?_eq_getElem (show j < st.1.length by omega)]
theorem VIx.stc (h : VIx w0 vb inb n eE eL P K gs c st ov er W) {b o : Nat} (hb : b < w0.heap.size) (hn : b ≠ vb) : W.cell? ⟨b, o, none⟩ = w0.cell? ⟨b, o, none⟩ := World.cell?_of_block (h.fr.block b hb hn)
theorem VIx.drew (h : VIx w0 vb inb n eE eL P K gs c st ov er W) : VIx w0 vb inb n eE eL P K gs c st ov er W.drew := ⟨h.vis, h.cal.keep (fun _ _ => rfl), h.cne, h.ent.keep rfl, h.old, h.fr.drew, h.bd, h.es⟩
theorem VIx.mark (h : VIx w0 vb inb n eE eL P K gs c st ov er W) {j : Nat} (hj : st.1[j]? = some false) : 2 ≤ K ∧ VIx w0 vb inb n eE eL P (K - 2) gs c (st.1.set j true, st.2) ov er (W.setCell ⟨inb, j, none⟩ (.bool true)) := by
  have e : ∀ k, k ≠ inb → (W.setCell ⟨inb, j, none⟩ (.bool true)).heap[k]? = W.heap[k]? := fun k hk => Below.heap_setCell W _ _ k hk
  have hc := cf_set hj
  have hbd := h.bd
  refine ⟨by omega, (e vb h.ne.1.symm).trans h.vis, h.cal.keep (fun g hg => e g (h.cne g hg).2), h.cne, ?_, h.old, h.fr.set (.inr h.old.2) _, by show st.2.calls.length + 2 * Sp.cf (st.1.set j true) ≤ _; omega, h.es⟩
  have := h.ent.set j (.bool true)
  rw [show bv (st.1.set j true) = (bv st.1).set j (.bool true) from List.map_set]
  exact this
theorem VIx.put (h : VIx w0 vb inb n eE eL P K gs c st ov er W) (i : Nat) (v : Value) {st' : VS} {ov' : Bool} {er' : Int} (hc : st'.calls = st.2.calls) (he : st'.en ≤ st.2.calls.length ∧ st'.le ≤ st.2.calls.length)
    (hv : (vcC eE eL P gs st.2.calls.length c (.slice (some ⟨inb, 0, none⟩) n n) (.int .i64 st.2.en) (.int .i64 st.2.le) ov er).setIfInBounds i v = vcC eE eL P gs st.2.calls.length c (.slice (some ⟨inb, 0, none⟩) n n) (.int .i64 st'.en) (.int .i64 st'.le) ov' er') :
    VIx w0 vb inb n eE eL P K gs c (st.1, st') ov' er' (W.setCell ⟨vb, i, none⟩ v) := by
  have e : ∀ k, k ≠ vb → (W.setCell ⟨vb, i, none⟩ v).heap[k]? = W.heap[k]? := fun k hk => Below.heap_setCell W _ _ k hk
  refine ⟨?_, ?_, h.cne, h.ent.keep (e inb h.ne.1), h.old, h.fr.set (.inl rfl) _, by rw [hc]; exact h.bd, by rw [hc]; exact he⟩
  · rw [Sort.setCell_eq]; show (W.heap.modify vb _)[vb]? = _
    rw [Array.getElem?_modify, if_pos rfl, h.vis]
    show some (Obj.cells (Array.setIfInBounds _ i v) _ _) = _
    rw [hv, hc]
  · rw [hc]; exact h.cal.keep (fun g hg => e g (fun e' => h.ne.2 (e' ▸ hg)))
theorem VIx.en (h : VIx w0 vb inb n eE eL P K gs c st ov er W) (hl : st.2.en + 1 ≤ st.2.calls.length) : VIx w0 vb inb n eE eL P K gs c (st.1, ⟨st.2.calls, st.2.en + 1, st.2.le⟩) ov er (W.setCell ⟨vb, 5, none⟩ (.int .i64 ((st.2.en + 1 : Nat) : Int))) := h.put 5 _ (st' := ⟨st.2.calls, st.2.en + 1, st.2.le⟩) rfl ⟨hl, h.es.2⟩ rfl
theorem VIx.le (h : VIx w0 vb inb n eE eL P K gs c st ov er W) (hl : st.2.le + 1 ≤ st.2.calls.length) : VIx w0 vb inb n eE eL P K gs c (st.1, ⟨st.2.calls, st.2.en, st.2.le + 1⟩) ov er (W.setCell ⟨vb, 6, none⟩ (.int .i64 ((st.2.le + 1 : Nat) : Int))) := h.put 6 _ (st' := ⟨st.2.calls, st.2.en, st.2.le + 1⟩) rfl ⟨h.es.1, hl⟩ rfl
theorem VIx.setOv (h : VIx w0 vb inb n eE eL P K gs c st ov er W) (b : Bool) : VIx w0 vb inb n eE eL P K gs c st b er (W.setCell ⟨vb, 7, none⟩ (.bool b)) := h.put 7 _ (st' := st.2) rfl h.es rfl
theorem VIx.call (h : VIx w0 vb inb n eE eL P K gs c st false 0 W) {x : Int} {b : Bool} {e : Ending} {W' : World} (hc : CallE vb eE eL P gs st.2.calls (.slice (some ⟨inb, 0, none⟩) n n) (.int .i64 st.2.en) (.int .i64 st.2.le) false 0 x b W e W') :
    e = .returned (.bool (!decide (((st.2.calls.length + 1 : Nat) : Int) = P))) ∧ ∃ g' c', VIx w0 vb inb n eE eL P (K + 1) g' c' (st.1, ⟨st.2.calls ++ [(x, b)], st.2.en, st.2.le⟩) (decide (((st.2.calls.length + 1 : Nat) : Int) = P)) (if ((st.2.calls.length + 1 : Nat) : Int) = P then 9 else 0) W' := by
  obtain ⟨g', c', rfl, h1, h2, h3, h4, h5, h6, h7, h8⟩ := hc
  refine ⟨rfl, some g', c', ?_, h2, fun g hg => ?_, h.ent.keep (h5 inb h.ent.lt h.ne.1 (fun e => (h.cne inb e).2 rfl)), h.old, ?_, ?_, ?_⟩
  · rw [h1]
    simp only [List.length_append, List.length_cons, List.length_nil]
    by_cases hp : ((st.2.calls.length + 1 : Nat) : Int) = P
    · rw [if_pos hp, decide_eq_true hp]
    · rw [if_neg hp, decide_eq_false hp]
  · injection hg with hg; subst hg
    have hf := h.fr.size
    have hl := h.ent.lt
    rcases h3 with h3 | h3
    · exact h.cne g' h3
    · omega
  · exact ⟨h6.trans h.fr.os, h7.trans h.fr.tape, h8.trans h.fr.output, Nat.le_trans h.fr.size h4, fun k k1 k2 => (h5 k (Nat.lt_of_lt_of_le k1 h.fr.size) k2 (fun e => by have := (h.cne k e).1; omega)).trans (h.fr.block k k1 k2)⟩
  · have := h.bd
    simp only [List.length_append, List.length_cons, List.length_nil]
    omega
  · have := h.es
    simp only [List.length_append, List.length_cons, List.length_nil]
    omega
end
def VIr (w0 : World) (vb inb n : Nat) (eE eL : Value) (P : Int) (K : Nat) (r : Option Bool × Wst VS) (W : World) : Prop := ∃ gs c, VIx w0 vb inb n eE eL P K gs c r.2 (!decide (r.1 = some true)) (if r.1 = none then 9 else 0) W
end Go.Proofs.Ytghfikeakfiopaa


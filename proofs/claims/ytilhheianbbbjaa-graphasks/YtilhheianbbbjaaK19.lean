/- tenonref14.Make: what stands between its steps. -/
import Derived.Test.YtilhheianbbbjaaK17
import Derived.Test.YtilhheianbbbjaaK18
import Derived.Test.YtilhheianbbbjaaK12
namespace Go.Proofs.Ytilhheianbbbjaa
open Go.RowKit Go.ChangeMaps

theorem srt_snoc {l : List Int} {x : Int} (hn : l.Nodup) (hx : x ∉ l) : Sp.srt (l ++ [x]) = (Sp.srt l).take (Sp.fnd (Sp.srt l) x) ++ [x] ++ (Sp.srt l).drop (Sp.fnd (Sp.srt l) x) := by
  have hx' : x ∉ Sp.srt l := fun h => hx (srt_mem.1 h)
  have e : (Sp.srt l).take (Sp.fnd (Sp.srt l) x) ++ [x] ++ (Sp.srt l).drop (Sp.fnd (Sp.srt l) x) = Sp.ins (Sp.srt l) x := by unfold Sp.ins; rw [if_neg hx']
  rw [e]
  refine ext_ltI (srt_lt ?_) (ins_lt (srt_lt hn) x) fun y => ?_
  · rw [List.nodup_append]
    exact ⟨hn, by simp, fun a ha b hb => by simp at hb; subst hb; exact fun e => hx (e ▸ ha)⟩
  · rw [srt_mem, ins_mem, List.mem_append, List.mem_singleton, srt_mem]
structure M1x (w : World) (gb : Nat) (l : List Int) (gs : Option Nat) (c : Nat) (wr : World) : Prop where
  cells : wr.heap[gb]? = some (.cells #[.slice (adr gs) l.length c, .slice none 0 0, .slice none 0 0] 70 (0, 0))
  nds : Nds wr gs c l
  c0 : gs = none → c = 0
  lo : w.heap.size ≤ gb ∧ ∀ g, gs = some g → w.heap.size ≤ g ∧ g ≠ gb
  bel : Below w.heap.size w wr
theorem M1x.cell {w wr : World} {gb : Nat} {l : List Int} {gs : Option Nat} {c : Nat} (h : M1x w gb l gs c wr) : gb < wr.heap.size ∧ ∀ W : World, W.heap[gb]? = wr.heap[gb]? → W.cell? ⟨gb, 0, none⟩ = some (.slice (adr gs) l.length c) ∧ W.cell? ⟨gb, 2, none⟩ = some (.slice none 0 0) ∧ ∀ o, W.frozen? ⟨gb, o, none⟩ = false :=
  ⟨(Array.getElem?_eq_some_iff.1 h.cells).1, fun W hW => ⟨by simp [World.cell?, hW, h.cells], by simp [World.cell?, hW, h.cells], fun o => by simp [World.frozen?, hW, h.cells]⟩⟩
theorem M1x.step {w wr w3 : World} {gb : Nat} {l l' : List Int} {gs : Option Nat} {c g3 c3 : Nat} (h : M1x w gb l gs c wr) (ho : OwnR w3 25 g3 l'.length c3 (rv l')) (hb : Below wr.heap.size wr w3) (hg : wr.heap.size ≤ g3) :
    M1x w gb l' (some g3) c3 (w3.setCell ⟨gb, 0, none⟩ (.slice (some ⟨g3, 0, none⟩) l'.length c3)) := by
  have hgl := h.cell.1
  have hne : g3 ≠ gb := by omega
  refine ⟨?_, ⟨(fun e => by cases e), fun g hg => ?_⟩, (fun e => by cases e), ⟨h.lo.1, fun g hg' => ?_⟩, ?_⟩
  · rw [Sort.setCell_eq]; show (w3.heap.modify gb _)[gb]? = _
    rw [Array.getElem?_modify, if_pos rfl, hb.block gb hgl, h.cells]; rfl
  · injection hg with hg; subst hg
    exact ho.keep (Below.heap_setCell w3 _ _ _ hne)
  · injection hg' with hg'; subst hg'
    exact ⟨Nat.le_trans h.bel.size hg, hne⟩
  · have h2 := h.bel.trans (hb.mono h.bel.size)
    exact ⟨h2.os, h2.tape, h2.output, by simpa [World.setCell] using h2.size, fun k hk => (Below.heap_setCell w3 _ _ k (show k ≠ gb by have := h.lo.1; omega)).trans (h2.block k hk)⟩
def M1 (w : World) (gb : Nat) (nodes : List Int) (i : Nat) (wr : World) : Prop := ∃ gs c, M1x w gb (Sp.srt (nodes.take i)) gs c wr ∧ (0 : Int) ∉ nodes.take i ∧ (nodes.take i).Nodup

structure M2x (w : World) (gb : Nat) (N : List Int) (gs : Option Nat) (c xb : Nat) (E : List (Int × Int)) (bl : Nat → Option Nat) (cp : Nat → Nat) (wr : World) : Prop where
  cells : wr.heap[gb]? = some (.cells #[.slice (adr gs) N.length c, .slice none 0 0, .slice (some ⟨xb, 0, none⟩) N.length N.length] 70 (0, 0))
  nds : Nds wr gs c N
  nxt : NxR wr (xb + 1) xb N.length bl cp (fun t => (Sp.nx N E t).map (fun j : Nat => (j : Int)))
  lo : w.heap.size ≤ gb ∧ gb < xb ∧ ∀ g, gs = some g → w.heap.size ≤ g ∧ g ≠ gb ∧ g < xb
  bel : Below w.heap.size w wr
theorem M2x.cell {w wr : World} {gb : Nat} {N : List Int} {gs : Option Nat} {c xb : Nat} {E : List (Int × Int)} {bl : Nat → Option Nat} {cp : Nat → Nat} (h : M2x w gb N gs c xb E bl cp wr) : gb < wr.heap.size ∧ RgN wr gb gs c N ∧ wr.cell? ⟨gb, 2, none⟩ = some (.slice (some ⟨xb, 0, none⟩) N.length N.length) :=
  ⟨(Array.getElem?_eq_some_iff.1 h.cells).1, ⟨by simp [World.cell?, h.cells], h.nds⟩, by simp [World.cell?, h.cells]⟩
theorem nx_snoc {N : List Int} (hp : N.Pairwise (· < ·)) {E : List (Int × Int)} {e : Int × Int} {f p : Nat} (hf : N[f]? = some e.1) (hpp : N[p]? = some e.2) {t : Nat} (ht : t < N.length) :
    (Sp.nx N (E ++ [e]) t).map (fun j : Nat => (j : Int)) = if t = f then Sp.ins ((Sp.nx N E f).map fun j : Nat => (j : Int)) (p : Int) else (Sp.nx N E t).map (fun j : Nat => (j : Int)) := by
  have hnd : N.Nodup := hp.imp (by intro a b h e; omega)
  have up : ∀ l : List Nat, l.Pairwise (· < ·) → (l.map fun j : Nat => (j : Int)).Pairwise (· < ·) := fun l h => by rw [List.pairwise_map]; exact h.imp (by intro a b h; omega)
  have hg : ∀ s, s < N.length → ∀ q y, N[q]? = some y → (N.getD s 0 = y ↔ s = q) := fun s hs q y hq => by
    rw [List.getD_eq_getElem?_getD, List.getElem?_eq_getElem hs]
    simp only [Option.getD_some]
    constructor
    · intro h
      have h1 : N[s]? = some y := by rw [List.getElem?_eq_getElem hs, h]
      rw [← idx_of hnd h1, ← idx_of hnd hq]
    · rintro rfl
      rw [List.getElem?_eq_getElem hs] at hq
      exact Option.some.inj hq
  by_cases htf : t = f
  · subst htf
    rw [if_pos rfl]
    refine ext_ltI (up _ (nx_lt _ _ _)) (ins_lt (up _ (nx_lt _ _ _)) _) fun y => ?_
    rw [ins_mem, List.mem_map, List.mem_map]
    have hpl := (List.getElem?_eq_some_iff.1 hpp).1
    have h2 := hg p hpl p e.2 hpp
    constructor
    · rintro ⟨j, hj, rfl⟩
      rw [nx_mem, List.mem_append, List.mem_singleton] at hj
      rcases hj with ⟨hjn, hj | hj⟩
      · exact .inl ⟨j, nx_mem.2 ⟨hjn, hj⟩, rfl⟩
      · right
        have := (hg j hjn p e.2 hpp).1 (by rw [← hj])
        omega
    · rintro (⟨j, hj, rfl⟩ | rfl)
      · rw [nx_mem] at hj
        exact ⟨j, nx_mem.2 ⟨hj.1, List.mem_append_left _ hj.2⟩, rfl⟩
      · refine ⟨p, nx_mem.2 ⟨hpl, List.mem_append_right _ ?_⟩, rfl⟩
        rw [List.mem_singleton, (hg t ht t e.1 hf).2 rfl, h2.2 rfl]
  · rw [if_neg htf]
    congr 1
    refine ext_ltN (nx_lt _ _ _) (nx_lt _ _ _) fun j => ?_
    rw [nx_mem, nx_mem, List.mem_append, List.mem_singleton]
    constructor
    · rintro ⟨h1, h2 | h2⟩
      · exact ⟨h1, h2⟩
      · exact absurd ((hg t ht f e.1 hf).1 (by rw [← h2])) htf
    · rintro ⟨h1, h2⟩
      exact ⟨h1, .inl h2⟩
theorem M2x.step {w wr w1 : World} {gb : Nat} {N : List Int} {gs : Option Nat} {c xb : Nat} {E : List (Int × Int)} {bl : Nat → Option Nat} {cp : Nat → Nat} (h : M2x w gb N gs c xb E bl cp wr) (hp : N.Pairwise (· < ·)) {e : Int × Int} {f p g' c' : Nat} (hf : N[f]? = some e.1) (hpp : N[p]? = some e.2)
    (hn : NdI w1 (some g') c' (Sp.ins ((Sp.nx N E f).map fun j : Nat => (j : Int)) (p : Int))) (hb : Below wr.heap.size wr w1) (ho : bl f = some g' ∨ wr.heap.size ≤ g') :
    ∃ bl' cp', M2x w gb N gs c xb (E ++ [e]) bl' cp' (w1.setCell ⟨xb, f, none⟩ (.slice (some ⟨g', 0, none⟩) (Sp.ins ((Sp.nx N E f).map fun j : Nat => (j : Int)) (p : Int)).length c')) := by
  have hfn := (List.getElem?_eq_some_iff.1 hf).1
  have hxl := h.nxt.lt.1
  have hgl := h.cell.1
  obtain ⟨⟨cur, q1, q2, q3⟩, q4, q5, q6⟩ := h.nxt.put (w1 := w1) (g' := g') (c' := c') hfn (Nat.lt_succ_self _) (hb.block xb hxl) (fun k hk _ => hb.block k hk) (hn.2 g' rfl) ho hxl
  have hR : ∀ t, t < N.length → (Sp.nx N (E ++ [e]) t).map (fun j : Nat => (j : Int)) = if t = f then Sp.ins ((Sp.nx N E f).map fun j : Nat => (j : Int)) (p : Int) else (Sp.nx N E t).map (fun j : Nat => (j : Int)) := fun t ht => nx_snoc hp hf hpp ht
  have e2 : ∀ k, k ≠ xb → (w1.setCell ⟨xb, f, none⟩ (.slice (some ⟨g', 0, none⟩) (Sp.ins ((Sp.nx N E f).map fun j : Nat => (j : Int)) (p : Int)).length c')).heap[k]? = w1.heap[k]? := fun k hk => Below.heap_setCell w1 _ _ k hk
  refine ⟨_, _, (e2 gb (by have := h.lo; omega)).trans ((hb.block gb hgl).trans h.cells), h.nds.keep (fun g hg => (e2 g (by have := (h.lo.2.2 g hg).2.2; omega)).trans (hb.block g (by have := (h.lo.2.2 g hg).2.2; omega))), ⟨⟨cur, q1, q2, fun t ht => by rw [hR t ht]; exact q3 t ht⟩, fun t ht => by rw [hR t ht]; exact q4 t ht, q5, q6⟩, h.lo, ?_⟩
  have h2 := h.bel.trans (hb.mono h.bel.size)
  exact ⟨h2.os, h2.tape, h2.output, by simpa [World.setCell] using h2.size, fun k hk => (e2 k (by have := h.lo; omega)).trans (h2.block k hk)⟩
def M2 (w : World) (gb : Nat) (N : List Int) (E : List (Int × Int)) (i : Nat) (wr : World) : Prop := ∃ gs c xb bl cp, M2x w gb N gs c xb (E.take i) bl cp wr ∧ ∀ e ∈ E.take i, e.1 ∈ N ∧ e.2 ∈ N
def RgE (w : World) (D : Nat → Prop) (gb : Nat) (N : List Int) (nx : Nat → List Nat) : Prop := ∃ gn cn ge ce lo xb bl cp, RgP w D gb N nx (Sp.eds N nx N.length 0) gn cn ge ce lo xb bl cp
def MkR (w : World) (nodes : List Int) (E : List (Int × Int)) (p : Option Addr) (w' : World) : Prop :=
  Below w.heap.size w w' ∧ (Sp.mkE nodes E = 0 → ∃ gb, p = some ⟨gb, 0, none⟩ ∧ RgE w' (fun k => w.heap.size ≤ k ∧ k < w'.heap.size) gb (Sp.srt nodes) (Sp.nx (Sp.srt nodes) E)) ∧ (Sp.mkE nodes E ≠ 0 → p = none)
theorem MkR.of {w wr w' : World} {nodes : List Int} {E : List (Int × Int)} {gb : Nat} {gs : Option Nat} {c xb : Nat} {bl : Nat → Option Nat} {cp : Nat → Nat} (h : M2x w gb (Sp.srt nodes) gs c xb E bl cp wr) (hk : Sp.mkE nodes E = 0) (he : EdI wr gb (Sp.srt nodes) (Sp.nx (Sp.srt nodes) E) gs c xb (Sp.srt nodes).length 0 w') : MkR w nodes E (some ⟨gb, 0, none⟩) w' := by
  obtain ⟨ge, ce, h1, h2, h3, h4⟩ := he
  have hgl := h.cell.1
  have hxl := h.nxt.lt
  have hs := h.bel.size
  refine ⟨⟨h4.os.trans h.bel.os, h4.tape.trans h.bel.tape, h4.output.trans h.bel.output, Nat.le_trans hs h4.size, fun k hk => (h4.block k (Nat.lt_of_lt_of_le hk hs) (by have := h.lo; omega)).trans (h.bel.block k hk)⟩, fun _ => ⟨gb, rfl, gs, c, ge, ce, xb + 1, xb, bl, cp, h1, h.nds.keep (fun g hg => h4.block g ((h.nds.2 g hg).lt) (h.lo.2.2 g hg).2.1), h2, h.nxt.keep (h4.block xb hxl.1 (by have := h.lo; omega)) (fun t g ht hg => h4.block g (hxl.2 t g ht hg) (by have := h.nxt.lo t g ht hg; have := h.lo; omega)), ?_⟩, fun hne => absurd hk hne⟩
  have hz := h4.size
  refine ⟨⟨h.lo.1, by omega⟩, ⟨by have := h.lo; omega, by omega⟩, fun g hg => ⟨(h.lo.2.2 g hg).1, by have := (h.nds.2 g hg).lt; omega⟩, fun g hg => ⟨Nat.le_trans hs (h3 g hg), (h2.2 g hg).lt⟩, fun t g ht hg => ⟨by have := h.nxt.lo t g ht hg; have := h.lo; omega, by have := hxl.2 t g ht hg; omega⟩⟩
end Go.Proofs.Ytilhheianbbbjaa


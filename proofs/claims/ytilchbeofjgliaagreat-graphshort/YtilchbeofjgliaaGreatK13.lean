/- slices.Sort and slices.Compact at ints, told of rows of one's own; rising rows without repeats. -/
import Derived.Test.YtilchbeofjgliaaGreatK12
import Derived.Test.YtilchbeofjgliaaGreatK8
namespace Go.Proofs.YtilchbeofjgliaaGreat
open Go.RowKit Go.ChangeMaps

theorem put_own {w : World} {e : TypeId} {g n c : Nat} {l : List Int} (h : OwnR w e g n c (iv l)) (d' : List Int) (hd : d'.length = n) (q : Nat) (os : Array Obj) :
    OwnR (Sort.grow (Sort.putRow (Value.int .i64) (Sort.ahead w q) g 0 d'.toArray) os) e g n c (iv d') ∧ Srt w (some g) (Sort.grow (Sort.putRow (Value.int .i64) (Sort.ahead w q) g 0 d'.toArray) os) := by
  obtain ⟨cur, h1, h2, h3, h4, h5⟩ := h.blk
  have hg : g < w.heap.size := (Array.getElem?_eq_some_iff.1 h1).1
  have e0 : ∀ k, k < w.heap.size → (Sort.grow (Sort.putRow (Value.int .i64) (Sort.ahead w q) g 0 d'.toArray) os).heap[k]? = (w.heap.modify g (Sort.onCells (Sort.putCells (Value.int .i64) 0 d'.toArray)))[k]? := fun k hk => by
    show ((w.heap.modify g _) ++ os)[k]? = _
    rw [Array.getElem?_append_left (by simpa using hk)]
  refine ⟨⟨by simp [iv, hd], Sort.putCells (Value.int .i64) 0 d'.toArray cur, ?_, h2, h3, by simpa [Sort.putCells] using h4, ?_⟩, rfl, rfl, rfl, ?_, fun j h6 h7 => ?_⟩
  · rw [e0 g hg, Array.getElem?_modify, if_pos rfl, h1]; rfl
  · apply List.ext_getElem?
    intro t
    by_cases ht : t < n
    · rw [List.getElem?_take, if_pos ht]
      have htc : t < cur.size := by omega
      have htd : t < d'.length := by omega
      simp [iv, Sort.putCells, htc, htd]
    · rw [List.getElem?_eq_none (by simp [iv]; omega), List.getElem?_eq_none (by simp; omega)]
  · show w.heap.size ≤ ((w.heap.modify g _) ++ os).size
    simp
  · rw [e0 j h6, Array.getElem?_modify, if_neg (fun e => h7 (by rw [e]))]
theorem OwnR.shrink {w : World} {e : TypeId} {g n c m : Nat} {xs : List Value} (h : OwnR w e g n c xs) (hm : m ≤ n) : OwnR w e g m c (xs.take m) := by
  obtain ⟨cur, h1, h2, h3, h4, h5⟩ := h.blk
  exact ⟨by rw [List.length_take, h.len]; omega, cur, h1, by omega, h3, h4, by rw [h5, List.take_take, Nat.min_eq_left hm]⟩
theorem OwnR.holdsI {w : World} {e : TypeId} {g n cap : Nat} {l : List Int} (h : OwnR w e g n cap (iv l)) : Sort.Holds (Value.int .i64) w g 0 l.toArray := fun j hj => by
  have hj' : j < l.length := by simpa using hj
  refine ⟨?_, h.free _⟩
  rw [Nat.zero_add, h.cell (t := j) (x := .int .i64 l[j]) (by simp [hj'])]
  simp [hj']
theorem comp_len (l : List Int) : (Lib.compact l).length ≤ l.length := by
  unfold Lib.compact Lib.compactUpTo
  rw [List.length_map]
  have := List.length_filter_le (Lib.keeps l.toArray) (List.range l.length)
  simpa using this
theorem comp_invA (d : Array Int) (hs : ∀ i j, i ≤ j → j < d.size → d[i]! ≤ d[j]!) : ∀ m, m ≤ d.size → (Lib.compactUpTo d m).Pairwise (· < ·) ∧ ∀ x, x ∈ Lib.compactUpTo d m ↔ ∃ j, j < m ∧ d[j]! = x
  | 0, _ => ⟨by simp [Lib.compactUpTo], fun x => by simp [Lib.compactUpTo]⟩
  | m + 1, hm => by
    obtain ⟨h1, h2⟩ := comp_invA d hs m (by omega)
    rw [Lib.compactUpTo_succ]
    by_cases hk : Lib.keeps d m = true
    · rw [if_pos hk]
      have hkk : m = 0 ∨ d[m]! ≠ d[m - 1]! := by simpa [Lib.keeps] using hk
      refine ⟨?_, fun x => ?_⟩
      · rw [List.pairwise_append]
        refine ⟨h1, by simp, fun y hy z hz => ?_⟩
        simp at hz; subst hz
        obtain ⟨j, hj, rfl⟩ := (h2 y).1 hy
        have a1 := hs j (m - 1) (by omega) (by omega)
        have a2 := hs (m - 1) m (by omega) (by omega)
        rcases hkk with h | h
        · omega
        · omega
      · rw [List.mem_append, h2 x, List.mem_singleton]
        constructor
        · rintro (⟨j, hj, e⟩ | e)
          · exact ⟨j, by omega, e⟩
          · exact ⟨m, by omega, e.symm⟩
        · rintro ⟨j, hj, e⟩
          by_cases hjm : j = m
          · subst hjm; exact .inr e.symm
          · exact .inl ⟨j, by omega, e⟩
    · rw [if_neg hk, List.append_nil]
      have hkk : ¬ (m = 0 ∨ d[m]! ≠ d[m - 1]!) := by simpa [Lib.keeps] using hk
      refine ⟨h1, fun x => ?_⟩
      rw [h2 x]
      constructor
      · rintro ⟨j, hj, e⟩; exact ⟨j, by omega, e⟩
      · rintro ⟨j, hj, e⟩
        by_cases hjm : j = m
        · subst hjm
          refine ⟨j - 1, by omega, ?_⟩
          rw [← e]
          apply Classical.byContradiction
          intro hne
          exact hkk (.inr (fun h => hne h.symm))
        · exact ⟨j, by omega, e⟩
theorem comp_inv (l : List Int) (hs : l.Pairwise (· ≤ ·)) : (Lib.compact l).Pairwise (· < ·) ∧ ∀ x, x ∈ Lib.compact l ↔ x ∈ l := by
  have h := comp_invA l.toArray (fun i j hij hj => by
    have hj' : j < l.length := by simpa using hj
    have hi' : i < l.length := by omega
    simp [hj', hi']
    rcases Nat.lt_or_ge i j with h | h
    · exact List.pairwise_iff_getElem.1 hs i j hi' hj' h
    · obtain rfl : i = j := by omega
      exact Int.le_refl _) l.length (by simp)
  refine ⟨h.1, fun x => (h.2 x).trans ?_⟩
  rw [List.mem_iff_getElem]
  constructor
  · rintro ⟨j, hj, e⟩; exact ⟨j, hj, by simpa [hj] using e⟩
  · rintro ⟨j, hj, e⟩; exact ⟨j, hj, by simpa [hj] using e⟩
theorem sortI (gs : Option Nat) (c : Nat) (l : List Int) (w : World) (h : NdI w gs c l) (hl : l.length < 4611686018427387904) :
    Calls Tryz.prog 49 #[.slice (adr gs) l.length c] w fun e w' => e = .returned (.tuple #[]) ∧ NdI w' gs c (Sp.srt l) ∧ Srt w gs w' := by
  cases gs with
  | none =>
    obtain ⟨rfl, rfl⟩ := h.1 rfl
    refine (Tryz.slices_Sort_int_none none 0 w).mono ?_
    rintro e w' ⟨rfl, rfl⟩
    exact ⟨rfl, ⟨fun _ => ⟨by simp [Sp.srt], rfl⟩, fun g hg => by cases hg⟩, Srt.refl _ _⟩
  | some g =>
    have ho := h.2 g rfl
    refine (Tryz.slices_Sort_int g 0 c l w ho.holdsI ho.lt hl).mono ?_
    rintro e w' ⟨rfl, q, os, rfl⟩
    have hp := put_own ho (Sp.srt l) (srt_len l) q os
    refine ⟨rfl, ⟨(fun h => by cases h), fun g' hg => ?_⟩, hp.2⟩
    injection hg with hg; subst hg
    rw [srt_len]; exact hp.1
theorem compI (gs : Option Nat) (c : Nat) (l : List Int) (w : World) (h : NdI w gs c l) (hl : l.length ≤ 9223372036854775807) :
    Calls Tryz.prog 50 #[.slice (adr gs) l.length c] w fun e w' => e = .returned (.slice (adr gs) (Lib.compact l).length c) ∧ NdI w' gs c (Lib.compact l) ∧ Srt w gs w' := by
  cases gs with
  | none =>
    obtain ⟨rfl, rfl⟩ := h.1 rfl
    refine (Tryz.slices_Compact_int_empty none 0 w).mono ?_
    rintro e w' ⟨rfl, rfl⟩
    exact ⟨rfl, ⟨fun _ => ⟨rfl, rfl⟩, fun g hg => by cases hg⟩, Srt.refl _ _⟩
  | some g =>
    have ho := h.2 g rfl
    obtain ⟨cur, _, hcap, _⟩ := ho.blk
    refine (Tryz.slices_Compact_int g 0 c l w ho.holdsI hl hcap).mono ?_
    rintro e w' ⟨rfl, q, rfl⟩
    have hcl : (Lib.compact l).length ≤ l.length := comp_len l
    have hp := put_own ho (Lib.compact l ++ List.replicate (l.length - (Lib.compact l).length) 0) (by simp; omega) q #[]
    rw [Sort.grow_empty] at hp
    refine ⟨rfl, ⟨(fun h => by cases h), fun g' hg => ?_⟩, hp.2⟩
    injection hg with hg; subst hg
    have := hp.1.shrink hcl
    rw [show (iv (Lib.compact l ++ List.replicate (l.length - (Lib.compact l).length) 0)).take (Lib.compact l).length = iv (Lib.compact l) from by rw [iv, List.map_append]; exact List.take_left' (by simp)] at this
    exact this
theorem comp_nx {N : List Int} {E : List (Int × Int)} (hn : N.Nodup) (hE : ∀ e ∈ E, e.1 ∈ N ∧ e.2 ∈ N) {t : Nat} (ht : t < N.length) : Lib.compact (Sp.srt (Sp.rw N E t)) = (Sp.nx N E t).map (fun j : Nat => (j : Int)) := by
  have hc := comp_inv (Sp.srt (Sp.rw N E t)) (srt_le _)
  have hgt : N.getD t 0 = N[t] := by rw [List.getD_eq_getElem?_getD, List.getElem?_eq_getElem ht]; rfl
  refine ext_ltI hc.1 ?_ fun x => ?_
  · rw [List.pairwise_map]; exact (nx_lt N E t).imp (by intro a b h; omega)
  · rw [hc.2 x, srt_mem]
    unfold Sp.rw
    simp only [List.mem_map, List.mem_filter, beq_iff_eq]
    constructor
    · rintro ⟨e, ⟨h1, h2⟩, rfl⟩
      obtain ⟨_, h3⟩ := hE e h1
      have hl := List.idxOf_lt_length_of_mem h3
      refine ⟨N.idxOf e.2, nx_mem.2 ⟨hl, ?_⟩, rfl⟩
      have hg : N.getD (N.idxOf e.2) 0 = e.2 := by rw [List.getD_eq_getElem?_getD, List.getElem?_eq_getElem hl, Option.getD_some]; exact List.getElem_idxOf hl
      rw [hg, ← h2]; exact h1
    · rintro ⟨j, h1, rfl⟩
      obtain ⟨h2, h3⟩ := nx_mem.1 h1
      refine ⟨_, ⟨h3, rfl⟩, ?_⟩
      have hg : N[j]? = some (N.getD j 0) := by rw [List.getD_eq_getElem?_getD, List.getElem?_eq_getElem h2]; rfl
      rw [idx_of hn hg]
theorem NxR.again {w : World} {lo xb n f : Nat} {bl : Nat → Option Nat} {cp : Nat → Nat} {R : Nat → List Int} (h : NxR w lo xb n bl cp R) (hf : f < n) {l' : List Int} {w1 : World} (hx : w1.heap[xb]? = w.heap[xb]?) (hk : ∀ k, k < w.heap.size → bl f ≠ some k → w1.heap[k]? = w.heap[k]?) (ho : NdI w1 (bl f) (cp f) l') (hxl : xb < lo) :
    NxR (w1.setCell ⟨xb, f, none⟩ (.slice (adr (bl f)) l'.length (cp f))) lo xb n bl cp (fun t => if t = f then l' else R t) := by
  obtain ⟨cur, h1, h2, h3⟩ := h.blk
  have hlt := h.lt
  have e1 : (w1.setCell ⟨xb, f, none⟩ (.slice (adr (bl f)) l'.length (cp f))).heap[xb]? = some (.cells (cur.setIfInBounds f (.slice (adr (bl f)) l'.length (cp f))) 60 (0, 0)) := by
    rw [Sort.setCell_eq]; show (w1.heap.modify xb _)[xb]? = _
    rw [Array.getElem?_modify, if_pos rfl, hx, h1]; rfl
  have e2 : ∀ k, k ≠ xb → (w1.setCell ⟨xb, f, none⟩ (.slice (adr (bl f)) l'.length (cp f))).heap[k]? = w1.heap[k]? := fun k hk => Below.heap_setCell w1 _ _ k hk
  refine ⟨⟨_, e1, by simpa using h2, fun t ht => ?_⟩, fun t ht => ?_, h.lo, h.ap⟩
  · rw [Array.getElem?_setIfInBounds]
    by_cases e : f = t
    · subst e; rw [if_pos rfl, if_pos (by omega)]; simp
    · rw [if_neg e, if_neg (Ne.symm e)]; exact h3 t ht
  · by_cases e : t = f
    · subst e
      rw [show (if t = t then l' else R t) = l' from if_pos rfl]
      exact ho.keep (fun g hg => e2 g (by have := h.lo t g ht hg; omega))
    · simp only [if_neg e]
      refine (h.row t ht).keep fun g hgt => ?_
      have := h.lo t g ht hgt
      exact (e2 g (by omega)).trans (hk g (hlt.2 t g ht hgt) (fun e' => e (h.ap t f g ht hf hgt e')))
end Go.Proofs.YtilchbeofjgliaaGreat


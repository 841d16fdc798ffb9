/- Answers (tenonref12.Answer) that can be read as data: how they lie in memory. -/
import Derived.Test.YtidlncopjniaeaaKA30
import Derived.Test.YtidlncopjniaeaaKA31
namespace Go.Proofs.Ytidlncopjniaeaa
open Go.ChangeShapes Go.WideShapes Go.ChangeAt Go.RowKit

theorem Try.cAn : Try.prog.cellsOf 51 = 14 := by kernel_rfl
theorem Try.bAn : Try.prog.bytesOf 51 = 192 := by kernel_rfl
theorem Try.cEr : Try.prog.cellsOf 34 = 1 := by kernel_rfl
theorem Try.cOps : Try.prog.cellsOf 30 = 1 := by kernel_rfl
theorem Tm.In_oneA {t : Tm} {w : World} {B : Nat → Prop} {ct : Array Value} (h : t.In w B ct) : ct.all (·.oneCell') = true := by
  cases t
  simp only [Tm.In] at h
  obtain ⟨ab, cb, al, cl, af, cf, rfl, -⟩ := h
  simp [tcells, Value.oneCell']

section
variable {H : Type} {enc : TypeId × Value → H} {W : World}
theorem list_of {P : Nat → (Int × Int) → Prop} : (n : Nat) → (∀ i, i < n → ∃ x, P i x) → ∃ L : List (Int × Int), L.length = n ∧ ∀ (i : Nat) x, L[i]? = some x → P i x
  | 0, _ => ⟨[], rfl, fun i x h => by simp at h⟩
  | n + 1, h => by
    obtain ⟨L, hl, hp⟩ := list_of n (fun i hi => h i (by omega))
    obtain ⟨x, hx⟩ := h n (by omega)
    refine ⟨L ++ [x], by simp [hl], fun i y hy => ?_⟩
    by_cases hi : i < n
    · rw [List.getElem?_append_left (by omega)] at hy; exact hp i y hy
    · rw [List.getElem?_append_right (by omega)] at hy
      have : i = n := by have := (List.getElem?_eq_some_iff.1 hy).1; simp at this; omega
      subst this
      rw [hl] at hy
      simp at hy
      subst hy
      exact hx

set_option maxRecDepth 100000 in
theorem open_answers {n : Nat} {v : Value} {x : DataW H × List MemPlace} (h : DataW.trod enc Try.prog W 0 (fun _ => true) true n 49 [v] = some x) (hw : ∀ m ∈ x.1.weights Try.prog 49, m ≤ reachBytes) :
    ∃ (a : Option Addr) (L : List (Int × Int)) (cap : Nat), v = .slice a L.length cap ∧ L.length * 192 ≤ 140737488355328 ∧ AnsIn W W.heap.size a L := by
  rcases DataW.trod_slice Try.underlying49 h with ⟨hcs, rfl⟩ | ⟨a, len, cap, elems, rest, n', rfl, hcs, rfl, _, hlc, hcm, hlen, hel, _, _⟩
  · simp at hcs; subst hcs; exact ⟨none, [], 0, rfl, by simp, fun i k er hi => by simp at hi⟩
  · simp at hcs; subst hcs
    have hwt : ∀ m ∈ ((elems.map (·.1)).length + (rest.map (·.1)).length) * Try.prog.bytesOf 51 :: (DataW.weightsAll Try.prog 51 (elems.map (·.1)) ++ DataW.weightsAll Try.prog 51 (rest.map (·.1))), m ≤ reachBytes := by
      intro m hm; exact hw m (by simpa only [DataW.weights, Try.underlying49] using hm)
    have hlen' : len * 192 ≤ 140737488355328 := by
      have := hwt _ (List.mem_cons_self ..)
      rw [Try.bAn, List.length_map, List.length_map, hlen] at this
      have := reach_le
      omega
    obtain ⟨L, hL, hP⟩ : ∃ L : List (Int × Int), L.length = len ∧ ∀ (i : Nat) y, L[i]? = some y → ∃ (g o : Nat) (cs : Array Value), some a = some ⟨g, o, none⟩ ∧ g < W.heap.size ∧ cs.size = 14 ∧ cs.all (·.oneCell') = true ∧ cs[0]? = some (.int .i64 y.1) ∧ cs[12]? = some (.int .i64 y.2) ∧ ∀ x, x < 14 → W.cell? ⟨g, o + i * 14 + x, none⟩ = cs[x]? := by
      refine list_of (P := fun i y => ∃ (g o : Nat) (cs : Array Value), some a = some ⟨g, o, none⟩ ∧ g < W.heap.size ∧ cs.size = 14 ∧ cs.all (·.oneCell') = true ∧ cs[0]? = some (.int .i64 y.1) ∧ cs[12]? = some (.int .i64 y.2) ∧ ∀ x, x < 14 → W.cell? ⟨g, o + i * 14 + x, none⟩ = cs[x]?) len (fun i hi => ?_)
      obtain ⟨b, o, spot⟩ := a
      have hsp : spot = none := by
        obtain ⟨cs, hc, _⟩ := elem_at (i := 0) (by omega) (hel 0 (by omega))
        rw [Try.cAn] at hc
        obtain ⟨_, hl14, hcell⟩ := World.cells?_some hc
        have h00 := hcell 0 (by omega)
        rw [List.getElem?_eq_getElem (by omega)] at h00
        simpa [Addr.add] using World.cell?_spot h00
      subst hsp
      obtain ⟨cs, hc, ht⟩ := elem_at (by omega) (hel i hi)
      rw [Try.cAn, add_none] at hc
      obtain ⟨_, hl14, hcell⟩ := World.cells?_some hc
      have hie : i < elems.length := by omega
      have hwe : ∀ m ∈ (elems[i]).1.weights Try.prog 51, m ≤ reachBytes := fun m hm => hwt m (List.mem_cons_of_mem _ (List.mem_append_left _ (weights_all (List.mem_map.2 ⟨elems[i], List.getElem_mem hie, rfl⟩) m hm)))
      obtain ⟨xs, n2, rfl, hx, hlc2, hxs, hf⟩ := DataW.trod_struct Try.underlying51 ht
      match cs, hl14 with
      | [c0, c1, c2, c3, c4, c5, c6, c7, c8, c9, c10, c11, c12, c13], _ =>
        match xs, hxs with
        | [y0, y1, y2, y3], _ =>
          have f0 := hf 0 _ rfl
          have f1 := hf 1 _ rfl
          have f2 := hf 2 _ rfl
          have f3 := hf 3 _ rfl
          simp [Try.cI] at f0
          simp [Try.cT] at f1
          simp [Try.cEr] at f2
          simp [Try.cOps] at f3
          rw [hx] at hwe
          have hwe' : ∀ m ∈ DataW.weightsEach Try.prog [3, 29, 34, 30] [y0.1, y1.1, y2.1, y3.1], m ≤ reachBytes := by
            intro m hm; exact hwe m (by simpa only [DataW.weights, Try.underlying51, List.map_cons, List.map_nil] using hm)
          obtain ⟨k, e0, _, w0⟩ := DataW.trod_int Try.underlying3 f0
          obtain ⟨er, e2, _, w2⟩ := DataW.trod_int Try.underlying34 f2
          obtain ⟨t, hin⟩ := open_term n2 _ _ f1 (fun m hm => hwe' m (DataW.weights_mem_each (j := 1) rfl rfl m hm))
          have h13 : c13.oneCell' = true := by
            rcases DataW.trod_slice Try.underlying30 f3 with ⟨hcs, _⟩ | ⟨_, _, _, _, _, _, _, hcs, _⟩
            · simp at hcs; subst hcs; rfl
            · simp at hcs; subst hcs; rfl
          simp at e0 e2
          subst e0 e2
          have hone := Tm.In_oneA hin
          have h00 := hcell 0 (by omega)
          rw [add_none] at h00
          refine ⟨(k, er), b, o, #[.int .i64 k, c1, c2, c3, c4, c5, c6, c7, c8, c9, c10, c11, .int .i64 er, c13], rfl, World.block_lt_of_cell? _ _ h00, rfl, ?_, rfl, rfl, fun x hx' => ?_⟩
          · rw [Array.all_eq_true_iff_forall_mem] at hone ⊢
            intro u hu
            simp only [List.mem_toArray, List.mem_cons, List.not_mem_nil, or_false] at hu
            rcases hu with rfl | rfl | rfl | rfl | rfl | rfl | rfl | rfl | rfl | rfl | rfl | rfl | rfl | rfl <;> first | rfl | exact h13 | exact hone _ (by simp)
          · have := hcell x (by omega)
            rw [add_none] at this
            rw [this]; simp
    subst hL
    exact ⟨some a, L, cap, rfl, hlen', fun i k er hi => hP i (k, er) hi⟩
end
end Go.Proofs.Ytidlncopjniaeaa


/- A way that can be read as data lies in memory as a list of steps. -/
import Derived.Test.YtghnipbcbbphbaaDoorPBase
import Derived.ProofKit
import Derived.OpenShut
import Derived.SizedLaws
namespace Go.Proofs.YtghnipbcbbphbaaDoor
open Go.ChangeShapes Go.WideShapes Go.ChangeAt Go.RowKit

theorem Tryd.cS : Tryd.prog.cellsOf 9 = 1 := by kernel_rfl
theorem Tryd.cB : Tryd.prog.cellsOf 4 = 1 := by kernel_rfl
theorem Tryd.cI : Tryd.prog.cellsOf 3 = 1 := by kernel_rfl
theorem Tryd.cW : Tryd.prog.cellsOf 39 = 3 := by kernel_rfl
theorem Tryd.bW : Tryd.prog.bytesOf 39 = 32 := by kernel_rfl

section
variable {H : Type} {enc : TypeId × Value → H} {W : World}
theorem weights_all {P : Program} {e : TypeId} : ∀ {l : List (DataW H)} {d : DataW H}, d ∈ l → ∀ m ∈ d.weights P e, m ∈ DataW.weightsAll P e l
  | x :: l, d, hd, m, hm => by
    simp only [DataW.weightsAll, List.mem_append]
    rcases List.mem_cons.1 hd with rfl | hd
    · exact .inl hm
    · exact .inr (weights_all hd m hm)
theorem elem_at {P : Program} {e : TypeId} {a : Addr} {i n : Nat} {r : List (DataW H × List MemPlace)} (hi : i < r.length) (h : (W.cells? 0 (a.add (i * P.cellsOf e)) (P.cellsOf e)).bind (DataW.trod enc P W 0 (fun _ => true) true n e) = r[i]?) :
    ∃ cs, W.cells? 0 (a.add (i * P.cellsOf e)) (P.cellsOf e) = some cs ∧ DataW.trod enc P W 0 (fun _ => true) true n e cs = some r[i] := by
  rw [List.getElem?_eq_getElem hi] at h
  exact Option.bind_eq_some_iff.1 h
theorem reach_is : reachBytes = 140737488351232 := by rfl

/-- from 'for each place a step' to a list of steps -/
theorem way_build {g o : Nat} : ∀ (k j : Nat), (∀ i, i < k → ∃ x : Stp, g < W.heap.size ∧ W.cell? ⟨g, o + (j + i) * 3, none⟩ = some (.string x.name) ∧ W.cell? ⟨g, o + (j + i) * 3 + 1, none⟩ = some (.bool x.at') ∧ W.cell? ⟨g, o + (j + i) * 3 + 2, none⟩ = some (.int .i64 x.idx) ∧ x.name.size ≤ maxLen) → ∃ l : List Stp, l.length = k ∧ ∀ i x, l[i]? = some x → g < W.heap.size ∧ W.cell? ⟨g, o + (j + i) * 3, none⟩ = some (.string x.name) ∧ W.cell? ⟨g, o + (j + i) * 3 + 1, none⟩ = some (.bool x.at') ∧ W.cell? ⟨g, o + (j + i) * 3 + 2, none⟩ = some (.int .i64 x.idx) ∧ x.name.size ≤ maxLen
  | 0, _, _ => ⟨[], rfl, fun i x hx => by simp at hx⟩
  | k + 1, j, h => by
    obtain ⟨x, hx⟩ := h 0 (by omega)
    obtain ⟨l, hl, hin⟩ := way_build k (j + 1) (fun i hi => by
      have := h (i + 1) (by omega)
      rw [show j + 1 + i = j + (i + 1) by omega]; exact this)
    refine ⟨x :: l, by simp [hl], fun i y hy => ?_⟩
    cases i with
    | zero => simp at hy; subst hy; exact hx
    | succ i =>
      have := hin i y (by simpa using hy)
      rw [show j + 1 + i = j + (i + 1) by omega] at this
      exact this

set_option maxRecDepth 100000 in
theorem open_way {n : Nat} {v : Value} {x : DataW H × List MemPlace} (h : DataW.trod enc Tryd.prog W 0 (fun _ => true) true n 35 [v] = some x) (hw : ∀ m ∈ x.1.weights Tryd.prog 35, m ≤ reachBytes) :
    ∃ (l : List Stp) (a : Option Addr) (cap : Nat), v = .slice a l.length cap ∧ l.length * 32 ≤ 140737488351232 ∧ Rdw W W.heap.size a l := by
  rcases DataW.trod_slice Tryd.underlying35 h with ⟨hcs, rfl⟩ | ⟨a, len, cap, elems, rest, n', rfl, hcs, rfl, _, hlc, hcm, hlen, hel, _, _⟩
  · simp at hcs; subst hcs; exact ⟨[], none, 0, rfl, by simp, fun j x hx => by simp at hx⟩
  · simp at hcs; subst hcs
    have hwt : ∀ m ∈ ((elems.map (·.1)).length + (rest.map (·.1)).length) * Tryd.prog.bytesOf 39 :: (DataW.weightsAll Tryd.prog 39 (elems.map (·.1)) ++ DataW.weightsAll Tryd.prog 39 (rest.map (·.1))), m ≤ reachBytes := by
      intro m hm; exact hw m (by simpa only [DataW.weights, Tryd.underlying35] using hm)
    have hlen' : len * 32 ≤ 140737488351232 := by
      have := hwt _ (List.mem_cons_self ..)
      rw [Tryd.bW, List.length_map, List.length_map, hlen] at this
      have := reach_is
      omega
    by_cases h0 : len = 0
    · subst h0; exact ⟨[], some a, cap, rfl, by simp, fun j x hx => by simp at hx⟩
    · obtain ⟨b, o, spot⟩ := a
      have hsp : spot = none := by
        obtain ⟨cs, hc, _⟩ := elem_at (i := 0) (by omega) (hel 0 (by omega))
        rw [Tryd.cW] at hc
        obtain ⟨_, hl3, hcell⟩ := World.cells?_some hc
        have h00 := hcell 0 (by omega)
        rw [List.getElem?_eq_getElem (by omega)] at h00
        simpa [Addr.add] using World.cell?_spot h00
      subst hsp
      obtain ⟨l, hl, hin⟩ := way_build (W := W) (g := b) (o := o) len 0 (fun i hi => by
        obtain ⟨cs, hc, ht⟩ := elem_at (by omega) (hel i hi)
        rw [Tryd.cW, addr_add] at hc
        obtain ⟨_, hl3, hcell⟩ := World.cells?_some hc
        have hie : i < elems.length := by omega
        have hwe : ∀ m ∈ (elems[i]).1.weights Tryd.prog 39, m ≤ reachBytes := fun m hm => hwt m (List.mem_cons_of_mem _ (List.mem_append_left _ (weights_all (List.mem_map.2 ⟨elems[i], List.getElem_mem hie, rfl⟩) m hm)))
        obtain ⟨xs, n2, rfl, hx, hlc2, hxs, hf⟩ := DataW.trod_struct Tryd.underlying39 ht
        match cs, hl3 with
        | [c0, c1, c2], _ =>
          match xs, hxs with
          | [y0, y1, y2], _ =>
            have f0 := hf 0 _ rfl
            have f1 := hf 1 _ rfl
            have f2 := hf 2 _ rfl
            simp [Tryd.cS] at f0
            simp [Tryd.cB] at f1
            simp [Tryd.cI] at f2
            obtain ⟨s, hs, hy0, _⟩ := DataW.trod_string Tryd.underlying9 f0
            obtain ⟨q, hq, _⟩ := DataW.trod_bool Tryd.underlying4 f1
            obtain ⟨z, hz, _, _⟩ := DataW.trod_int Tryd.underlying3 f2
            simp at hs hq hz
            subst hs hq hz
            rw [hx] at hwe
            have hwe' : ∀ m ∈ DataW.weightsEach Tryd.prog [9, 4, 3] [y0.1, y1.1, y2.1], m ≤ reachBytes := by
              intro m hm; exact hwe m (by simpa only [DataW.weights, Tryd.underlying39, List.map_cons, List.map_nil] using hm)
            have hsz : s.size ≤ maxLen := by
              have := hwe' s.size (DataW.weights_mem_each (j := 0) rfl rfl s.size (by rw [hy0]; simp [DataW.weights]))
              have := reach_is
              unfold maxLen; omega
            have h00 := hcell 0 (by omega)
            have h01 := hcell 1 (by omega)
            have h02 := hcell 2 (by omega)
            rw [addr_add] at h00 h01 h02
            rw [Nat.zero_add]
            exact ⟨⟨s, q, z⟩, World.block_lt_of_cell? _ _ h00, h00, h01, h02, hsz⟩)
      subst hl
      refine ⟨l, some ⟨b, o, none⟩, cap, rfl, hlen', fun j x hx => ?_⟩
      have := hin j x hx
      rw [Nat.zero_add] at this
      exact ⟨b, o, rfl, this⟩
end
end Go.Proofs.YtghnipbcbbphbaaDoor

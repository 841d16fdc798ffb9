/- What the form's values of api.Class lay in memory. -/
import Derived.Test.YtbjcabpmndhfmaaGreatQ52
import Derived.Test.YtbjcabpmndhfmaaGreatQ30
namespace Go.Proofs.YtbjcabpmndhfmaaGreat
open Go.ChangeShapes Go.WideShapes Go.ChangeAt Go.RowKit

theorem Tryz.cFo : Tryz.prog.cellsOf 45 = 32 := by kernel_rfl
theorem Tryz.cFos : Tryz.prog.cellsOf 22 = 1 := by kernel_rfl
theorem Tryz.cCl : Tryz.prog.cellsOf 24 = 6 := by kernel_rfl
theorem Tryz.bFo : Tryz.prog.bytesOf 45 = 456 := by kernel_rfl
section
variable {H : Type} {enc : TypeId × Value → H} {W : World}
set_option maxRecDepth 100000 in
theorem open_fo {n : Nat} {cs : List Value} {x : DataW H × List MemPlace} (h : DataW.trod enc Tryz.prog W 0 (fun _ => true) true n 45 cs = some x) (hw : ∀ m ∈ x.1.weights Tryz.prog 45, m ≤ reachBytes) :
    ∃ (f : Fo) (cy ct : Array Value), cs.toArray = fcs f cy ct ∧ f.At W (Lo W.heap.size) cy ct := by
  obtain ⟨xs, n2, rfl, rfl, hlc, hxs, hf⟩ := DataW.trod_struct Tryz.underlying45 h
  rw [Tryz.cFo] at hlc
  match cs, hlc with
  | [c0, c1, c2, c3, c4, c5, c6, c7, c8, c9, c10, c11, c12, c13, c14, c15, c16, c17, c18, c19, c20, c21, c22, c23, c24, c25, c26, c27, c28, c29, c30, c31], _ =>
    match xs, hxs with
    | [y0, y1, y2, y3, y4], _ =>
      have f0 := hf 0 _ rfl
      have f1 := hf 1 _ rfl
      have f2 := hf 2 _ rfl
      have f3 := hf 3 _ rfl
      have f4 := hf 4 _ rfl
      simp [Tryz.cT, Tryz.cY, Tryz.cB, Tryz.cS] at f0 f1 f2 f3 f4
      clear hf
      have hwe : ∀ m ∈ DataW.weightsEach Tryz.prog [9, 9, 43, 4, 38] [y0.1, y1.1, y2.1, y3.1, y4.1], m ≤ reachBytes := by
        intro m hm; exact hw m (by simpa only [DataW.weights, Tryz.underlying45, List.map_cons, List.map_nil] using hm)
      obtain ⟨nm, e0, z0, _⟩ := DataW.trod_string Tryz.underlying9 f0
      obtain ⟨was, e1, z1, _⟩ := DataW.trod_string Tryz.underlying9 f1
      obtain ⟨ty, hty⟩ := open_type n2 _ _ f2 (fun m hm => hwe m (DataW.weights_mem_each (j := 2) rfl rfl m hm))
      obtain ⟨has, e3, _⟩ := DataW.trod_bool Tryz.underlying4 f3
      obtain ⟨df, hdf⟩ := open_term n2 _ _ f4 (fun m hm => hwe m (DataW.weights_mem_each (j := 4) rfl rfl m hm))
      have hn : nm.size ≤ 140737488355328 := by
        have := hwe nm.size (DataW.weights_mem_each (j := 0) rfl rfl nm.size (by rw [z0]; simp [DataW.weights]))
        have := reach_le; omega
      have hs : was.size ≤ 140737488355328 := by
        have := hwe was.size (DataW.weights_mem_each (j := 1) rfl rfl was.size (by rw [z1]; simp [DataW.weights]))
        have := reach_le; omega
      simp at e0 e1 e3
      subst e0 e1 e3
      exact ⟨⟨nm, was, ty, has, df⟩, _, _, rfl, hty, hdf, hn, hs⟩
set_option maxRecDepth 100000 in
theorem open_fos {n : Nat} {v : Value} {x : DataW H × List MemPlace} (h : DataW.trod enc Tryz.prog W 0 (fun _ => true) true n 22 [v] = some x) (hw : ∀ m ∈ x.1.weights Tryz.prog 22, m ≤ reachBytes) :
    ∃ (l : List Fo) (a : Option Addr) (cap : Nat), v = .slice a l.length cap ∧ l.length * 456 ≤ 140737488355328 ∧ FosAt W (Lo W.heap.size) a l := by
  rcases DataW.trod_slice Tryz.underlying22 h with ⟨hcs, rfl⟩ | ⟨a, len, cap, elems, rest, n', rfl, hcs, rfl, _, hlc, hcm, hlen, hel, _, _⟩
  · simp at hcs; subst hcs; exact ⟨[], none, 0, rfl, by simp, fun j s hj => by simp at hj⟩
  · simp at hcs; subst hcs
    have hwt : ∀ m ∈ ((elems.map (·.1)).length + (rest.map (·.1)).length) * Tryz.prog.bytesOf 45 :: (DataW.weightsAll Tryz.prog 45 (elems.map (·.1)) ++ DataW.weightsAll Tryz.prog 45 (rest.map (·.1))), m ≤ reachBytes := by
      intro m hm; exact hw m (by simpa only [DataW.weights, Tryz.underlying22] using hm)
    have hlen' : len * 456 ≤ 140737488355328 := by
      have := hwt _ (List.mem_cons_self ..)
      rw [Tryz.bFo, List.length_map, List.length_map, hlen] at this
      have := reach_le
      omega
    by_cases h0 : len = 0
    · subst h0; exact ⟨[], some a, cap, rfl, by simp, fun j s hj => by simp at hj⟩
    · obtain ⟨b, o, spot⟩ := a
      have hsp : spot = none := by
        obtain ⟨cs, hc, _⟩ := elem_at (i := 0) (by omega) (hel 0 (by omega))
        rw [Tryz.cFo] at hc
        obtain ⟨_, hl11, hcell⟩ := World.cells?_some hc
        have h00 := hcell 0 (by omega)
        rw [List.getElem?_eq_getElem (by omega)] at h00
        simpa [Addr.add] using World.cell?_spot h00
      subst hsp
      have hread : ∀ i : Fin len, ∃ (f : Fo), ∃ cy ct : Array Value, (∀ x, x < 32 → W.cell? ⟨b, o + i.1 * 32 + x, none⟩ = (fcs f cy ct)[x]?) ∧ b < W.heap.size ∧ f.At W (Lo W.heap.size) cy ct := fun i => by
        obtain ⟨cs, hc, ht⟩ := elem_at (by omega) (hel i.1 i.2)
        obtain ⟨f, cy, ct, e, hA⟩ := open_fo ht (fun m hm => hwt m (List.mem_cons_of_mem _ (List.mem_append_left _ (weights_all (List.mem_map.2 ⟨_, List.getElem_mem _, rfl⟩) m hm))))
        rw [Tryz.cFo, add_none] at hc
        obtain ⟨_, hl11, hcell⟩ := World.cells?_some hc
        refine ⟨f, cy, ct, ?_, ?_, hA⟩
        · intro x hx
          have := hcell x hx
          rw [add_none] at this
          rw [this, ← e]; simp
        · have h00 := hcell 0 (by omega)
          rw [List.getElem?_eq_getElem (by omega), add_none] at h00
          exact World.block_lt_of_cell? _ _ h00
      refine ⟨List.ofFn fun i => Classical.choose (hread i), some ⟨b, o, none⟩, cap, by simp, by simpa using hlen', ?_⟩
      intro j f hj
      have hjl : j < len := by have := (List.getElem?_eq_some_iff.1 hj).1; simpa using this
      rw [List.getElem?_ofFn, dif_pos hjl, Option.some.injEq] at hj
      obtain ⟨cy, ct, q1, q2, q3⟩ := Classical.choose_spec (hread ⟨j, hjl⟩)
      rw [hj] at q1 q3
      exact ⟨b, o, cy, ct, rfl, q2, q1, q3⟩
set_option maxRecDepth 100000 in
theorem open_class {n : Nat} {cs : List Value} {x : DataW H × List MemPlace} (h : DataW.trod enc Tryz.prog W 0 (fun _ => true) true n 24 cs = some x) (hw : ∀ m ∈ x.1.weights Tryz.prog 24, m ≤ reachBytes) :
    ∃ (nm pn : ByteArray) (vr pv : Int) (ab : Bool) (fs : List Fo) (af : Option Addr) (cf : Nat), cs.toArray = #[.string nm, .int .i64 vr, .string pn, .int .i64 pv, .bool ab, .slice af fs.length cf] ∧ (Cl.mk nm vr pn pv ab fs).At W (Lo W.heap.size) af := by
  obtain ⟨xs, n2, rfl, rfl, hlc, hxs, hf⟩ := DataW.trod_struct Tryz.underlying24 h
  rw [Tryz.cCl] at hlc
  match cs, hlc with
  | [c0, c1, c2, c3, c4, c5], _ =>
    match xs, hxs with
    | [y0, y1, y2, y3, y4, y5], _ =>
      have f0 := hf 0 _ rfl
      have f1 := hf 1 _ rfl
      have f2 := hf 2 _ rfl
      have f3 := hf 3 _ rfl
      have f4 := hf 4 _ rfl
      have f5 := hf 5 _ rfl
      simp [Tryz.cI, Tryz.cFos, Tryz.cB, Tryz.cS] at f0 f1 f2 f3 f4 f5
      clear hf
      have hwe : ∀ m ∈ DataW.weightsEach Tryz.prog [9, 3, 9, 3, 4, 22] [y0.1, y1.1, y2.1, y3.1, y4.1, y5.1], m ≤ reachBytes := by
        intro m hm; exact hw m (by simpa only [DataW.weights, Tryz.underlying24, List.map_cons, List.map_nil] using hm)
      obtain ⟨nm, e0, z0, _⟩ := DataW.trod_string Tryz.underlying9 f0
      obtain ⟨vr, e1, _, w1⟩ := DataW.trod_int Tryz.underlying3 f1
      obtain ⟨pn, e2, z2, _⟩ := DataW.trod_string Tryz.underlying9 f2
      obtain ⟨pv, e3, _, w3⟩ := DataW.trod_int Tryz.underlying3 f3
      obtain ⟨ab, e4, _⟩ := DataW.trod_bool Tryz.underlying4 f4
      obtain ⟨fs, af, cf, rfl, hfl, hfs⟩ := open_fos f5 (fun m hm => hwe m (DataW.weights_mem_each (j := 5) rfl rfl m hm))
      have hn : nm.size ≤ 140737488355328 := by
        have := hwe nm.size (DataW.weights_mem_each (j := 0) rfl rfl nm.size (by rw [z0]; simp [DataW.weights]))
        have := reach_le; omega
      have hs : pn.size ≤ 140737488355328 := by
        have := hwe pn.size (DataW.weights_mem_each (j := 2) rfl rfl pn.size (by rw [z2]; simp [DataW.weights]))
        have := reach_le; omega
      simp at e0 e1 e2 e3 e4
      subst e0 e1 e2 e3 e4
      exact ⟨nm, pn, vr, pv, ab, fs, af, cf, rfl, hn, hs, bounds_i64 w1, bounds_i64 w3, by show fs.length ≤ _; omega, hfs⟩
end
end Go.Proofs.YtbjcabpmndhfmaaGreat


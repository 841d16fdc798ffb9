/- A type that can be read as data lies in memory as a tree of types. -/
import Derived.Test.YtjdjpbdfchhcfaaGreatKE10
import Derived.Test.YtjdjpbdfchhcfaaGreatKE11
namespace Go.Proofs.YtjdjpbdfchhcfaaGreat
open Go.ChangeShapes Go.WideShapes Go.ChangeAt Go.RowKit

theorem Tryz.cY : Tryz.prog.cellsOf 34 = 18 := by kernel_rfl
theorem Tryz.cYs : Tryz.prog.cellsOf 30 = 1 := by kernel_rfl
theorem Tryz.cNs : Tryz.prog.cellsOf 31 = 1 := by kernel_rfl
theorem Tryz.cLs : Tryz.prog.cellsOf 32 = 1 := by kernel_rfl
theorem Tryz.bY : Tryz.prog.bytesOf 34 = 264 := by kernel_rfl
theorem Tryz.bS : Tryz.prog.bytesOf 9 = 16 := by kernel_rfl
theorem Tryz.bB : Tryz.prog.bytesOf 4 = 1 := by kernel_rfl

section
variable {H : Type} {enc : TypeId × Value → H} {W : World}
theorem TyL.build {S : Nat → Prop} {g o : Nat} : ∀ (k j : Nat), (∀ i, i < k → ∃ (t : Ty) (cs : Array Value), S g ∧ (∀ x, x < 18 → W.cell? ⟨g, o + (j + i) * 18 + x, none⟩ = cs[x]?) ∧ t.In W S cs) → ∃ l : TyL, l.len = k ∧ l.In W S (some ⟨g, o, none⟩) j
  | 0, _, _ => ⟨.nil, rfl, by simp [TyL.In]⟩
  | k + 1, j, h => by
    obtain ⟨t, cs, hg, hc, ht⟩ := h 0 (by omega)
    obtain ⟨l, hl, hin⟩ := TyL.build k (j + 1) (fun i hi => by
      have := h (i + 1) (by omega)
      rw [show j + 1 + i = j + (i + 1) by omega]; exact this)
    exact ⟨.cons t l, by simp [TyL.len, hl], by simp only [TyL.In]; exact ⟨g, o, cs, rfl, hg, hc, ht, hin⟩⟩
def OpenYC (enc : TypeId × Value → H) (W : World) (n : Nat) : Prop := ∀ (cs : List Value) (x : DataW H × List MemPlace), DataW.trod enc Tryz.prog W 0 (fun _ => true) true n 34 cs = some x → (∀ m ∈ x.1.weights Tryz.prog 34, m ≤ reachBytes) → ∃ t : Ty, t.In W (Lo W.heap.size) cs.toArray

set_option maxRecDepth 100000 in
theorem open_types {n : Nat} (ih : ∀ m, m < n → OpenYC enc W m) {v : Value} {x : DataW H × List MemPlace} (h : DataW.trod enc Tryz.prog W 0 (fun _ => true) true n 30 [v] = some x) (hw : ∀ m ∈ x.1.weights Tryz.prog 30, m ≤ reachBytes) :
    ∃ (l : TyL) (a : Option Addr) (cap : Nat), v = .slice a l.len cap ∧ l.len * 264 ≤ 140737488355328 ∧ l.In W (Lo W.heap.size) a 0 := by
  rcases DataW.trod_slice Tryz.underlying30 h with ⟨hcs, rfl⟩ | ⟨a, len, cap, elems, rest, n', rfl, hcs, rfl, _, hlc, hcm, hlen, hel, _, _⟩
  · simp at hcs; subst hcs; exact ⟨.nil, none, 0, rfl, by simp [TyL.len], by simp [TyL.In]⟩
  · simp at hcs; subst hcs
    have hwt : ∀ m ∈ ((elems.map (·.1)).length + (rest.map (·.1)).length) * Tryz.prog.bytesOf 34 :: (DataW.weightsAll Tryz.prog 34 (elems.map (·.1)) ++ DataW.weightsAll Tryz.prog 34 (rest.map (·.1))), m ≤ reachBytes := by
      intro m hm; exact hw m (by simpa only [DataW.weights, Tryz.underlying30] using hm)
    have hlen' : len * 264 ≤ 140737488355328 := by
      have := hwt _ (List.mem_cons_self ..)
      rw [Tryz.bY, List.length_map, List.length_map, hlen] at this
      have := reach_le
      omega
    by_cases h0 : len = 0
    · subst h0; exact ⟨.nil, some a, cap, rfl, by simp [TyL.len], by simp [TyL.In]⟩
    · obtain ⟨b, o, spot⟩ := a
      have hsp : spot = none := by
        obtain ⟨cs, hc, _⟩ := elem_at (i := 0) (by omega) (hel 0 (by omega))
        rw [Tryz.cY] at hc
        obtain ⟨_, hl11, hcell⟩ := World.cells?_some hc
        have h00 := hcell 0 (by omega)
        rw [List.getElem?_eq_getElem (by omega)] at h00
        simpa [Addr.add] using World.cell?_spot h00
      subst hsp
      obtain ⟨l, hl, hin⟩ := TyL.build (W := W) (S := Lo W.heap.size) (g := b) (o := o) len 0 (fun i hi => by
        obtain ⟨cs, hc, ht⟩ := elem_at (by omega) (hel i hi)
        obtain ⟨t, hin⟩ := ih n' (by omega) cs _ ht (fun m hm => hwt m (List.mem_cons_of_mem _ (List.mem_append_left _ (weights_all (List.mem_map.2 ⟨_, List.getElem_mem _, rfl⟩) m hm))))
        rw [Tryz.cY, add_none] at hc
        obtain ⟨_, hl11, hcell⟩ := World.cells?_some hc
        refine ⟨t, cs.toArray, ?_, ?_, hin⟩
        · have h00 := hcell 0 (by omega)
          rw [List.getElem?_eq_getElem (by omega), add_none] at h00
          exact World.block_lt_of_cell? _ _ h00
        · intro x hx
          have := hcell x hx
          rw [add_none] at this
          rw [Nat.zero_add, this]; simp)
      subst hl
      exact ⟨l, some ⟨b, o, none⟩, cap, rfl, hlen', hin⟩

set_option maxRecDepth 100000 in
theorem open_names {n : Nat} {v : Value} {x : DataW H × List MemPlace} (h : DataW.trod enc Tryz.prog W 0 (fun _ => true) true n 31 [v] = some x) (hw : ∀ m ∈ x.1.weights Tryz.prog 31, m ≤ reachBytes) :
    ∃ (l : List ByteArray) (a : Option Addr) (cap : Nat), v = .slice a l.length cap ∧ l.length * 16 ≤ 140737488355328 ∧ NamesAt W (Lo W.heap.size) a l := by
  rcases DataW.trod_slice Tryz.underlying31 h with ⟨hcs, rfl⟩ | ⟨a, len, cap, elems, rest, n', rfl, hcs, rfl, _, hlc, hcm, hlen, hel, _, _⟩
  · simp at hcs; subst hcs; exact ⟨[], none, 0, rfl, by simp, fun j s hj => by simp at hj⟩
  · simp at hcs; subst hcs
    have hwt : ∀ m ∈ ((elems.map (·.1)).length + (rest.map (·.1)).length) * Tryz.prog.bytesOf 9 :: (DataW.weightsAll Tryz.prog 9 (elems.map (·.1)) ++ DataW.weightsAll Tryz.prog 9 (rest.map (·.1))), m ≤ reachBytes := by
      intro m hm; exact hw m (by simpa only [DataW.weights, Tryz.underlying31] using hm)
    have hlen' : len * 16 ≤ 140737488355328 := by
      have := hwt _ (List.mem_cons_self ..)
      rw [Tryz.bS, List.length_map, List.length_map, hlen] at this
      have := reach_le
      omega
    have hread : ∀ i, i < len → ∃ s : ByteArray, W.cell? (a.add i) = some (.string s) ∧ s.size ≤ 140737488355328 := by
      intro i hi
      obtain ⟨cs, hc, ht⟩ := elem_at (by omega) (hel i hi)
      have hie : i < elems.length := by omega
      have hwe : ∀ m ∈ (elems[i]).1.weights Tryz.prog 9, m ≤ reachBytes := fun m hm => hwt m (List.mem_cons_of_mem _ (List.mem_append_left _ (weights_all (List.mem_map.2 ⟨elems[i], List.getElem_mem hie, rfl⟩) m hm)))
      obtain ⟨s, rfl, hy, _⟩ := DataW.trod_string Tryz.underlying9 ht
      rw [Tryz.cS, Nat.mul_one] at hc
      obtain ⟨_, _, hcell⟩ := World.cells?_some hc
      have := hcell 0 (by omega)
      have hz : s.size ≤ reachBytes := hwe s.size (by rw [hy]; simp [DataW.weights])
      exact ⟨s, by simpa [Addr.add] using this, by have := reach_le; omega⟩
    refine ⟨(List.range len).map fun i => match W.cell? (a.add i) with | some (.string s) => s | _ => ByteArray.empty, some a, cap, by simp, by simpa using hlen', ?_⟩
    intro j s hj
    have hjl : j < len := by have := (List.getElem?_eq_some_iff.1 hj).1; simpa using this
    obtain ⟨s', hs', hz⟩ := hread j hjl
    have e : s = s' := by
      rw [List.getElem?_map, List.getElem?_range hjl] at hj
      simp [hs'] at hj; exact hj.symm
    subst e
    obtain ⟨b, o, spot⟩ := a
    have hsp : spot = none := by
      obtain ⟨z0, hz0, _⟩ := hread 0 (by omega)
      simpa [Addr.add] using World.cell?_spot hz0
    subst hsp
    rw [add_none] at hs'
    exact ⟨b, o, rfl, World.block_lt_of_cell? _ _ hs', hs', hz⟩
set_option maxRecDepth 100000 in
theorem open_bools {n : Nat} {v : Value} {x : DataW H × List MemPlace} (h : DataW.trod enc Tryz.prog W 0 (fun _ => true) true n 32 [v] = some x) (hw : ∀ m ∈ x.1.weights Tryz.prog 32, m ≤ reachBytes) :
    ∃ (l : List Bool) (a : Option Addr) (cap : Nat), v = .slice a l.length cap ∧ l.length ≤ 140737488355328 ∧ BoolsAt W (Lo W.heap.size) a l := by
  rcases DataW.trod_slice Tryz.underlying32 h with ⟨hcs, rfl⟩ | ⟨a, len, cap, elems, rest, n', rfl, hcs, rfl, _, hlc, hcm, hlen, hel, _, _⟩
  · simp at hcs; subst hcs; exact ⟨[], none, 0, rfl, by simp, fun j s hj => by simp at hj⟩
  · simp at hcs; subst hcs
    have hlen' : len ≤ 140737488355328 := by
      have := hw (((elems.map (·.1)).length + (rest.map (·.1)).length) * Tryz.prog.bytesOf 4) (by simp only [DataW.weights, Tryz.underlying32]; exact List.mem_cons_self ..)
      rw [Tryz.bB, List.length_map, List.length_map, hlen] at this
      have := reach_le
      omega
    have hread : ∀ i, i < len → ∃ s : Bool, W.cell? (a.add i) = some (.bool s) := by
      intro i hi
      obtain ⟨cs, hc, ht⟩ := elem_at (by omega) (hel i hi)
      obtain ⟨s, rfl, _⟩ := DataW.trod_bool Tryz.underlying4 ht
      rw [Tryz.cB, Nat.mul_one] at hc
      obtain ⟨_, _, hcell⟩ := World.cells?_some hc
      have := hcell 0 (by omega)
      exact ⟨s, by simpa [Addr.add] using this⟩
    refine ⟨(List.range len).map fun i => match W.cell? (a.add i) with | some (.bool s) => s | _ => false, some a, cap, by simp, by simpa using hlen', ?_⟩
    intro j s hj
    have hjl : j < len := by have := (List.getElem?_eq_some_iff.1 hj).1; simpa using this
    obtain ⟨s', hs'⟩ := hread j hjl
    have e : s = s' := by
      rw [List.getElem?_map, List.getElem?_range hjl] at hj
      simp [hs'] at hj; exact hj.symm
    subst e
    obtain ⟨b, o, spot⟩ := a
    have hsp : spot = none := by
      obtain ⟨z0, hz0⟩ := hread 0 (by omega)
      simpa [Addr.add] using World.cell?_spot hz0
    subst hsp
    rw [add_none] at hs'
    exact ⟨b, o, rfl, World.block_lt_of_cell? _ _ hs', hs'⟩

set_option maxRecDepth 100000 in
theorem open_type (n : Nat) : OpenYC enc W n := by
  induction n using Nat.strongRecOn with
  | ind n ih =>
    intro cs x h hw
    obtain ⟨xs, n2, rfl, rfl, hlc, hxs, hf⟩ := DataW.trod_struct Tryz.underlying34 h
    rw [Tryz.cY] at hlc
    match cs, hlc with
    | [c0, c1, c2, c3, c4, c5, c6, c7, c8, c9, c10, c11, c12, c13, c14, c15, c16, c17], _ =>
      match xs, hxs with
      | [y0, y1, y2, y3, y4, y5, y6, y7], _ =>
        have f0 := hf 0 _ rfl
        have f1 := hf 1 _ rfl
        have f2 := hf 2 _ rfl
        have f3 := hf 3 _ rfl
        have f4 := hf 4 _ rfl
        have f5 := hf 5 _ rfl
        have f6 := hf 6 _ rfl
        have f7 := hf 7 _ rfl
        simp [Tryz.cI, Tryz.cT, Tryz.cYs, Tryz.cNs, Tryz.cLs, Tryz.cB, Tryz.cS] at f0 f1 f2 f3 f4 f5 f6 f7
        clear hf
        have hwe : ∀ m ∈ DataW.weightsEach Tryz.prog [3, 3, 29, 30, 31, 32, 4, 9] [y0.1, y1.1, y2.1, y3.1, y4.1, y5.1, y6.1, y7.1], m ≤ reachBytes := by
          intro m hm; exact hw m (by simpa only [DataW.weights, Tryz.underlying34, List.map_cons, List.map_nil] using hm)
        obtain ⟨k, e0, _, w0⟩ := DataW.trod_int Tryz.underlying3 f0
        obtain ⟨o, e1, _, w1⟩ := DataW.trod_int Tryz.underlying3 f1
        obtain ⟨t, ht⟩ := open_term n2 _ _ f2 (fun m hm => hwe m (DataW.weights_mem_each (j := 2) rfl rfl m hm))
        obtain ⟨p, ap, cp, rfl, hpl, hp⟩ := open_types (fun m hm => ih m (by omega)) f3 (fun m hm => hwe m (DataW.weights_mem_each (j := 3) rfl rfl m hm))
        obtain ⟨nm, an, cn, rfl, hnl, hn⟩ := open_names f4 (fun m hm => hwe m (DataW.weights_mem_each (j := 4) rfl rfl m hm))
        obtain ⟨lk, ak, ck, rfl, hll, hl⟩ := open_bools f5 (fun m hm => hwe m (DataW.weights_mem_each (j := 5) rfl rfl m hm))
        obtain ⟨op, e6, _⟩ := DataW.trod_bool Tryz.underlying4 f6
        obtain ⟨c, e7, z7, _⟩ := DataW.trod_string Tryz.underlying9 f7
        have hc : c.size ≤ 140737488355328 := by
          have := hwe c.size (DataW.weights_mem_each (j := 7) rfl rfl c.size (by rw [z7]; simp [DataW.weights]))
          have := reach_le; omega
        simp at e0 e1 e6 e7
        subst e0 e1 e6 e7
        have a0 := bounds_i64 w0
        have a1 := bounds_i64 w1
        cases t with
        | mk k1 b i f tx lb rf l fs c1 vr =>
          have ht' := ht
          simp only [Tm.In] at ht
          obtain ⟨ab, cb, al, cl, af, cf, e, -⟩ := ht
          simp [tcells] at e
          obtain ⟨rfl, rfl, rfl, rfl, rfl, rfl, rfl, rfl, rfl, rfl, rfl⟩ := e
          refine ⟨.mk k o (.mk k1 b i f tx lb rf l fs c1 vr) p nm lk op c, ?_⟩
          simp only [Ty.In]
          exact ⟨k1, b, i, f, tx, ab, lb.size, cb, rf, al, l.len, cl, af, fs.len, cf, c1, vr, ap, cp, an, cn, ak, ck, rfl, ht', a0, a1, ⟨by omega, by omega, hll, hc⟩, hp, hn, hl⟩
end
end Go.Proofs.YtjdjpbdfchhcfaaGreat


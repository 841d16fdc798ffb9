/- References, edges and bools that can be read as data: how they lie in memory. -/
import Derived.Test.YtghfikeakfiopaaK34
import Derived.ProofKit
import Derived.OpenShut
import Derived.SizedLaws
namespace Go.Proofs.Ytghfikeakfiopaa
open Go.ChangeShapes Go.WideShapes Go.ChangeAt Go.RowKit

theorem Try.cRf : Try.prog.cellsOf 36 = 1 := by kernel_rfl
theorem Try.bRf : Try.prog.bytesOf 36 = 8 := by kernel_rfl
theorem Try.cEg : Try.prog.cellsOf 47 = 2 := by kernel_rfl
theorem Try.bEg : Try.prog.bytesOf 47 = 16 := by kernel_rfl
theorem Try.cBl : Try.prog.cellsOf 4 = 1 := by kernel_rfl
theorem Try.bBl : Try.prog.bytesOf 4 = 1 := by kernel_rfl
theorem reach_iq : reachBytes = 140737488351232 := by rfl
theorem add_nn (b o i : Nat) : (⟨b, o, none⟩ : Addr).add i = ⟨b, o + i, none⟩ := addN b o i
set_option maxRecDepth 100000 in
theorem spot_of {W : World} {base : Nat} {t e : TypeId} (ht : Try.prog.underlying t = some (.slice e)) {a : Addr} {l c : Nat} (h : Value.okWide Try.prog W .any base t (.slice (some a) l c)) : a.spot = none := by
  simp only [Value.okWide, ht, Cell.okWide] at h
  simp only [Cell.ok, ht] at h
  exact h.2.2.2.1
theorem at_elem {i n : Nat} {α β : Type} {x : Option α} {f : α → Option β} {l : List β} (hn : l.length = n) (hi : i < n) (h : x.bind f = l[i]?) : ∃ a, x = some a ∧ ∃ y, f a = some y := by
  rw [List.getElem?_eq_getElem (by omega)] at h
  cases x with
  | none => simp at h
  | some a => exact ⟨a, rfl, _, h⟩
section
variable {H : Type} {enc : TypeId × Value → H} {W : World}
set_option maxRecDepth 100000 in
theorem open_rfs {n : Nat} {v : Value} {x : DataW H × List MemPlace} (h : DataW.trod enc Try.prog W 0 (fun _ => true) true n 22 [v] = some x) (hw : ∀ m ∈ x.1.weights Try.prog 22, m ≤ reachBytes) (hs : ∀ a l c, v = .slice (some a) l c → a.spot = none) :
    ∃ (l : List Int) (a : Option Addr) (cap : Nat), v = .slice a l.length cap ∧ l.length * 8 ≤ 140737488355328 ∧ RefsAt W W.heap.size a l := by
  rcases DataW.trod_slice Try.underlying22 h with ⟨hcs, rfl⟩ | ⟨a, len, cap, elems, rest, n', rfl, hcs, rfl, _, hlc, hcm, hlen, hel, _, _⟩
  · simp at hcs; subst hcs; exact ⟨[], none, 0, rfl, by simp, (fun t x hx => by simp at hx), (fun _ => .inl rfl), (fun x hx => by simp at hx)⟩
  · simp at hcs; subst hcs
    have hlen' : len * 8 ≤ 140737488355328 := by
      have := hw (((elems.map (·.1)).length + (rest.map (·.1)).length) * Try.prog.bytesOf 36) (by simp only [DataW.weights, Try.underlying22]; exact List.mem_cons_self ..)
      rw [Try.bRf, List.length_map, List.length_map, hlen] at this
      have := reach_iq
      omega
    have hsp := hs a len cap rfl
    obtain ⟨b, o, spot⟩ := a
    obtain rfl : spot = none := hsp
    have hread : ∀ i, i < len → ∃ z : Int, W.cell? ⟨b, o + i, none⟩ = some (.int .u64 z) ∧ 0 ≤ z ∧ z < 18446744073709551616 := fun i hi => by
      obtain ⟨cs, hc, y, ht⟩ := at_elem hlen hi (hel i hi)
      obtain ⟨z, rfl, _, hz⟩ := DataW.trod_int Try.underlying36 ht
      rw [Try.cRf, add_nn, Nat.mul_one] at hc
      obtain ⟨_, _, hcell⟩ := World.cells?_some hc
      have h00 := hcell 0 (by simp)
      rw [add_nn] at h00
      have hb := bounds_u64 hz
      exact ⟨z, by simpa using h00, hb.1, by omega⟩
    refine ⟨(List.range len).map fun i => match W.cell? ⟨b, o + i, none⟩ with | some (.int .u64 z) => z | _ => 0, some ⟨b, o, none⟩, cap, by simp, by simpa using hlen', fun t x hx => ?_, fun hn => .inr ⟨b, o, rfl⟩, fun x hx => ?_⟩
    · have htl : t < len := by have := (List.getElem?_eq_some_iff.1 hx).1; simpa using this
      obtain ⟨z, hz, _⟩ := hread t htl
      refine ⟨b, o, rfl, World.block_lt_of_cell? _ _ hz, ?_⟩
      simp [htl, hz] at hx
      rw [← hx]; exact hz
    · obtain ⟨i, hi, rfl⟩ := List.mem_map.1 hx
      obtain ⟨z, hz, h1, h2⟩ := hread i (by simpa using hi)
      rw [hz]; exact ⟨h1, h2⟩
set_option maxRecDepth 100000 in
theorem open_bls {n : Nat} {v : Value} {x : DataW H × List MemPlace} (h : DataW.trod enc Try.prog W 0 (fun _ => true) true n 24 [v] = some x) (hw : ∀ m ∈ x.1.weights Try.prog 24, m ≤ reachBytes) (hs : ∀ a l c, v = .slice (some a) l c → a.spot = none) :
    ∃ (l : List Bool) (a : Option Addr) (cap : Nat), v = .slice a l.length cap ∧ l.length ≤ 140737488355328 ∧ BlsIn W a l := by
  rcases DataW.trod_slice Try.underlying24 h with ⟨hcs, rfl⟩ | ⟨a, len, cap, elems, rest, n', rfl, hcs, rfl, _, hlc, hcm, hlen, hel, _, _⟩
  · simp at hcs; subst hcs; exact ⟨[], none, 0, rfl, by simp, (fun t x hx => by simp at hx)⟩
  · simp at hcs; subst hcs
    have hlen' : len ≤ 140737488355328 := by
      have := hw (((elems.map (·.1)).length + (rest.map (·.1)).length) * Try.prog.bytesOf 4) (by simp only [DataW.weights, Try.underlying24]; exact List.mem_cons_self ..)
      rw [Try.bBl, List.length_map, List.length_map, hlen] at this
      have := reach_iq
      omega
    have hsp := hs a len cap rfl
    obtain ⟨b, o, spot⟩ := a
    obtain rfl : spot = none := hsp
    have hread : ∀ i, i < len → ∃ z : Bool, W.cell? ⟨b, o + i, none⟩ = some (.bool z) := fun i hi => by
      obtain ⟨cs, hc, y, ht⟩ := at_elem hlen hi (hel i hi)
      obtain ⟨z, rfl, _⟩ := DataW.trod_bool Try.underlying4 ht
      rw [Try.cBl, add_nn, Nat.mul_one] at hc
      obtain ⟨_, _, hcell⟩ := World.cells?_some hc
      have h00 := hcell 0 (by simp)
      rw [add_nn] at h00
      exact ⟨z, by simpa using h00⟩
    refine ⟨(List.range len).map fun i => match W.cell? ⟨b, o + i, none⟩ with | some (.bool z) => z | _ => false, some ⟨b, o, none⟩, cap, by simp, by simpa using hlen', fun t x hx => ?_⟩
    have htl : t < len := by have := (List.getElem?_eq_some_iff.1 hx).1; simpa using this
    obtain ⟨z, hz⟩ := hread t htl
    refine ⟨b, o, rfl, World.block_lt_of_cell? _ _ hz, ?_⟩
    simp [htl, hz] at hx
    rw [← hx]; exact hz
set_option maxRecDepth 100000 in
theorem open_eds {n : Nat} {v : Value} {x : DataW H × List MemPlace} (h : DataW.trod enc Try.prog W 0 (fun _ => true) true n 23 [v] = some x) (hw : ∀ m ∈ x.1.weights Try.prog 23, m ≤ reachBytes) (hs : ∀ a l c, v = .slice (some a) l c → a.spot = none) :
    ∃ (l : List (Int × Int)) (a : Option Addr) (cap : Nat), v = .slice a l.length cap ∧ l.length * 16 ≤ 140737488355328 ∧ EdgesAt W W.heap.size a l := by
  rcases DataW.trod_slice Try.underlying23 h with ⟨hcs, rfl⟩ | ⟨a, len, cap, elems, rest, n', rfl, hcs, rfl, _, hlc, hcm, hlen, hel, _, _⟩
  · simp at hcs; subst hcs; exact ⟨[], none, 0, rfl, by simp, (fun t x hx => by simp at hx), (fun _ => .inl rfl), (fun x hx => by simp at hx)⟩
  · simp at hcs; subst hcs
    have hlen' : len * 16 ≤ 140737488355328 := by
      have := hw (((elems.map (·.1)).length + (rest.map (·.1)).length) * Try.prog.bytesOf 47) (by simp only [DataW.weights, Try.underlying23]; exact List.mem_cons_self ..)
      rw [Try.bEg, List.length_map, List.length_map, hlen] at this
      have := reach_iq
      omega
    have hsp := hs a len cap rfl
    obtain ⟨b, o, spot⟩ := a
    obtain rfl : spot = none := hsp
    have hread : ∀ i, i < len → ∃ z y : Int, W.cell? ⟨b, o + i * 2, none⟩ = some (.int .u64 z) ∧ W.cell? ⟨b, o + i * 2 + 1, none⟩ = some (.int .u64 y) ∧ (0 ≤ z ∧ z < 18446744073709551616) ∧ 0 ≤ y ∧ y < 18446744073709551616 := fun i hi => by
      obtain ⟨cs, hc, w, ht⟩ := at_elem hlen hi (hel i hi)
      rw [Try.cEg, add_nn] at hc
      obtain ⟨_, hl2, hcell⟩ := World.cells?_some hc
      have h00 := hcell 0 (by simp)
      have h01 := hcell 1 (by simp)
      rw [add_nn] at h00 h01
      obtain ⟨xs, n2, rfl, hx, hlc2, hxs, hf⟩ := DataW.trod_struct Try.underlying47 ht
      obtain ⟨z, y, hz, hy, rfl⟩ : ∃ z y : Int, (Lit.int .u64 z).wf = true ∧ (Lit.int .u64 y).wf = true ∧ cs = [.int .u64 z, .int .u64 y] := by
        match cs, hl2 with
        | [c0, c1], _ =>
          match xs, hxs with
          | [y0, y1], _ =>
            have f0 := hf 0 _ rfl
            have f1 := hf 1 _ rfl
            simp [Try.cRf] at f0
            simp [Try.cRf] at f1
            obtain ⟨z, hz, _, hzw⟩ := DataW.trod_int Try.underlying36 f0
            obtain ⟨y, hy, _, hyw⟩ := DataW.trod_int Try.underlying36 f1
            simp at hz hy
            subst hz hy
            exact ⟨z, y, hzw, hyw, rfl⟩
      have hb := bounds_u64 hz
      have hb2 := bounds_u64 hy
      exact ⟨z, y, by simpa using h00, by simpa using h01, ⟨hb.1, by omega⟩, hb2.1, by omega⟩
    refine ⟨(List.range len).map fun i => (match W.cell? ⟨b, o + i * 2, none⟩ with | some (.int .u64 z) => z | _ => 0, match W.cell? ⟨b, o + i * 2 + 1, none⟩ with | some (.int .u64 z) => z | _ => 0), some ⟨b, o, none⟩, cap, by simp, by simpa using hlen', fun t x hx => ?_, fun hn => .inr ⟨b, o, rfl⟩, fun x hx => ?_⟩
    · have htl : t < len := by have := (List.getElem?_eq_some_iff.1 hx).1; simpa using this
      obtain ⟨z, y, hz, hy, _⟩ := hread t htl
      simp [htl, hz, hy] at hx
      subst hx
      exact ⟨b, o, rfl, World.block_lt_of_cell? _ _ hz, hz, hy⟩
    · obtain ⟨i, hi, rfl⟩ := List.mem_map.1 hx
      obtain ⟨z, y, hz, hy, h1, h2⟩ := hread i (by simpa using hi)
      rw [hz, hy]; exact ⟨h1, h2⟩
end
end Go.Proofs.Ytghfikeakfiopaa


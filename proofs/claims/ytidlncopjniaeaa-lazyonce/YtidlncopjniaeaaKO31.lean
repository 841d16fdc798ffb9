/- Asks (tenonref12.Op) that can be read as data: how they lie in memory. -/
import Derived.Test.YtidlncopjniaeaaKO29
import Derived.Test.YtidlncopjniaeaaKO30
namespace Go.Proofs.Ytidlncopjniaeaa
open Go.ChangeShapes Go.WideShapes Go.ChangeAt Go.RowKit

theorem Try.cOp : Try.prog.cellsOf 42 = 4 := by kernel_rfl
theorem Try.bOp : Try.prog.bytesOf 42 = 40 := by kernel_rfl

section
variable {H : Type} {enc : TypeId × Value → H} {W : World}
set_option maxRecDepth 100000 in
theorem open_asks {n : Nat} {v : Value} {x : DataW H × List MemPlace} (h : DataW.trod enc Try.prog W 0 (fun _ => true) true n 30 [v] = some x) (hw : ∀ m ∈ x.1.weights Try.prog 30, m ≤ reachBytes) :
    ∃ (a : Option Addr) (len cap : Nat), v = .slice a len cap ∧ len * 40 ≤ 140737488355328 ∧ AskIn W a len := by
  rcases DataW.trod_slice Try.underlying30 h with ⟨hcs, rfl⟩ | ⟨a, len, cap, elems, rest, n', rfl, hcs, rfl, _, hlc, hcm, hlen, hel, _, _⟩
  · simp at hcs; subst hcs; exact ⟨none, 0, 0, rfl, by omega, fun i hi => by omega⟩
  · simp at hcs; subst hcs
    have hlen' : len * 40 ≤ 140737488355328 := by
      have := hw (((elems.map (·.1)).length + (rest.map (·.1)).length) * Try.prog.bytesOf 42) (by simp only [DataW.weights, Try.underlying30]; exact List.mem_cons_self ..)
      rw [Try.bOp, List.length_map, List.length_map, hlen] at this
      have := reach_le
      omega
    refine ⟨some a, len, cap, rfl, hlen', fun i hi => ?_⟩
    obtain ⟨b, o, spot⟩ := a
    have hsp : spot = none := by
      obtain ⟨cs, hc, _⟩ := elem_at (i := 0) (by omega) (hel 0 (by omega))
      rw [Try.cOp] at hc
      obtain ⟨_, hl4, hcell⟩ := World.cells?_some hc
      have h00 := hcell 0 (by omega)
      rw [List.getElem?_eq_getElem (by omega)] at h00
      simpa [Addr.add] using World.cell?_spot h00
    subst hsp
    obtain ⟨cs, hc, ht⟩ := elem_at (by omega) (hel i hi)
    rw [Try.cOp, add_none] at hc
    obtain ⟨_, hl4, hcell⟩ := World.cells?_some hc
    obtain ⟨xs, n2, rfl, hx, hlc2, hxs, hf⟩ := DataW.trod_struct Try.underlying42 ht
    match cs, hl4 with
    | [c0, c1, c2, c3], _ =>
      match xs, hxs with
      | [y0, y1, y2, y3], _ =>
        have f0 := hf 0 _ rfl
        have f2 := hf 2 _ rfl
        simp [Try.cI] at f0
        simp [Try.cS] at f2
        obtain ⟨k, e0, _, w0⟩ := DataW.trod_int Try.underlying3 f0
        obtain ⟨s, e2, _, _⟩ := DataW.trod_string Try.underlying9 f2
        simp at e0 e2
        subst e0 e2
        have h00 := hcell 0 (by omega)
        have h02 := hcell 2 (by omega)
        rw [add_none] at h00 h02
        exact ⟨b, o, k, s, rfl, World.block_lt_of_cell? _ _ h00, by simpa using h00, by simpa using h02⟩
end
end Go.Proofs.Ytidlncopjniaeaa


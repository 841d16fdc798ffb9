/- Identities that can be read as data: how they lie in memory. -/
import Derived.Test.YtjlhmgopmdcopaaKR31
import Derived.Test.YtjlhmgopmdcopaaKR32
namespace Go.Proofs.Ytjlhmgopmdcopaa
open Go.ChangeShapes Go.WideShapes Go.ChangeAt Go.RowKit

theorem Try.cRef1 : Try.prog.cellsOf 25 = 1 := by kernel_rfl
theorem Try.bRef : Try.prog.bytesOf 25 = 8 := by kernel_rfl

section
variable {H : Type} {enc : TypeId × Value → H} {W : World}
set_option maxRecDepth 100000 in
theorem open_refs {n : Nat} {v : Value} {x : DataW H × List MemPlace} (h : DataW.trod enc Try.prog W 0 (fun _ => true) true n 54 [v] = some x) (hw : ∀ m ∈ x.1.weights Try.prog 54, m ≤ reachBytes) :
    ∃ (a : Option Addr) (len cap : Nat), v = .slice a len cap ∧ len * 8 ≤ 140737488355328 ∧ RefIn W a len := by
  rcases DataW.trod_slice Try.underlying54 h with ⟨hcs, rfl⟩ | ⟨a, len, cap, elems, rest, n', rfl, hcs, rfl, _, hlc, hcm, hlen, hel, _, _⟩
  · simp at hcs; subst hcs; exact ⟨none, 0, 0, rfl, by omega, fun i hi => by omega⟩
  · simp at hcs; subst hcs
    have hlen' : len * 8 ≤ 140737488355328 := by
      have := hw (((elems.map (·.1)).length + (rest.map (·.1)).length) * Try.prog.bytesOf 25) (by simp only [DataW.weights, Try.underlying54]; exact List.mem_cons_self ..)
      rw [Try.bRef, List.length_map, List.length_map, hlen] at this
      have := reach_le
      omega
    refine ⟨some a, len, cap, rfl, hlen', fun i hi => ?_⟩
    obtain ⟨b, o, spot⟩ := a
    have hsp : spot = none := by
      obtain ⟨cs, hc, _⟩ := elem_at (i := 0) (by omega) (hel 0 (by omega))
      rw [Try.cRef1] at hc
      obtain ⟨_, hl1, hcell⟩ := World.cells?_some hc
      have h00 := hcell 0 (by omega)
      rw [List.getElem?_eq_getElem (by omega)] at h00
      simpa [Addr.add] using World.cell?_spot h00
    subst hsp
    obtain ⟨cs, hc, ht⟩ := elem_at (by omega) (hel i hi)
    obtain ⟨z, rfl, _, hz⟩ := DataW.trod_int Try.underlying25 ht
    rw [Try.cRef1, add_none, Nat.mul_one] at hc
    obtain ⟨_, _, hcell⟩ := World.cells?_some hc
    have h00 := hcell 0 (by simp)
    rw [add_none] at h00
    have hb := bounds_u64 hz
    exact ⟨b, o, z, rfl, World.block_lt_of_cell? _ _ h00, by simpa using h00, hb.1, by omega⟩
theorem open_u8 {n : Nat} {v : Value} {x : DataW H × List MemPlace} (h : DataW.trod enc Try.prog W 0 (fun _ => true) true n 5 [v] = some x) : ∃ z, v = .int .u8 z ∧ 0 ≤ z ∧ z ≤ 255 := by
  obtain ⟨z, e, _, hz⟩ := DataW.trod_int Try.underlying5 h
  simp at e
  simp [Lit.wf, IntKind.min, IntKind.max, IntKind.signed, IntKind.bits] at hz
  exact ⟨z, e, by omega, by omega⟩
end
end Go.Proofs.Ytjlhmgopmdcopaa


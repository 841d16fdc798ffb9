/- What a description that is handed in lays in memory. -/
import Derived.Test.YtcelbkkgjnfblaaR5
import Derived.Test.YtcelbkkgjnfblaaRows
import Derived.ProofKit
import Derived.SizedLaws
namespace Go.Proofs.Ytcelbkkgjnfblaa
open Go.ChangeShapes Go.WideShapes Go.ChangeAt Go.RowKit

theorem Try.own : ownKnob Try.prog.godebug = none := by kernel_rfl
theorem Try.laidOut : laidOutB Try.prog = true := by kernel_rfl
theorem Try.cSpec : Try.prog.cellsOf 28 = 14 := by kernel_rfl
theorem Try.cI : Try.prog.cellsOf 3 = 1 := by kernel_rfl
theorem Try.cR : Try.prog.cellsOf 23 = 1 := by kernel_rfl
theorem Try.cEs : Try.prog.cellsOf 24 = 1 := by kernel_rfl
theorem Try.cTs : Try.prog.cellsOf 25 = 1 := by kernel_rfl
theorem Try.cS : Try.prog.cellsOf 9 = 1 := by kernel_rfl
theorem Try.cE : Try.prog.cellsOf 26 = 1 := by kernel_rfl
theorem Try.cB : Try.prog.cellsOf 4 = 1 := by kernel_rfl

section
variable {H : Type} {enc : TypeId × Value → H} {W : World}
theorem slice_any {n : Nat} {e t : TypeId} {v : Value} {x : DataW H × List MemPlace} (hu : Try.prog.underlying t = some (.slice e)) (h : DataW.trod enc Try.prog W 0 (fun _ => true) true n t [v] = some x) : ∃ a len cap, v = .slice a len cap := by
  rcases DataW.trod_slice hu h with ⟨hcs, _⟩ | ⟨a, len, cap, elems, rest, n', _, hcs, _⟩
  · simp at hcs; exact ⟨_, _, _, hcs⟩
  · simp at hcs; exact ⟨_, _, _, hcs⟩
set_option maxRecDepth 100000 in
theorem open_spec {n : Nat} {cs : List Value} {x : DataW H × List MemPlace} (h : DataW.trod enc Try.prog W 0 (fun _ => true) true n 28 cs = some x) :
    ∃ (r : Sr) (h n sh : Int), cs.toArray = r.cs h n sh := by
  obtain ⟨xs, n2, rfl, rfl, hlc, hxs, hf⟩ := DataW.trod_struct Try.underlying28 h
  rw [Try.cSpec] at hlc
  match cs, hlc with
  | [c0, c1, c2, c3, c4, c5, c6, c7, c8, c9, c10, c11, c12, c13], _ =>
    match xs, hxs with
    | [y0, y1, y2, y3, y4, y5, y6, y7, y8, y9, y10, y11, y12, y13], _ =>
      have f0 := hf 0 _ rfl
      have f1 := hf 1 _ rfl
      have f2 := hf 2 _ rfl
      have f3 := hf 3 _ rfl
      have f4 := hf 4 _ rfl
      have f5 := hf 5 _ rfl
      have f6 := hf 6 _ rfl
      have f7 := hf 7 _ rfl
      have f8 := hf 8 _ rfl
      have f9 := hf 9 _ rfl
      have f10 := hf 10 _ rfl
      have f11 := hf 11 _ rfl
      have f12 := hf 12 _ rfl
      have f13 := hf 13 _ rfl
      clear hf
      simp [Try.cI, Try.cR, Try.cEs, Try.cTs, Try.cS, Try.cE, Try.cB] at f0 f1 f2 f3 f4 f5 f6 f7 f8 f9 f10 f11 f12 f13
      obtain ⟨x0, e0, _⟩ := DataW.trod_int Try.underlying3 f0
      obtain ⟨x1, e1, _⟩ := DataW.trod_int Try.underlying3 f1
      obtain ⟨x2, e2, _⟩ := DataW.trod_int Try.underlying3 f2
      obtain ⟨x3, e3, _⟩ := DataW.trod_int Try.underlying23 f3
      obtain ⟨a4, l4, p4, e4⟩ := slice_any Try.underlying24 f4
      obtain ⟨x5, e5, _⟩ := DataW.trod_string Try.underlying9 f5
      obtain ⟨x6, e6, _⟩ := DataW.trod_int Try.underlying3 f6
      obtain ⟨a7, l7, p7, e7⟩ := slice_any Try.underlying25 f7
      obtain ⟨x8, e8, _⟩ := DataW.trod_string Try.underlying9 f8
      obtain ⟨x9, e9, _⟩ := DataW.trod_int Try.underlying26 f9
      obtain ⟨x10, e10, _⟩ := DataW.trod_bool Try.underlying4 f10
      obtain ⟨x11, e11, _⟩ := DataW.trod_int Try.underlying26 f11
      obtain ⟨x12, e12, _⟩ := DataW.trod_int Try.underlying3 f12
      obtain ⟨x13, e13, _⟩ := DataW.trod_int Try.underlying3 f13
      simp at e0 e1 e2 e3 e5 e6 e8 e9 e10 e11 e12 e13
      subst e0 e1 e2 e3 e4 e5 e6 e7 e8 e9 e10 e11 e12 e13
      exact ⟨⟨x3, a4, l4, p4, x5, x6, a7, l7, p7, x8, x9, x10, x11, x12, x13⟩, x0, x1, x2, rfl⟩
end
end Go.Proofs.Ytcelbkkgjnfblaa


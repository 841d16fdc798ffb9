/- Each node is in one part, there is an order just if there is no ring, and then each node stands ahead of those that it names, and turned about the parts are the same: the Go function tenonlaw14.GraphParts returns true at both arguments that can be read, and leaves them as they were. -/
import Derived.Test.YtikhpbidbcfedaaGreatRows
import Derived.Test.YtikhpbidbcfedaaGreatKp24
import Derived.Test.YtikhpbidbcfedaaGreatKp41
import Derived.ProofKit
import Derived.SizedLaws
import Derived.Carry
namespace Go.Proofs.YtikhpbidbcfedaaGreat
open Go.ChangeShapes Go.WideShapes Go.ChangeAt Go.RowKit

theorem Tryz.ownGraphParts : ownKnob Tryz.prog.godebug = none := by kernel_rfl
theorem Tryz.laidOutGraphParts : laidOutB Tryz.prog = true := by kernel_rfl

section
variable {H : Type} {enc : TypeId × Value → H} {P : Program} {w : World} {base : Nat} {spare : Nat → Bool} {held : Bool}
theorem trod_GraphParts {t0 t1 : TypeId} {args : Array Value} {ds : List (DataW H)} {ps : List MemPlace} (h : DataW.TrodAll enc P w base spare held [t0, t1] args.toList ds ps) :
    ∃ v0 v1 d0 d1 p0 p1, args = #[v0, v1] ∧ ds = [d0, d1] ∧ ps = p0 ++ p1 ∧ DataW.Trod enc P w base spare held t0 v0 d0 p0 ∧ DataW.Trod enc P w base spare held t1 v1 d1 p1 := by
  obtain ⟨v0, vs0, d0, ds0, p0, q0, hargs, rfl, rfl, h0, r0⟩ := trodAll_cons h
  obtain ⟨v1, vs1, d1, ds1, p1, q1, rfl, rfl, rfl, h1, r1⟩ := trodAll_cons r0
  obtain ⟨rfl, rfl, rfl⟩ := trodAll_nil r1
  exact ⟨v0, v1, d0, d1, p0, p1, by cases args; simp_all, rfl, by simp, h0, h1⟩
end
set_option maxRecDepth 100000 in
set_option maxHeartbeats 4000000 in
theorem GraphParts_lifted (os : Os) (started : os.Started) (H : Type) (enc : TypeId × Value → H) :
    ReturnsInHanded {} Tryz.checked os 4 .any (Rows.graphPartsSpec.pre6 enc Tryz.prog Tryz.f4 Rows.graphPartsRow.domain false) (Rows.graphPartsSpec.post enc Tryz.prog Tryz.f4 false true false false) := by
  refine returnsInHanded_of_change_sized (C := Tryz.checked) Tryz.ownGraphParts started (by kernel_rfl) Tryz.func4
    (ChangeSpec.witness6 (enc := enc) (C := Tryz.checked) false ⟨#[], #[.slice none 0 0, .slice none 0 0], []⟩ 8 (by kernel_rfl) (by kernel_rfl) (by kernel_rfl) (by kernel_rfl)) ?_
  intro W base args ds gs before hval0 hW hcnd hsz0 _
  have hval : ∀ (j : Nat) t v, Tryz.f4.params[j]? = some t → args[j]? = some v → Value.okWide Tryz.prog W .any base t v := hval0
  have hW' := hW
  obtain ⟨p, q, hA0, hV, rfl, hfz, hnd⟩ := hW
  have hA : DataW.TrodAll enc Tryz.prog W 0 (fun _ => true) true Tryz.f4.params.toList args.toList ds p := hA0
  rw [Tryz.params4] at hA hval
  obtain ⟨v0, v1, d0, d1, p0, p1, rfl, rfl, rfl, h0, h1⟩ := trod_GraphParts hA
  obtain ⟨rfl, rfl⟩ := trodVars_none hV
  have k0 := h0
  have lt0 : ∀ x ∈ p0, x.block < W.heap.size := by obtain ⟨m, hm⟩ := k0; exact DataW.trod_lt m _ _ _ hm
  have k1 := h1
  have lt1 : ∀ x ∈ p1, x.block < W.heap.size := by obtain ⟨m, hm⟩ := k1; exact DataW.trod_lt m _ _ _ hm
  have hsz0' : ∀ m ∈ d0.weights Tryz.prog 22, m ≤ reachBytes := by
    intro m hm
    have := List.all_eq_true.1 hsz0 m (DataW.weights_mem_each (j := 0) (t := 22) (d := d0) rfl rfl m hm)
    simpa using this
  obtain ⟨a0, l0, c0, rfl⟩ := okWide_slice Tryz.underlying22 (hval 0 22 v0 rfl rfl)
  have sp0 : ∀ a l c, Value.slice a0 l0 c0 = .slice (some a) l c → a.spot = none := fun a l c e => by
    have hv := hval 0 22 _ rfl rfl
    rw [e] at hv
    exact spot_of Tryz.underlying22 hv
  obtain ⟨xs0, b0, cp0, e0, hlen0, hin0⟩ : ∃ (l : List Int) (a : Option Addr) (cap : Nat), Value.slice a0 l0 c0 = .slice a l.length cap ∧ l.length * 8 ≤ 140737488355328 ∧ RefsAt W W.heap.size a l := by
    obtain ⟨fuel, hf⟩ := h0
    exact open_rfs hf hsz0' sp0
  clear sp0
  injection e0 with e0a e0b e0c
  subst e0a e0b e0c
  have hsz1' : ∀ m ∈ d1.weights Tryz.prog 23, m ≤ reachBytes := by
    intro m hm
    have := List.all_eq_true.1 hsz0 m (DataW.weights_mem_each (j := 1) (t := 23) (d := d1) rfl rfl m hm)
    simpa using this
  obtain ⟨a1, l1, c1, rfl⟩ := okWide_slice Tryz.underlying23 (hval 1 23 v1 rfl rfl)
  have sp1 : ∀ a l c, Value.slice a1 l1 c1 = .slice (some a) l c → a.spot = none := fun a l c e => by
    have hv := hval 1 23 _ rfl rfl
    rw [e] at hv
    exact spot_of Tryz.underlying23 hv
  obtain ⟨xs1, b1, cp1, e1, hlen1, hin1⟩ : ∃ (l : List (Int × Int)) (a : Option Addr) (cap : Nat), Value.slice a1 l1 c1 = .slice a l.length cap ∧ l.length * 16 ≤ 140737488355328 ∧ EdgesAt W W.heap.size a l := by
    obtain ⟨fuel, hf⟩ := h1
    exact open_eds hf hsz1' sp1
  clear sp1
  injection e1 with e1a e1b e1c
  subst e1a e1b e1c
  clear hA0 hval0
  refine (GraphParts_any a0 c0 xs0 a1 c1 xs1 W hin0 hin1 hlen0 hlen1).mono fun e W' ⟨he, bel⟩ => ?_
  subst he
  have z0 : DataW.Trod enc Tryz.prog W' 0 (fun b => decide (b < W.heap.size)) true 22 (.slice a0 xs0.length c0) d0 p0 := Below.trod Tryz.laidOutGraphParts (by kernel_rfl) (of_decide_eq_true (by kernel_rfl)) k0 bel lt0
  have z1 : DataW.Trod enc Tryz.prog W' 0 (fun b => decide (b < W.heap.size)) true 23 (.slice a1 xs1.length c1) d1 p1 := Below.trod Tryz.laidOutGraphParts (by kernel_rfl) (of_decide_eq_true (by kernel_rfl)) k1 bel lt1
  exact ⟨_, rfl, _, _, _, [], _, [], hW', trodAll_mk1 (shut_bool Tryz.underlying4 _), trodAll_mk2 z0 z1, rfl, bel.frame _, fun h => by cases h⟩

theorem GraphParts_holds : Rows.GraphPartsSaid :=
  OpenClaim.holds_of_wide 4 Tryz.f4 rfl rfl rfl rfl rfl rfl rfl ⟨rfl, rfl, rfl, rfl, rfl⟩ rfl rfl rfl rfl rfl (by kernel_rfl) Tryz.func4 (by kernel_rfl)
    (of_decide_eq_true (by kernel_rfl)) (by unfold Func.isWrapper; first | (rw [if_pos (by decide +kernel)]; kernel_rfl) | (rw [if_neg (by decide +kernel)]; exact ⟨rfl, rfl⟩))
    (fun os started H enc _ => GraphParts_lifted os started H enc)
end Go.Proofs.YtikhpbidbcfedaaGreat


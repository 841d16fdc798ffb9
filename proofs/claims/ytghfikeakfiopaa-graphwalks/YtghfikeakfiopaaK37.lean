/- Every Walk of any graph, whatever its two functions answer and wherever one of them panics, calls them as the document says: the Go function tenonlaw14.GraphWalks returns true at all six arguments that can be read, and leaves them as they were. -/
import Derived.Test.YtghfikeakfiopaaRows
import Derived.Test.YtghfikeakfiopaaK35
import Derived.Test.YtghfikeakfiopaaK36
import Derived.ProofKit
import Derived.SizedLaws
import Derived.Carry
namespace Go.Proofs.Ytghfikeakfiopaa
open Go.ChangeShapes Go.WideShapes Go.ChangeAt Go.RowKit

theorem Try.own : ownKnob Try.prog.godebug = none := by kernel_rfl
theorem Try.laidOut : laidOutB Try.prog = true := by kernel_rfl

section
variable {H : Type} {enc : TypeId × Value → H} {P : Program} {w : World} {base : Nat} {spare : Nat → Bool} {held : Bool}
theorem trod_six {t0 t1 t2 t3 t4 t5 : TypeId} {args : Array Value} {ds : List (DataW H)} {ps : List MemPlace} (h : DataW.TrodAll enc P w base spare held [t0, t1, t2, t3, t4, t5] args.toList ds ps) :
    ∃ v0 v1 v2 v3 v4 v5 d0 d1 d2 d3 d4 d5 p0 p1 p2 p3 p4 p5, args = #[v0, v1, v2, v3, v4, v5] ∧ ds = [d0, d1, d2, d3, d4, d5] ∧ ps = p0 ++ (p1 ++ (p2 ++ (p3 ++ (p4 ++ p5)))) ∧ DataW.Trod enc P w base spare held t0 v0 d0 p0 ∧ DataW.Trod enc P w base spare held t1 v1 d1 p1 ∧ DataW.Trod enc P w base spare held t2 v2 d2 p2 ∧ DataW.Trod enc P w base spare held t3 v3 d3 p3 ∧ DataW.Trod enc P w base spare held t4 v4 d4 p4 ∧ DataW.Trod enc P w base spare held t5 v5 d5 p5 := by
  obtain ⟨v0, vs0, d0, ds0, p0, q0, hargs, rfl, rfl, h0, r0⟩ := trodAll_cons h
  obtain ⟨v1, vs1, d1, ds1, p1, q1, rfl, rfl, rfl, h1, r1⟩ := trodAll_cons r0
  obtain ⟨v2, vs2, d2, ds2, p2, q2, rfl, rfl, rfl, h2, r2⟩ := trodAll_cons r1
  obtain ⟨v3, vs3, d3, ds3, p3, q3, rfl, rfl, rfl, h3, r3⟩ := trodAll_cons r2
  obtain ⟨v4, vs4, d4, ds4, p4, q4, rfl, rfl, rfl, h4, r4⟩ := trodAll_cons r3
  obtain ⟨v5, vs5, d5, ds5, p5, q5, rfl, rfl, rfl, h5, r5⟩ := trodAll_cons r4
  obtain ⟨rfl, rfl, rfl⟩ := trodAll_nil r5
  exact ⟨v0, v1, v2, v3, v4, v5, d0, d1, d2, d3, d4, d5, p0, p1, p2, p3, p4, p5, by cases args; simp_all, rfl, by simp, h0, h1, h2, h3, h4, h5⟩
end
set_option maxRecDepth 100000 in
set_option maxHeartbeats 4000000 in
theorem GraphWalks_lifted (os : Os) (started : os.Started) (H : Type) (enc : TypeId × Value → H) :
    ReturnsInHanded {} Try.checked os 3 .any (Rows.graphWalksSpec.pre6 enc Try.prog Try.f3 Rows.graphWalksRow.domain false) (Rows.graphWalksSpec.post enc Try.prog Try.f3 false true false false) := by
  refine returnsInHanded_of_change_sized (C := Try.checked) Try.own started (by kernel_rfl) Try.func3
    (ChangeSpec.witness6 (enc := enc) (C := Try.checked) false ⟨#[], #[.slice none 0 0, .slice none 0 0, .slice none 0 0, .slice none 0 0, .slice none 0 0, .int .i64 0], []⟩ 8 (by kernel_rfl) (by kernel_rfl) (by kernel_rfl) (by kernel_rfl)) ?_
  intro W base args ds gs before hval0 hW hcnd hsz0 _
  have hval : ∀ (j : Nat) t v, Try.f3.params[j]? = some t → args[j]? = some v → Value.okWide Try.prog W .any base t v := hval0
  have hW' := hW
  obtain ⟨p, q, hA0, hV, rfl, hfz, hnd⟩ := hW
  have hA : DataW.TrodAll enc Try.prog W 0 (fun _ => true) true Try.f3.params.toList args.toList ds p := hA0
  rw [Try.params3] at hA hval
  obtain ⟨v0, v1, v2, v3, v4, v5, d0, d1, d2, d3, d4, d5, p0, p1, p2, p3, p4, p5, rfl, rfl, rfl, h0, h1, h2, h3, h4, h5⟩ := trod_six hA
  obtain ⟨rfl, rfl⟩ := trodVars_none hV
  have k0 := h0
  have k1 := h1
  have k2 := h2
  have k3 := h3
  have k4 := h4
  have k5 := h5
  have lt5 : ∀ x ∈ p5, x.block < W.heap.size := by obtain ⟨m, hm⟩ := k5; exact DataW.trod_lt m _ _ _ hm
  have lt0 : ∀ x ∈ p0, x.block < W.heap.size := by obtain ⟨m, hm⟩ := k0; exact DataW.trod_lt m _ _ _ hm
  have hsz0' : ∀ m ∈ d0.weights Try.prog 22, m ≤ reachBytes := by
    intro m hm
    have := List.all_eq_true.1 hsz0 m (DataW.weights_mem_each (j := 0) (t := 22) (d := d0) rfl rfl m hm)
    simpa using this
  obtain ⟨a0, l0, c0, rfl⟩ := okWide_slice Try.underlying22 (hval 0 22 v0 rfl rfl)
  have sp0 : ∀ a l c, Value.slice a0 l0 c0 = .slice (some a) l c → a.spot = none := fun a l c e => by
    have hv := hval 0 22 _ rfl rfl
    rw [e] at hv
    exact spot_of Try.underlying22 hv
  obtain ⟨xs0, b0, cp0, e0, hlen0, hin0⟩ : ∃ (l : List Int) (a : Option Addr) (cap : Nat), Value.slice a0 l0 c0 = .slice a l.length cap ∧ l.length * 8 ≤ 140737488355328 ∧ RefsAt W W.heap.size a l := by
    obtain ⟨fuel, hf⟩ := h0
    exact open_rfs hf hsz0' sp0
  clear sp0
  injection e0 with e0a e0b e0c
  subst e0a e0b e0c
  have lt1 : ∀ x ∈ p1, x.block < W.heap.size := by obtain ⟨m, hm⟩ := k1; exact DataW.trod_lt m _ _ _ hm
  have hsz1' : ∀ m ∈ d1.weights Try.prog 23, m ≤ reachBytes := by
    intro m hm
    have := List.all_eq_true.1 hsz0 m (DataW.weights_mem_each (j := 1) (t := 23) (d := d1) rfl rfl m hm)
    simpa using this
  obtain ⟨a1, l1, c1, rfl⟩ := okWide_slice Try.underlying23 (hval 1 23 v1 rfl rfl)
  have sp1 : ∀ a l c, Value.slice a1 l1 c1 = .slice (some a) l c → a.spot = none := fun a l c e => by
    have hv := hval 1 23 _ rfl rfl
    rw [e] at hv
    exact spot_of Try.underlying23 hv
  obtain ⟨xs1, b1, cp1, e1, hlen1, hin1⟩ : ∃ (l : List (Int × Int)) (a : Option Addr) (cap : Nat), Value.slice a1 l1 c1 = .slice a l.length cap ∧ l.length * 16 ≤ 140737488355328 ∧ EdgesAt W W.heap.size a l := by
    obtain ⟨fuel, hf⟩ := h1
    exact open_eds hf hsz1' sp1
  clear sp1
  injection e1 with e1a e1b e1c
  subst e1a e1b e1c
  have lt2 : ∀ x ∈ p2, x.block < W.heap.size := by obtain ⟨m, hm⟩ := k2; exact DataW.trod_lt m _ _ _ hm
  have hsz2' : ∀ m ∈ d2.weights Try.prog 22, m ≤ reachBytes := by
    intro m hm
    have := List.all_eq_true.1 hsz0 m (DataW.weights_mem_each (j := 2) (t := 22) (d := d2) rfl rfl m hm)
    simpa using this
  obtain ⟨a2, l2, c2, rfl⟩ := okWide_slice Try.underlying22 (hval 2 22 v2 rfl rfl)
  have sp2 : ∀ a l c, Value.slice a2 l2 c2 = .slice (some a) l c → a.spot = none := fun a l c e => by
    have hv := hval 2 22 _ rfl rfl
    rw [e] at hv
    exact spot_of Try.underlying22 hv
  obtain ⟨xs2, b2, cp2, e2, hlen2, hin2⟩ : ∃ (l : List Int) (a : Option Addr) (cap : Nat), Value.slice a2 l2 c2 = .slice a l.length cap ∧ l.length * 8 ≤ 140737488355328 ∧ RefsAt W W.heap.size a l := by
    obtain ⟨fuel, hf⟩ := h2
    exact open_rfs hf hsz2' sp2
  clear sp2
  injection e2 with e2a e2b e2c
  subst e2a e2b e2c
  have lt3 : ∀ x ∈ p3, x.block < W.heap.size := by obtain ⟨m, hm⟩ := k3; exact DataW.trod_lt m _ _ _ hm
  have hsz3' : ∀ m ∈ d3.weights Try.prog 24, m ≤ reachBytes := by
    intro m hm
    have := List.all_eq_true.1 hsz0 m (DataW.weights_mem_each (j := 3) (t := 24) (d := d3) rfl rfl m hm)
    simpa using this
  obtain ⟨a3, l3, c3, rfl⟩ := okWide_slice Try.underlying24 (hval 3 24 v3 rfl rfl)
  have sp3 : ∀ a l c, Value.slice a3 l3 c3 = .slice (some a) l c → a.spot = none := fun a l c e => by
    have hv := hval 3 24 _ rfl rfl
    rw [e] at hv
    exact spot_of Try.underlying24 hv
  obtain ⟨xs3, b3, cp3, e3, hlen3, hin3⟩ : ∃ (l : List Bool) (a : Option Addr) (cap : Nat), Value.slice a3 l3 c3 = .slice a l.length cap ∧ l.length ≤ 140737488355328 ∧ BlsIn W a l := by
    obtain ⟨fuel, hf⟩ := h3
    exact open_bls hf hsz3' sp3
  clear sp3
  injection e3 with e3a e3b e3c
  subst e3a e3b e3c
  have lt4 : ∀ x ∈ p4, x.block < W.heap.size := by obtain ⟨m, hm⟩ := k4; exact DataW.trod_lt m _ _ _ hm
  have hsz4' : ∀ m ∈ d4.weights Try.prog 24, m ≤ reachBytes := by
    intro m hm
    have := List.all_eq_true.1 hsz0 m (DataW.weights_mem_each (j := 4) (t := 24) (d := d4) rfl rfl m hm)
    simpa using this
  obtain ⟨a4, l4, c4, rfl⟩ := okWide_slice Try.underlying24 (hval 4 24 v4 rfl rfl)
  have sp4 : ∀ a l c, Value.slice a4 l4 c4 = .slice (some a) l c → a.spot = none := fun a l c e => by
    have hv := hval 4 24 _ rfl rfl
    rw [e] at hv
    exact spot_of Try.underlying24 hv
  obtain ⟨xs4, b4, cp4, e4, hlen4, hin4⟩ : ∃ (l : List Bool) (a : Option Addr) (cap : Nat), Value.slice a4 l4 c4 = .slice a l.length cap ∧ l.length ≤ 140737488355328 ∧ BlsIn W a l := by
    obtain ⟨fuel, hf⟩ := h4
    exact open_bls hf hsz4' sp4
  clear sp4
  injection e4 with e4a e4b e4c
  subst e4a e4b e4c
  obtain ⟨P, rfl⟩ := okWide_int Try.underlying3 (hval 5 3 v5 rfl rfl)
  clear hA0 hval0
  refine (GraphWalks_any a0 c0 xs0 a1 c1 xs1 a2 c2 xs2 a3 c3 xs3 a4 c4 xs4 P W hin0 hin1 hin2 hin3 hin4 hlen0 hlen1 hlen2 hlen3 hlen4).mono fun e W' ⟨he, bel⟩ => ?_
  subst he
  have z0 : DataW.Trod enc Try.prog W' 0 (fun b => decide (b < W.heap.size)) true 22 (.slice a0 xs0.length c0) d0 p0 := Below.trod Try.laidOut (by kernel_rfl) (of_decide_eq_true (by kernel_rfl)) k0 bel lt0
  have z1 : DataW.Trod enc Try.prog W' 0 (fun b => decide (b < W.heap.size)) true 23 (.slice a1 xs1.length c1) d1 p1 := Below.trod Try.laidOut (by kernel_rfl) (of_decide_eq_true (by kernel_rfl)) k1 bel lt1
  have z2 : DataW.Trod enc Try.prog W' 0 (fun b => decide (b < W.heap.size)) true 22 (.slice a2 xs2.length c2) d2 p2 := Below.trod Try.laidOut (by kernel_rfl) (of_decide_eq_true (by kernel_rfl)) k2 bel lt2
  have z3 : DataW.Trod enc Try.prog W' 0 (fun b => decide (b < W.heap.size)) true 24 (.slice a3 xs3.length c3) d3 p3 := Below.trod Try.laidOut (by kernel_rfl) (of_decide_eq_true (by kernel_rfl)) k3 bel lt3
  have z4 : DataW.Trod enc Try.prog W' 0 (fun b => decide (b < W.heap.size)) true 24 (.slice a4 xs4.length c4) d4 p4 := Below.trod Try.laidOut (by kernel_rfl) (of_decide_eq_true (by kernel_rfl)) k4 bel lt4
  have z5 : DataW.Trod enc Try.prog W' 0 (fun b => decide (b < W.heap.size)) true 3 (.int .i64 P) d5 p5 := Below.trod Try.laidOut (by kernel_rfl) (of_decide_eq_true (by kernel_rfl)) k5 bel lt5
  exact ⟨_, rfl, _, _, _, [], _, [], hW', trodAll_mk1 (shut_bool Try.underlying4 _), ⟨p0, _, z0, ⟨p1, _, z1, RowKit.trodAll_mk4 z2 z3 z4 z5, rfl⟩, rfl⟩, rfl, bel.frame _, fun h => by cases h⟩

theorem GraphWalks_holds : Rows.GraphWalksSaid :=
  OpenClaim.holds_of_wide 3 Try.f3 rfl rfl rfl rfl rfl rfl rfl ⟨rfl, rfl, rfl, rfl, rfl⟩ rfl rfl rfl rfl rfl (by kernel_rfl) Try.func3 (by kernel_rfl)
    (of_decide_eq_true (by kernel_rfl)) (by unfold Func.isWrapper; first | (rw [if_pos (by decide +kernel)]; kernel_rfl) | (rw [if_neg (by decide +kernel)]; exact ⟨rfl, rfl⟩))
    (fun os started H enc _ => GraphWalks_lifted os started H enc)
end Go.Proofs.Ytghfikeakfiopaa


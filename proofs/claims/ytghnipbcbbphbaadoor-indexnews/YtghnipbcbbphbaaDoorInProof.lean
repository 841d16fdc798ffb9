/- Every New of an index, of whatever definition, tells the document's error, or makes an index of nothing that is of that: the Go function tenonlaw16.IndexNews returns true at every definition that can be read, and leaves it as it was; what the library's tables hold is tied to the program's text. -/
import Derived.Test.YtghnipbcbbphbaaDoorRows
import Derived.Test.YtghnipbcbbphbaaDoorTie
import Derived.Test.YtghnipbcbbphbaaDoorCards
import Derived.Test.YtghnipbcbbphbaaDoorInLaw
import Derived.Test.YtghnipbcbbphbaaDoorPOpen
import Derived.ProofKit
import Derived.SizedLaws
import Derived.LaidMore
import Derived.Stop.Joined
import Derived.SevenTiedAt
import Derived.Lib.LaidTab
namespace Go.Proofs.YtghnipbcbbphbaaDoor
open Go.ChangeShapes Go.WideShapes Go.ChangeAt Go.RowKit
open Go.ChangeMaps (open_string shut_string)

theorem Tryd.own : ownKnob Tryd.prog.godebug = none := by kernel_rfl
theorem Tryd.laidOut : laidOutB Tryd.prog = true := by kernel_rfl

theorem Tryd.gPow : Tryd.prog.globalNamed Rows.indexNewsRow.laid[2].1 = some 2 := by kernel_rfl
theorem Tryd.gRng : Tryd.prog.globalNamed Rows.indexNewsRow.laid[3].1 = some 1 := by kernel_rfl
theorem Tryd.tPow : (Tryd.prog.globals[2]?).map (·.type) = some 93 := by kernel_rfl
theorem Tryd.tRng : (Tryd.prog.globals[1]?).map (·.type) = some 61 := by kernel_rfl
theorem Tryd.uPow : Tryd.prog.underlying 93 = some (.array 20 56) := by kernel_rfl
theorem Tryd.cPow : Tryd.prog.cellsOf 93 = 20 := by kernel_rfl
theorem Tryd.cU64 : Tryd.prog.cellsOf 56 = 1 := by kernel_rfl

section
variable {H : Type} {enc : TypeId × Value → H} {W : World}
theorem Tryd.cIO : Tryd.prog.cellsOf 23 = 4 := by kernel_rfl
set_option maxRecDepth 100000 in
theorem open_def {n : Nat} {cs : List Value} {x : DataW H × List MemPlace} (h : DataW.trod enc Tryd.prog W 0 (fun _ => true) true n 23 cs = some x) (hw : ∀ m ∈ x.1.weights Tryd.prog 23, m ≤ reachBytes) :
    ∃ (c s : ByteArray) (u q : Bool), cs.toArray = #[.string c, .string s, .bool u, .bool q] ∧ c.size ≤ 140737488355328 ∧ s.size ≤ 140737488355328 := by
  obtain ⟨xs, n2, rfl, rfl, hlc, hxs, hf⟩ := DataW.trod_struct Tryd.underlying23 h
  rw [Tryd.cIO] at hlc
  match cs, hlc with
  | [c0, c1, c2, c3], _ =>
    match xs, hxs with
    | [y0, y1, y2, y3], _ =>
      have f0 := hf 0 _ rfl
      have f1 := hf 1 _ rfl
      have f2 := hf 2 _ rfl
      have f3 := hf 3 _ rfl
      simp [Tryd.cB, Tryd.cS] at f0 f1 f2 f3
      clear hf
      have hwe : ∀ m ∈ DataW.weightsEach Tryd.prog [9, 9, 4, 4] [y0.1, y1.1, y2.1, y3.1], m ≤ reachBytes := by
        intro m hm; exact hw m (by simpa only [DataW.weights, Tryd.underlying23, List.map_cons, List.map_nil] using hm)
      obtain ⟨nm, e0, z0, _⟩ := DataW.trod_string Tryd.underlying9 f0
      obtain ⟨was, e1, z1, _⟩ := DataW.trod_string Tryd.underlying9 f1
      obtain ⟨b2, e2, _⟩ := DataW.trod_bool Tryd.underlying4 f2
      obtain ⟨b3, e3, _⟩ := DataW.trod_bool Tryd.underlying4 f3
      have hn : nm.size ≤ 140737488355328 := by
        have := hwe nm.size (DataW.weights_mem_each (j := 0) rfl rfl nm.size (by rw [z0]; simp [DataW.weights]))
        have := reach_is; omega
      have hs : was.size ≤ 140737488355328 := by
        have := hwe was.size (DataW.weights_mem_each (j := 1) rfl rfl was.size (by rw [z1]; simp [DataW.weights]))
        have := reach_is; omega
      simp at e0 e1 e2 e3
      subst e0 e1 e2 e3
      exact ⟨nm, was, b2, b3, rfl, hn, hs⟩
end

/-- what the condition on the tables gives -/
theorem env_of {W : World} (h : laidMetH Tryd.prog Rows.indexNewsRow.laid W) : Env W := by
  have hL : laidMet Tryd.prog Rows.indexNewsRow.laid W := h
  obtain ⟨ps, ⟨g0, t0, cs0, f0, p0, q0, hg0, ht0, hv0, hd0, ⟨g1, t1, cs1, f1, p1, q1, hg1, ht1, hv1, hd1, ⟨g2, t2, cs2, f2, p2, q2, hg2, ht2, hv2, hd2, ⟨g3, t3, cs3, f3, p3, q3, hg3, ht3, hv3, hd3, _, _⟩, _⟩, _⟩, _⟩, _, _⟩ := hL
  obtain rfl := Option.some.inj (Tryd.gPow.symm.trans hg2)
  obtain rfl := Option.some.inj (Tryd.gRng.symm.trans hg3)
  obtain rfl := Option.some.inj (Tryd.tPow.symm.trans ht2)
  obtain rfl := Option.some.inj (Tryd.tRng.symm.trans ht3)
  refine ⟨?_, ?_⟩
  · have hd2' : DataW.trod _ Tryd.prog W 0 _ false f2 93 cs2.toList = some (Lib.tabData .u64 Lib.pow10Tab, p2) := hd2
    have := Lib.cells_of_tab Tryd.uPow Tryd.underlying56 Tryd.cU64 Tryd.cPow hd2'
    unfold Lib.TabIs
    refine hv2.trans ?_
    rw [← this]
  · obtain ⟨_, u, v, e, _, _⟩ := iface_of_trod Tryd.underlying61 hd3
    have hc := World.var?_cell hg3 hv3 0
    refine ⟨.iface u v, ?_, .inr ⟨u, v, rfl⟩⟩
    rw [hc, ← Array.getElem?_toList, e]
    rfl

/-- the door's own heap meets the condition -/
theorem door_met (os : Os) (args : Array Value) : laidMetH Tryd.prog Rows.indexNewsRow.laid ((World.doorLaid Tryd.prog 400 os).forCall (fun _ _ => 0) ⟨#[], args, []⟩).memory :=
  laidMetH_of_parts3 (fuel := 8) (laidMet_of_run' 8 (by kernel_rfl) (by kernel_rfl)) (by kernel_rfl) (by kernel_rfl)

set_option maxRecDepth 100000 in
theorem IndexNews_lifted (os : Os) (started : os.Started) (H : Type) (enc : TypeId × Value → H) :
    ReturnsInHanded {} Tryd.checked os 3 .any (fun w args => (Rows.indexNewsSpec.pre enc Tryd.prog Tryd.f3 Rows.indexNewsRow.domain false w args ∧ laidMetH Tryd.prog Rows.indexNewsRow.laid w) ∧ sizedMet enc Tryd.prog Tryd.f3 (OpenSpec.ofChange Rows.indexNewsSpec) false w args)
      (Rows.indexNewsSpec.post enc Tryd.prog Tryd.f3 false true false false) := by
  refine returnsInHanded_of_change_and (C := Tryd.checked) (X := fun w _ => laidMetH Tryd.prog Rows.indexNewsRow.laid w) (fun _ _ _ hh h => h.of_heap hh) Tryd.own started (by kernel_rfl) Tryd.func3
    (ChangeSpec.witness_shaped (enc := enc) (C := Tryd.checked) (os := os) (X := fun w _ => laidMetH Tryd.prog Rows.indexNewsRow.laid w) false (World.doorLaid Tryd.prog 400 os) #[.agg #[.string ByteArray.empty, .string ByteArray.empty, .bool false, .bool false]] 8 rfl (World.shaped_of_RefB (by kernel_rfl) (by kernel_rfl)) (by kernel_rfl) (by kernel_rfl) (by kernel_rfl) (door_met os _)) ?_
  intro W base args ds gs before hval0 hW _ hsz0 hLaid _
  have hval : ∀ (j : Nat) t v, Tryd.f3.params[j]? = some t → args[j]? = some v → Value.okWide Tryd.prog W .any base t v := hval0
  have hW' := hW
  obtain ⟨p, q, hA0, hV, rfl, hfz, hnd⟩ := hW
  have hA : DataW.TrodAll enc Tryd.prog W 0 (fun _ => true) true Tryd.f3.params.toList args.toList ds p := hA0
  rw [Tryd.params3] at hA hval
  obtain ⟨v0, d0, rfl, rfl, h0⟩ := trodAll_one hA
  obtain ⟨rfl, rfl⟩ := trodVars_none hV
  have k0 := h0
  have lt0 : ∀ x ∈ p, x.block < W.heap.size := by obtain ⟨m, hm⟩ := k0; exact DataW.trod_lt m _ _ _ hm
  have hsz0' : ∀ m ∈ d0.weights Tryd.prog 23, m ≤ reachBytes := by
    intro m hm
    have := List.all_eq_true.1 hsz0 m (DataW.weights_mem_each (j := 0) (t := 23) (d := d0) rfl rfl m hm)
    simpa using this
  obtain ⟨cs0, rfl, _⟩ := okWide_struct Tryd.underlying23 (hval 0 23 v0 rfl rfl)
  obtain ⟨c, s, u, q, hcs, hcz, hsz⟩ : ∃ (c s : ByteArray) (u q : Bool), cs0 = #[.string c, .string s, .bool u, .bool q] ∧ c.size ≤ 140737488355328 ∧ s.size ≤ 140737488355328 := by
    obtain ⟨fuel, hf⟩ := h0
    obtain ⟨c, s, u, q, e, hc⟩ := open_def hf hsz0'
    exact ⟨c, s, u, q, by simpa [Value.cells] using e, hc⟩
  subst hcs
  clear hA0 hval0
  refine (IndexNews_any c s u q W hcz hsz (env_of hLaid)).mono fun e W' ⟨he, bel⟩ => ?_
  subst he
  exact ⟨_, rfl, _, _, _, [], _, [], hW', trodAll_mk1 (shut_bool Tryd.underlying4 _), trodAll_mk1 (Below.trod Tryd.laidOut (by kernel_rfl) (of_decide_eq_true (by kernel_rfl)) k0 bel lt0), rfl, bel.frame _, fun h => by cases h⟩

theorem IndexNews_row : Rows.IndexNewsSaid :=
  OpenClaim.holds_of_wide 3 Tryd.f3 rfl rfl rfl rfl rfl rfl rfl ⟨rfl, rfl, rfl, rfl, rfl⟩ rfl rfl rfl rfl rfl (by kernel_rfl) Tryd.func3 (by kernel_rfl)
    (of_decide_eq_true (by kernel_rfl)) (by unfold Func.isWrapper; first | (rw [if_pos (by decide +kernel)]; kernel_rfl) | (rw [if_neg (by decide +kernel)]; exact ⟨rfl, rfl⟩))
    (fun os started H enc _ => IndexNews_lifted os started H enc)

theorem IndexNews_holds : Rows.IndexNewsCardSaid :=
  Claim7.holds_tied_plain_at .later [] [.data, .data, .data, .sentinel, .sentinel] true Rows.indexNewsCard.stood.harness true
    IndexNews_row (fun _ h => by cases h) (by kernel_rfl) (fun _ h => by cases h) indexNews_row_tie rfl ⟨rfl, rfl⟩ (by kernel_rfl) rfl
    (fun f fn hf hfn => by
      obtain rfl : f = 3 := Option.some.inj ((show Tryd.prog.funcNamed Rows.indexNewsRow.func = some 3 by kernel_rfl).symm.trans hf) |>.symm
      obtain rfl : fn = Tryd.f3 := (Option.some.inj (Tryd.func3.symm.trans hfn)).symm
      exact ⟨by kernel_rfl, fun j t ht => by
        rw [Tryd.params3] at ht
        have hm : t ∈ [23] := by simpa using Array.mem_of_getElem? ht
        have hall : ([23].all fun u => !Tryd.prog.wantsStandIn u) = true := by kernel_rfl
        exact (show Tryd.prog.wantsStandIn t = false by simpa using List.all_eq_true.1 hall t hm)⟩)
    (by kernel_rfl)
end Go.Proofs.YtghnipbcbbphbaaDoor

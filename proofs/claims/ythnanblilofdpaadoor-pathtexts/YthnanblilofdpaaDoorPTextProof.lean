/- Every Print of any way, which stays, and every Parse of any text, twice, is the document's: the Go function tenonlaw04.PathTexts returns true at every two arguments that can be read, and leaves them as they were; what the library's tables hold is tied to the program's text. -/
import Derived.Test.YthnanblilofdpaaDoorRows
import Derived.Test.YthnanblilofdpaaDoorTie
import Derived.Test.YthnanblilofdpaaDoorCards
import Derived.Test.YthnanblilofdpaaDoorPText
import Derived.Test.YthnanblilofdpaaDoorPOpen
import Derived.ProofKit
import Derived.SizedLaws
import Derived.LaidMore
import Derived.Stop.Joined
import Derived.SevenTiedAt
import Derived.Lib.LaidTab
namespace Go.Proofs.YthnanblilofdpaaDoor
open Go.ChangeShapes Go.WideShapes Go.ChangeAt Go.RowKit
open Go.ChangeMaps (open_string shut_string)

theorem Tryd.own : ownKnob Tryd.prog.godebug = none := by kernel_rfl
theorem Tryd.laidOut : laidOutB Tryd.prog = true := by kernel_rfl

theorem Tryd.gPow : Tryd.prog.globalNamed Rows.pathTextsRow.laid[2].1 = some 0 := by kernel_rfl
theorem Tryd.gRng : Tryd.prog.globalNamed Rows.pathTextsRow.laid[3].1 = some 2 := by kernel_rfl
theorem Tryd.tPow : (Tryd.prog.globals[0]?).map (·.type) = some 79 := by kernel_rfl
theorem Tryd.tRng : (Tryd.prog.globals[2]?).map (·.type) = some 45 := by kernel_rfl
theorem Tryd.uPow : Tryd.prog.underlying 79 = some (.array 20 52) := by kernel_rfl
theorem Tryd.cPow : Tryd.prog.cellsOf 79 = 20 := by kernel_rfl
theorem Tryd.cU64 : Tryd.prog.cellsOf 52 = 1 := by kernel_rfl

/-- what the condition on the tables gives -/
theorem env_of {W : World} (h : laidMetH Tryd.prog Rows.pathTextsRow.laid W) : Env W := by
  have hL : laidMet Tryd.prog Rows.pathTextsRow.laid W := h
  obtain ⟨ps, ⟨g0, t0, cs0, f0, p0, q0, hg0, ht0, hv0, hd0, ⟨g1, t1, cs1, f1, p1, q1, hg1, ht1, hv1, hd1, ⟨g2, t2, cs2, f2, p2, q2, hg2, ht2, hv2, hd2, ⟨g3, t3, cs3, f3, p3, q3, hg3, ht3, hv3, hd3, _, _⟩, _⟩, _⟩, _⟩, _, _⟩ := hL
  obtain rfl := Option.some.inj (Tryd.gPow.symm.trans hg2)
  obtain rfl := Option.some.inj (Tryd.gRng.symm.trans hg3)
  obtain rfl := Option.some.inj (Tryd.tPow.symm.trans ht2)
  obtain rfl := Option.some.inj (Tryd.tRng.symm.trans ht3)
  refine ⟨?_, ?_⟩
  · have hd2' : DataW.trod _ Tryd.prog W 0 _ false f2 79 cs2.toList = some (Lib.tabData .u64 Lib.pow10Tab, p2) := hd2
    have := Lib.cells_of_tab Tryd.uPow Tryd.underlying52 Tryd.cU64 Tryd.cPow hd2'
    unfold Lib.TabIs
    refine hv2.trans ?_
    rw [← this]
  · obtain ⟨_, u, v, e, _, _⟩ := iface_of_trod Tryd.underlying45 hd3
    have hc := World.var?_cell hg3 hv3 0
    refine ⟨.iface u v, ?_, .inr ⟨u, v, rfl⟩⟩
    rw [hc, ← Array.getElem?_toList, e]
    rfl

/-- the door's own heap meets the condition -/
theorem door_met (os : Os) (args : Array Value) : laidMetH Tryd.prog Rows.pathTextsRow.laid ((World.doorLaid Tryd.prog 400 os).forCall (fun _ _ => 0) ⟨#[], args, []⟩).memory :=
  laidMetH_of_parts3 (fuel := 8) (laidMet_of_run' 8 (by kernel_rfl) (by kernel_rfl)) (by kernel_rfl) (by kernel_rfl)

set_option maxRecDepth 100000 in
theorem PathTexts_lifted (os : Os) (started : os.Started) (H : Type) (enc : TypeId × Value → H) :
    ReturnsInHanded {} Tryd.checked os 3 .any (fun w args => (Rows.pathTextsSpec.pre enc Tryd.prog Tryd.f3 Rows.pathTextsRow.domain false w args ∧ laidMetH Tryd.prog Rows.pathTextsRow.laid w) ∧ sizedMet enc Tryd.prog Tryd.f3 (OpenSpec.ofChange Rows.pathTextsSpec) false w args)
      (Rows.pathTextsSpec.post enc Tryd.prog Tryd.f3 false true false false) := by
  refine returnsInHanded_of_change_and (C := Tryd.checked) (X := fun w _ => laidMetH Tryd.prog Rows.pathTextsRow.laid w) (fun _ _ _ hh h => h.of_heap hh) Tryd.own started (by kernel_rfl) Tryd.func3
    (ChangeSpec.witness_shaped (enc := enc) (C := Tryd.checked) (os := os) (X := fun w _ => laidMetH Tryd.prog Rows.pathTextsRow.laid w) false (World.doorLaid Tryd.prog 400 os) #[.slice none 0 0, .string ByteArray.empty] 8 rfl (World.shaped_of_RefB (by kernel_rfl) (by kernel_rfl)) (by kernel_rfl) (by kernel_rfl) (by kernel_rfl) (door_met os _)) ?_
  intro W base args ds gs before hval0 hW _ hsz0 hLaid _
  have hval : ∀ (j : Nat) t v, Tryd.f3.params[j]? = some t → args[j]? = some v → Value.okWide Tryd.prog W .any base t v := hval0
  have hW' := hW
  obtain ⟨p, q, hA0, hV, rfl, hfz, hnd⟩ := hW
  have hA : DataW.TrodAll enc Tryd.prog W 0 (fun _ => true) true Tryd.f3.params.toList args.toList ds p := hA0
  rw [Tryd.params3] at hA hval
  obtain ⟨v0, v1, d0, d1, p0, p1, rfl, rfl, rfl, h0, h1⟩ := trodAll_two hA
  obtain ⟨rfl, rfl⟩ := trodVars_none hV
  have k0 := h0
  have k1 := h1
  have lt0 : ∀ x ∈ p0, x.block < W.heap.size := by obtain ⟨m, hm⟩ := k0; exact DataW.trod_lt m _ _ _ hm
  have lt1 : ∀ x ∈ p1, x.block < W.heap.size := by obtain ⟨m, hm⟩ := k1; exact DataW.trod_lt m _ _ _ hm
  have hsz0' : ∀ m ∈ d0.weights Tryd.prog 22, m ≤ reachBytes := by
    intro m hm
    have := List.all_eq_true.1 hsz0 m (DataW.weights_mem_each (j := 0) (t := 22) (d := d0) rfl rfl m hm)
    simpa using this
  have hsz1' : ∀ m ∈ d1.weights Tryd.prog 9, m ≤ reachBytes := by
    intro m hm
    have := List.all_eq_true.1 hsz0 m (DataW.weights_mem_each (j := 1) (t := 9) (d := d1) rfl rfl m hm)
    simpa using this
  obtain ⟨s, rfl, rfl, rfl, hs⟩ := open_string Tryd.underlying9 (hval 1 9 v1 rfl rfl) h1
  have hs' : s.size ≤ 140737488351232 := by
    have := hsz1' s.size (by simp [DataW.weights])
    have := reach_is
    omega
  obtain ⟨l, a, cap, rfl, hl, hr⟩ : ∃ (l : List Stp) (a : Option Addr) (cap : Nat), v0 = .slice a l.length cap ∧ l.length * 32 ≤ 140737488351232 ∧ Rdw W W.heap.size a l := by
    obtain ⟨fuel, hf⟩ := h0
    have hone : v0.cells.toList = [v0] := by
      obtain ⟨_, _, _, e⟩ := okWide_slice Tryd.underlying22 (hval 0 22 v0 rfl rfl)
      rw [e]; rfl
    rw [hone] at hf
    exact open_way hf hsz0'
  clear hA0 hval0
  refine (PathTexts_any l a cap s W hr hl hs' (env_of hLaid)).mono fun e W' ⟨he, bel⟩ => ?_
  subst he
  have back0 : ∀ {v : Value} {d : DataW H} {p : List MemPlace}, DataW.Trod enc Tryd.prog W 0 (fun _ => true) true 22 v d p → (∀ x ∈ p, x.block < W.heap.size) → DataW.Trod enc Tryd.prog W' 0 (fun b => decide (b < W.heap.size)) true 22 v d p :=
    fun h lt => Below.trod Tryd.laidOut (by kernel_rfl) (of_decide_eq_true (by kernel_rfl)) h bel lt
  have back1 : ∀ {v : Value} {d : DataW H} {p : List MemPlace}, DataW.Trod enc Tryd.prog W 0 (fun _ => true) true 9 v d p → (∀ x ∈ p, x.block < W.heap.size) → DataW.Trod enc Tryd.prog W' 0 (fun b => decide (b < W.heap.size)) true 9 v d p :=
    fun h lt => Below.trod Tryd.laidOut (by kernel_rfl) (of_decide_eq_true (by kernel_rfl)) h bel lt
  exact ⟨_, rfl, _, _, _, [], _, [], hW', trodAll_mk1 (shut_bool Tryd.underlying4 _), trodAll_mk2 (back0 k0 lt0) (back1 k1 lt1), rfl, bel.frame _, fun h => by cases h⟩

theorem PathTexts_row : Rows.PathTextsSaid :=
  OpenClaim.holds_of_wide 3 Tryd.f3 rfl rfl rfl rfl rfl rfl rfl ⟨rfl, rfl, rfl, rfl, rfl⟩ rfl rfl rfl rfl rfl (by kernel_rfl) Tryd.func3 (by kernel_rfl)
    (of_decide_eq_true (by kernel_rfl)) (by unfold Func.isWrapper; first | (rw [if_pos (by decide +kernel)]; kernel_rfl) | (rw [if_neg (by decide +kernel)]; exact ⟨rfl, rfl⟩))
    (fun os started H enc _ => PathTexts_lifted os started H enc)

theorem PathTexts_holds : Rows.PathTextsCardSaid :=
  Claim7.holds_tied_plain_at .later [] [.data, .data, .data, .sentinel, .sentinel] true Rows.pathTextsCard.stood.harness true
    PathTexts_row (fun _ h => by cases h) (by kernel_rfl) (fun _ h => by cases h) pathTexts_row_tie rfl ⟨rfl, rfl⟩ (by kernel_rfl) rfl
    (fun f fn hf hfn => by
      obtain rfl : f = 3 := Option.some.inj ((show Tryd.prog.funcNamed Rows.pathTextsRow.func = some 3 by kernel_rfl).symm.trans hf) |>.symm
      obtain rfl : fn = Tryd.f3 := (Option.some.inj (Tryd.func3.symm.trans hfn)).symm
      exact ⟨by kernel_rfl, fun j t ht => by
        rw [Tryd.params3] at ht
        have hm : t ∈ [22, 9] := by simpa using Array.mem_of_getElem? ht
        have hall : ([22, 9].all fun u => !Tryd.prog.wantsStandIn u) = true := by kernel_rfl
        exact (show Tryd.prog.wantsStandIn t = false by simpa using List.all_eq_true.1 hall t hm)⟩)
    (by kernel_rfl)
end Go.Proofs.YthnanblilofdpaaDoor

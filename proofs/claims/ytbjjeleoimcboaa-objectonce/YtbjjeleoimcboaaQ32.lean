/- What was loaded is not loaded again, a load that fails is tried again, and nothing else is called by it: the Go function tenonlaw10.ObjectOnce returns true at every description that can be read and every number of times, and leaves them as they were. -/
import Derived.Test.YtbjjeleoimcboaaRows
import Derived.Test.YtbjjeleoimcboaaQ31
import Derived.ProofKit
import Derived.SizedLaws
namespace Go.Proofs.Ytbjjeleoimcboaa
open Go.ChangeShapes Go.WideShapes Go.ChangeAt Go.RowKit

theorem Try.own : ownKnob Try.prog.godebug = none := by kernel_rfl
theorem Try.laidOut : laidOutB Try.prog = true := by kernel_rfl
theorem Try.cSpec : Try.prog.cellsOf 32 = 14 := by kernel_rfl
theorem Try.cI : Try.prog.cellsOf 3 = 1 := by kernel_rfl
theorem Try.cR : Try.prog.cellsOf 28 = 1 := by kernel_rfl
theorem Try.cEs : Try.prog.cellsOf 29 = 1 := by kernel_rfl
theorem Try.cTs : Try.prog.cellsOf 30 = 1 := by kernel_rfl
theorem Try.cS : Try.prog.cellsOf 9 = 1 := by kernel_rfl
theorem Try.cE : Try.prog.cellsOf 22 = 1 := by kernel_rfl
theorem Try.cB : Try.prog.cellsOf 4 = 1 := by kernel_rfl

theorem reach_leO : reachBytes ≤ maxLen := by decide

section
variable {H : Type} {enc : TypeId × Value → H} {W : World}
theorem slice_any {n : Nat} {e t : TypeId} {v : Value} {x : DataW H × List MemPlace} (hu : Try.prog.underlying t = some (.slice e)) (h : DataW.trod enc Try.prog W 0 (fun _ => true) true n t [v] = some x) : ∃ a len cap, v = .slice a len cap := by
  rcases DataW.trod_slice hu h with ⟨hcs, _⟩ | ⟨a, len, cap, elems, rest, n', _, hcs, _⟩
  · simp at hcs; exact ⟨_, _, _, hcs⟩
  · simp at hcs; exact ⟨_, _, _, hcs⟩
set_option maxRecDepth 100000 in
theorem open_spec {n : Nat} {cs : List Value} {x : DataW H × List MemPlace} (h : DataW.trod enc Try.prog W 0 (fun _ => true) true n 32 cs = some x) (hw : ∀ m ∈ x.1.weights Try.prog 32, m ≤ reachBytes) :
    ∃ (r : Sr) (h n sh : Int), cs.toArray = r.cs h n sh ∧ r.ow.size ≤ maxLen := by
  obtain ⟨xs, n2, rfl, rfl, hlc, hxs, hf⟩ := DataW.trod_struct Try.underlying32 h
  rw [Try.cSpec] at hlc
  match cs, hlc with
  | [c0, c1, c2, c3, c4, c5, c6, c7, c8, c9, c10, c11, c12, c13], _ =>
    match xs, hxs with
    | [y0, y1, y2, y3, y4, y5, y6, y7, y8, y9, y10, y11, y12, y13], _ =>
      have f0 := hf 0 _ rfl
      have f1 := hf 1 _ rfl
      have f2 := hf 2 _ rfl
      have f3 := hf 3 _ rfl
      have f4 := hf 4 _ rfl
      have f5 := hf 5 _ rfl
      have f6 := hf 6 _ rfl
      have f7 := hf 7 _ rfl
      have f8 := hf 8 _ rfl
      have f9 := hf 9 _ rfl
      have f10 := hf 10 _ rfl
      have f11 := hf 11 _ rfl
      have f12 := hf 12 _ rfl
      have f13 := hf 13 _ rfl
      clear hf
      simp [Try.cI, Try.cR, Try.cEs, Try.cTs, Try.cS, Try.cE, Try.cB] at f0 f1 f2 f3 f4 f5 f6 f7 f8 f9 f10 f11 f12 f13
      obtain ⟨x0, e0, _⟩ := DataW.trod_int Try.underlying3 f0
      obtain ⟨x1, e1, _⟩ := DataW.trod_int Try.underlying3 f1
      obtain ⟨x2, e2, _⟩ := DataW.trod_int Try.underlying3 f2
      obtain ⟨x3, e3, _⟩ := DataW.trod_int Try.underlying28 f3
      obtain ⟨a4, l4, p4, e4⟩ := slice_any Try.underlying29 f4
      obtain ⟨x5, e5, _⟩ := DataW.trod_string Try.underlying9 f5
      obtain ⟨x6, e6, _⟩ := DataW.trod_int Try.underlying3 f6
      obtain ⟨a7, l7, p7, e7⟩ := slice_any Try.underlying30 f7
      obtain ⟨x8, e8, z8, _⟩ := DataW.trod_string Try.underlying9 f8
      have hwe : ∀ m ∈ DataW.weightsEach Try.prog [3, 3, 3, 28, 29, 9, 3, 30, 9, 22, 4, 22, 3, 3] [y0.1, y1.1, y2.1, y3.1, y4.1, y5.1, y6.1, y7.1, y8.1, y9.1, y10.1, y11.1, y12.1, y13.1], m ≤ reachBytes := by
        intro m hm; exact hw m (by simpa only [DataW.weights, Try.underlying32, List.map_cons, List.map_nil] using hm)
      have hn : x8.size ≤ maxLen := by
        have := hwe x8.size (DataW.weights_mem_each (j := 8) rfl rfl x8.size (by rw [z8]; simp [DataW.weights]))
        have := reach_leO; omega
      obtain ⟨x9, e9, _⟩ := DataW.trod_int Try.underlying22 f9
      obtain ⟨x10, e10, _⟩ := DataW.trod_bool Try.underlying4 f10
      obtain ⟨x11, e11, _⟩ := DataW.trod_int Try.underlying22 f11
      obtain ⟨x12, e12, _⟩ := DataW.trod_int Try.underlying3 f12
      obtain ⟨x13, e13, _⟩ := DataW.trod_int Try.underlying3 f13
      simp at e0 e1 e2 e3 e5 e6 e8 e9 e10 e11 e12 e13
      subst e0 e1 e2 e3 e4 e5 e6 e7 e8 e9 e10 e11 e12 e13
      exact ⟨⟨x3, a4, l4, p4, x5, x6, a7, l7, p7, x8, x9, x10, x11, x12, x13⟩, x0, x1, x2, rfl, hn⟩
end

set_option maxRecDepth 100000 in
theorem ObjectOnce_lifted (os : Os) (started : os.Started) (H : Type) (enc : TypeId × Value → H) :
    ReturnsInHanded {} Try.checked os 4 .any (Rows.objectOnceSpec.pre6 enc Try.prog Try.f4 Rows.objectOnceRow.domain false) (Rows.objectOnceSpec.post enc Try.prog Try.f4 false true false false) := by
  refine returnsInHanded_of_change_sized (C := Try.checked) Try.own started (by kernel_rfl) Try.func4
    (ChangeSpec.witness6 (enc := enc) (C := Try.checked) false ⟨#[], #[.agg #[.int .i64 0, .int .i64 0, .int .i64 0, .int .u64 0, .slice none 0 0, .string ByteArray.empty, .int .i64 0, .slice none 0 0, .string ByteArray.empty, .int .i64 0, .bool false, .int .i64 0, .int .i64 0, .int .i64 0], .int .u8 0], []⟩ 8 (by kernel_rfl) (by kernel_rfl) (by kernel_rfl) (by kernel_rfl)) ?_
  intro W base args ds gs before hval0 hW hcnd hsz0 _
  have hval : ∀ (j : Nat) t v, Try.f4.params[j]? = some t → args[j]? = some v → Value.okWide Try.prog W .any base t v := hval0
  have hW' := hW
  obtain ⟨p, q, hA0, hV, rfl, hfz, hnd⟩ := hW
  have hA : DataW.TrodAll enc Try.prog W 0 (fun _ => true) true Try.f4.params.toList args.toList ds p := hA0
  rw [Try.params4] at hA hval
  obtain ⟨v0, v1, d0, d1, p0, p1, rfl, rfl, rfl, h0, h1⟩ := trodAll_two hA
  obtain ⟨rfl, rfl⟩ := trodVars_none hV
  have lt0 : ∀ x ∈ p0, x.block < W.heap.size := by obtain ⟨m, hm⟩ := h0; exact DataW.trod_lt m _ _ _ hm
  have lt1 : ∀ x ∈ p1, x.block < W.heap.size := by obtain ⟨m, hm⟩ := h1; exact DataW.trod_lt m _ _ _ hm
  have hsz0' : ∀ m ∈ d0.weights Try.prog 32, m ≤ reachBytes := by
    intro m hm
    have := List.all_eq_true.1 hsz0 m (DataW.weights_mem_each (j := 0) (t := 32) (d := d0) rfl rfl m hm)
    simpa using this
  obtain ⟨cs, rfl, _⟩ := okWide_struct Try.underlying32 (hval 0 32 v0 rfl rfl)
  obtain ⟨r, h, n, sh, rfl, _⟩ : ∃ (r : Sr) (h n sh : Int), cs = r.cs h n sh ∧ r.ow.size ≤ maxLen := by
    obtain ⟨fuel, hf⟩ := h0
    obtain ⟨r, h, n, sh, e, hw⟩ := open_spec hf hsz0'
    exact ⟨r, h, n, sh, by simpa [Value.cells] using e, hw⟩
  obtain ⟨x, rfl⟩ := okWide_int Try.underlying5 (hval 1 5 v1 rfl rfl)
  obtain ⟨tt, rfl, ht⟩ : ∃ tt : Nat, x = (tt : Int) ∧ tt < 256 := by
    obtain ⟨fuel, hf⟩ := h1
    obtain ⟨y, e, _, hy⟩ := DataW.trod_int Try.underlying5 hf
    have e' : x = y := by simpa [Value.cells] using e
    subst e'
    simp [Lit.wf, IntKind.min, IntKind.max, IntKind.signed, IntKind.bits] at hy
    exact ⟨x.toNat, by omega, by omega⟩
  clear hA0 hval0
  refine (ObjectOnce_any r h n sh tt ht W).mono fun e W' ⟨he, bel⟩ => ?_
  subst he
  exact ⟨_, rfl, _, _, _, [], _, [], hW', trodAll_mk1 (shut_bool Try.underlying4 _), trodAll_mk2 (Below.trod Try.laidOut (by kernel_rfl) (of_decide_eq_true (by kernel_rfl)) h0 bel lt0) (Below.trod Try.laidOut (by kernel_rfl) (of_decide_eq_true (by kernel_rfl)) h1 bel lt1), rfl, bel.frame _, fun h => by cases h⟩

theorem ObjectOnce_holds : Rows.ObjectOnceSaid :=
  OpenClaim.holds_of_wide 4 Try.f4 rfl rfl rfl rfl rfl rfl rfl ⟨rfl, rfl, rfl, rfl, rfl⟩ rfl rfl rfl rfl rfl (by kernel_rfl) Try.func4 (by kernel_rfl)
    (of_decide_eq_true (by kernel_rfl)) (by unfold Func.isWrapper; first | (rw [if_pos (by decide +kernel)]; kernel_rfl) | (rw [if_neg (by decide +kernel)]; exact ⟨rfl, rfl⟩))
    (fun os started H enc _ => ObjectOnce_lifted os started H enc)
end Go.Proofs.Ytbjjeleoimcboaa


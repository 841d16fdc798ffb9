/- Whichever of the sixteen sets of abilities an object has, Abilities tells just that set, and the assertions find just these, two-valued and panicking, without a call of its methods: the Go function tenonlaw10.ObjectShown returns true at every description that can be read, and leaves it as it was. -/
import Derived.Test.YtbjjeleoimcboaaGreatRows
import Derived.Test.YtbjjeleoimcboaaGreatR28
import Derived.ProofKit
import Derived.SizedLaws
namespace Go.Proofs.YtbjjeleoimcboaaGreat
open Go.ChangeShapes Go.WideShapes Go.ChangeAt Go.RowKit

theorem Tryz.own : ownKnob Tryz.prog.godebug = none := by kernel_rfl
theorem Tryz.laidOut : laidOutB Tryz.prog = true := by kernel_rfl
theorem Tryz.cSpec : Tryz.prog.cellsOf 28 = 14 := by kernel_rfl
theorem Tryz.cI : Tryz.prog.cellsOf 3 = 1 := by kernel_rfl
theorem Tryz.cR : Tryz.prog.cellsOf 23 = 1 := by kernel_rfl
theorem Tryz.cEs : Tryz.prog.cellsOf 24 = 1 := by kernel_rfl
theorem Tryz.cTs : Tryz.prog.cellsOf 25 = 1 := by kernel_rfl
theorem Tryz.cS : Tryz.prog.cellsOf 9 = 1 := by kernel_rfl
theorem Tryz.cE : Tryz.prog.cellsOf 26 = 1 := by kernel_rfl
theorem Tryz.cB : Tryz.prog.cellsOf 4 = 1 := by kernel_rfl

section
variable {H : Type} {enc : TypeId × Value → H} {W : World}
theorem slice_any {n : Nat} {e t : TypeId} {v : Value} {x : DataW H × List MemPlace} (hu : Tryz.prog.underlying t = some (.slice e)) (h : DataW.trod enc Tryz.prog W 0 (fun _ => true) true n t [v] = some x) : ∃ a len cap, v = .slice a len cap := by
  rcases DataW.trod_slice hu h with ⟨hcs, _⟩ | ⟨a, len, cap, elems, rest, n', _, hcs, _⟩
  · simp at hcs; exact ⟨_, _, _, hcs⟩
  · simp at hcs; exact ⟨_, _, _, hcs⟩
set_option maxRecDepth 100000 in
theorem open_spec {n : Nat} {cs : List Value} {x : DataW H × List MemPlace} (h : DataW.trod enc Tryz.prog W 0 (fun _ => true) true n 28 cs = some x) :
    ∃ (r : Sr) (h n sh : Int), cs.toArray = r.cs h n sh := by
  obtain ⟨xs, n2, rfl, rfl, hlc, hxs, hf⟩ := DataW.trod_struct Tryz.underlying28 h
  rw [Tryz.cSpec] at hlc
  match cs, hlc with
  | [c0, c1, c2, c3, c4, c5, c6, c7, c8, c9, c10, c11, c12, c13], _ =>
    match xs, hxs with
    | [y0, y1, y2, y3, y4, y5, y6, y7, y8, y9, y10, y11, y12, y13], _ =>
      have f0 := hf 0 _ rfl
      have f1 := hf 1 _ rfl
      have f2 := hf 2 _ rfl
      have f3 := hf 3 _ rfl
      have f4 := hf 4 _ rfl
      have f5 := hf 5 _ rfl
      have f6 := hf 6 _ rfl
      have f7 := hf 7 _ rfl
      have f8 := hf 8 _ rfl
      have f9 := hf 9 _ rfl
      have f10 := hf 10 _ rfl
      have f11 := hf 11 _ rfl
      have f12 := hf 12 _ rfl
      have f13 := hf 13 _ rfl
      clear hf
      simp [Tryz.cI, Tryz.cR, Tryz.cEs, Tryz.cTs, Tryz.cS, Tryz.cE, Tryz.cB] at f0 f1 f2 f3 f4 f5 f6 f7 f8 f9 f10 f11 f12 f13
      obtain ⟨x0, e0, _⟩ := DataW.trod_int Tryz.underlying3 f0
      obtain ⟨x1, e1, _⟩ := DataW.trod_int Tryz.underlying3 f1
      obtain ⟨x2, e2, _⟩ := DataW.trod_int Tryz.underlying3 f2
      obtain ⟨x3, e3, _⟩ := DataW.trod_int Tryz.underlying23 f3
      obtain ⟨a4, l4, p4, e4⟩ := slice_any Tryz.underlying24 f4
      obtain ⟨x5, e5, _⟩ := DataW.trod_string Tryz.underlying9 f5
      obtain ⟨x6, e6, _⟩ := DataW.trod_int Tryz.underlying3 f6
      obtain ⟨a7, l7, p7, e7⟩ := slice_any Tryz.underlying25 f7
      obtain ⟨x8, e8, _⟩ := DataW.trod_string Tryz.underlying9 f8
      obtain ⟨x9, e9, _⟩ := DataW.trod_int Tryz.underlying26 f9
      obtain ⟨x10, e10, _⟩ := DataW.trod_bool Tryz.underlying4 f10
      obtain ⟨x11, e11, _⟩ := DataW.trod_int Tryz.underlying26 f11
      obtain ⟨x12, e12, _⟩ := DataW.trod_int Tryz.underlying3 f12
      obtain ⟨x13, e13, _⟩ := DataW.trod_int Tryz.underlying3 f13
      simp at e0 e1 e2 e3 e5 e6 e8 e9 e10 e11 e12 e13
      subst e0 e1 e2 e3 e4 e5 e6 e7 e8 e9 e10 e11 e12 e13
      exact ⟨⟨x3, a4, l4, p4, x5, x6, a7, l7, p7, x8, x9, x10, x11, x12, x13⟩, x0, x1, x2, rfl⟩
end

set_option maxRecDepth 100000 in
theorem ObjectShown_lifted (os : Os) (started : os.Started) (H : Type) (enc : TypeId × Value → H) :
    ReturnsInHanded {} Tryz.checked os 3 .any (Rows.objectShownSpec.pre6 enc Tryz.prog Tryz.f3 Rows.objectShownRow.domain false) (Rows.objectShownSpec.post enc Tryz.prog Tryz.f3 false true false false) := by
  refine returnsInHanded_of_change_sized (C := Tryz.checked) Tryz.own started (by kernel_rfl) Tryz.func3
    (ChangeSpec.witness6 (enc := enc) (C := Tryz.checked) false ⟨#[], #[.agg #[.int .i64 0, .int .i64 0, .int .i64 0, .int .u64 0, .slice none 0 0, .string ByteArray.empty, .int .i64 0, .slice none 0 0, .string ByteArray.empty, .int .i64 0, .bool false, .int .i64 0, .int .i64 0, .int .i64 0]], []⟩ 8 (by kernel_rfl) (by kernel_rfl) (by kernel_rfl) (by kernel_rfl)) ?_
  intro W base args ds gs before hval0 hW hcnd hsz0 _
  have hval : ∀ (j : Nat) t v, Tryz.f3.params[j]? = some t → args[j]? = some v → Value.okWide Tryz.prog W .any base t v := hval0
  have hW' := hW
  obtain ⟨p, q, hA0, hV, rfl, hfz, hnd⟩ := hW
  have hA : DataW.TrodAll enc Tryz.prog W 0 (fun _ => true) true Tryz.f3.params.toList args.toList ds p := hA0
  rw [Tryz.params3] at hA hval
  obtain ⟨v0, d0, rfl, rfl, h0⟩ := trodAll_one hA
  obtain ⟨rfl, rfl⟩ := trodVars_none hV
  have lt0 : ∀ x ∈ p, x.block < W.heap.size := by obtain ⟨m, hm⟩ := h0; exact DataW.trod_lt m _ _ _ hm
  obtain ⟨cs, rfl, _⟩ := okWide_struct Tryz.underlying28 (hval 0 28 v0 rfl rfl)
  obtain ⟨r, h, n, sh, rfl⟩ : ∃ (r : Sr) (h n sh : Int), cs = r.cs h n sh := by
    obtain ⟨fuel, hf⟩ := h0
    obtain ⟨r, h, n, sh, e⟩ := open_spec hf
    exact ⟨r, h, n, sh, by simpa [Value.cells] using e⟩
  clear hA0 hval0
  refine (ObjectShown_any r h n sh W).mono fun e W' ⟨he, bel⟩ => ?_
  subst he
  exact ⟨_, rfl, _, _, _, [], _, [], hW', trodAll_mk1 (shut_bool Tryz.underlying4 _), trodAll_mk1 (Below.trod Tryz.laidOut (by kernel_rfl) (of_decide_eq_true (by kernel_rfl)) h0 bel lt0), rfl, bel.frame _, fun h => by cases h⟩

theorem ObjectShown_holds : Rows.ObjectShownSaid :=
  OpenClaim.holds_of_wide 3 Tryz.f3 rfl rfl rfl rfl rfl rfl rfl ⟨rfl, rfl, rfl, rfl, rfl⟩ rfl rfl rfl rfl rfl (by kernel_rfl) Tryz.func3 (by kernel_rfl)
    (of_decide_eq_true (by kernel_rfl)) (by unfold Func.isWrapper; first | (rw [if_pos (by decide +kernel)]; kernel_rfl) | (rw [if_neg (by decide +kernel)]; exact ⟨rfl, rfl⟩))
    (fun os started H enc _ => ObjectShown_lifted os started H enc)
end Go.Proofs.YtbjjeleoimcboaaGreat


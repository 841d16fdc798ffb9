/- Whichever of the sixteen sets of abilities an object has, and whichever is meant, Show has just those that are in both, Add those of one of two objects, Guard and Count those of the object, by assertion, by As and by Abilities, and no method is called: the Go function tenonlaw11.WrapShown returns true at every two descriptions that can be read, and leaves them as they were. -/
import Derived.Test.YtcelbkkgjnfblaaRows
import Derived.Test.YtcelbkkgjnfblaaR9
import Derived.Test.YtcelbkkgjnfblaaR10
import Derived.ProofKit
import Derived.SizedLaws
namespace Go.Proofs.Ytcelbkkgjnfblaa
open Go.ChangeShapes Go.WideShapes Go.ChangeAt Go.RowKit

set_option maxRecDepth 100000 in
theorem WrapShown_lifted (os : Os) (started : os.Started) (H : Type) (enc : TypeId × Value → H) :
    ReturnsInHanded {} Try.checked os 4 .any (Rows.wrapShownSpec.pre6 enc Try.prog Try.f4 Rows.wrapShownRow.domain false) (Rows.wrapShownSpec.post enc Try.prog Try.f4 false true false false) := by
  refine returnsInHanded_of_change_sized (C := Try.checked) Try.own started (by kernel_rfl) Try.func4
    (ChangeSpec.witness6 (enc := enc) (C := Try.checked) false ⟨#[], #[.agg #[.int .i64 0, .int .i64 0, .int .i64 0, .int .u64 0, .slice none 0 0, .string ByteArray.empty, .int .i64 0, .slice none 0 0, .string ByteArray.empty, .int .i64 0, .bool false, .int .i64 0, .int .i64 0, .int .i64 0], .agg #[.int .i64 0, .int .i64 0, .int .i64 0, .int .u64 0, .slice none 0 0, .string ByteArray.empty, .int .i64 0, .slice none 0 0, .string ByteArray.empty, .int .i64 0, .bool false, .int .i64 0, .int .i64 0, .int .i64 0]], []⟩ 8 (by kernel_rfl) (by kernel_rfl) (by kernel_rfl) (by kernel_rfl)) ?_
  intro W base args ds gs before hval0 hW hcnd hsz0 _
  have hval : ∀ (j : Nat) t v, Try.f4.params[j]? = some t → args[j]? = some v → Value.okWide Try.prog W .any base t v := hval0
  have hW' := hW
  obtain ⟨p, q, hA0, hV, rfl, hfz, hnd⟩ := hW
  have hA : DataW.TrodAll enc Try.prog W 0 (fun _ => true) true Try.f4.params.toList args.toList ds p := hA0
  rw [Try.params4] at hA hval
  obtain ⟨v0, v1, d0, d1, p0, p1, rfl, rfl, rfl, h0, h1⟩ := trodAll_two hA
  obtain ⟨rfl, rfl⟩ := trodVars_none hV
  have lt0 : ∀ x ∈ p0, x.block < W.heap.size := by obtain ⟨m, hm⟩ := h0; exact DataW.trod_lt m _ _ _ hm
  have lt1 : ∀ x ∈ p1, x.block < W.heap.size := by obtain ⟨m, hm⟩ := h1; exact DataW.trod_lt m _ _ _ hm
  obtain ⟨cs, rfl, _⟩ := okWide_struct Try.underlying28 (hval 0 28 v0 rfl rfl)
  obtain ⟨ct, rfl, _⟩ := okWide_struct Try.underlying28 (hval 1 28 v1 rfl rfl)
  obtain ⟨r, h, n, sh, rfl⟩ : ∃ (r : Sr) (h n sh : Int), cs = r.cs h n sh := by
    obtain ⟨fuel, hf⟩ := h0
    obtain ⟨r, h, n, sh, e⟩ := open_spec hf
    exact ⟨r, h, n, sh, by simpa [Value.cells] using e⟩
  obtain ⟨r2, h2, n2, sh2, rfl⟩ : ∃ (r : Sr) (h n sh : Int), ct = r.cs h n sh := by
    obtain ⟨fuel, hf⟩ := h1
    obtain ⟨r, h, n, sh, e⟩ := open_spec hf
    exact ⟨r, h, n, sh, by simpa [Value.cells] using e⟩
  clear hA0 hval0
  refine (WrapShown_any r r2 h n sh h2 n2 sh2 W).mono fun e W' ⟨he, bel⟩ => ?_
  subst he
  exact ⟨_, rfl, _, _, _, [], _, [], hW', trodAll_mk1 (shut_bool Try.underlying4 _), trodAll_mk2 (Below.trod Try.laidOut (by kernel_rfl) (of_decide_eq_true (by kernel_rfl)) h0 bel lt0) (Below.trod Try.laidOut (by kernel_rfl) (of_decide_eq_true (by kernel_rfl)) h1 bel lt1), rfl, bel.frame _, fun h => by cases h⟩

theorem WrapShown_holds : Rows.WrapShownSaid :=
  OpenClaim.holds_of_wide 4 Try.f4 rfl rfl rfl rfl rfl rfl rfl ⟨rfl, rfl, rfl, rfl, rfl⟩ rfl rfl rfl rfl rfl (by kernel_rfl) Try.func4 (by kernel_rfl)
    (of_decide_eq_true (by kernel_rfl)) (by unfold Func.isWrapper; first | (rw [if_pos (by decide +kernel)]; kernel_rfl) | (rw [if_neg (by decide +kernel)]; exact ⟨rfl, rfl⟩))
    (fun os started H enc _ => WrapShown_lifted os started H enc)
end Go.Proofs.Ytcelbkkgjnfblaa


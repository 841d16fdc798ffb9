/- A fetch that fails, in whatever way and however often, leaves a ghost, and is tried again; the first one that answers makes it the record: the Go function tenonlaw12.LazyAgain returns true at all answers and every term that can be read, and leaves them as they were. -/
import Derived.Test.YtidlncopjniaeaaRows
import Derived.Test.YtidlncopjniaeaaKA32
import Derived.ProofKit
import Derived.SizedLaws
namespace Go.Proofs.Ytidlncopjniaeaa
open Go.ChangeShapes Go.WideShapes Go.ChangeAt Go.RowKit

theorem Try.own : ownKnob Try.prog.godebug = none := by kernel_rfl
theorem Try.laidOut : laidOutB Try.prog = true := by kernel_rfl

set_option maxRecDepth 100000 in
theorem LazyAgain_lifted (os : Os) (started : os.Started) (H : Type) (enc : TypeId × Value → H) :
    ReturnsInHanded {} Try.checked os 4 .any (Rows.lazyAgainSpec.pre6 enc Try.prog Try.f4 Rows.lazyAgainRow.domain false) (Rows.lazyAgainSpec.post enc Try.prog Try.f4 false true false false) := by
  refine returnsInHanded_of_change_sized (C := Try.checked) Try.own started (by kernel_rfl) Try.func4
    (ChangeSpec.witness6 (enc := enc) (C := Try.checked) false ⟨#[], #[.slice none 0 0, .agg #[.int .i64 0, .bool false, .int .i64 0, .float .f64 0, .string ByteArray.empty, .slice none 0 0, .int .u64 0, .slice none 0 0, .slice none 0 0, .string ByteArray.empty, .int .i64 0]], []⟩ 8 (by kernel_rfl) (by kernel_rfl) (by kernel_rfl) (by kernel_rfl)) ?_
  intro W base args ds gs before hval0 hW hcnd hsz0 _
  have hval : ∀ (j : Nat) t v, Try.f4.params[j]? = some t → args[j]? = some v → Value.okWide Try.prog W .any base t v := hval0
  have hW' := hW
  obtain ⟨p, q, hA0, hV, rfl, hfz, hnd⟩ := hW
  have hA : DataW.TrodAll enc Try.prog W 0 (fun _ => true) true Try.f4.params.toList args.toList ds p := hA0
  rw [Try.params4] at hA hval
  obtain ⟨v0, v1, d0, d1, p0, p1, rfl, rfl, rfl, h0, h1⟩ := trodAll_two hA
  obtain ⟨rfl, rfl⟩ := trodVars_none hV
  have k0 := h0
  have k1 := h1
  have lt0 : ∀ x ∈ p0, x.block < W.heap.size := by obtain ⟨m, hm⟩ := k0; exact DataW.trod_lt m _ _ _ hm
  have lt1 : ∀ x ∈ p1, x.block < W.heap.size := by obtain ⟨m, hm⟩ := k1; exact DataW.trod_lt m _ _ _ hm
  have hsz1' : ∀ m ∈ d1.weights Try.prog 29, m ≤ reachBytes := by
    intro m hm
    have := List.all_eq_true.1 hsz0 m (DataW.weights_mem_each (j := 1) (t := 29) (d := d1) rfl rfl m hm)
    simpa using this
  obtain ⟨cs1, rfl, _⟩ := okWide_struct Try.underlying29 (hval 1 29 v1 rfl rfl)
  obtain ⟨t1, ht1⟩ : ∃ t : Tm, t.In W (Lo W.heap.size) cs1 := by
    obtain ⟨fuel, hf⟩ := h1
    obtain ⟨t, ht⟩ := open_term fuel _ _ hf hsz1'
    exact ⟨t, by simpa [Value.cells] using ht⟩
  have hsz0' : ∀ m ∈ d0.weights Try.prog 49, m ≤ reachBytes := by
    intro m hm
    have := List.all_eq_true.1 hsz0 m (DataW.weights_mem_each (j := 0) (t := 49) (d := d0) rfl rfl m hm)
    simpa using this
  obtain ⟨a1, l1, c1, rfl⟩ := okWide_slice Try.underlying49 (hval 0 49 v0 rfl rfl)
  obtain ⟨a, L, cap, e, hlen, hin⟩ : ∃ (a : Option Addr) (L : List (Int × Int)) (cap : Nat), Value.slice a1 l1 c1 = .slice a L.length cap ∧ L.length * 192 ≤ 140737488355328 ∧ AnsIn W W.heap.size a L := by
    obtain ⟨fuel, hf⟩ := h0
    exact open_answers hf hsz0'
  injection e with e1 e2 e3
  subst e1 e2 e3
  clear hA0 hval0
  refine (LazyAgain_any t1 cs1 _ _ L W ht1 hin (by omega)).mono fun e W' ⟨he, bel⟩ => ?_
  subst he
  exact ⟨_, rfl, _, _, _, [], _, [], hW', trodAll_mk1 (shut_bool Try.underlying4 _), trodAll_mk2 (Below.trod Try.laidOut (by kernel_rfl) (of_decide_eq_true (by kernel_rfl)) k0 bel lt0) (Below.trod Try.laidOut (by kernel_rfl) (of_decide_eq_true (by kernel_rfl)) k1 bel lt1), rfl, bel.frame _, fun h => by cases h⟩

theorem LazyAgain_holds : Rows.LazyAgainSaid :=
  OpenClaim.holds_of_wide 4 Try.f4 rfl rfl rfl rfl rfl rfl rfl ⟨rfl, rfl, rfl, rfl, rfl⟩ rfl rfl rfl rfl rfl (by kernel_rfl) Try.func4 (by kernel_rfl)
    (of_decide_eq_true (by kernel_rfl)) (by unfold Func.isWrapper; first | (rw [if_pos (by decide +kernel)]; kernel_rfl) | (rw [if_neg (by decide +kernel)]; exact ⟨rfl, rfl⟩))
    (fun os started H enc _ => LazyAgain_lifted os started H enc)
end Go.Proofs.Ytidlncopjniaeaa


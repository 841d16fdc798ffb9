/- Of two pools that are used alike, the one with less room holds the end of what the one with more room holds: the Go function tenonlaw12.LazyStack returns true at every two rooms and all uses that can be read, and leaves them as they were. -/
import Derived.Test.YtjlhmgopmdcopaaRows
import Derived.Test.YtjlhmgopmdcopaaKS33
import Derived.ProofKit
import Derived.SizedLaws
namespace Go.Proofs.Ytjlhmgopmdcopaa
open Go.ChangeShapes Go.WideShapes Go.ChangeAt Go.RowKit

theorem Try.own : ownKnob Try.prog.godebug = none := by kernel_rfl
theorem Try.laidOut : laidOutB Try.prog = true := by kernel_rfl

set_option maxRecDepth 100000 in
theorem LazyStack_lifted (os : Os) (started : os.Started) (H : Type) (enc : TypeId × Value → H) :
    ReturnsInHanded {} Try.checked os 6 .any (Rows.lazyStackSpec.pre6 enc Try.prog Try.f6 Rows.lazyStackRow.domain false) (Rows.lazyStackSpec.post enc Try.prog Try.f6 false true false false) := by
  refine returnsInHanded_of_change_sized (C := Try.checked) Try.own started (by kernel_rfl) Try.func6
    (ChangeSpec.witness6 (enc := enc) (C := Try.checked) false ⟨#[], #[.int .u8 0, .int .u8 0, .slice none 0 0], []⟩ 8 (by kernel_rfl) (by kernel_rfl) (by kernel_rfl) (by kernel_rfl)) ?_
  intro W base args ds gs before hval0 hW hcnd hsz0 _
  have hval : ∀ (j : Nat) t v, Try.f6.params[j]? = some t → args[j]? = some v → Value.okWide Try.prog W .any base t v := hval0
  have hW' := hW
  obtain ⟨p, q, hA0, hV, rfl, hfz, hnd⟩ := hW
  have hA : DataW.TrodAll enc Try.prog W 0 (fun _ => true) true Try.f6.params.toList args.toList ds p := hA0
  rw [Try.params6] at hA hval
  obtain ⟨v0, v1, v2, d0, d1, d2, p0, p1, p2, rfl, rfl, rfl, h0, h1, h2⟩ := trodAll_three hA
  obtain ⟨rfl, rfl⟩ := trodVars_none hV
  have k0 := h0
  have k1 := h1
  have k2 := h2
  have lt0 : ∀ x ∈ p0, x.block < W.heap.size := by obtain ⟨m, hm⟩ := k0; exact DataW.trod_lt m _ _ _ hm
  have lt1 : ∀ x ∈ p1, x.block < W.heap.size := by obtain ⟨m, hm⟩ := k1; exact DataW.trod_lt m _ _ _ hm
  have lt2 : ∀ x ∈ p2, x.block < W.heap.size := by obtain ⟨m, hm⟩ := k2; exact DataW.trod_lt m _ _ _ hm
  obtain ⟨x0, rfl⟩ := okWide_int Try.underlying5 (hval 0 5 v0 rfl rfl)
  obtain ⟨x1, rfl⟩ := okWide_int Try.underlying5 (hval 1 5 v1 rfl rfl)
  have hx0 : 0 ≤ x0 ∧ x0 ≤ 255 := by
    obtain ⟨fuel, hf⟩ := h0
    obtain ⟨z, e, hz⟩ := open_u8 hf
    injection e with _ e; subst e; exact hz
  have hx1 : 0 ≤ x1 ∧ x1 ≤ 255 := by
    obtain ⟨fuel, hf⟩ := h1
    obtain ⟨z, e, hz⟩ := open_u8 hf
    injection e with _ e; subst e; exact hz
  have hsz2' : ∀ m ∈ d2.weights Try.prog 54, m ≤ reachBytes := by
    intro m hm
    have := List.all_eq_true.1 hsz0 m (DataW.weights_mem_each (j := 2) (t := 54) (d := d2) rfl rfl m hm)
    simpa using this
  obtain ⟨a2, l2, c2, rfl⟩ := okWide_slice Try.underlying54 (hval 2 54 v2 rfl rfl)
  obtain ⟨a, len, cap, e, hlen, hin⟩ : ∃ (a : Option Addr) (len cap : Nat), Value.slice a2 l2 c2 = .slice a len cap ∧ len * 8 ≤ 140737488355328 ∧ RefIn W a len := by
    obtain ⟨fuel, hf⟩ := h2
    exact open_refs hf hsz2'
  injection e with e1 e2 e3
  subst e1 e2 e3
  clear hA0 hval0
  refine (LazyStack_any x0 x1 _ _ _ W hx0 hx1 hin (by omega)).mono fun e W' ⟨he, bel⟩ => ?_
  subst he
  exact ⟨_, rfl, _, _, _, [], _, [], hW', trodAll_mk1 (shut_bool Try.underlying4 _), trodAll_mk3 (Below.trod Try.laidOut (by kernel_rfl) (of_decide_eq_true (by kernel_rfl)) k0 bel lt0) (Below.trod Try.laidOut (by kernel_rfl) (of_decide_eq_true (by kernel_rfl)) k1 bel lt1) (Below.trod Try.laidOut (by kernel_rfl) (of_decide_eq_true (by kernel_rfl)) k2 bel lt2), rfl, bel.frame _, fun h => by cases h⟩

theorem LazyStack_holds : Rows.LazyStackSaid :=
  OpenClaim.holds_of_wide 6 Try.f6 rfl rfl rfl rfl rfl rfl rfl ⟨rfl, rfl, rfl, rfl, rfl⟩ rfl rfl rfl rfl rfl (by kernel_rfl) Try.func6 (by kernel_rfl)
    (of_decide_eq_true (by kernel_rfl)) (by unfold Func.isWrapper; first | (rw [if_pos (by decide +kernel)]; kernel_rfl) | (rw [if_neg (by decide +kernel)]; exact ⟨rfl, rfl⟩))
    (fun os started H enc _ => LazyStack_lifted os started H enc)
end Go.Proofs.Ytjlhmgopmdcopaa


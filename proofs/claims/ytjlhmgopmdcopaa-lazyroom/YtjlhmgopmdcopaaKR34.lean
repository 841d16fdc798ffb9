/- At no time, not within a fetch either, are more ghosts of a pool loaded than there is room for; Held tells just those, each once, the one that was used last behind all: the Go function tenonlaw12.LazyRoom returns true at every room and all uses that can be read, and leaves them as they were. -/
import Derived.Test.YtjlhmgopmdcopaaRows
import Derived.Test.YtjlhmgopmdcopaaKR33
import Derived.Test.YtjlhmgopmdcopaaKR31
import Derived.ProofKit
import Derived.SizedLaws
namespace Go.Proofs.Ytjlhmgopmdcopaa
open Go.ChangeShapes Go.WideShapes Go.ChangeAt Go.RowKit

theorem Try.own : ownKnob Try.prog.godebug = none := by kernel_rfl
theorem Try.laidOut : laidOutB Try.prog = true := by kernel_rfl

set_option maxRecDepth 100000 in
theorem LazyRoom_lifted (os : Os) (started : os.Started) (H : Type) (enc : TypeId × Value → H) :
    ReturnsInHanded {} Try.checked os 5 .any (Rows.lazyRoomSpec.pre6 enc Try.prog Try.f5 Rows.lazyRoomRow.domain false) (Rows.lazyRoomSpec.post enc Try.prog Try.f5 false true false false) := by
  refine returnsInHanded_of_change_sized (C := Try.checked) Try.own started (by kernel_rfl) Try.func5
    (ChangeSpec.witness6 (enc := enc) (C := Try.checked) false ⟨#[], #[.int .u8 0, .slice none 0 0], []⟩ 8 (by kernel_rfl) (by kernel_rfl) (by kernel_rfl) (by kernel_rfl)) ?_
  intro W base args ds gs before hval0 hW hcnd hsz0 _
  have hval : ∀ (j : Nat) t v, Try.f5.params[j]? = some t → args[j]? = some v → Value.okWide Try.prog W .any base t v := hval0
  have hW' := hW
  obtain ⟨p, q, hA0, hV, rfl, hfz, hnd⟩ := hW
  have hA : DataW.TrodAll enc Try.prog W 0 (fun _ => true) true Try.f5.params.toList args.toList ds p := hA0
  rw [Try.params5] at hA hval
  obtain ⟨v0, v1, d0, d1, p0, p1, rfl, rfl, rfl, h0, h1⟩ := trodAll_two hA
  obtain ⟨rfl, rfl⟩ := trodVars_none hV
  have k0 := h0
  have k1 := h1
  have lt0 : ∀ x ∈ p0, x.block < W.heap.size := by obtain ⟨m, hm⟩ := k0; exact DataW.trod_lt m _ _ _ hm
  have lt1 : ∀ x ∈ p1, x.block < W.heap.size := by obtain ⟨m, hm⟩ := k1; exact DataW.trod_lt m _ _ _ hm
  obtain ⟨x0, rfl⟩ := okWide_int Try.underlying5 (hval 0 5 v0 rfl rfl)
  have hx0 : 0 ≤ x0 ∧ x0 ≤ 255 := by
    obtain ⟨fuel, hf⟩ := h0
    obtain ⟨z, e, hz⟩ := open_u8 hf
    injection e with _ e; subst e; exact hz
  have hsz1' : ∀ m ∈ d1.weights Try.prog 54, m ≤ reachBytes := by
    intro m hm
    have := List.all_eq_true.1 hsz0 m (DataW.weights_mem_each (j := 1) (t := 54) (d := d1) rfl rfl m hm)
    simpa using this
  obtain ⟨a1, l1, c1, rfl⟩ := okWide_slice Try.underlying54 (hval 1 54 v1 rfl rfl)
  obtain ⟨a, len, cap, e, hlen, hin⟩ : ∃ (a : Option Addr) (len cap : Nat), Value.slice a1 l1 c1 = .slice a len cap ∧ len * 8 ≤ 140737488355328 ∧ RefIn W a len := by
    obtain ⟨fuel, hf⟩ := h1
    exact open_refs hf hsz1'
  injection e with e1 e2 e3
  subst e1 e2 e3
  clear hA0 hval0
  refine (LazyRoom_any x0 _ _ _ W hx0 hin (by omega)).mono fun e W' ⟨he, bel⟩ => ?_
  subst he
  exact ⟨_, rfl, _, _, _, [], _, [], hW', trodAll_mk1 (shut_bool Try.underlying4 _), trodAll_mk2 (Below.trod Try.laidOut (by kernel_rfl) (of_decide_eq_true (by kernel_rfl)) k0 bel lt0) (Below.trod Try.laidOut (by kernel_rfl) (of_decide_eq_true (by kernel_rfl)) k1 bel lt1), rfl, bel.frame _, fun h => by cases h⟩

theorem LazyRoom_holds : Rows.LazyRoomSaid :=
  OpenClaim.holds_of_wide 5 Try.f5 rfl rfl rfl rfl rfl rfl rfl ⟨rfl, rfl, rfl, rfl, rfl⟩ rfl rfl rfl rfl rfl (by kernel_rfl) Try.func5 (by kernel_rfl)
    (of_decide_eq_true (by kernel_rfl)) (by unfold Func.isWrapper; first | (rw [if_pos (by decide +kernel)]; kernel_rfl) | (rw [if_neg (by decide +kernel)]; exact ⟨rfl, rfl⟩))
    (fun os started H enc _ => LazyRoom_lifted os started H enc)
end Go.Proofs.Ytjlhmgopmdcopaa


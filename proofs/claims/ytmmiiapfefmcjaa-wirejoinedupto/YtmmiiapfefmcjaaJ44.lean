/- The bytes of any values, one list behind the other, are all their values, and Skip goes from one to the next: the Go function tenonlaw03.WireJoined returns true at every argument that can be read and holds at most 1048576 values, and leaves it as it was. -/
import Derived.Test.YtmmiiapfefmcjaaRows
import Derived.Test.YtmmiiapfefmcjaaJ42
import Derived.Test.YtmmiiapfefmcjaaJ43
import Derived.ProofKit
import Derived.SizedLaws
import Derived.JoinedCond
import Derived.Deep.CondSized
namespace Go.Proofs.Ytmmiiapfefmcjaa
open Go.ChangeShapes Go.WideShapes Go.ChangeAt Go.RowKit

theorem Try.own : ownKnob Try.prog.godebug = none := by kernel_rfl
theorem Try.laidOut : laidOutB Try.prog = true := by kernel_rfl

set_option maxRecDepth 100000 in
theorem WireJoined_lifted (os : Os) (started : os.Started) (H : Type) (enc : TypeId × Value → H) (F : Stop.Interp) :
    ReturnsInHanded {} Try.checked os 8 .any ((Rows.OpenSpec.upto Rows.wireJoinedSpec).pre6 enc Try.prog Try.f8 Rows.wireJoinedUptoRow.domain false) (((Rows.OpenSpec.upto Rows.wireJoinedSpec).at F).post enc Try.prog Try.f8 false true false false) := by
  refine returnsInHanded_of_cond_sized (C := Try.checked) (s := Rows.OpenSpec.upto Rows.wireJoinedSpec) (k := Rows.uptoSmall) rfl Try.own started (by kernel_rfl) Try.func8
    (OpenSpec.witness (enc := enc) (C := Try.checked) (s := Rows.OpenSpec.upto Rows.wireJoinedSpec) (k := Rows.uptoSmall) rfl false ⟨#[], #[.slice none 0 0], []⟩ 8 (by kernel_rfl) (by kernel_rfl) (by kernel_rfl)
      (x := ([.nil], [], [])) (by kernel_rfl) rfl (by kernel_rfl)) ?_
  intro W base args ds gs before hval0 hW _ hk hsz0 _
  have hval : ∀ (j : Nat) t v, Try.f8.params[j]? = some t → args[j]? = some v → Value.okWide Try.prog W .any base t v := hval0
  have hW' := hW
  obtain ⟨p, q, hA0, hV, rfl, hfz, hnd⟩ := hW
  have hA : DataW.TrodAll enc Try.prog W 0 (fun _ => true) true Try.f8.params.toList args.toList ds p := hA0
  rw [Try.params8] at hA hval
  obtain ⟨v0, d0, rfl, rfl, h0⟩ := trodAll_one hA
  obtain ⟨rfl, rfl⟩ := trodVars_none hV
  have k0 := h0
  have lt0 : ∀ x ∈ p, x.block < W.heap.size := by obtain ⟨m, hm⟩ := k0; exact DataW.trod_lt m _ _ _ hm
  have hsz : Rows.uptoBulk d0 ≤ 1048576 := by
    have h : Rows.uptoBulkAll ([d0] ++ []) ≤ 1048576 := of_decide_eq_true hk
    simp only [List.append_nil, Rows.uptoBulkAll] at h
    omega
  have hsz1 : ∀ m ∈ d0.weights Try.prog 26, m ≤ reachBytes := by
    intro m hm
    have := List.all_eq_true.1 hsz0 m (DataW.weights_mem_each (j := 0) (t := 26) (d := d0) rfl rfl m hm)
    simpa using this
  obtain ⟨l, al, cl, rfl, hl, hin⟩ : ∃ (l : TmL) (a : Option Addr) (cap : Nat), v0 = .slice a l.len cap ∧ l.len ≤ 87381 ∧ l.In W (Lo W.heap.size) a 0 := by
    obtain ⟨fuel, hf⟩ := h0
    obtain ⟨a1, len1, cap1, rfl⟩ := okWide_slice Try.underlying26 (hval 0 26 v0 rfl rfl)
    have hf' : DataW.trod enc Try.prog W 0 (fun _ => true) true fuel 26 [.slice a1 len1 cap1] = some (d0, p) := by simpa [Value.cells] using hf
    obtain ⟨l, a, cap, e, _, hin⟩ := open_list (fun m _ => open_term m) hf' hsz1
    have hc := open_count hf' hsz
    injection e with e1 e2 e3
    subst e1 e2 e3
    exact ⟨l, a1, cap1, rfl, hc, hin⟩
  clear hA0 hval0
  refine (WireJoined_any l al cl W hin hl).mono fun e W' ⟨he, bel⟩ => ?_
  subst he
  exact ⟨_, rfl, _, _, _, [], _, [], hW', trodAll_mk1 (shut_bool Try.underlying4 _), trodAll_mk1 (Below.trod Try.laidOut (by kernel_rfl) (of_decide_eq_true (by kernel_rfl)) k0 bel lt0), rfl, bel.frame _, fun h => by cases h⟩

theorem WireJoined_holds : Rows.WireJoinedUptoSaid :=
  OpenClaim.holds_of_cond 8 Try.f8 rfl rfl rfl rfl rfl rfl rfl ⟨rfl, rfl, rfl, rfl, rfl⟩ rfl rfl rfl rfl rfl (by kernel_rfl) Try.func8 (by kernel_rfl)
    (of_decide_eq_true (by kernel_rfl)) (by unfold Func.isWrapper; first | (rw [if_pos (by decide +kernel)]; kernel_rfl) | (rw [if_neg (by decide +kernel)]; exact ⟨rfl, rfl⟩))
    (fun os started H enc _ F => WireJoined_lifted os started H enc F)
end Go.Proofs.Ytmmiiapfefmcjaa


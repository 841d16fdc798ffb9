/- Where one type is plainly of another, every value of it is of that one: the Go function tenonlaw07.CheckSound returns true at every three arguments that can be read, and leaves them as they were. -/
import Derived.Test.YtkmlpdehibameaaRows
import Derived.Test.YtkmlpdehibameaaK42
import Derived.Test.YtkmlpdehibameaaK44
import Derived.ProofKit
import Derived.SizedLaws
namespace Go.Proofs.Ytkmlpdehibameaa
open Go.ChangeShapes Go.WideShapes Go.ChangeAt Go.RowKit

theorem Try.own : ownKnob Try.prog.godebug = none := by kernel_rfl
theorem Try.laidOut : laidOutB Try.prog = true := by kernel_rfl

theorem CheckSound_any (a b : Ty) (ca cb : Array Value) (L : TmL) (al : Option Addr) (cl : Nat) (w : World) (ha : a.In w (Lo w.heap.size) ca) (hb : b.In w (Lo w.heap.size) cb) (hL : L.In w (Lo w.heap.size) al 0) (hlen : L.len ≤ 70368744177664) :
    Calls Try.prog 4 #[.agg ca, .agg cb, .slice al L.len cl] w fun e w' => e = .returned (.bool true) ∧ Below w.heap.size w w' := by
  cases h : (a.can && b.can) with
  | false => exact CheckSound_no a b ca cb L al cl w ha hb hL hlen h
  | true => exact CheckSound_yes a b ca cb L al cl w ha hb hL hlen h

set_option maxRecDepth 100000 in
theorem CheckSound_lifted (os : Os) (started : os.Started) (H : Type) (enc : TypeId × Value → H) :
    ReturnsInHanded {} Try.checked os 4 .any (Rows.checkSoundSpec.pre6 enc Try.prog Try.f4 Rows.checkSoundRow.domain false) (Rows.checkSoundSpec.post enc Try.prog Try.f4 false true false false) := by
  refine returnsInHanded_of_change_sized (C := Try.checked) Try.own started (by kernel_rfl) Try.func4
    (ChangeSpec.witness6 (enc := enc) (C := Try.checked) false ⟨#[], #[.agg #[.int .i64 0, .int .i64 0, .int .i64 0, .bool false, .int .i64 0, .float .f64 0, .string ByteArray.empty, .slice none 0 0, .int .u64 0, .slice none 0 0, .slice none 0 0, .string ByteArray.empty, .int .i64 0, .slice none 0 0, .slice none 0 0, .slice none 0 0, .bool false, .string ByteArray.empty], .agg #[.int .i64 0, .int .i64 0, .int .i64 0, .bool false, .int .i64 0, .float .f64 0, .string ByteArray.empty, .slice none 0 0, .int .u64 0, .slice none 0 0, .slice none 0 0, .string ByteArray.empty, .int .i64 0, .slice none 0 0, .slice none 0 0, .slice none 0 0, .bool false, .string ByteArray.empty], .slice none 0 0], []⟩ 8 (by kernel_rfl) (by kernel_rfl) (by kernel_rfl) (by kernel_rfl)) ?_
  intro W base args ds gs before hval0 hW hcnd hsz0 _
  have hval : ∀ (j : Nat) t v, Try.f4.params[j]? = some t → args[j]? = some v → Value.okWide Try.prog W .any base t v := hval0
  have hW' := hW
  obtain ⟨p, q, hA0, hV, rfl, hfz, hnd⟩ := hW
  have hA : DataW.TrodAll enc Try.prog W 0 (fun _ => true) true Try.f4.params.toList args.toList ds p := hA0
  rw [Try.params4] at hA hval
  obtain ⟨v0, v1, v2, d0, d1, d2, p0, p1, p2, rfl, rfl, rfl, h0, h1, h2⟩ := trodAll_three hA
  obtain ⟨rfl, rfl⟩ := trodVars_none hV
  have k0 := h0
  have k1 := h1
  have k2 := h2
  have lt0 : ∀ x ∈ p0, x.block < W.heap.size := by obtain ⟨m, hm⟩ := k0; exact DataW.trod_lt m _ _ _ hm
  have hsz0' : ∀ m ∈ d0.weights Try.prog 34, m ≤ reachBytes := by
    intro m hm
    have := List.all_eq_true.1 hsz0 m (DataW.weights_mem_each (j := 0) (t := 34) (d := d0) rfl rfl m hm)
    simpa using this
  obtain ⟨cs0, rfl, _⟩ := okWide_struct Try.underlying34 (hval 0 34 v0 rfl rfl)
  obtain ⟨t0, ht0⟩ : ∃ t : Ty, t.In W (Lo W.heap.size) cs0 := by
    obtain ⟨fuel, hf⟩ := h0
    obtain ⟨t, ht⟩ := open_type fuel _ _ hf hsz0'
    exact ⟨t, by simpa [Value.cells] using ht⟩
  have lt1 : ∀ x ∈ p1, x.block < W.heap.size := by obtain ⟨m, hm⟩ := k1; exact DataW.trod_lt m _ _ _ hm
  have hsz1' : ∀ m ∈ d1.weights Try.prog 34, m ≤ reachBytes := by
    intro m hm
    have := List.all_eq_true.1 hsz0 m (DataW.weights_mem_each (j := 1) (t := 34) (d := d1) rfl rfl m hm)
    simpa using this
  obtain ⟨cs1, rfl, _⟩ := okWide_struct Try.underlying34 (hval 1 34 v1 rfl rfl)
  obtain ⟨t1, ht1⟩ : ∃ t : Ty, t.In W (Lo W.heap.size) cs1 := by
    obtain ⟨fuel, hf⟩ := h1
    obtain ⟨t, ht⟩ := open_type fuel _ _ hf hsz1'
    exact ⟨t, by simpa [Value.cells] using ht⟩
  have lt2 : ∀ x ∈ p2, x.block < W.heap.size := by obtain ⟨m, hm⟩ := k2; exact DataW.trod_lt m _ _ _ hm
  have hsz2' : ∀ m ∈ d2.weights Try.prog 26, m ≤ reachBytes := by
    intro m hm
    have := List.all_eq_true.1 hsz0 m (DataW.weights_mem_each (j := 2) (t := 26) (d := d2) rfl rfl m hm)
    simpa using this
  obtain ⟨l, al, cl, rfl, hl, hin⟩ : ∃ (l : TmL) (a : Option Addr) (cap : Nat), v2 = .slice a l.len cap ∧ l.len * 152 ≤ 140737488355328 ∧ l.In W (Lo W.heap.size) a 0 := by
    obtain ⟨fuel, hf⟩ := h2
    obtain ⟨a1, len1, cap1, rfl⟩ := okWide_slice Try.underlying26 (hval 2 26 v2 rfl rfl)
    exact open_list (fun m _ => open_term m) (by simpa [Value.cells] using hf) hsz2'
  clear hA0 hval0
  refine (CheckSound_any t0 t1 cs0 cs1 l al cl W ht0 ht1 hin (by omega)).mono fun e W' ⟨he, bel⟩ => ?_
  subst he
  exact ⟨_, rfl, _, _, _, [], _, [], hW', trodAll_mk1 (shut_bool Try.underlying4 _), trodAll_mk3 (Below.trod Try.laidOut (by kernel_rfl) (of_decide_eq_true (by kernel_rfl)) k0 bel lt0) (Below.trod Try.laidOut (by kernel_rfl) (of_decide_eq_true (by kernel_rfl)) k1 bel lt1) (Below.trod Try.laidOut (by kernel_rfl) (of_decide_eq_true (by kernel_rfl)) k2 bel lt2), rfl, bel.frame _, fun h => by cases h⟩

theorem CheckSound_holds : Rows.CheckSoundSaid :=
  OpenClaim.holds_of_wide 4 Try.f4 rfl rfl rfl rfl rfl rfl rfl ⟨rfl, rfl, rfl, rfl, rfl⟩ rfl rfl rfl rfl rfl (by kernel_rfl) Try.func4 (by kernel_rfl)
    (of_decide_eq_true (by kernel_rfl)) (by unfold Func.isWrapper; first | (rw [if_pos (by decide +kernel)]; kernel_rfl) | (rw [if_neg (by decide +kernel)]; exact ⟨rfl, rfl⟩))
    (fun os started H enc _ => CheckSound_lifted os started H enc)
end Go.Proofs.Ytkmlpdehibameaa


/- A value is of a union just if it is of a part, a list of a type just if all its values are, a dict that may have others of an open type just if its own fields are: the Go function tenonlaw07.CheckParts returns true at every three arguments that can be read, and leaves them as they were. -/
import Derived.Test.YtkngncimcbjicaaRows
import Derived.Test.YtkngncimcbjicaaP44
import Derived.Test.YtkngncimcbjicaaP46
import Derived.ProofKit
import Derived.SizedLaws
import Derived.OpenShut
namespace Go.Proofs.Ytkngncimcbjicaa
open Go.ChangeShapes Go.WideShapes Go.ChangeAt Go.RowKit

theorem Try.own : ownKnob Try.prog.godebug = none := by kernel_rfl
theorem Try.laidOut : laidOutB Try.prog = true := by kernel_rfl
theorem Try.cY2 : Try.prog.cellsOf 53 = 36 := by kernel_rfl
theorem okWide_array {P : Program} {w : World} {r : Reach} {base : Nat} {t e : TypeId} {n : Nat} {v : Value} (ht : P.underlying t = some (.array n e)) (h : Value.okWide P w r base t v) : ∃ cs, v = .agg cs ∧ cs.size = P.cellsOf t := by
  simp only [Value.okWide, ht] at h
  obtain ⟨cs, h1, h2, _⟩ := h
  exact ⟨cs, h1, h2⟩
set_option maxRecDepth 100000 in
theorem open_two {H : Type} {enc : TypeId × Value → H} {W : World} {n : Nat} {cs : List Value} {x : DataW H × List MemPlace} (h : DataW.trod enc Try.prog W 0 (fun _ => true) true n 53 cs = some x) (hw : ∀ m ∈ x.1.weights Try.prog 53, m ≤ reachBytes) :
    ∃ (a b : Ty) (ca cb : Array Value), cs.toArray = both ca cb ∧ a.In W (Lo W.heap.size) ca ∧ b.In W (Lo W.heap.size) cb := by
  obtain ⟨xs, m, rfl, rfl, hlc, hxs, hf⟩ := Go.DataW.trod_array Try.underlying53 h
  rw [Try.cY2] at hlc
  match xs, hxs with
  | [y0, y1], _ =>
    have f0 := hf 0 (by decide)
    have f1 := hf 1 (by decide)
    rw [Try.cY] at f0 f1
    have hwe : ∀ q ∈ DataW.weightsAll Try.prog 34 [y0.1, y1.1], q ≤ reachBytes := by
      intro q hq; exact hw q (by simpa only [DataW.weights, Try.underlying53, List.map_cons, List.map_nil] using hq)
    obtain ⟨a, ha⟩ := open_type m _ y0 f0 (fun q hq => hwe q (weights_all (by simp) q hq))
    obtain ⟨b, hb⟩ := open_type m _ y1 f1 (fun q hq => hwe q (weights_all (by simp) q hq))
    refine ⟨a, b, _, _, ?_, ha, hb⟩
    unfold both
    congr 1
    have h2 : (cs.drop 18).take 18 = cs.drop 18 := List.take_of_length_le (by simp; omega)
    simp [h2]

set_option maxRecDepth 100000 in
theorem CheckParts_lifted (os : Os) (started : os.Started) (H : Type) (enc : TypeId × Value → H) :
    ReturnsInHanded {} Try.checked os 6 .any (Rows.checkPartsSpec.pre6 enc Try.prog Try.f6 Rows.checkPartsRow.domain false) (Rows.checkPartsSpec.post enc Try.prog Try.f6 false true false false) := by
  refine returnsInHanded_of_change_sized (C := Try.checked) Try.own started (by kernel_rfl) Try.func6
    (ChangeSpec.witness6 (enc := enc) (C := Try.checked) false ⟨#[], #[.agg #[.int .i64 0, .int .i64 0, .int .i64 0, .bool false, .int .i64 0, .float .f64 0, .string ByteArray.empty, .slice none 0 0, .int .u64 0, .slice none 0 0, .slice none 0 0, .string ByteArray.empty, .int .i64 0, .slice none 0 0, .slice none 0 0, .slice none 0 0, .bool false, .string ByteArray.empty, .int .i64 0, .int .i64 0, .int .i64 0, .bool false, .int .i64 0, .float .f64 0, .string ByteArray.empty, .slice none 0 0, .int .u64 0, .slice none 0 0, .slice none 0 0, .string ByteArray.empty, .int .i64 0, .slice none 0 0, .slice none 0 0, .slice none 0 0, .bool false, .string ByteArray.empty], .slice none 0 0, .bool false], []⟩ 8 (by kernel_rfl) (by kernel_rfl) (by kernel_rfl) (by kernel_rfl)) ?_
  intro W base args ds gs before hval0 hW hcnd hsz0 _
  have hval : ∀ (j : Nat) t v, Try.f6.params[j]? = some t → args[j]? = some v → Value.okWide Try.prog W .any base t v := hval0
  have hW' := hW
  obtain ⟨p, q, hA0, hV, rfl, hfz, hnd⟩ := hW
  have hA : DataW.TrodAll enc Try.prog W 0 (fun _ => true) true Try.f6.params.toList args.toList ds p := hA0
  rw [Try.params6] at hA hval
  obtain ⟨v0, v1, v2, d0, d1, d2, p0, p1, p2, rfl, rfl, rfl, h0, h1, h2⟩ := trodAll_three hA
  obtain ⟨rfl, rfl⟩ := trodVars_none hV
  have k0 := h0
  have k1 := h1
  have k2 := h2
  have lt0 : ∀ x ∈ p0, x.block < W.heap.size := by obtain ⟨m, hm⟩ := k0; exact DataW.trod_lt m _ _ _ hm
  have hsz0' : ∀ m ∈ d0.weights Try.prog 53, m ≤ reachBytes := by
    intro m hm
    have := List.all_eq_true.1 hsz0 m (DataW.weights_mem_each (j := 0) (t := 53) (d := d0) rfl rfl m hm)
    simpa using this
  obtain ⟨cs0, rfl, _⟩ := okWide_array Try.underlying53 (hval 0 53 v0 rfl rfl)
  obtain ⟨a, b, ca, cb, hcs, ha, hb⟩ : ∃ (a b : Ty) (ca cb : Array Value), cs0 = both ca cb ∧ a.In W (Lo W.heap.size) ca ∧ b.In W (Lo W.heap.size) cb := by
    obtain ⟨fuel, hf⟩ := h0
    obtain ⟨a, b, ca, cb, e, ha, hb⟩ := open_two hf hsz0'
    exact ⟨a, b, ca, cb, by simpa [Value.cells] using e, ha, hb⟩
  subst hcs
  have lt1 : ∀ x ∈ p1, x.block < W.heap.size := by obtain ⟨m, hm⟩ := k1; exact DataW.trod_lt m _ _ _ hm
  have hsz1' : ∀ m ∈ d1.weights Try.prog 26, m ≤ reachBytes := by
    intro m hm
    have := List.all_eq_true.1 hsz0 m (DataW.weights_mem_each (j := 1) (t := 26) (d := d1) rfl rfl m hm)
    simpa using this
  obtain ⟨l, al, cl, rfl, hl, hin⟩ : ∃ (l : TmL) (a : Option Addr) (cap : Nat), v1 = .slice a l.len cap ∧ l.len * 152 ≤ 140737488355328 ∧ l.In W (Lo W.heap.size) a 0 := by
    obtain ⟨fuel, hf⟩ := h1
    obtain ⟨a1, len1, cap1, rfl⟩ := okWide_slice Try.underlying26 (hval 1 26 v1 rfl rfl)
    exact open_list (fun m _ => open_term m) (by simpa [Value.cells] using hf) hsz1'
  have lt2 : ∀ x ∈ p2, x.block < W.heap.size := by obtain ⟨m, hm⟩ := k2; exact DataW.trod_lt m _ _ _ hm
  obtain ⟨op, rfl⟩ := okWide_bool Try.underlying4 (hval 2 4 v2 rfl rfl)
  clear hA0 hval0
  refine (CheckParts_any a b ca cb l al cl op W ha hb hin hl).mono fun e W' ⟨he, bel⟩ => ?_
  subst he
  exact ⟨_, rfl, _, _, _, [], _, [], hW', trodAll_mk1 (shut_bool Try.underlying4 _), trodAll_mk3 (Below.trod Try.laidOut (by kernel_rfl) (of_decide_eq_true (by kernel_rfl)) k0 bel lt0) (Below.trod Try.laidOut (by kernel_rfl) (of_decide_eq_true (by kernel_rfl)) k1 bel lt1) (Below.trod Try.laidOut (by kernel_rfl) (of_decide_eq_true (by kernel_rfl)) k2 bel lt2), rfl, bel.frame _, fun h => by cases h⟩

theorem CheckParts_holds : Rows.CheckPartsSaid :=
  OpenClaim.holds_of_wide 6 Try.f6 rfl rfl rfl rfl rfl rfl rfl ⟨rfl, rfl, rfl, rfl, rfl⟩ rfl rfl rfl rfl rfl (by kernel_rfl) Try.func6 (by kernel_rfl)
    (of_decide_eq_true (by kernel_rfl)) (by unfold Func.isWrapper; first | (rw [if_pos (by decide +kernel)]; kernel_rfl) | (rw [if_neg (by decide +kernel)]; exact ⟨rfl, rfl⟩))
    (fun os started H enc _ => CheckParts_lifted os started H enc)
end Go.Proofs.Ytkngncimcbjicaa


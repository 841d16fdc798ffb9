/- Each value is of the type that TypeOf tells of it, what is of one of two types is of Either of them, and through a third: the Go function tenonlaw07.CheckEither returns true at every two arguments (three types, a term) that can be read, and leaves them as they were. -/
import Derived.Test.YtjdjpbdfchhcfaaGreatRows
import Derived.Test.YtjdjpbdfchhcfaaGreatKE54
import Derived.Test.YtjdjpbdfchhcfaaGreatKE55
import Derived.ProofKit
import Derived.SizedLaws
import Derived.OpenShut
namespace Go.Proofs.YtjdjpbdfchhcfaaGreat
open Go.ChangeShapes Go.WideShapes Go.ChangeAt Go.RowKit

theorem Tryz.own : ownKnob Tryz.prog.godebug = none := by kernel_rfl
theorem Tryz.laidOut : laidOutB Tryz.prog = true := by kernel_rfl
theorem Tryz.cY3 : Tryz.prog.cellsOf 54 = 54 := by kernel_rfl
theorem okWide_array {P : Program} {w : World} {r : Reach} {base : Nat} {t e : TypeId} {n : Nat} {v : Value} (ht : P.underlying t = some (.array n e)) (h : Value.okWide P w r base t v) : ∃ cs, v = .agg cs ∧ cs.size = P.cellsOf t := by
  simp only [Value.okWide, ht] at h
  obtain ⟨cs, h1, h2, _⟩ := h
  exact ⟨cs, h1, h2⟩
set_option maxRecDepth 100000 in
theorem open_three {H : Type} {enc : TypeId × Value → H} {W : World} {n : Nat} {cs : List Value} {x : DataW H × List MemPlace} (h : DataW.trod enc Tryz.prog W 0 (fun _ => true) true n 54 cs = some x) (hw : ∀ m ∈ x.1.weights Tryz.prog 54, m ≤ reachBytes) :
    ∃ (a b c : Ty) (ca cb cc : Array Value), cs.toArray = three ca cb cc ∧ a.In W (Lo W.heap.size) ca ∧ b.In W (Lo W.heap.size) cb ∧ c.In W (Lo W.heap.size) cc := by
  obtain ⟨xs, m, rfl, rfl, hlc, hxs, hf⟩ := Go.DataW.trod_array Tryz.underlying54 h
  rw [Tryz.cY3] at hlc
  match xs, hxs with
  | [y0, y1, y2], _ =>
    have f0 := hf 0 (by decide)
    have f1 := hf 1 (by decide)
    have f2 := hf 2 (by decide)
    rw [Tryz.cY] at f0 f1 f2
    have hwe : ∀ q ∈ DataW.weightsAll Tryz.prog 34 [y0.1, y1.1, y2.1], q ≤ reachBytes := by
      intro q hq; exact hw q (by simpa only [DataW.weights, Tryz.underlying54, List.map_cons, List.map_nil] using hq)
    obtain ⟨a, ha⟩ := open_type m _ y0 f0 (fun q hq => hwe q (weights_all (by simp) q hq))
    obtain ⟨b, hb⟩ := open_type m _ y1 f1 (fun q hq => hwe q (weights_all (by simp) q hq))
    obtain ⟨c, hc⟩ := open_type m _ y2 f2 (fun q hq => hwe q (weights_all (by simp) q hq))
    refine ⟨a, b, c, _, _, _, ?_, ha, hb, hc⟩
    unfold three
    congr 1
    have e1 : (cs.drop 36).take 18 = cs.drop 36 := List.take_of_length_le (by simp; omega)
    have e2 : cs = cs.take 18 ++ ((cs.drop 18).take 18 ++ cs.drop 36) := by
      conv => lhs; rw [← List.take_append_drop 18 cs, ← List.take_append_drop 18 (cs.drop 18), List.drop_drop]
    simp only [Nat.zero_mul, List.drop_zero, Nat.one_mul, show 2 * 18 = 36 from rfl, e1]
    rw [List.append_assoc]
    exact e2

set_option maxRecDepth 100000 in
theorem CheckEither_lifted (os : Os) (started : os.Started) (H : Type) (enc : TypeId × Value → H) :
    ReturnsInHanded {} Tryz.checked os 5 .any (Rows.checkEitherSpec.pre6 enc Tryz.prog Tryz.f5 Rows.checkEitherRow.domain false) (Rows.checkEitherSpec.post enc Tryz.prog Tryz.f5 false true false false) := by
  refine returnsInHanded_of_change_sized (C := Tryz.checked) Tryz.own started (by kernel_rfl) Tryz.func5
    (ChangeSpec.witness6 (enc := enc) (C := Tryz.checked) false ⟨#[], #[.agg #[.int .i64 0, .int .i64 0, .int .i64 0, .bool false, .int .i64 0, .float .f64 0, .string ByteArray.empty, .slice none 0 0, .int .u64 0, .slice none 0 0, .slice none 0 0, .string ByteArray.empty, .int .i64 0, .slice none 0 0, .slice none 0 0, .slice none 0 0, .bool false, .string ByteArray.empty, .int .i64 0, .int .i64 0, .int .i64 0, .bool false, .int .i64 0, .float .f64 0, .string ByteArray.empty, .slice none 0 0, .int .u64 0, .slice none 0 0, .slice none 0 0, .string ByteArray.empty, .int .i64 0, .slice none 0 0, .slice none 0 0, .slice none 0 0, .bool false, .string ByteArray.empty, .int .i64 0, .int .i64 0, .int .i64 0, .bool false, .int .i64 0, .float .f64 0, .string ByteArray.empty, .slice none 0 0, .int .u64 0, .slice none 0 0, .slice none 0 0, .string ByteArray.empty, .int .i64 0, .slice none 0 0, .slice none 0 0, .slice none 0 0, .bool false, .string ByteArray.empty], .agg #[.int .i64 0, .bool false, .int .i64 0, .float .f64 0, .string ByteArray.empty, .slice none 0 0, .int .u64 0, .slice none 0 0, .slice none 0 0, .string ByteArray.empty, .int .i64 0]], []⟩ 8 (by kernel_rfl) (by kernel_rfl) (by kernel_rfl) (by kernel_rfl)) ?_
  intro W base args ds gs before hval0 hW hcnd hsz0 _
  have hval : ∀ (j : Nat) t v, Tryz.f5.params[j]? = some t → args[j]? = some v → Value.okWide Tryz.prog W .any base t v := hval0
  have hW' := hW
  obtain ⟨p, q, hA0, hV, rfl, hfz, hnd⟩ := hW
  have hA : DataW.TrodAll enc Tryz.prog W 0 (fun _ => true) true Tryz.f5.params.toList args.toList ds p := hA0
  rw [Tryz.params5] at hA hval
  obtain ⟨v0, v1, d0, d1, p0, p1, rfl, rfl, rfl, h0, h1⟩ := trodAll_two hA
  obtain ⟨rfl, rfl⟩ := trodVars_none hV
  have k0 := h0
  have k1 := h1
  have lt0 : ∀ x ∈ p0, x.block < W.heap.size := by obtain ⟨m, hm⟩ := k0; exact DataW.trod_lt m _ _ _ hm
  have hsz0' : ∀ m ∈ d0.weights Tryz.prog 54, m ≤ reachBytes := by
    intro m hm
    have := List.all_eq_true.1 hsz0 m (DataW.weights_mem_each (j := 0) (t := 54) (d := d0) rfl rfl m hm)
    simpa using this
  obtain ⟨cs0, rfl, _⟩ := okWide_array Tryz.underlying54 (hval 0 54 v0 rfl rfl)
  obtain ⟨a, b, c, ca, cb, cc, hcs, ha, hb, hc⟩ : ∃ (a b c : Ty) (ca cb cc : Array Value), cs0 = three ca cb cc ∧ a.In W (Lo W.heap.size) ca ∧ b.In W (Lo W.heap.size) cb ∧ c.In W (Lo W.heap.size) cc := by
    obtain ⟨fuel, hf⟩ := h0
    obtain ⟨a, b, c, ca, cb, cc, e, ha, hb, hc⟩ := open_three hf hsz0'
    exact ⟨a, b, c, ca, cb, cc, by simpa [Value.cells] using e, ha, hb, hc⟩
  subst hcs
  have lt1 : ∀ x ∈ p1, x.block < W.heap.size := by obtain ⟨m, hm⟩ := k1; exact DataW.trod_lt m _ _ _ hm
  have hsz1' : ∀ m ∈ d1.weights Tryz.prog 29, m ≤ reachBytes := by
    intro m hm
    have := List.all_eq_true.1 hsz0 m (DataW.weights_mem_each (j := 1) (t := 29) (d := d1) rfl rfl m hm)
    simpa using this
  obtain ⟨cs1, rfl, _⟩ := okWide_struct Tryz.underlying29 (hval 1 29 v1 rfl rfl)
  obtain ⟨t1, ht1⟩ : ∃ t : Tm, t.In W (Lo W.heap.size) cs1 := by
    obtain ⟨fuel, hf⟩ := h1
    obtain ⟨t, ht⟩ := open_term fuel _ _ hf hsz1'
    exact ⟨t, by simpa [Value.cells] using ht⟩
  clear hA0 hval0
  refine (CheckEither_any a b c ca cb cc t1 cs1 W ha hb hc ht1).mono fun e W' ⟨he, bel⟩ => ?_
  subst he
  exact ⟨_, rfl, _, _, _, [], _, [], hW', trodAll_mk1 (shut_bool Tryz.underlying4 _), trodAll_mk2 (Below.trod Tryz.laidOut (by kernel_rfl) (of_decide_eq_true (by kernel_rfl)) k0 bel lt0) (Below.trod Tryz.laidOut (by kernel_rfl) (of_decide_eq_true (by kernel_rfl)) k1 bel lt1), rfl, bel.frame _, fun h => by cases h⟩

theorem CheckEither_holds : Rows.CheckEitherSaid :=
  OpenClaim.holds_of_wide 5 Tryz.f5 rfl rfl rfl rfl rfl rfl rfl ⟨rfl, rfl, rfl, rfl, rfl⟩ rfl rfl rfl rfl rfl (by kernel_rfl) Tryz.func5 (by kernel_rfl)
    (of_decide_eq_true (by kernel_rfl)) (by unfold Func.isWrapper; first | (rw [if_pos (by decide +kernel)]; kernel_rfl) | (rw [if_neg (by decide +kernel)]; exact ⟨rfl, rfl⟩))
    (fun os started H enc _ => CheckEither_lifted os started H enc)
end Go.Proofs.YtjdjpbdfchhcfaaGreat


/- A Map tells what was put last under each key: the Go function tenonlaw05.DigestLast returns true at every three arguments that can be read, and leaves them as they were. -/
import Derived.Test.YtadcbhdhgobknaaRows
import Derived.Test.YtadcbhdhgobknaaL40
import Derived.Test.YtadcbhdhgobknaaL41
import Derived.ProofKit
import Derived.SizedLaws
import Derived.OpenShut
namespace Go.Proofs.Ytadcbhdhgobknaa
open Go.ChangeShapes Go.WideShapes Go.ChangeAt Go.RowKit

theorem Try.own : ownKnob Try.prog.godebug = none := by kernel_rfl
theorem Try.laidOut : laidOutB Try.prog = true := by kernel_rfl
theorem Try.c22 : Try.prog.cellsOf 64 = 22 := by kernel_rfl

set_option maxRecDepth 100000 in
theorem okWide_two {W : World} {r : Reach} {base : Nat} {v : Value} (h : Value.okWide Try.prog W r base 64 v) : ∃ cs, v = .agg cs ∧ cs.size = Try.prog.cellsOf 64 := by
  simp only [Value.okWide, Try.underlying64] at h
  obtain ⟨cs, h1, h2, _⟩ := h
  exact ⟨cs, h1, h2⟩
set_option maxRecDepth 100000 in
theorem open_two {H : Type} {enc : TypeId × Value → H} {W : World} {n : Nat} {cs : Array Value} {x : DataW H × List MemPlace} (hc : cs.size = 22) (h : DataW.trod enc Try.prog W 0 (fun _ => true) true n 64 cs.toList = some x) (hw : ∀ m ∈ x.1.weights Try.prog 64, m ≤ reachBytes) :
    ∃ (t u : Tm) (k2 k3 : Array Value), cs = k2 ++ k3 ∧ t.In W (Lo W.heap.size) k2 ∧ u.In W (Lo W.heap.size) k3 := by
  obtain ⟨xs, m, _, rfl, hlen, hl, hel⟩ := DataW.trod_array Try.underlying64 h
  match xs, hl, hel, hw with
  | [x0, x1], _, hel, hw =>
    have h0 := hel 0 (by omega)
    have h1 := hel 1 (by omega)
    rw [Try.cT] at h0 h1
    have w0 : ∀ m ∈ x0.1.weights Try.prog 29, m ≤ reachBytes := fun m hm => hw m (by
      simp only [List.map_cons, List.map_nil, DataW.weights, Try.underlying64, DataW.weightsAll, List.mem_append]; exact .inl hm)
    have w1 : ∀ m ∈ x1.1.weights Try.prog 29, m ≤ reachBytes := fun m hm => hw m (by
      simp only [List.map_cons, List.map_nil, DataW.weights, Try.underlying64, DataW.weightsAll, List.mem_append]; exact .inr (.inl hm))
    obtain ⟨t, ht⟩ := open_term m _ x0 h0 w0
    obtain ⟨u, hu⟩ := open_term m _ x1 h1 w1
    refine ⟨t, u, _, _, ?_, ht, hu⟩
    apply Array.ext'
    have hl : cs.toList.length = 22 := by simpa using hc
    simp only [Array.toList_append, Nat.zero_mul, List.drop_zero, Nat.one_mul]
    rw [List.take_of_length_le (l := cs.toList.drop 11) (by simp [hc]), List.take_append_drop]

set_option maxRecDepth 100000 in
theorem DigestLast_lifted (os : Os) (started : os.Started) (H : Type) (enc : TypeId × Value → H) :
    ReturnsInHanded {} Try.checked os 8 .any (Rows.digestLastSpec.pre6 enc Try.prog Try.f8 Rows.digestLastRow.domain false) (Rows.digestLastSpec.post enc Try.prog Try.f8 false true false false) := by
  refine returnsInHanded_of_change_sized (C := Try.checked) Try.own started (by kernel_rfl) Try.func8
    (ChangeSpec.witness6 (enc := enc) (C := Try.checked) false ⟨#[], #[.agg #[.int .i64 0, .bool false, .int .i64 0, .float .f64 0, .string ByteArray.empty, .slice none 0 0, .int .u64 0, .slice none 0 0, .slice none 0 0, .string ByteArray.empty, .int .i64 0], .agg #[.int .i64 0, .bool false, .int .i64 0, .float .f64 0, .string ByteArray.empty, .slice none 0 0, .int .u64 0, .slice none 0 0, .slice none 0 0, .string ByteArray.empty, .int .i64 0, .int .i64 0, .bool false, .int .i64 0, .float .f64 0, .string ByteArray.empty, .slice none 0 0, .int .u64 0, .slice none 0 0, .slice none 0 0, .string ByteArray.empty, .int .i64 0], .slice none 0 0], []⟩ 8 (by kernel_rfl) (by kernel_rfl) (by kernel_rfl) (by kernel_rfl)) ?_
  intro W base args ds gs before hval0 hW hcnd hsz0 _
  have hval : ∀ (j : Nat) t v, Try.f8.params[j]? = some t → args[j]? = some v → Value.okWide Try.prog W .any base t v := hval0
  have hW' := hW
  obtain ⟨p, q, hA0, hV, rfl, hfz, hnd⟩ := hW
  have hA : DataW.TrodAll enc Try.prog W 0 (fun _ => true) true Try.f8.params.toList args.toList ds p := hA0
  rw [Try.params8] at hA hval
  obtain ⟨v0, v1, v2, d0, d1, d2, p0, p1, p2, rfl, rfl, rfl, h0, h1, h2⟩ := trodAll_three hA
  obtain ⟨rfl, rfl⟩ := trodVars_none hV
  have k0 := h0
  have k1 := h1
  have k2 := h2
  have lt0 : ∀ x ∈ p0, x.block < W.heap.size := by obtain ⟨m, hm⟩ := k0; exact DataW.trod_lt m _ _ _ hm
  have hsz0' : ∀ m ∈ d0.weights Try.prog 29, m ≤ reachBytes := by
    intro m hm
    have := List.all_eq_true.1 hsz0 m (DataW.weights_mem_each (j := 0) (t := 29) (d := d0) rfl rfl m hm)
    simpa using this
  obtain ⟨cs0, rfl, _⟩ := okWide_struct Try.underlying29 (hval 0 29 v0 rfl rfl)
  obtain ⟨t0, ht0⟩ : ∃ t : Tm, t.In W (Lo W.heap.size) cs0 := by
    obtain ⟨fuel, hf⟩ := h0
    obtain ⟨t, ht⟩ := open_term fuel _ _ hf hsz0'
    exact ⟨t, by simpa [Value.cells] using ht⟩
  have lt1 : ∀ x ∈ p1, x.block < W.heap.size := by obtain ⟨m, hm⟩ := k1; exact DataW.trod_lt m _ _ _ hm
  have hsz1' : ∀ m ∈ d1.weights Try.prog 64, m ≤ reachBytes := by
    intro m hm
    have := List.all_eq_true.1 hsz0 m (DataW.weights_mem_each (j := 1) (t := 64) (d := d1) rfl rfl m hm)
    simpa using this
  obtain ⟨cs1, rfl, hc1⟩ := okWide_two (hval 1 64 v1 rfl rfl)
  rw [Try.c22] at hc1
  obtain ⟨t1, u1, c1, c2, rfl, ht1, hu1⟩ : ∃ (t u : Tm) (c1 c2 : Array Value), cs1 = c1 ++ c2 ∧ t.In W (Lo W.heap.size) c1 ∧ u.In W (Lo W.heap.size) c2 := by
    obtain ⟨fuel, hf⟩ := h1
    exact open_two hc1 (by simpa [Value.cells] using hf) hsz1'
  have lt2 : ∀ x ∈ p2, x.block < W.heap.size := by obtain ⟨m, hm⟩ := k2; exact DataW.trod_lt m _ _ _ hm
  have hsz2' : ∀ m ∈ d2.weights Try.prog 26, m ≤ reachBytes := by
    intro m hm
    have := List.all_eq_true.1 hsz0 m (DataW.weights_mem_each (j := 2) (t := 26) (d := d2) rfl rfl m hm)
    simpa using this
  obtain ⟨l, al, cl, rfl, hl, hin⟩ : ∃ (l : TmL) (a : Option Addr) (cap : Nat), v2 = .slice a l.len cap ∧ l.len * 152 ≤ 140737488355328 ∧ l.In W (Lo W.heap.size) a 0 := by
    obtain ⟨fuel, hf⟩ := h2
    obtain ⟨a1, len1, cap1, rfl⟩ := okWide_slice Try.underlying26 (hval 2 26 v2 rfl rfl)
    exact open_list (fun m _ => open_term m) (by simpa [Value.cells] using hf) hsz2'
  clear hA0 hval0
  refine (DigestLast_any t0 t1 u1 cs0 c1 c2 l al cl W ht0 ht1 hu1 hin (by omega)).mono fun e W' ⟨he, bel⟩ => ?_
  subst he
  exact ⟨_, rfl, _, _, _, [], _, [], hW', trodAll_mk1 (shut_bool Try.underlying4 _), trodAll_mk3 (Below.trod Try.laidOut (by kernel_rfl) (of_decide_eq_true (by kernel_rfl)) k0 bel lt0) (Below.trod Try.laidOut (by kernel_rfl) (of_decide_eq_true (by kernel_rfl)) k1 bel lt1) (Below.trod Try.laidOut (by kernel_rfl) (of_decide_eq_true (by kernel_rfl)) k2 bel lt2), rfl, bel.frame _, fun h => by cases h⟩

theorem DigestLast_holds : Rows.DigestLastSaid :=
  OpenClaim.holds_of_wide 8 Try.f8 rfl rfl rfl rfl rfl rfl rfl ⟨rfl, rfl, rfl, rfl, rfl⟩ rfl rfl rfl rfl rfl (by kernel_rfl) Try.func8 (by kernel_rfl)
    (of_decide_eq_true (by kernel_rfl)) (by unfold Func.isWrapper; first | (rw [if_pos (by decide +kernel)]; kernel_rfl) | (rw [if_neg (by decide +kernel)]; exact ⟨rfl, rfl⟩))
    (fun os started H enc _ => DigestLast_lifted os started H enc)
end Go.Proofs.Ytadcbhdhgobknaa


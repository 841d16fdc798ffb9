/- References and edges that can be read as data: how they lie in memory. -/
import Derived.Test.YtilhheianbbbjaaK43
import Derived.ProofKit
import Derived.OpenShut
import Derived.SizedLaws
import Derived.Test.YtilhheianbbbjaaRows
import Derived.Carry
namespace Go.Proofs.Ytilhheianbbbjaa
open Go.ChangeShapes Go.WideShapes Go.ChangeAt Go.RowKit

theorem Try.cRf : Try.prog.cellsOf 25 = 1 := by kernel_rfl
theorem Try.bRf : Try.prog.bytesOf 25 = 8 := by kernel_rfl
theorem Try.cEg : Try.prog.cellsOf 41 = 2 := by kernel_rfl
theorem Try.bEg : Try.prog.bytesOf 41 = 16 := by kernel_rfl
theorem reach_iq : reachBytes = 140737488351232 := by rfl
theorem add_nn (b o i : Nat) : (⟨b, o, none⟩ : Addr).add i = ⟨b, o + i, none⟩ := addN b o i
set_option maxRecDepth 100000 in
theorem spot_of {W : World} {base : Nat} {t e : TypeId} (ht : Try.prog.underlying t = some (.slice e)) {a : Addr} {l c : Nat} (h : Value.okWide Try.prog W .any base t (.slice (some a) l c)) : a.spot = none := by
  simp only [Value.okWide, ht, Cell.okWide] at h
  simp only [Cell.ok, ht] at h
  exact h.2.2.2.1
theorem at_elem {i n : Nat} {α β : Type} {x : Option α} {f : α → Option β} {l : List β} (hn : l.length = n) (hi : i < n) (h : x.bind f = l[i]?) : ∃ a, x = some a ∧ ∃ y, f a = some y := by
  rw [List.getElem?_eq_getElem (by omega)] at h
  cases x with
  | none => simp at h
  | some a => exact ⟨a, rfl, _, h⟩
section
variable {H : Type} {enc : TypeId × Value → H} {W : World}
set_option maxRecDepth 100000 in
theorem open_rfs {n : Nat} {v : Value} {x : DataW H × List MemPlace} (h : DataW.trod enc Try.prog W 0 (fun _ => true) true n 22 [v] = some x) (hw : ∀ m ∈ x.1.weights Try.prog 22, m ≤ reachBytes) (hs : ∀ a l c, v = .slice (some a) l c → a.spot = none) :
    ∃ (l : List Int) (a : Option Addr) (cap : Nat), v = .slice a l.length cap ∧ l.length * 8 ≤ 140737488355328 ∧ RefsAt W W.heap.size a l := by
  rcases DataW.trod_slice Try.underlying22 h with ⟨hcs, rfl⟩ | ⟨a, len, cap, elems, rest, n', rfl, hcs, rfl, _, hlc, hcm, hlen, hel, _, _⟩
  · simp at hcs; subst hcs; exact ⟨[], none, 0, rfl, by simp, (fun t x hx => by simp at hx), (fun _ => .inl rfl), (fun x hx => by simp at hx)⟩
  · simp at hcs; subst hcs
    have hlen' : len * 8 ≤ 140737488355328 := by
      have := hw (((elems.map (·.1)).length + (rest.map (·.1)).length) * Try.prog.bytesOf 25) (by simp only [DataW.weights, Try.underlying22]; exact List.mem_cons_self ..)
      rw [Try.bRf, List.length_map, List.length_map, hlen] at this
      have := reach_iq
      omega
    have hsp := hs a len cap rfl
    obtain ⟨b, o, spot⟩ := a
    obtain rfl : spot = none := hsp
    have hread : ∀ i, i < len → ∃ z : Int, W.cell? ⟨b, o + i, none⟩ = some (.int .u64 z) ∧ 0 ≤ z ∧ z < 18446744073709551616 := fun i hi => by
      obtain ⟨cs, hc, y, ht⟩ := at_elem hlen hi (hel i hi)
      obtain ⟨z, rfl, _, hz⟩ := DataW.trod_int Try.underlying25 ht
      rw [Try.cRf, add_nn, Nat.mul_one] at hc
      obtain ⟨_, _, hcell⟩ := World.cells?_some hc
      have h00 := hcell 0 (by simp)
      rw [add_nn] at h00
      have hb := bounds_u64 hz
      exact ⟨z, by simpa using h00, hb.1, by omega⟩
    refine ⟨(List.range len).map fun i => match W.cell? ⟨b, o + i, none⟩ with | some (.int .u64 z) => z | _ => 0, some ⟨b, o, none⟩, cap, by simp, by simpa using hlen', fun t x hx => ?_, fun hn => .inr ⟨b, o, rfl⟩, fun x hx => ?_⟩
    · have htl : t < len := by have := (List.getElem?_eq_some_iff.1 hx).1; simpa using this
      obtain ⟨z, hz, _⟩ := hread t htl
      refine ⟨b, o, rfl, World.block_lt_of_cell? _ _ hz, ?_⟩
      simp [htl, hz] at hx
      rw [← hx]; exact hz
    · obtain ⟨i, hi, rfl⟩ := List.mem_map.1 hx
      obtain ⟨z, hz, h1, h2⟩ := hread i (by simpa using hi)
      rw [hz]; exact ⟨h1, h2⟩
set_option maxRecDepth 100000 in
theorem open_eds {n : Nat} {v : Value} {x : DataW H × List MemPlace} (h : DataW.trod enc Try.prog W 0 (fun _ => true) true n 23 [v] = some x) (hw : ∀ m ∈ x.1.weights Try.prog 23, m ≤ reachBytes) (hs : ∀ a l c, v = .slice (some a) l c → a.spot = none) :
    ∃ (l : List (Int × Int)) (a : Option Addr) (cap : Nat), v = .slice a l.length cap ∧ l.length * 16 ≤ 140737488355328 ∧ EdgesAt W W.heap.size a l := by
  rcases DataW.trod_slice Try.underlying23 h with ⟨hcs, rfl⟩ | ⟨a, len, cap, elems, rest, n', rfl, hcs, rfl, _, hlc, hcm, hlen, hel, _, _⟩
  · simp at hcs; subst hcs; exact ⟨[], none, 0, rfl, by simp, (fun t x hx => by simp at hx), (fun _ => .inl rfl), (fun x hx => by simp at hx)⟩
  · simp at hcs; subst hcs
    have hlen' : len * 16 ≤ 140737488355328 := by
      have := hw (((elems.map (·.1)).length + (rest.map (·.1)).length) * Try.prog.bytesOf 41) (by simp only [DataW.weights, Try.underlying23]; exact List.mem_cons_self ..)
      rw [Try.bEg, List.length_map, List.length_map, hlen] at this
      have := reach_iq
      omega
    have hsp := hs a len cap rfl
    obtain ⟨b, o, spot⟩ := a
    obtain rfl : spot = none := hsp
    have hread : ∀ i, i < len → ∃ z y : Int, W.cell? ⟨b, o + i * 2, none⟩ = some (.int .u64 z) ∧ W.cell? ⟨b, o + i * 2 + 1, none⟩ = some (.int .u64 y) ∧ (0 ≤ z ∧ z < 18446744073709551616) ∧ 0 ≤ y ∧ y < 18446744073709551616 := fun i hi => by
      obtain ⟨cs, hc, w, ht⟩ := at_elem hlen hi (hel i hi)
      rw [Try.cEg, add_nn] at hc
      obtain ⟨_, hl2, hcell⟩ := World.cells?_some hc
      have h00 := hcell 0 (by simp)
      have h01 := hcell 1 (by simp)
      rw [add_nn] at h00 h01
      obtain ⟨xs, n2, rfl, hx, hlc2, hxs, hf⟩ := DataW.trod_struct Try.underlying41 ht
      obtain ⟨z, y, hz, hy, rfl⟩ : ∃ z y : Int, (Lit.int .u64 z).wf = true ∧ (Lit.int .u64 y).wf = true ∧ cs = [.int .u64 z, .int .u64 y] := by
        match cs, hl2 with
        | [c0, c1], _ =>
          match xs, hxs with
          | [y0, y1], _ =>
            have f0 := hf 0 _ rfl
            have f1 := hf 1 _ rfl
            simp [Try.cRf] at f0
            simp [Try.cRf] at f1
            obtain ⟨z, hz, _, hzw⟩ := DataW.trod_int Try.underlying25 f0
            obtain ⟨y, hy, _, hyw⟩ := DataW.trod_int Try.underlying25 f1
            simp at hz hy
            subst hz hy
            exact ⟨z, y, hzw, hyw, rfl⟩
      have hb := bounds_u64 hz
      have hb2 := bounds_u64 hy
      exact ⟨z, y, by simpa using h00, by simpa using h01, ⟨hb.1, by omega⟩, hb2.1, by omega⟩
    refine ⟨(List.range len).map fun i => (match W.cell? ⟨b, o + i * 2, none⟩ with | some (.int .u64 z) => z | _ => 0, match W.cell? ⟨b, o + i * 2 + 1, none⟩ with | some (.int .u64 z) => z | _ => 0), some ⟨b, o, none⟩, cap, by simp, by simpa using hlen', fun t x hx => ?_, fun hn => .inr ⟨b, o, rfl⟩, fun x hx => ?_⟩
    · have htl : t < len := by have := (List.getElem?_eq_some_iff.1 hx).1; simpa using this
      obtain ⟨z, y, hz, hy, _⟩ := hread t htl
      simp [htl, hz, hy] at hx
      subst hx
      exact ⟨b, o, rfl, World.block_lt_of_cell? _ _ hz, hz, hy⟩
    · obtain ⟨i, hi, rfl⟩ := List.mem_map.1 hx
      obtain ⟨z, y, hz, hy, h1, h2⟩ := hread i (by simpa using hi)
      rw [hz, hy]; exact ⟨h1, h2⟩
end
end Go.Proofs.Ytilhheianbbbjaa

/- Every question to any graph, what is reached, the way, who is kept and by whom, is answered as the document says, twice: the Go function tenonlaw14.GraphAsks returns true at all five arguments that can be read, and leaves them as they were. -/
namespace Go.Proofs.Ytilhheianbbbjaa
open Go.ChangeShapes Go.WideShapes Go.ChangeAt Go.RowKit

theorem Try.own : ownKnob Try.prog.godebug = none := by kernel_rfl
theorem Try.laidOut : laidOutB Try.prog = true := by kernel_rfl

section
variable {H : Type} {enc : TypeId × Value → H} {P : Program} {w : World} {base : Nat} {spare : Nat → Bool} {held : Bool}
theorem trod_five {t0 t1 t2 t3 t4 : TypeId} {args : Array Value} {ds : List (DataW H)} {ps : List MemPlace} (h : DataW.TrodAll enc P w base spare held [t0, t1, t2, t3, t4] args.toList ds ps) :
    ∃ v0 v1 v2 v3 v4 d0 d1 d2 d3 d4 p0 p1 p2 p3 p4, args = #[v0, v1, v2, v3, v4] ∧ ds = [d0, d1, d2, d3, d4] ∧ ps = p0 ++ (p1 ++ (p2 ++ (p3 ++ p4))) ∧ DataW.Trod enc P w base spare held t0 v0 d0 p0 ∧ DataW.Trod enc P w base spare held t1 v1 d1 p1 ∧ DataW.Trod enc P w base spare held t2 v2 d2 p2 ∧ DataW.Trod enc P w base spare held t3 v3 d3 p3 ∧ DataW.Trod enc P w base spare held t4 v4 d4 p4 := by
  obtain ⟨v0, vs0, d0, ds0, p0, q0, hargs, rfl, rfl, h0, r0⟩ := trodAll_cons h
  obtain ⟨v1, vs1, d1, ds1, p1, q1, rfl, rfl, rfl, h1, r1⟩ := trodAll_cons r0
  obtain ⟨v2, vs2, d2, ds2, p2, q2, rfl, rfl, rfl, h2, r2⟩ := trodAll_cons r1
  obtain ⟨v3, vs3, d3, ds3, p3, q3, rfl, rfl, rfl, h3, r3⟩ := trodAll_cons r2
  obtain ⟨v4, vs4, d4, ds4, p4, q4, rfl, rfl, rfl, h4, r4⟩ := trodAll_cons r3
  obtain ⟨rfl, rfl, rfl⟩ := trodAll_nil r4
  exact ⟨v0, v1, v2, v3, v4, d0, d1, d2, d3, d4, p0, p1, p2, p3, p4, by cases args; simp_all, rfl, by simp, h0, h1, h2, h3, h4⟩
theorem open_u64 {enc : TypeId × Value → H} {W : World} {n : Nat} {v : Value} {x : DataW H × List MemPlace} (h : DataW.trod enc Try.prog W 0 (fun _ => true) true n 25 [v] = some x) : ∃ z, v = .int .u64 z ∧ 0 ≤ z ∧ z < 18446744073709551616 := by
  obtain ⟨z, e, _, hz⟩ := DataW.trod_int Try.underlying25 h
  simp at e
  simp [Lit.wf, IntKind.min, IntKind.max, IntKind.signed, IntKind.bits] at hz
  exact ⟨z, e, by omega, by omega⟩
end
set_option maxRecDepth 100000 in
set_option maxHeartbeats 4000000 in
theorem GraphAsks_lifted (os : Os) (started : os.Started) (H : Type) (enc : TypeId × Value → H) :
    ReturnsInHanded {} Try.checked os 3 .any (Rows.graphAsksSpec.pre6 enc Try.prog Try.f3 Rows.graphAsksRow.domain false) (Rows.graphAsksSpec.post enc Try.prog Try.f3 false true false false) := by
  refine returnsInHanded_of_change_sized (C := Try.checked) Try.own started (by kernel_rfl) Try.func3
    (ChangeSpec.witness6 (enc := enc) (C := Try.checked) false ⟨#[], #[.slice none 0 0, .slice none 0 0, .slice none 0 0, .int .u64 0, .int .u64 0], []⟩ 8 (by kernel_rfl) (by kernel_rfl) (by kernel_rfl) (by kernel_rfl)) ?_
  intro W base args ds gs before hval0 hW hcnd hsz0 _
  have hval : ∀ (j : Nat) t v, Try.f3.params[j]? = some t → args[j]? = some v → Value.okWide Try.prog W .any base t v := hval0
  have hW' := hW
  obtain ⟨p, q, hA0, hV, rfl, hfz, hnd⟩ := hW
  have hA : DataW.TrodAll enc Try.prog W 0 (fun _ => true) true Try.f3.params.toList args.toList ds p := hA0
  rw [Try.params3] at hA hval
  obtain ⟨v0, v1, v2, v3, v4, d0, d1, d2, d3, d4, p0, p1, p2, p3, p4, rfl, rfl, rfl, h0, h1, h2, h3, h4⟩ := trod_five hA
  obtain ⟨rfl, rfl⟩ := trodVars_none hV
  have k0 := h0
  have k1 := h1
  have k2 := h2
  have k3 := h3
  have k4 := h4
  have lt0 : ∀ x ∈ p0, x.block < W.heap.size := by obtain ⟨m, hm⟩ := k0; exact DataW.trod_lt m _ _ _ hm
  have hsz0' : ∀ m ∈ d0.weights Try.prog 22, m ≤ reachBytes := by
    intro m hm
    have := List.all_eq_true.1 hsz0 m (DataW.weights_mem_each (j := 0) (t := 22) (d := d0) rfl rfl m hm)
    simpa using this
  obtain ⟨a0, l0, c0, rfl⟩ := okWide_slice Try.underlying22 (hval 0 22 v0 rfl rfl)
  have sp0 : ∀ a l c, Value.slice a0 l0 c0 = .slice (some a) l c → a.spot = none := fun a l c e => by
    have hv := hval 0 22 _ rfl rfl
    rw [e] at hv
    exact spot_of Try.underlying22 hv
  obtain ⟨xs0, b0, cp0, e0, hlen0, hin0⟩ : ∃ (l : List Int) (a : Option Addr) (cap : Nat), Value.slice a0 l0 c0 = .slice a l.length cap ∧ l.length * 8 ≤ 140737488355328 ∧ RefsAt W W.heap.size a l := by
    obtain ⟨fuel, hf⟩ := h0
    exact open_rfs hf hsz0' sp0
  clear sp0
  injection e0 with e0a e0b e0c
  subst e0a e0b e0c
  have lt1 : ∀ x ∈ p1, x.block < W.heap.size := by obtain ⟨m, hm⟩ := k1; exact DataW.trod_lt m _ _ _ hm
  have hsz1' : ∀ m ∈ d1.weights Try.prog 23, m ≤ reachBytes := by
    intro m hm
    have := List.all_eq_true.1 hsz0 m (DataW.weights_mem_each (j := 1) (t := 23) (d := d1) rfl rfl m hm)
    simpa using this
  obtain ⟨a1, l1, c1, rfl⟩ := okWide_slice Try.underlying23 (hval 1 23 v1 rfl rfl)
  have sp1 : ∀ a l c, Value.slice a1 l1 c1 = .slice (some a) l c → a.spot = none := fun a l c e => by
    have hv := hval 1 23 _ rfl rfl
    rw [e] at hv
    exact spot_of Try.underlying23 hv
  obtain ⟨xs1, b1, cp1, e1, hlen1, hin1⟩ : ∃ (l : List (Int × Int)) (a : Option Addr) (cap : Nat), Value.slice a1 l1 c1 = .slice a l.length cap ∧ l.length * 16 ≤ 140737488355328 ∧ EdgesAt W W.heap.size a l := by
    obtain ⟨fuel, hf⟩ := h1
    exact open_eds hf hsz1' sp1
  clear sp1
  injection e1 with e1a e1b e1c
  subst e1a e1b e1c
  have lt2 : ∀ x ∈ p2, x.block < W.heap.size := by obtain ⟨m, hm⟩ := k2; exact DataW.trod_lt m _ _ _ hm
  have hsz2' : ∀ m ∈ d2.weights Try.prog 22, m ≤ reachBytes := by
    intro m hm
    have := List.all_eq_true.1 hsz0 m (DataW.weights_mem_each (j := 2) (t := 22) (d := d2) rfl rfl m hm)
    simpa using this
  obtain ⟨a2, l2, c2, rfl⟩ := okWide_slice Try.underlying22 (hval 2 22 v2 rfl rfl)
  have sp2 : ∀ a l c, Value.slice a2 l2 c2 = .slice (some a) l c → a.spot = none := fun a l c e => by
    have hv := hval 2 22 _ rfl rfl
    rw [e] at hv
    exact spot_of Try.underlying22 hv
  obtain ⟨xs2, b2, cp2, e2, hlen2, hin2⟩ : ∃ (l : List Int) (a : Option Addr) (cap : Nat), Value.slice a2 l2 c2 = .slice a l.length cap ∧ l.length * 8 ≤ 140737488355328 ∧ RefsAt W W.heap.size a l := by
    obtain ⟨fuel, hf⟩ := h2
    exact open_rfs hf hsz2' sp2
  clear sp2
  injection e2 with e2a e2b e2c
  subst e2a e2b e2c
  have lt3 : ∀ x ∈ p3, x.block < W.heap.size := by obtain ⟨m, hm⟩ := k3; exact DataW.trod_lt m _ _ _ hm
  have lt4 : ∀ x ∈ p4, x.block < W.heap.size := by obtain ⟨m, hm⟩ := k4; exact DataW.trod_lt m _ _ _ hm
  obtain ⟨x3, rfl⟩ := okWide_int Try.underlying25 (hval 3 25 v3 rfl rfl)
  have hx3 : 0 ≤ x3 ∧ x3 < 18446744073709551616 := by
    obtain ⟨fuel, hf⟩ := h3
    obtain ⟨z, e, h⟩ := open_u64 (v := .int .u64 x3) hf
    injection e with _ e
    subst e; exact h
  obtain ⟨x4, rfl⟩ := okWide_int Try.underlying25 (hval 4 25 v4 rfl rfl)
  have hx4 : 0 ≤ x4 ∧ x4 < 18446744073709551616 := by
    obtain ⟨fuel, hf⟩ := h4
    obtain ⟨z, e, h⟩ := open_u64 (v := .int .u64 x4) hf
    injection e with _ e
    subst e; exact h
  clear hA0 hval0
  refine (GraphAsks_any a0 c0 xs0 a1 c1 xs1 a2 c2 xs2 x3 x4 W hin0 hin1 hin2 hx3 hx4 hlen0 hlen1 hlen2).mono fun e W' ⟨he, bel⟩ => ?_
  subst he
  have z0 : DataW.Trod enc Try.prog W' 0 (fun b => decide (b < W.heap.size)) true 22 (.slice a0 xs0.length c0) d0 p0 := Below.trod Try.laidOut (by kernel_rfl) (of_decide_eq_true (by kernel_rfl)) k0 bel lt0
  have z1 : DataW.Trod enc Try.prog W' 0 (fun b => decide (b < W.heap.size)) true 23 (.slice a1 xs1.length c1) d1 p1 := Below.trod Try.laidOut (by kernel_rfl) (of_decide_eq_true (by kernel_rfl)) k1 bel lt1
  have z2 : DataW.Trod enc Try.prog W' 0 (fun b => decide (b < W.heap.size)) true 22 (.slice a2 xs2.length c2) d2 p2 := Below.trod Try.laidOut (by kernel_rfl) (of_decide_eq_true (by kernel_rfl)) k2 bel lt2
  have z3 : DataW.Trod enc Try.prog W' 0 (fun b => decide (b < W.heap.size)) true 25 (.int .u64 x3) d3 p3 := Below.trod Try.laidOut (by kernel_rfl) (of_decide_eq_true (by kernel_rfl)) k3 bel lt3
  have z4 : DataW.Trod enc Try.prog W' 0 (fun b => decide (b < W.heap.size)) true 25 (.int .u64 x4) d4 p4 := Below.trod Try.laidOut (by kernel_rfl) (of_decide_eq_true (by kernel_rfl)) k4 bel lt4
  exact ⟨_, rfl, _, _, _, [], _, [], hW', trodAll_mk1 (shut_bool Try.underlying4 _), ⟨p0, _, z0, RowKit.trodAll_mk4 z1 z2 z3 z4, rfl⟩, rfl, bel.frame _, fun h => by cases h⟩

theorem GraphAsks_holds : Rows.GraphAsksSaid :=
  OpenClaim.holds_of_wide 3 Try.f3 rfl rfl rfl rfl rfl rfl rfl ⟨rfl, rfl, rfl, rfl, rfl⟩ rfl rfl rfl rfl rfl (by kernel_rfl) Try.func3 (by kernel_rfl)
    (of_decide_eq_true (by kernel_rfl)) (by unfold Func.isWrapper; first | (rw [if_pos (by decide +kernel)]; kernel_rfl) | (rw [if_neg (by decide +kernel)]; exact ⟨rfl, rfl⟩))
    (fun os started H enc _ => GraphAsks_lifted os started H enc)
end Go.Proofs.Ytilhheianbbbjaa


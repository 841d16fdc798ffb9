/- The document's reading of how many there are. -/
import Derived.Test.YtmmiiapfefmcjaaA10
import Derived.Test.YtmmiiapfefmcjaaA3
namespace Go.Proofs.Ytmmiiapfefmcjaa
open Go.RowKit

set_option maxRecDepth 100000 in
set_option maxHeartbeats 2000000 in
theorem rglong_ok (xs : List Int) (hby : By xs) (a : Option Addr) (cap at' p v a2 : Nat) (most start why : Int) (w : World) (hr : Sp.rn xs at' 10 0 0 = .ok v a2) (hv : ¬ most < (v : Int)) (hrd : RdB w (Lo w.heap.size) a xs) (hln : xs.length ≤ 281474976710656) :
    Calls Try.prog 118 #[.agg (rdg a xs.length cap at' p 0 0), .int .u64 most, .int .i64 start, .int .i64 why] w fun e w' => e = .returned (.tuple #[.agg (rdg a xs.length cap a2 p 0 0), .int .u64 (v : Int)]) ∧ Below w.heap.size w w' := by
  have HNm : Hid (∀ W, Below w.heap.size w W → Calls Try.prog 117 #[.agg #[.slice a xs.length cap, .int .i64 (at' : Int), .int .i64 (p : Int), .int .i64 0, .int .i64 0]] W fun e w' => e = .returned (.tuple #[.agg #[.slice a xs.length cap, .int .i64 (a2 : Int), .int .i64 (p : Int), .int .i64 0, .int .i64 0], .int .u64 (v : Int)]) ∧ Below W.heap.size W w') := fun W hW => rgnum_ok xs hby a cap at' p v a2 W hr (hrd.same (Same.of_below hW (Nat.le_refl _)) (Lo.le hW.size)) hln
  have HN : Hid (∀ z0 z1 z2 z3 z4, RB w ((w.alloc (.cells #[.slice a xs.length cap, .int .i64 (at' : Int), .int .i64 (p : Int), .int .i64 0, .int .i64 0] 94)).alloc (.cells #[z0, z1, z2, z3, z4] 94)) (.slice a xs.length cap) (.int .i64 (at' : Int)) (.int .i64 (p : Int)) (.int .i64 0) (.int .i64 0)) := fun _ _ _ _ _ => RB.new _ _ _ _ _ _ _ _ _ _ _
  clear hrd hby hr
  unfold rdg
  go_enter Try.func118, Try.ntmps118
  go_wp2_with fail
  refine (HNm.out _ (HN.out _ _ _ _ _).bel).mono ?_
  rintro e w1 ⟨rfl, hb1⟩
  have HR1 : Hid (RB w w1 (.slice a xs.length cap) (.int .i64 (at' : Int)) (.int .i64 (p : Int)) (.int .i64 0) (.int .i64 0)) := (HN.out _ _ _ _ _).call hb1
  clear hb1 HN
  obtain ⟨W1, W2, W3, W4, W5, k1, k2, k3, k4, k5, ⟨c0, y0⟩, ⟨c1, y1⟩, ⟨c2, y2⟩, ⟨c3, y3⟩, ⟨c4, y4⟩, hW5⟩ := chain5 HR1.out.box (.slice a xs.length cap) (.int .i64 (a2 : Int)) (.int .i64 (p : Int)) (.int .i64 0) (.int .i64 0)
  have HR2 : Hid (RB w W5 (.slice a xs.length cap) (.int .i64 (a2 : Int)) (.int .i64 (p : Int)) (.int .i64 0) (.int .i64 0)) := by rw [hW5]; exact HR1.out.put _ _ _ _ _
  clear hW5
  obtain ⟨⟨⟨e0, e1, e2, e3, e4⟩, _⟩, _⟩ := HR2.out.get
  obtain ⟨v0, v1, v2, v3, v4, hres⟩ := HR2.out.res
  obtain ⟨V1, V2, V3, V4, V5, l1, l2, l3, l4, l5, ⟨d0, x0⟩, ⟨d1, x1⟩, ⟨d2, x2⟩, ⟨d3, x3⟩, ⟨d4, x4⟩, hV5⟩ := chain5 hres (.slice a xs.length cap) (.int .i64 (a2 : Int)) (.int .i64 (p : Int)) (.int .i64 0) (.int .i64 0)
  have HF := HR2.out.fin (.slice a xs.length cap) (.int .i64 (a2 : Int)) (.int .i64 (p : Int)) (.int .i64 0) (.int .i64 0)
  rw [← hV5] at HF
  have HF : Hid _ := HF
  clear hV5 hres
  go_wp2_with fail
  obtain ⟨⟨r0, r1, r2, r3, r4⟩, hbb⟩ := HF.out
  refine bodyPost_ret (v := .tuple #[.agg #[.slice a xs.length cap, .int .i64 (a2 : Int), .int .i64 (p : Int), .int .i64 0, .int .i64 0], .int .u64 (v : Int)]) (by simp [results, Try.results118, go_sem, r0, r1, r2, r3, r4] <;> rfl) rfl ⟨rfl, hbb⟩
set_option maxRecDepth 100000 in
set_option maxHeartbeats 2000000 in
theorem rglong_bad (xs : List Int) (hby : By xs) (a : Option Addr) (cap at' p q : Nat) (er : Int) (her : er ≠ 0) (most start why : Int) (w : World) (hr : Sp.rn xs at' 10 0 0 = .bad q er) (hle : at' ≤ xs.length) (hrd : RdB w (Lo w.heap.size) a xs) (hln : xs.length ≤ 281474976710656) :
    Calls Try.prog 118 #[.agg (rdg a xs.length cap at' p 0 0), .int .u64 most, .int .i64 start, .int .i64 why] w fun e w' => ∃ at2 : Nat, e = .returned (.tuple #[.agg (rdg a xs.length cap at2 p q er), .int .u64 0]) ∧ Below w.heap.size w w' := by
  have HNm : Hid (∀ W, Below w.heap.size w W → Calls Try.prog 117 #[.agg #[.slice a xs.length cap, .int .i64 (at' : Int), .int .i64 (p : Int), .int .i64 0, .int .i64 0]] W fun e w' => ∃ at2 : Nat, e = .returned (.tuple #[.agg #[.slice a xs.length cap, .int .i64 (at2 : Int), .int .i64 (p : Int), .int .i64 (q : Int), .int .i64 er], .int .u64 0]) ∧ Below W.heap.size W w') := fun W hW => rgnum_bad xs hby a cap at' p q er W hr hle (hrd.same (Same.of_below hW (Nat.le_refl _)) (Lo.le hW.size)) hln
  have he : (er == 0) = false := by simp [her]
  have HN : Hid (∀ z0 z1 z2 z3 z4, RB w ((w.alloc (.cells #[.slice a xs.length cap, .int .i64 (at' : Int), .int .i64 (p : Int), .int .i64 0, .int .i64 0] 94)).alloc (.cells #[z0, z1, z2, z3, z4] 94)) (.slice a xs.length cap) (.int .i64 (at' : Int)) (.int .i64 (p : Int)) (.int .i64 0) (.int .i64 0)) := fun _ _ _ _ _ => RB.new _ _ _ _ _ _ _ _ _ _ _
  clear hrd hby hr her
  unfold rdg
  go_enter Try.func118, Try.ntmps118
  go_wp2_with fail
  refine (HNm.out _ (HN.out _ _ _ _ _).bel).mono ?_
  rintro e w1 ⟨at2, rfl, hb1⟩
  have HR1 : Hid (RB w w1 (.slice a xs.length cap) (.int .i64 (at' : Int)) (.int .i64 (p : Int)) (.int .i64 0) (.int .i64 0)) := (HN.out _ _ _ _ _).call hb1
  clear hb1 HN
  obtain ⟨W1, W2, W3, W4, W5, k1, k2, k3, k4, k5, ⟨c0, y0⟩, ⟨c1, y1⟩, ⟨c2, y2⟩, ⟨c3, y3⟩, ⟨c4, y4⟩, hW5⟩ := chain5 HR1.out.box (.slice a xs.length cap) (.int .i64 (at2 : Int)) (.int .i64 (p : Int)) (.int .i64 (q : Int)) (.int .i64 er)
  have HR2 : Hid (RB w W5 (.slice a xs.length cap) (.int .i64 (at2 : Int)) (.int .i64 (p : Int)) (.int .i64 (q : Int)) (.int .i64 er)) := by rw [hW5]; exact HR1.out.put _ _ _ _ _
  clear hW5
  obtain ⟨⟨⟨e0, e1, e2, e3, e4⟩, _⟩, _⟩ := HR2.out.get
  obtain ⟨v0, v1, v2, v3, v4, hres⟩ := HR2.out.res
  obtain ⟨V1, V2, V3, V4, V5, l1, l2, l3, l4, l5, ⟨d0, x0⟩, ⟨d1, x1⟩, ⟨d2, x2⟩, ⟨d3, x3⟩, ⟨d4, x4⟩, hV5⟩ := chain5 hres (.slice a xs.length cap) (.int .i64 (at2 : Int)) (.int .i64 (p : Int)) (.int .i64 (q : Int)) (.int .i64 er)
  have HF := HR2.out.fin (.slice a xs.length cap) (.int .i64 (at2 : Int)) (.int .i64 (p : Int)) (.int .i64 (q : Int)) (.int .i64 er)
  rw [← hV5] at HF
  have HF : Hid _ := HF
  clear hV5 hres
  go_wp2_with fail
  obtain ⟨⟨r0, r1, r2, r3, r4⟩, hbb⟩ := HF.out
  refine bodyPost_ret (v := .tuple #[.agg #[.slice a xs.length cap, .int .i64 (at2 : Int), .int .i64 (p : Int), .int .i64 (q : Int), .int .i64 er], .int .u64 0]) (by simp [results, Try.results118, go_sem, r0, r1, r2, r3, r4] <;> rfl) rfl ⟨at2, rfl, hbb⟩
set_option maxRecDepth 100000 in
set_option maxHeartbeats 2000000 in
theorem rglong_pass (xs : List Int) (a : Option Addr) (cap at' p q : Nat) (er : Int) (her : er ≠ 0) (most start why : Int) (w : World) :
    Calls Try.prog 118 #[.agg (rdg a xs.length cap at' p q er), .int .u64 most, .int .i64 start, .int .i64 why] w fun e w' => e = .returned (.tuple #[.agg (rdg a xs.length cap at' p q er), .int .u64 0]) ∧ Below w.heap.size w w' := by
  have HNm : Hid (∀ W, Below w.heap.size w W → Calls Try.prog 117 #[.agg #[.slice a xs.length cap, .int .i64 (at' : Int), .int .i64 (p : Int), .int .i64 (q : Int), .int .i64 er]] W fun e w' => e = .returned (.tuple #[.agg #[.slice a xs.length cap, .int .i64 (at' : Int), .int .i64 (p : Int), .int .i64 (q : Int), .int .i64 er], .int .u64 0]) ∧ Below W.heap.size W w') := fun W _ => rgnum_pass a xs.length cap at' p q er her W
  have he : (er == 0) = false := by simp [her]
  have HN : Hid (∀ z0 z1 z2 z3 z4, RB w ((w.alloc (.cells #[.slice a xs.length cap, .int .i64 (at' : Int), .int .i64 (p : Int), .int .i64 (q : Int), .int .i64 er] 94)).alloc (.cells #[z0, z1, z2, z3, z4] 94)) (.slice a xs.length cap) (.int .i64 (at' : Int)) (.int .i64 (p : Int)) (.int .i64 (q : Int)) (.int .i64 er)) := fun _ _ _ _ _ => RB.new _ _ _ _ _ _ _ _ _ _ _
  clear her
  unfold rdg
  go_enter Try.func118, Try.ntmps118
  go_wp2_with fail
  refine (HNm.out _ (HN.out _ _ _ _ _).bel).mono ?_
  rintro e w1 ⟨rfl, hb1⟩
  have HR1 : Hid (RB w w1 (.slice a xs.length cap) (.int .i64 (at' : Int)) (.int .i64 (p : Int)) (.int .i64 (q : Int)) (.int .i64 er)) := (HN.out _ _ _ _ _).call hb1
  clear hb1 HN
  obtain ⟨W1, W2, W3, W4, W5, k1, k2, k3, k4, k5, ⟨c0, y0⟩, ⟨c1, y1⟩, ⟨c2, y2⟩, ⟨c3, y3⟩, ⟨c4, y4⟩, hW5⟩ := chain5 HR1.out.box (.slice a xs.length cap) (.int .i64 (at' : Int)) (.int .i64 (p : Int)) (.int .i64 (q : Int)) (.int .i64 er)
  have HR2 : Hid (RB w W5 (.slice a xs.length cap) (.int .i64 (at' : Int)) (.int .i64 (p : Int)) (.int .i64 (q : Int)) (.int .i64 er)) := by rw [hW5]; exact HR1.out.put _ _ _ _ _
  clear hW5
  obtain ⟨⟨⟨e0, e1, e2, e3, e4⟩, _⟩, _⟩ := HR2.out.get
  obtain ⟨v0, v1, v2, v3, v4, hres⟩ := HR2.out.res
  obtain ⟨V1, V2, V3, V4, V5, l1, l2, l3, l4, l5, ⟨d0, x0⟩, ⟨d1, x1⟩, ⟨d2, x2⟩, ⟨d3, x3⟩, ⟨d4, x4⟩, hV5⟩ := chain5 hres (.slice a xs.length cap) (.int .i64 (at' : Int)) (.int .i64 (p : Int)) (.int .i64 (q : Int)) (.int .i64 er)
  have HF := HR2.out.fin (.slice a xs.length cap) (.int .i64 (at' : Int)) (.int .i64 (p : Int)) (.int .i64 (q : Int)) (.int .i64 er)
  rw [← hV5] at HF
  have HF : Hid _ := HF
  clear hV5 hres
  go_wp2_with fail
  obtain ⟨⟨r0, r1, r2, r3, r4⟩, hbb⟩ := HF.out
  refine bodyPost_ret (v := .tuple #[.agg #[.slice a xs.length cap, .int .i64 (at' : Int), .int .i64 (p : Int), .int .i64 (q : Int), .int .i64 er], .int .u64 0]) (by simp [results, Try.results118, go_sem, r0, r1, r2, r3, r4] <;> rfl) rfl ⟨rfl, hbb⟩
set_option maxRecDepth 100000 in
set_option maxHeartbeats 2000000 in
theorem rglong_most (xs : List Int) (hby : By xs) (a : Option Addr) (cap at' p v a2 start : Nat) (most why : Int) (w : World) (hr : Sp.rn xs at' 10 0 0 = .ok v a2) (hv : most < (v : Int)) (hrd : RdB w (Lo w.heap.size) a xs) (hln : xs.length ≤ 281474976710656) :
    Calls Try.prog 118 #[.agg (rdg a xs.length cap at' p 0 0), .int .u64 most, .int .i64 (start : Int), .int .i64 why] w fun e w' => e = .returned (.tuple #[.agg (rdg a xs.length cap a2 p start why), .int .u64 (v : Int)]) ∧ Below w.heap.size w w' := by
  have HNm : Hid (∀ W, Below w.heap.size w W → Calls Try.prog 117 #[.agg #[.slice a xs.length cap, .int .i64 (at' : Int), .int .i64 (p : Int), .int .i64 0, .int .i64 0]] W fun e w' => e = .returned (.tuple #[.agg #[.slice a xs.length cap, .int .i64 (a2 : Int), .int .i64 (p : Int), .int .i64 0, .int .i64 0], .int .u64 (v : Int)]) ∧ Below W.heap.size W w') := fun W hW => rgnum_ok xs hby a cap at' p v a2 W hr (hrd.same (Same.of_below hW (Nat.le_refl _)) (Lo.le hW.size)) hln
  have HBd : Hid (∀ W, Calls Try.prog 91 #[.agg #[.slice a xs.length cap, .int .i64 (a2 : Int), .int .i64 (p : Int), .int .i64 0, .int .i64 0], .int .i64 (start : Int), .int .i64 why] W fun e w' => e = .returned (.agg #[.slice a xs.length cap, .int .i64 (a2 : Int), .int .i64 (p : Int), .int .i64 (start : Int), .int .i64 why]) ∧ Below W.heap.size W w') := fun W => rgbad_ok a2 p a xs.length cap W start why
  have HN : Hid (∀ z0 z1 z2 z3 z4, RB w ((w.alloc (.cells #[.slice a xs.length cap, .int .i64 (at' : Int), .int .i64 (p : Int), .int .i64 0, .int .i64 0] 94)).alloc (.cells #[z0, z1, z2, z3, z4] 94)) (.slice a xs.length cap) (.int .i64 (at' : Int)) (.int .i64 (p : Int)) (.int .i64 0) (.int .i64 0)) := fun _ _ _ _ _ => RB.new _ _ _ _ _ _ _ _ _ _ _
  clear hrd hby hr
  unfold rdg
  go_enter Try.func118, Try.ntmps118
  go_wp2_with fail
  refine (HNm.out _ (HN.out _ _ _ _ _).bel).mono ?_
  rintro e w1 ⟨rfl, hb1⟩
  have HR1 : Hid (RB w w1 (.slice a xs.length cap) (.int .i64 (at' : Int)) (.int .i64 (p : Int)) (.int .i64 0) (.int .i64 0)) := (HN.out _ _ _ _ _).call hb1
  clear hb1 HN
  obtain ⟨W1, W2, W3, W4, W5, k1, k2, k3, k4, k5, ⟨c0, y0⟩, ⟨c1, y1⟩, ⟨c2, y2⟩, ⟨c3, y3⟩, ⟨c4, y4⟩, hW5⟩ := chain5 HR1.out.box (.slice a xs.length cap) (.int .i64 (a2 : Int)) (.int .i64 (p : Int)) (.int .i64 0) (.int .i64 0)
  have HR2 : Hid (RB w W5 (.slice a xs.length cap) (.int .i64 (a2 : Int)) (.int .i64 (p : Int)) (.int .i64 0) (.int .i64 0)) := by rw [hW5]; exact HR1.out.put _ _ _ _ _
  clear hW5
  obtain ⟨⟨⟨e0, e1, e2, e3, e4⟩, _⟩, _⟩ := HR2.out.get
  go_wp2_with fail
  refine (HBd.out _).mono ?_
  rintro e w2 ⟨rfl, hb2⟩
  have HR3 : Hid (RB w w2 (.slice a xs.length cap) (.int .i64 (a2 : Int)) (.int .i64 (p : Int)) (.int .i64 0) (.int .i64 0)) := HR2.out.call hb2
  clear hb2 e0 e1 e2 e3 e4 c0 c1 c2 c3 c4 y0 y1 y2 y3 y4 k1 k2 k3 k4 k5
  obtain ⟨X1, X2, X3, X4, X5, k1, k2, k3, k4, k5, ⟨c0, y0⟩, ⟨c1, y1⟩, ⟨c2, y2⟩, ⟨c3, y3⟩, ⟨c4, y4⟩, hX5⟩ := chain5 HR3.out.box (.slice a xs.length cap) (.int .i64 (a2 : Int)) (.int .i64 (p : Int)) (.int .i64 (start : Int)) (.int .i64 why)
  have HR4 : Hid (RB w X5 (.slice a xs.length cap) (.int .i64 (a2 : Int)) (.int .i64 (p : Int)) (.int .i64 (start : Int)) (.int .i64 why)) := by rw [hX5]; exact HR3.out.put _ _ _ _ _
  clear hX5
  obtain ⟨⟨⟨e0, e1, e2, e3, e4⟩, _⟩, _⟩ := HR4.out.get
  obtain ⟨v0, v1, v2, v3, v4, hres⟩ := HR4.out.res
  obtain ⟨V1, V2, V3, V4, V5, l1, l2, l3, l4, l5, ⟨d0, x0⟩, ⟨d1, x1⟩, ⟨d2, x2⟩, ⟨d3, x3⟩, ⟨d4, x4⟩, hV5⟩ := chain5 hres (.slice a xs.length cap) (.int .i64 (a2 : Int)) (.int .i64 (p : Int)) (.int .i64 (start : Int)) (.int .i64 why)
  have HF := HR4.out.fin (.slice a xs.length cap) (.int .i64 (a2 : Int)) (.int .i64 (p : Int)) (.int .i64 (start : Int)) (.int .i64 why)
  rw [← hV5] at HF
  have HF : Hid _ := HF
  clear hV5 hres
  go_wp2_with fail
  obtain ⟨⟨r0, r1, r2, r3, r4⟩, hbb⟩ := HF.out
  refine bodyPost_ret (v := .tuple #[.agg #[.slice a xs.length cap, .int .i64 (a2 : Int), .int .i64 (p : Int), .int .i64 (start : Int), .int .i64 why], .int .u64 (v : Int)]) (by simp [results, Try.results118, go_sem, r0, r1, r2, r3, r4] <;> rfl) rfl ⟨rfl, hbb⟩
end Go.Proofs.Ytmmiiapfefmcjaa

/- The document's reading of no bytes, at the end of the room or of none. -/
namespace Go.Proofs.Ytmmiiapfefmcjaa
open Go.RowKit

set_option maxRecDepth 100000 in
set_option maxHeartbeats 1000000 in
theorem rgsome_none (p : Nat) (w : World) :
    Calls Try.prog 119 #[.agg (rdg none 0 0 0 p 0 0), .int .u64 0] w fun e w' => e = .returned (.tuple #[.agg (rdg none 0 0 0 p 0 0), .string ByteArray.empty]) ∧ Below w.heap.size w w' := by
  have hw0 : IntKind.i64.wrap (0 : Int) = 0 := by decide
  have q0 : (0 : Int) ≤ (0 : Int) := by decide
  have q1 : (0 : Int) ≤ ((0 : Nat) : Int) := by decide
  have hcv : ∀ W : World, (convert 23 9 (.slice none 0 0)).run Try.prog W = .ok (.string ByteArray.empty) W := fun W => conv_rd [] none 0 (fun _ => True) W (fun j u hu => by simp at hu)
  have HX : Hid (∀ W : World, W.heap[w.heap.size]? = some (.cells #[.slice none 0 0, .int .i64 0, .int .i64 (p : Int), .int .i64 0, .int .i64 0] 94 (0, 0)) → (W.cell? ⟨w.heap.size, 0, none⟩ = some (.slice none 0 0) ∧ W.cell? ⟨w.heap.size, 1, none⟩ = some (.int .i64 0) ∧ W.cell? ⟨w.heap.size, 2, none⟩ = some (.int .i64 (p : Int)) ∧ W.cell? ⟨w.heap.size, 3, none⟩ = some (.int .i64 0) ∧ W.cell? ⟨w.heap.size, 4, none⟩ = some (.int .i64 0))) := fun W h => five h
  have HW : Hid (∀ B : Obj, ((w.alloc (.cells #[.slice none 0 0, .int .i64 0, .int .i64 (p : Int), .int .i64 0, .int .i64 0] 94)).alloc B).heap[w.heap.size]? = some (.cells #[.slice none 0 0, .int .i64 0, .int .i64 (p : Int), .int .i64 0, .int .i64 0] 94 (0, 0))) := fun B => by rw [Below.heap_alloc _ _ _ (by simp)]; exact heap_alloc_new w _
  have hne : w.heap.size ≠ w.heap.size + 1 := by omega
  unfold rdg
  go_enter Try.func119, Try.ntmps119
  go_wp2_with fail
  go_region_held3 (fun W => W.cell? ⟨w.heap.size, 0, none⟩ = some (.slice none 0 0) ∧ W.cell? ⟨w.heap.size, 1, none⟩ = some (.int .i64 0) ∧ W.cell? ⟨w.heap.size, 2, none⟩ = some (.int .i64 (p : Int)) ∧ W.cell? ⟨w.heap.size, 3, none⟩ = some (.int .i64 0) ∧ W.cell? ⟨w.heap.size, 4, none⟩ = some (.int .i64 0))
    (first | exact HX.out _ (HW.out _) | exact HX.out _ ((set5 _ _ _ hne _ _ _ _ _).trans (HW.out _)))
    (fail)
  go_wp2_with fail
  refine bodyPost_ret (v := .tuple #[.agg #[.slice none 0 0, .int .i64 0, .int .i64 (p : Int), .int .i64 0, .int .i64 0], .string ByteArray.empty]) (by simp [results, Try.results119, go_sem] <;> rfl) rfl ⟨rfl, ?_⟩
  exact (((Below.refl _ _).alloc (Nat.le_refl _) _).alloc (by simp) _).drew

set_option maxRecDepth 100000 in
set_option maxHeartbeats 1000000 in
theorem rgsome_edge (g o n p : Nat) (hln : n ≤ 281474976710656) (w : World) :
    Calls Try.prog 119 #[.agg (rdg (some ⟨g, o, none⟩) n n n p 0 0), .int .u64 0] w fun e w' => e = .returned (.tuple #[.agg (rdg (some ⟨g, o, none⟩) n n n p 0 0), .string ByteArray.empty]) ∧ Below w.heap.size w w' := by
  have hw0 : IntKind.i64.wrap (0 : Int) = 0 := by decide
  have hcv : ∀ (W : World) (q : Addr) (c : Nat), (convert 23 9 (.slice (some q) 0 c)).run Try.prog W = .ok (.string ByteArray.empty) W := fun W q c => conv_rd [] (some q) c (fun _ => True) W (fun j u hu => by simp at hu)
  have q0 : (0 : Int) ≤ (n : Int) := Int.natCast_nonneg _
  have q1 : (n : Int) ≤ (n : Int) := Int.le_refl _
  have h6 : IntKind.i64.wrap (n : Int) = (n : Int) := by rw [IntKind.wrap_i64]; omega
  have HX : Hid (∀ W : World, W.heap[w.heap.size]? = some (.cells #[.slice (some ⟨g, o, none⟩) n n, .int .i64 (n : Int), .int .i64 (p : Int), .int .i64 0, .int .i64 0] 94 (0, 0)) → (W.cell? ⟨w.heap.size, 0, none⟩ = some (.slice (some ⟨g, o, none⟩) n n) ∧ W.cell? ⟨w.heap.size, 1, none⟩ = some (.int .i64 (n : Int)) ∧ W.cell? ⟨w.heap.size, 2, none⟩ = some (.int .i64 (p : Int)) ∧ W.cell? ⟨w.heap.size, 3, none⟩ = some (.int .i64 0) ∧ W.cell? ⟨w.heap.size, 4, none⟩ = some (.int .i64 0))) := fun W h => five h
  have HW : Hid (∀ B : Obj, ((w.alloc (.cells #[.slice (some ⟨g, o, none⟩) n n, .int .i64 (n : Int), .int .i64 (p : Int), .int .i64 0, .int .i64 0] 94)).alloc B).heap[w.heap.size]? = some (.cells #[.slice (some ⟨g, o, none⟩) n n, .int .i64 (n : Int), .int .i64 (p : Int), .int .i64 0, .int .i64 0] 94 (0, 0))) := fun B => by rw [Below.heap_alloc _ _ _ (by simp)]; exact heap_alloc_new w _
  have hne : w.heap.size ≠ w.heap.size + 1 := by omega
  unfold rdg
  go_enter Try.func119, Try.ntmps119
  go_wp2_with fail
  go_region_held3 (fun W => W.cell? ⟨w.heap.size, 0, none⟩ = some (.slice (some ⟨g, o, none⟩) n n) ∧ W.cell? ⟨w.heap.size, 1, none⟩ = some (.int .i64 (n : Int)) ∧ W.cell? ⟨w.heap.size, 2, none⟩ = some (.int .i64 (p : Int)) ∧ W.cell? ⟨w.heap.size, 3, none⟩ = some (.int .i64 0) ∧ W.cell? ⟨w.heap.size, 4, none⟩ = some (.int .i64 0))
    (first | exact HX.out _ (HW.out _) | exact HX.out _ ((set5 _ _ _ hne _ _ _ _ _).trans (HW.out _)))
    (fail)
  go_wp2_with fail
  refine bodyPost_ret (v := .tuple #[.agg #[.slice (some ⟨g, o, none⟩) n n, .int .i64 (n : Int), .int .i64 (p : Int), .int .i64 0, .int .i64 0], .string ByteArray.empty]) (by simp [results, Try.results119, go_sem] <;> rfl) rfl ⟨rfl, ?_⟩
  exact (((Below.refl _ _).alloc (Nat.le_refl _) _).alloc (by simp) _).drew

/-- so many bytes, all of which are there -/
theorem rgsome_any (xs : List Int) (a : Option Addr) (cap at' p m : Nat) (w : World) (hm : at' + m ≤ xs.length) (hcp : xs.length ≤ cap) (hnl : a = none → cap = 0) (hsp : ∀ q, a = some q → q.spot = none) (hrd : RdB w (Lo w.heap.size) a xs) (hln : xs.length ≤ 281474976710656) :
    Calls Try.prog 119 #[.agg (rdg a xs.length cap at' p 0 0), .int .u64 (m : Int)] w fun e w' => e = .returned (.tuple #[.agg (rdg a xs.length cap (at' + m) p 0 0), .string (Sp.txt ((xs.drop at').take m))]) ∧ Below w.heap.size w w' := by
  cases a with
  | none =>
    have hc := hnl rfl
    subst hc
    have h0 : xs = [] := List.length_eq_zero_iff.1 (by omega)
    subst h0
    simp only [List.length_nil] at hm
    obtain rfl : at' = 0 := by omega
    obtain rfl : m = 0 := by omega
    exact rgsome_none p w
  | some q =>
    obtain ⟨g, o, s⟩ := q
    have hs := hsp _ rfl
    simp only at hs
    subst hs
    by_cases hca : cap = at'
    · have h1 : xs.length = at' := by omega
      obtain rfl : m = 0 := by omega
      subst hca
      have := rgsome_edge g o cap p (by omega) w
      rw [h1]
      rw [Nat.add_zero, List.take_zero]
      exact this
    · exact rgsome_ok xs g o cap at' p m w hm hcp hca hrd hln
end Go.Proofs.Ytmmiiapfefmcjaa

/- Plain mathematics: an error of reading is never none. -/
namespace Go.Proofs.Ytmmiiapfefmcjaa

theorem rn_er {xs : List Int} {s : Nat} : ∀ (k i n : Nat) (q : Nat) (e : Int), Sp.rn xs s k i n = .bad q e → e ≠ 0
  | 0, i, n, q, e, h => by rw [Sp.rn] at h; injection h with _ h; omega
  | k + 1, i, n, q, e, h => by
    rw [Sp.rn] at h
    cases hx : xs[s + i]? with
    | none => rw [hx] at h; injection h with _ h; omega
    | some c =>
      rw [hx] at h
      simp only at h
      split at h
      · injection h with _ h; omega
      · split at h
        · simp at h
        · exact rn_er k _ _ q e h
theorem cnt_er {xs : List Int} {s start most q : Nat} {e : Int} (h : Sp.cnt xs s start most = .bad q e) : e ≠ 0 := by
  unfold Sp.cnt at h
  cases hn : Sp.rn xs s 10 0 0 with
  | bad q1 e1 => rw [hn] at h; injection h with _ h; subst h; exact rn_er _ _ _ _ _ hn
  | ok n a =>
    rw [hn] at h
    simp only at h
    split at h
    · injection h with _ h; omega
    · simp at h
theorem tk_er {xs : List Int} {s n q : Nat} {e : Int} (h : Sp.tk xs s n = .bad q e) : e ≠ 0 := by
  unfold Sp.tk at h
  split at h
  · simp at h
  · injection h with _ h; omega
theorem rdN_er {xs : List Int} {s start q : Nat} {e : Int} (h : Sp.rdN xs s start = .bad q e) : e ≠ 0 := by
  unfold Sp.rdN at h
  cases hn : Sp.rn xs s 10 0 0 with
  | bad q1 e1 => rw [hn] at h; injection h with _ h; subst h; exact rn_er _ _ _ _ _ hn
  | ok n a =>
    rw [hn] at h
    simp only at h
    split at h
    · injection h with _ h; omega
    · cases ht : Sp.tk xs a n with
      | bad q1 e1 => rw [ht] at h; injection h with _ h; subst h; exact tk_er ht
      | ok l a2 =>
        rw [ht] at h
        simp only at h
        split at h
        · simp at h
        · injection h with _ h; omega
def NzS (step : Nat → Nat → Rs (Tm × Nat)) : Prop := ∀ a p q e, step a p = .bad q e → e ≠ 0
theorem rdL_er {step : Nat → Nat → Rs (Tm × Nat)} (hs : NzS step) : ∀ (n at' p q : Nat) (e : Int), Sp.rdL step n at' p = .bad q e → e ≠ 0
  | 0, at', p, q, e, h => by rw [Sp.rdL] at h; simp at h
  | n + 1, at', p, q, e, h => by
    rw [Sp.rdL] at h
    cases hv : step at' p with
    | bad q1 e1 => rw [hv] at h; injection h with _ h; subst h; exact hs _ _ _ _ hv
    | ok tp a1 =>
      obtain ⟨t, p1⟩ := tp
      rw [hv] at h
      simp only at h
      cases hq : Sp.rdL step n a1 p1 with
      | bad q1 e1 => rw [hq] at h; injection h with _ h; subst h; exact rdL_er hs n _ _ _ _ hq
      | ok lp a2 => rw [hq] at h; simp at h
theorem rdF_er {xs : List Int} {start : Nat} {step : Nat → Nat → Rs (Tm × Nat)} (hs : NzS step) : ∀ (n : Nat) (ahead : List Int) (at' p q : Nat) (e : Int), Sp.rdF xs start step n ahead at' p = .bad q e → e ≠ 0
  | 0, ahead, at', p, q, e, h => by rw [Sp.rdF] at h; simp at h
  | n + 1, ahead, at', p, q, e, h => by
    rw [Sp.rdF] at h
    cases hN : Sp.rdN xs at' start with
    | bad q1 e1 => rw [hN] at h; injection h with _ h; subst h; exact rdN_er hN
    | ok l0 a0 =>
      rw [hN] at h
      simp only at h
      split at h
      · injection h with _ h; omega
      · cases hv : step a0 p with
        | bad q1 e1 => rw [hv] at h; injection h with _ h; subst h; exact hs _ _ _ _ hv
        | ok tp a1 =>
          obtain ⟨t, p1⟩ := tp
          rw [hv] at h
          simp only at h
          cases hq : Sp.rdF xs start step n l0 a1 p1 with
          | bad q1 e1 => rw [hq] at h; injection h with _ h; subst h; exact rdF_er hs n _ _ _ _ _ hq
          | ok lp a2 => rw [hq] at h; simp at h
theorem rdD_er {xs : List Int} {start at' p q : Nat} {e : Int} {step : Nat → Nat → Rs (Tm × Nat)} (hs : NzS step) (h : Sp.rdD xs start step at' p = .bad q e) : e ≠ 0 := by
  unfold Sp.rdD at h
  cases hc : Sp.cnt xs at' start 4096 with
  | bad q1 e1 => rw [hc] at h; injection h with _ h; subst h; exact cnt_er hc
  | ok n a => rw [hc] at h; exact rdF_er hs _ _ _ _ _ _ h
theorem rdV_nz (xs : List Int) : ∀ f, NzS (Sp.rdV xs f)
  | 0 => fun a p q e h => by
    rw [Sp.rdV] at h
    split at h <;> (injection h with _ h; omega)
  | f + 1 => fun a p q e h => by
    have hs := rdV_nz xs f
    rw [Sp.rdV] at h
    cases hx : xs[a]? with
    | none => rw [hx] at h; injection h with _ h; omega
    | some k =>
      rw [hx] at h
      simp only at h
      split at h
      · injection h with _ h; omega
      unfold Sp.rdB at h
      split at h
      · simp at h
      split at h
      · cases hc : xs[a + 1]? with
        | none => rw [hc] at h; injection h with _ h; omega
        | some c =>
          rw [hc] at h
          simp only at h
          split at h
          · injection h with _ h; omega
          · simp at h
      split at h
      · cases hn : Sp.rn xs (a + 1) 10 0 0 with
        | bad q1 e1 => rw [hn] at h; injection h with _ h; subst h; exact rn_er _ _ _ _ _ hn
        | ok n a' => rw [hn] at h; simp at h
      split at h
      · cases hn : Sp.tk xs (a + 1) 8 with
        | bad q1 e1 => rw [hn] at h; injection h with _ h; subst h; exact tk_er hn
        | ok n a' => rw [hn] at h; simp at h
      split at h
      · cases hn : Sp.cnt xs (a + 1) a 65536 with
        | bad q1 e1 => rw [hn] at h; injection h with _ h; subst h; exact cnt_er hn
        | ok n a' =>
          rw [hn] at h
          simp only at h
          cases ht : Sp.tk xs a' n with
          | bad q1 e1 => rw [ht] at h; injection h with _ h; subst h; exact tk_er ht
          | ok l a2 => rw [ht] at h; simp at h
      split at h
      · cases hn : Sp.rn xs (a + 1) 10 0 0 with
        | bad q1 e1 => rw [hn] at h; injection h with _ h; subst h; exact rn_er _ _ _ _ _ hn
        | ok n a' => rw [hn] at h; simp at h
      split at h
      · cases hn : Sp.cnt xs (a + 1) a 4096 with
        | bad q1 e1 => rw [hn] at h; injection h with _ h; subst h; exact cnt_er hn
        | ok n a' =>
          rw [hn] at h
          simp only at h
          cases hL : Sp.rdL (Sp.rdV xs f) n a' (p + 1) with
          | bad q1 e1 => rw [hL] at h; injection h with _ h; subst h; exact rdL_er hs _ _ _ _ _ hL
          | ok lp a3 => rw [hL] at h; simp at h
      split at h
      · cases hL : Sp.rdD xs a (Sp.rdV xs f) (a + 1) (p + 1) with
        | bad q1 e1 => rw [hL] at h; injection h with _ h; subst h; exact rdD_er hs hL
        | ok lp a3 => rw [hL] at h; simp at h
      split at h
      · cases hN : Sp.rdN xs (a + 1) a with
        | bad q1 e1 => rw [hN] at h; injection h with _ h; subst h; exact rdN_er hN
        | ok c a' =>
          rw [hN] at h
          simp only at h
          cases hv : Sp.rn xs a' 10 0 0 with
          | bad q1 e1 => rw [hv] at h; injection h with _ h; subst h; exact rn_er _ _ _ _ _ hv
          | ok v a4 =>
            rw [hv] at h
            simp only at h
            split at h
            · injection h with _ h; omega
            · cases hL : Sp.rdD xs a (Sp.rdV xs f) a4 (p + 1) with
              | bad q1 e1 => rw [hL] at h; injection h with _ h; subst h; exact rdD_er hs hL
              | ok lp a3 => rw [hL] at h; simp at h
      · injection h with _ h; omega
theorem rdV_er {xs : List Int} {a p q : Nat} {e : Int} (f : Nat) (h : Sp.rdV xs f a p = .bad q e) : e ≠ 0 := rdV_nz xs f _ _ _ _ h
end Go.Proofs.Ytmmiiapfefmcjaa


/- The document's reading of a value: its three boxes, and what is told ahead of its body. -/
import Derived.Test.YtmmiiapfefmcjaaA12
namespace Go.Proofs.Ytmmiiapfefmcjaa
open Go.RowKit

theorem row11 {w1 : World} {g : Nat} {z0 z1 z2 z3 z4 z5 z6 z7 z8 z9 z10 : Value} {t : TypeId} (h : w1.heap[g]? = some (.cells #[z0, z1, z2, z3, z4, z5, z6, z7, z8, z9, z10] t (0, 0))) (t0 t1 t2 t3 t4 t5 t6 t7 t8 t9 t10 : Value) : (setN w1 g 0 [t0, t1, t2, t3, t4, t5, t6, t7, t8, t9, t10]).heap[g]? = some (.cells #[t0, t1, t2, t3, t4, t5, t6, t7, t8, t9, t10] t (0, 0)) := by
  have h1 := heap_setCell_same _ g 0 _ _ t0 h
  have h2 := heap_setCell_same _ g 1 _ _ t1 h1
  have h3 := heap_setCell_same _ g 2 _ _ t2 h2
  have h4 := heap_setCell_same _ g 3 _ _ t3 h3
  have h5 := heap_setCell_same _ g 4 _ _ t4 h4
  have h6 := heap_setCell_same _ g 5 _ _ t5 h5
  have h7 := heap_setCell_same _ g 6 _ _ t6 h6
  have h8 := heap_setCell_same _ g 7 _ _ t7 h7
  have h9 := heap_setCell_same _ g 8 _ _ t8 h8
  have h10 := heap_setCell_same _ g 9 _ _ t9 h9
  have h11 := heap_setCell_same _ g 10 _ _ t10 h10
  simpa [setN] using h11
/-- eleven cells written one by one, the worlds between them by names of their own -/
theorem chain11 {w1 : World} {g : Nat} {z0 z1 z2 z3 z4 z5 z6 z7 z8 z9 z10 : Value} {t : TypeId} (h : w1.heap[g]? = some (.cells #[z0, z1, z2, z3, z4, z5, z6, z7, z8, z9, z10] t (0, 0))) (t0 t1 t2 t3 t4 t5 t6 t7 t8 t9 t10 : Value) : ∃ W1 W2 W3 W4 W5 W6 W7 W8 W9 W10 W11 : World, w1.setCell ⟨g, 0, none⟩ t0 = W1 ∧ W1.setCell ⟨g, 1, none⟩ t1 = W2 ∧ W2.setCell ⟨g, 2, none⟩ t2 = W3 ∧ W3.setCell ⟨g, 3, none⟩ t3 = W4 ∧ W4.setCell ⟨g, 4, none⟩ t4 = W5 ∧ W5.setCell ⟨g, 5, none⟩ t5 = W6 ∧ W6.setCell ⟨g, 6, none⟩ t6 = W7 ∧ W7.setCell ⟨g, 7, none⟩ t7 = W8 ∧ W8.setCell ⟨g, 8, none⟩ t8 = W9 ∧ W9.setCell ⟨g, 9, none⟩ t9 = W10 ∧ W10.setCell ⟨g, 10, none⟩ t10 = W11 ∧ (w1.cell? ⟨g, 0, none⟩ = some z0 ∧ w1.frozen? ⟨g, 0, none⟩ = false) ∧ (W1.cell? ⟨g, 1, none⟩ = some z1 ∧ W1.frozen? ⟨g, 1, none⟩ = false) ∧ (W2.cell? ⟨g, 2, none⟩ = some z2 ∧ W2.frozen? ⟨g, 2, none⟩ = false) ∧ (W3.cell? ⟨g, 3, none⟩ = some z3 ∧ W3.frozen? ⟨g, 3, none⟩ = false) ∧ (W4.cell? ⟨g, 4, none⟩ = some z4 ∧ W4.frozen? ⟨g, 4, none⟩ = false) ∧ (W5.cell? ⟨g, 5, none⟩ = some z5 ∧ W5.frozen? ⟨g, 5, none⟩ = false) ∧ (W6.cell? ⟨g, 6, none⟩ = some z6 ∧ W6.frozen? ⟨g, 6, none⟩ = false) ∧ (W7.cell? ⟨g, 7, none⟩ = some z7 ∧ W7.frozen? ⟨g, 7, none⟩ = false) ∧ (W8.cell? ⟨g, 8, none⟩ = some z8 ∧ W8.frozen? ⟨g, 8, none⟩ = false) ∧ (W9.cell? ⟨g, 9, none⟩ = some z9 ∧ W9.frozen? ⟨g, 9, none⟩ = false) ∧ (W10.cell? ⟨g, 10, none⟩ = some z10 ∧ W10.frozen? ⟨g, 10, none⟩ = false) ∧ W11 = setN w1 g 0 [t0, t1, t2, t3, t4, t5, t6, t7, t8, t9, t10] := by
  have h1 := heap_setCell_same _ g 0 _ _ t0 h
  have h2 := heap_setCell_same _ g 1 _ _ t1 h1
  have h3 := heap_setCell_same _ g 2 _ _ t2 h2
  have h4 := heap_setCell_same _ g 3 _ _ t3 h3
  have h5 := heap_setCell_same _ g 4 _ _ t4 h4
  have h6 := heap_setCell_same _ g 5 _ _ t5 h5
  have h7 := heap_setCell_same _ g 6 _ _ t6 h6
  have h8 := heap_setCell_same _ g 7 _ _ t7 h7
  have h9 := heap_setCell_same _ g 8 _ _ t8 h8
  have h10 := heap_setCell_same _ g 9 _ _ t9 h9
  refine ⟨_, _, _, _, _, _, _, _, _, _, _, rfl, rfl, rfl, rfl, rfl, rfl, rfl, rfl, rfl, rfl, rfl, ⟨?_, frozen_of_row _ _ 0 _ _ h⟩, ⟨?_, frozen_of_row _ _ 1 _ _ h1⟩, ⟨?_, frozen_of_row _ _ 2 _ _ h2⟩, ⟨?_, frozen_of_row _ _ 3 _ _ h3⟩, ⟨?_, frozen_of_row _ _ 4 _ _ h4⟩, ⟨?_, frozen_of_row _ _ 5 _ _ h5⟩, ⟨?_, frozen_of_row _ _ 6 _ _ h6⟩, ⟨?_, frozen_of_row _ _ 7 _ _ h7⟩, ⟨?_, frozen_of_row _ _ 8 _ _ h8⟩, ⟨?_, frozen_of_row _ _ 9 _ _ h9⟩, ⟨?_, frozen_of_row _ _ 10 _ _ h10⟩, rfl⟩
  · rw [cell_of_row _ _ 0 _ _ _ h]; rfl
  · rw [cell_of_row _ _ 1 _ _ _ h1]; simp
  · rw [cell_of_row _ _ 2 _ _ _ h2]; simp
  · rw [cell_of_row _ _ 3 _ _ _ h3]; simp
  · rw [cell_of_row _ _ 4 _ _ _ h4]; simp
  · rw [cell_of_row _ _ 5 _ _ _ h5]; simp
  · rw [cell_of_row _ _ 6 _ _ _ h6]; simp
  · rw [cell_of_row _ _ 7 _ _ _ h7]; simp
  · rw [cell_of_row _ _ 8 _ _ _ h8]; simp
  · rw [cell_of_row _ _ 9 _ _ _ h9]; simp
  · rw [cell_of_row _ _ 10 _ _ _ h10]; simp
theorem own11 {w : World} {g : Nat} {t0 t1 t2 t3 t4 t5 t6 t7 t8 t9 t10 : Value} {t : TypeId} (h : w.heap[g]? = some (.cells #[t0, t1, t2, t3, t4, t5, t6, t7, t8, t9, t10] t (0, 0))) : w.cell? ⟨g, 0, none⟩ = some t0 ∧ w.cell? ⟨g, 1, none⟩ = some t1 ∧ w.cell? ⟨g, 2, none⟩ = some t2 ∧ w.cell? ⟨g, 3, none⟩ = some t3 ∧ w.cell? ⟨g, 4, none⟩ = some t4 ∧ w.cell? ⟨g, 5, none⟩ = some t5 ∧ w.cell? ⟨g, 6, none⟩ = some t6 ∧ w.cell? ⟨g, 7, none⟩ = some t7 ∧ w.cell? ⟨g, 8, none⟩ = some t8 ∧ w.cell? ⟨g, 9, none⟩ = some t9 ∧ w.cell? ⟨g, 10, none⟩ = some t10 := by
  have hh := fun j => cell_of_row w g j _ _ _ h
  exact ⟨hh 0, hh 1, hh 2, hh 3, hh 4, hh 5, hh 6, hh 7, hh 8, hh 9, hh 10⟩
/-- the reading that a method was handed, the reading that it tells, the term that it tells: each in a box of its own -/
structure R3 (w wr : World) (X Y Z : Array Value) : Prop where
  bel : Below w.heap.size w wr
  box : wr.heap[w.heap.size]? = some (.cells X 94 (0, 0))
  res : wr.heap[w.heap.size + 1]? = some (.cells Y 94 (0, 0))
  ter : wr.heap[w.heap.size + 1 + 1]? = some (.cells Z 29 (0, 0))
theorem lt_row {w : World} {g : Nat} {o : Obj} (h : w.heap[g]? = some o) : g < w.heap.size := by
  by_cases hg : g < w.heap.size
  · exact hg
  · rw [Array.getElem?_eq_none (by omega)] at h; exact absurd h (by simp)
theorem R3.call {w wr w1 : World} {X Y Z : Array Value} (h : R3 w wr X Y Z) (hb : Below wr.heap.size wr w1) : R3 w w1 X Y Z :=
  ⟨below_to h.bel hb, by rw [hb.block _ (lt_row h.box)]; exact h.box, by rw [hb.block _ (lt_row h.res)]; exact h.res, by rw [hb.block _ (lt_row h.ter)]; exact h.ter⟩
theorem R3.put {w wr : World} {x0 x1 x2 x3 x4 : Value} {Y Z : Array Value} (h : R3 w wr #[x0, x1, x2, x3, x4] Y Z) (a b c d e : Value) : R3 w (setN wr w.heap.size 0 [a, b, c, d, e]) #[a, b, c, d, e] Y Z :=
  ⟨setN_below (Nat.le_refl _) _ _ _ _ h.bel, row5 h.box _ _ _ _ _, by rw [setN_other (by omega)]; exact h.res, by rw [setN_other (by omega)]; exact h.ter⟩
theorem R3.putR {w wr : World} {x0 x1 x2 x3 x4 : Value} {X Z : Array Value} (h : R3 w wr X #[x0, x1, x2, x3, x4] Z) (a b c d e : Value) : R3 w (setN wr (w.heap.size + 1) 0 [a, b, c, d, e]) X #[a, b, c, d, e] Z :=
  ⟨setN_below (by omega) _ _ _ _ h.bel, by rw [setN_other (by omega)]; exact h.box, row5 h.res _ _ _ _ _, by rw [setN_other (by omega)]; exact h.ter⟩
theorem R3.putT {w wr : World} {z0 z1 z2 z3 z4 z5 z6 z7 z8 z9 z10 : Value} {X Y : Array Value} (h : R3 w wr X Y #[z0, z1, z2, z3, z4, z5, z6, z7, z8, z9, z10]) (t0 t1 t2 t3 t4 t5 t6 t7 t8 t9 t10 : Value) : R3 w (setN wr (w.heap.size + 1 + 1) 0 [t0, t1, t2, t3, t4, t5, t6, t7, t8, t9, t10]) X Y #[t0, t1, t2, t3, t4, t5, t6, t7, t8, t9, t10] :=
  ⟨setN_below (by omega) _ _ _ _ h.bel, by rw [setN_other (by omega)]; exact h.box, by rw [setN_other (by omega)]; exact h.res, row11 h.ter _ _ _ _ _ _ _ _ _ _ _⟩
theorem R3.new (w : World) (X Y Z : Array Value) : R3 w (((w.alloc (.cells X 94)).alloc (.cells Y 94)).alloc (.cells Z 29)) X Y Z := by
  have h3 : Below w.heap.size w (((w.alloc (.cells X 94)).alloc (.cells Y 94)).alloc (.cells Z 29)) := (((Below.refl _ _).alloc (Nat.le_refl _) _).alloc (by simp) _).alloc (by simp; omega) _
  obtain ⟨h1, h2, _⟩ := boxes (Below.refl _ ((w.alloc (.cells X 94)).alloc (.cells Y 94)))
  refine ⟨h3, ?_, ?_, ?_⟩
  · rw [Below.heap_alloc _ _ _ (lt_row h1)]; exact h1
  · rw [Below.heap_alloc _ _ _ (lt_row h2)]; exact h2
  · have := heap_alloc_new ((w.alloc (.cells X 94)).alloc (.cells Y 94)) (.cells Z 29)
    simpa using this
/-- the term that is told where there is none -/
def zT : Array Value := tcells 0 false 0 0 ByteArray.empty (.slice none 0 0) 0 (.slice none 0 0) (.slice none 0 0) ByteArray.empty 0

set_option maxRecDepth 100000 in
set_option maxHeartbeats 4000000 in
theorem rgterm_pass (a : Option Addr) (n cap at' p q : Nat) (er : Int) (her : er ≠ 0) (deep : Int) (w : World) :
    Calls Try.prog 49 #[.agg (rdg a n cap at' p q er), .int .i64 deep] w fun e w' => e = .returned (.tuple #[.agg (rdg a n cap at' p q er), .agg zT]) ∧ Below w.heap.size w w' := by
  have he : (er != 0) = true := by simp [her]
  clear her
  have HN : Hid (R3 w (((w.alloc (.cells #[.slice a n cap, .int .i64 (at' : Int), .int .i64 (p : Int), .int .i64 (q : Int), .int .i64 er] 94)).alloc (.cells #[.slice a n cap, .int .i64 (at' : Int), .int .i64 (p : Int), .int .i64 (q : Int), .int .i64 er] 94)).alloc (.cells #[.int .i64 0, .bool false, .int .i64 0, .float .f64 0, .string ⟨#[]⟩, .slice none 0 0, .int .u64 0, .slice none 0 0, .slice none 0 0, .string ⟨#[]⟩, .int .i64 0] 29)) #[.slice a n cap, .int .i64 (at' : Int), .int .i64 (p : Int), .int .i64 (q : Int), .int .i64 er] #[.slice a n cap, .int .i64 (at' : Int), .int .i64 (p : Int), .int .i64 (q : Int), .int .i64 er] #[.int .i64 0, .bool false, .int .i64 0, .float .f64 0, .string ⟨#[]⟩, .slice none 0 0, .int .u64 0, .slice none 0 0, .slice none 0 0, .string ⟨#[]⟩, .int .i64 0]) := R3.new _ _ _ _
  unfold rdg zT tcells
  go_enter Try.func49, Try.ntmps49
  go_wp2_with fail
  exact bodyPost_ret (v := .tuple #[.agg #[.slice a n cap, .int .i64 (at' : Int), .int .i64 (p : Int), .int .i64 (q : Int), .int .i64 er], .agg #[.int .i64 0, .bool false, .int .i64 0, .float .f64 0, .string ⟨#[]⟩, .slice none 0 0, .int .u64 0, .slice none 0 0, .slice none 0 0, .string ⟨#[]⟩, .int .i64 0]]) (by simp [results, Try.results49, go_sem] <;> rfl) rfl ⟨rfl, HN.out.bel⟩
set_option maxRecDepth 100000 in
set_option maxHeartbeats 4000000 in
theorem rgterm_end (a : Option Addr) (n cap p : Nat) (deep : Int) (w : World) :
    Calls Try.prog 49 #[.agg (rdg a n cap n p 0 0), .int .i64 deep] w fun e w' => e = .returned (.tuple #[.agg (rdg a n cap n p n 4), .agg zT]) ∧ Below w.heap.size w w' := by
  have HBd : Hid (∀ W, Calls Try.prog 91 #[.agg #[.slice a n cap, .int .i64 (n : Int), .int .i64 (p : Int), .int .i64 0, .int .i64 0], .int .i64 (n : Int), .int .i64 4] W fun e w' => e = .returned (.agg #[.slice a n cap, .int .i64 (n : Int), .int .i64 (p : Int), .int .i64 (n : Int), .int .i64 4]) ∧ Below W.heap.size W w') := fun W => rgbad_ok n p a n cap W n 4
  have he : ((n : Int) == (n : Int)) = true := by simp
  have HN : Hid (∀ y0 y1 y2 y3 y4 z0 z1 z2 z3 z4 z5 z6 z7 z8 z9 z10, R3 w (((w.alloc (.cells #[.slice a n cap, .int .i64 (n : Int), .int .i64 (p : Int), .int .i64 0, .int .i64 0] 94)).alloc (.cells #[y0, y1, y2, y3, y4] 94)).alloc (.cells #[z0, z1, z2, z3, z4, z5, z6, z7, z8, z9, z10] 29)) #[.slice a n cap, .int .i64 (n : Int), .int .i64 (p : Int), .int .i64 0, .int .i64 0] #[y0, y1, y2, y3, y4] #[z0, z1, z2, z3, z4, z5, z6, z7, z8, z9, z10]) := fun _ _ _ _ _ _ _ _ _ _ _ _ _ _ _ _ => R3.new _ _ _ _
  unfold rdg zT tcells
  go_enter Try.func49, Try.ntmps49
  go_wp2_with fail
  refine (HBd.out _).mono ?_
  rintro e w0 ⟨rfl, hb⟩
  have HR := (HN.out _ _ _ _ _ _ _ _ _ _ _ _ _ _ _ _).call hb
  have HR : Hid _ := HR
  clear hb HN
  obtain ⟨V1, V2, V3, V4, V5, l1, l2, l3, l4, l5, ⟨d0, x0⟩, ⟨d1, x1⟩, ⟨d2, x2⟩, ⟨d3, x3⟩, ⟨d4, x4⟩, hV⟩ := chain5 HR.out.res (.slice a n cap) (.int .i64 (n : Int)) (.int .i64 (p : Int)) (.int .i64 (n : Int)) (.int .i64 4)
  have HV := HR.out.putR (.slice a n cap) (.int .i64 (n : Int)) (.int .i64 (p : Int)) (.int .i64 (n : Int)) (.int .i64 4)
  rw [← hV] at HV
  have HV : Hid _ := HV
  clear hV
  obtain ⟨U1, U2, U3, U4, U5, U6, U7, U8, U9, U10, U11, m0, m1, m2, m3, m4, m5, m6, m7, m8, m9, m10, ⟨b0, g0⟩, ⟨b1, g1⟩, ⟨b2, g2⟩, ⟨b3, g3⟩, ⟨b4, g4⟩, ⟨b5, g5⟩, ⟨b6, g6⟩, ⟨b7, g7⟩, ⟨b8, g8⟩, ⟨b9, g9⟩, ⟨b10, g10⟩, hU⟩ := chain11 HV.out.ter (.int .i64 0) (.bool false) (.int .i64 0) (.float .f64 0) (.string ⟨#[]⟩) (.slice none 0 0) (.int .u64 0) (.slice none 0 0) (.slice none 0 0) (.string ⟨#[]⟩) (.int .i64 0)
  have HU := HV.out.putT (.int .i64 0) (.bool false) (.int .i64 0) (.float .f64 0) (.string ⟨#[]⟩) (.slice none 0 0) (.int .u64 0) (.slice none 0 0) (.slice none 0 0) (.string ⟨#[]⟩) (.int .i64 0)
  rw [← hU] at HU
  have HU : Hid _ := HU
  clear hU
  go_wp2_with fail
  obtain ⟨⟨r0, r1, r2, r3, r4⟩, _⟩ := own5 HU.out.res
  obtain ⟨s0, s1, s2, s3, s4, s5, s6, s7, s8, s9, s10⟩ := own11 HU.out.ter
  exact bodyPost_ret (v := .tuple #[.agg #[.slice a n cap, .int .i64 (n : Int), .int .i64 (p : Int), .int .i64 (n : Int), .int .i64 4], .agg #[.int .i64 0, .bool false, .int .i64 0, .float .f64 0, .string ⟨#[]⟩, .slice none 0 0, .int .u64 0, .slice none 0 0, .slice none 0 0, .string ⟨#[]⟩, .int .i64 0]]) (by simp [results, Try.results49, go_sem, r0, r1, r2, r3, r4, s0, s1, s2, s3, s4, s5, s6, s7, s8, s9, s10] <;> rfl) rfl ⟨rfl, HU.out.bel⟩
set_option maxRecDepth 100000 in
set_option maxHeartbeats 4000000 in
theorem rgterm_most (a : Option Addr) (n cap at' p : Nat) (deep : Int) (w : World) (hl : at' < n) (hp : 16384 ≤ p) :
    Calls Try.prog 49 #[.agg (rdg a n cap at' p 0 0), .int .i64 deep] w fun e w' => e = .returned (.tuple #[.agg (rdg a n cap at' p at' 2), .agg zT]) ∧ Below w.heap.size w w' := by
  have HBd : Hid (∀ W, Calls Try.prog 91 #[.agg #[.slice a n cap, .int .i64 (at' : Int), .int .i64 (p : Int), .int .i64 0, .int .i64 0], .int .i64 (at' : Int), .int .i64 2] W fun e w' => e = .returned (.agg #[.slice a n cap, .int .i64 (at' : Int), .int .i64 (p : Int), .int .i64 (at' : Int), .int .i64 2]) ∧ Below W.heap.size W w') := fun W => rgbad_ok at' p a n cap W at' 2
  have he : ((at' : Int) == (n : Int)) = false := by simp; omega
  have hp' : (16384 : Int) ≤ (p : Int) := by omega
  have hq : decide ((16384 : Int) ≤ (p : Int)) = true := decide_eq_true hp'
  clear hp
  clear hl
  have HN : Hid (∀ y0 y1 y2 y3 y4 z0 z1 z2 z3 z4 z5 z6 z7 z8 z9 z10, R3 w (((w.alloc (.cells #[.slice a n cap, .int .i64 (at' : Int), .int .i64 (p : Int), .int .i64 0, .int .i64 0] 94)).alloc (.cells #[y0, y1, y2, y3, y4] 94)).alloc (.cells #[z0, z1, z2, z3, z4, z5, z6, z7, z8, z9, z10] 29)) #[.slice a n cap, .int .i64 (at' : Int), .int .i64 (p : Int), .int .i64 0, .int .i64 0] #[y0, y1, y2, y3, y4] #[z0, z1, z2, z3, z4, z5, z6, z7, z8, z9, z10]) := fun _ _ _ _ _ _ _ _ _ _ _ _ _ _ _ _ => R3.new _ _ _ _
  unfold rdg zT tcells
  go_enter Try.func49, Try.ntmps49
  go_wp2_with fail
  refine (HBd.out _).mono ?_
  rintro e w0 ⟨rfl, hb⟩
  have HR := (HN.out _ _ _ _ _ _ _ _ _ _ _ _ _ _ _ _).call hb
  have HR : Hid _ := HR
  clear hb HN
  obtain ⟨V1, V2, V3, V4, V5, l1, l2, l3, l4, l5, ⟨d0, x0⟩, ⟨d1, x1⟩, ⟨d2, x2⟩, ⟨d3, x3⟩, ⟨d4, x4⟩, hV⟩ := chain5 HR.out.res (.slice a n cap) (.int .i64 (at' : Int)) (.int .i64 (p : Int)) (.int .i64 (at' : Int)) (.int .i64 2)
  have HV := HR.out.putR (.slice a n cap) (.int .i64 (at' : Int)) (.int .i64 (p : Int)) (.int .i64 (at' : Int)) (.int .i64 2)
  rw [← hV] at HV
  have HV : Hid _ := HV
  clear hV
  obtain ⟨U1, U2, U3, U4, U5, U6, U7, U8, U9, U10, U11, m0, m1, m2, m3, m4, m5, m6, m7, m8, m9, m10, ⟨b0, g0⟩, ⟨b1, g1⟩, ⟨b2, g2⟩, ⟨b3, g3⟩, ⟨b4, g4⟩, ⟨b5, g5⟩, ⟨b6, g6⟩, ⟨b7, g7⟩, ⟨b8, g8⟩, ⟨b9, g9⟩, ⟨b10, g10⟩, hU⟩ := chain11 HV.out.ter (.int .i64 0) (.bool false) (.int .i64 0) (.float .f64 0) (.string ⟨#[]⟩) (.slice none 0 0) (.int .u64 0) (.slice none 0 0) (.slice none 0 0) (.string ⟨#[]⟩) (.int .i64 0)
  have HU := HV.out.putT (.int .i64 0) (.bool false) (.int .i64 0) (.float .f64 0) (.string ⟨#[]⟩) (.slice none 0 0) (.int .u64 0) (.slice none 0 0) (.slice none 0 0) (.string ⟨#[]⟩) (.int .i64 0)
  rw [← hU] at HU
  have HU : Hid _ := HU
  clear hU
  go_wp2_with fail
  obtain ⟨⟨r0, r1, r2, r3, r4⟩, _⟩ := own5 HU.out.res
  obtain ⟨s0, s1, s2, s3, s4, s5, s6, s7, s8, s9, s10⟩ := own11 HU.out.ter
  exact bodyPost_ret (v := .tuple #[.agg #[.slice a n cap, .int .i64 (at' : Int), .int .i64 (p : Int), .int .i64 (at' : Int), .int .i64 2], .agg #[.int .i64 0, .bool false, .int .i64 0, .float .f64 0, .string ⟨#[]⟩, .slice none 0 0, .int .u64 0, .slice none 0 0, .slice none 0 0, .string ⟨#[]⟩, .int .i64 0]]) (by simp [results, Try.results49, go_sem, r0, r1, r2, r3, r4, s0, s1, s2, s3, s4, s5, s6, s7, s8, s9, s10] <;> rfl) rfl ⟨rfl, HU.out.bel⟩
set_option maxRecDepth 100000 in
set_option maxHeartbeats 4000000 in
theorem rgterm_deep (a : Option Addr) (n cap at' p : Nat) (deep : Int) (w : World) (hl : at' < n) (hp : p < 16384) (hd : 64 < deep) :
    Calls Try.prog 49 #[.agg (rdg a n cap at' p 0 0), .int .i64 deep] w fun e w' => e = .returned (.tuple #[.agg (rdg a n cap at' p at' 2), .agg zT]) ∧ Below w.heap.size w w' := by
  have HBd : Hid (∀ W, Calls Try.prog 91 #[.agg #[.slice a n cap, .int .i64 (at' : Int), .int .i64 (p : Int), .int .i64 0, .int .i64 0], .int .i64 (at' : Int), .int .i64 2] W fun e w' => e = .returned (.agg #[.slice a n cap, .int .i64 (at' : Int), .int .i64 (p : Int), .int .i64 (at' : Int), .int .i64 2]) ∧ Below W.heap.size W w') := fun W => rgbad_ok at' p a n cap W at' 2
  have he : ((at' : Int) == (n : Int)) = false := by simp; omega
  have hp' : ¬ (16384 : Int) ≤ (p : Int) := by omega
  have hq : decide ((16384 : Int) ≤ (p : Int)) = false := decide_eq_false hp'
  have hd' : decide ((64 : Int) < deep) = true := decide_eq_true hd
  clear hp
  clear hl
  have HN : Hid (∀ y0 y1 y2 y3 y4 z0 z1 z2 z3 z4 z5 z6 z7 z8 z9 z10, R3 w (((w.alloc (.cells #[.slice a n cap, .int .i64 (at' : Int), .int .i64 (p : Int), .int .i64 0, .int .i64 0] 94)).alloc (.cells #[y0, y1, y2, y3, y4] 94)).alloc (.cells #[z0, z1, z2, z3, z4, z5, z6, z7, z8, z9, z10] 29)) #[.slice a n cap, .int .i64 (at' : Int), .int .i64 (p : Int), .int .i64 0, .int .i64 0] #[y0, y1, y2, y3, y4] #[z0, z1, z2, z3, z4, z5, z6, z7, z8, z9, z10]) := fun _ _ _ _ _ _ _ _ _ _ _ _ _ _ _ _ => R3.new _ _ _ _
  unfold rdg zT tcells
  go_enter Try.func49, Try.ntmps49
  go_wp2_with fail
  refine (HBd.out _).mono ?_
  rintro e w0 ⟨rfl, hb⟩
  have HR := (HN.out _ _ _ _ _ _ _ _ _ _ _ _ _ _ _ _).call hb
  have HR : Hid _ := HR
  clear hb HN
  obtain ⟨V1, V2, V3, V4, V5, l1, l2, l3, l4, l5, ⟨d0, x0⟩, ⟨d1, x1⟩, ⟨d2, x2⟩, ⟨d3, x3⟩, ⟨d4, x4⟩, hV⟩ := chain5 HR.out.res (.slice a n cap) (.int .i64 (at' : Int)) (.int .i64 (p : Int)) (.int .i64 (at' : Int)) (.int .i64 2)
  have HV := HR.out.putR (.slice a n cap) (.int .i64 (at' : Int)) (.int .i64 (p : Int)) (.int .i64 (at' : Int)) (.int .i64 2)
  rw [← hV] at HV
  have HV : Hid _ := HV
  clear hV
  obtain ⟨U1, U2, U3, U4, U5, U6, U7, U8, U9, U10, U11, m0, m1, m2, m3, m4, m5, m6, m7, m8, m9, m10, ⟨b0, g0⟩, ⟨b1, g1⟩, ⟨b2, g2⟩, ⟨b3, g3⟩, ⟨b4, g4⟩, ⟨b5, g5⟩, ⟨b6, g6⟩, ⟨b7, g7⟩, ⟨b8, g8⟩, ⟨b9, g9⟩, ⟨b10, g10⟩, hU⟩ := chain11 HV.out.ter (.int .i64 0) (.bool false) (.int .i64 0) (.float .f64 0) (.string ⟨#[]⟩) (.slice none 0 0) (.int .u64 0) (.slice none 0 0) (.slice none 0 0) (.string ⟨#[]⟩) (.int .i64 0)
  have HU := HV.out.putT (.int .i64 0) (.bool false) (.int .i64 0) (.float .f64 0) (.string ⟨#[]⟩) (.slice none 0 0) (.int .u64 0) (.slice none 0 0) (.slice none 0 0) (.string ⟨#[]⟩) (.int .i64 0)
  rw [← hU] at HU
  have HU : Hid _ := HU
  clear hU
  go_wp2_with fail
  obtain ⟨⟨r0, r1, r2, r3, r4⟩, _⟩ := own5 HU.out.res
  obtain ⟨s0, s1, s2, s3, s4, s5, s6, s7, s8, s9, s10⟩ := own11 HU.out.ter
  exact bodyPost_ret (v := .tuple #[.agg #[.slice a n cap, .int .i64 (at' : Int), .int .i64 (p : Int), .int .i64 (at' : Int), .int .i64 2], .agg #[.int .i64 0, .bool false, .int .i64 0, .float .f64 0, .string ⟨#[]⟩, .slice none 0 0, .int .u64 0, .slice none 0 0, .slice none 0 0, .string ⟨#[]⟩, .int .i64 0]]) (by simp [results, Try.results49, go_sem, r0, r1, r2, r3, r4, s0, s1, s2, s3, s4, s5, s6, s7, s8, s9, s10] <;> rfl) rfl ⟨rfl, HU.out.bel⟩
end Go.Proofs.Ytmmiiapfefmcjaa


/- The document's reading of a value's body: a bool. -/
import Derived.Test.YtmmiiapfefmcjaaA14
namespace Go.Proofs.Ytmmiiapfefmcjaa
open Go.RowKit

set_option maxRecDepth 100000 in
set_option maxHeartbeats 4000000 in
theorem rgbody_bool (xs : List Int) (a : Option Addr) (cap at' p : Nat) (s deep x : Int) (B : Bool) (w : World) (hx : xs[at']? = some x) (hB : (x == 1) = B) (h1 : x ≤ 1) (hrd : RdB w (Lo w.heap.size) a xs) (hln : xs.length ≤ 281474976710656) :
    Calls Try.prog 93 #[.agg #[.slice a xs.length cap, .int .i64 (at' : Int), .int .i64 (p : Int), .int .i64 0, .int .i64 0], .agg #[.int .i64 2, .bool false, .int .i64 0, .float .f64 0, .string ⟨#[]⟩, .slice none 0 0, .int .u64 0, .slice none 0 0, .slice none 0 0, .string ⟨#[]⟩, .int .i64 0], .int .i64 s, .int .i64 deep] w fun e w' => e = .returned (.tuple #[.agg #[.slice a xs.length cap, .int .i64 ((at' : Int) + 1), .int .i64 (p : Int), .int .i64 0, .int .i64 0], .agg #[.int .i64 2, .bool B, .int .i64 0, .float .f64 0, .string ⟨#[]⟩, .slice none 0 0, .int .u64 0, .slice none 0 0, .slice none 0 0, .string ⟨#[]⟩, .int .i64 0]]) ∧ Below w.heap.size w w' := by
  have HOn : Hid (∀ W, Below w.heap.size w W → Calls Try.prog 92 #[.agg #[.slice a xs.length cap, .int .i64 (at' : Int), .int .i64 (p : Int), .int .i64 0, .int .i64 0]] W fun e w' => e = .returned (.tuple #[.agg #[.slice a xs.length cap, .int .i64 ((at' : Int) + 1), .int .i64 (p : Int), .int .i64 0, .int .i64 0], .int .u8 x]) ∧ Below W.heap.size W w') := fun W hW => rgone_ok xs a cap at' p W x hx (hrd.same (Same.of_below hW (Nat.le_refl _)) (Lo.le hW.size)) hln
  have hx1 : decide (1 < x) = false := decide_eq_false (by omega)
  clear hx h1 hrd hln
  have HN := R4.new w #[.slice a xs.length cap, .int .i64 (at' : Int), .int .i64 (p : Int), .int .i64 0, .int .i64 0] #[.int .i64 2, .bool false, .int .i64 0, .float .f64 0, .string ⟨#[]⟩, .slice none 0 0, .int .u64 0, .slice none 0 0, .slice none 0 0, .string ⟨#[]⟩, .int .i64 0] #[.slice none 0 0, .int .i64 0, .int .i64 0, .int .i64 0, .int .i64 0] #[.int .i64 0, .bool false, .int .i64 0, .float .f64 0, .string ⟨#[]⟩, .slice none 0 0, .int .u64 0, .slice none 0 0, .slice none 0 0, .string ⟨#[]⟩, .int .i64 0]
  have HN : Hid _ := HN
  go_enter Try.func93, Try.ntmps93
  go_wp2_with fail
  refine (HOn.out _ HN.out.bel).mono ?_
  rintro e w0 ⟨rfl, hb⟩
  have HR0 := HN.out.call hb
  have HR0 : Hid _ := HR0
  clear hb HN 
  obtain ⟨A0, B0, C0, D0, E0, k1, k2, k3, k4, k5, ⟨c0, y0⟩, ⟨c1, y1⟩, ⟨c2, y2⟩, ⟨c3, y3⟩, ⟨c4, y4⟩, hE⟩ := chain5 HR0.out.box (.slice a xs.length cap) (.int .i64 ((at' : Int) + 1)) (.int .i64 (p : Int)) (.int .i64 0) (.int .i64 0)
  have HS0 := HR0.out.put (.slice a xs.length cap) (.int .i64 ((at' : Int) + 1)) (.int .i64 (p : Int)) (.int .i64 0) (.int .i64 0)
  rw [← hE] at HS0
  have HS0 : Hid _ := HS0
  clear hE HR0
  obtain ⟨⟨e0, e1, e2, e3, e4⟩, _⟩ := own5 HS0.out.box
  obtain ⟨G0, q1, HG⟩ : ∃ G0, E0.setCell ⟨w.heap.size + 1, 1, none⟩ (.bool B) = G0 ∧ Hid (R4 w G0 #[.slice a xs.length cap, .int .i64 ((at' : Int) + 1), .int .i64 (p : Int), .int .i64 0, .int .i64 0] #[.int .i64 2, .bool B, .int .i64 0, .float .f64 0, .string ⟨#[]⟩, .slice none 0 0, .int .u64 0, .slice none 0 0, .slice none 0 0, .string ⟨#[]⟩, .int .i64 0] #[.slice none 0 0, .int .i64 0, .int .i64 0, .int .i64 0, .int .i64 0] #[.int .i64 0, .bool false, .int .i64 0, .float .f64 0, .string ⟨#[]⟩, .slice none 0 0, .int .u64 0, .slice none 0 0, .slice none 0 0, .string ⟨#[]⟩, .int .i64 0]) := ⟨_, rfl, HS0.out.set 1 (.bool B)⟩
  have qc1 : E0.cell? ⟨w.heap.size + 1, 1, none⟩ = some (.bool false) := by rw [cell_of_row _ _ 1 _ _ _ HS0.out.tbx]; rfl
  have qf1 : E0.frozen? ⟨w.heap.size + 1, 1, none⟩ = false := frozen_of_row _ _ 1 _ _ HS0.out.tbx
  obtain ⟨⟨h0, h1, h2, h3, h4⟩, _⟩ := own5 HG.out.box
  go_wp2_with fail
  have HD := HG.out.drew
  have HD : Hid _ := HD
  obtain ⟨V1, V2, V3, V4, V5, l1, l2, l3, l4, l5, ⟨d0, x0⟩, ⟨d1, x1⟩, ⟨d2, x2⟩, ⟨d3, x3⟩, ⟨d4, x4⟩, hV⟩ := chain5 HD.out.res (.slice a xs.length cap) (.int .i64 ((at' : Int) + 1)) (.int .i64 (p : Int)) (.int .i64 0) (.int .i64 0)
  have HV := HD.out.putR (.slice a xs.length cap) (.int .i64 ((at' : Int) + 1)) (.int .i64 (p : Int)) (.int .i64 0) (.int .i64 0)
  rw [← hV] at HV
  have HV : Hid _ := HV
  clear hV
  obtain ⟨U1, U2, U3, U4, U5, U6, U7, U8, U9, U10, U11, m0, m1, m2, m3, m4, m5, m6, m7, m8, m9, m10, ⟨b0, g0⟩, ⟨b1, g1⟩, ⟨b2, g2⟩, ⟨b3, g3⟩, ⟨b4, g4⟩, ⟨b5, g5⟩, ⟨b6, g6⟩, ⟨b7, g7⟩, ⟨b8, g8⟩, ⟨b9, g9⟩, ⟨b10, g10⟩, hU⟩ := chain11 HV.out.ter (.int .i64 2) (.bool B) (.int .i64 0) (.float .f64 0) (.string ⟨#[]⟩) (.slice none 0 0) (.int .u64 0) (.slice none 0 0) (.slice none 0 0) (.string ⟨#[]⟩) (.int .i64 0)
  have HU := HV.out.putT (.int .i64 2) (.bool B) (.int .i64 0) (.float .f64 0) (.string ⟨#[]⟩) (.slice none 0 0) (.int .u64 0) (.slice none 0 0) (.slice none 0 0) (.string ⟨#[]⟩) (.int .i64 0)
  rw [← hU] at HU
  have HU : Hid _ := HU
  clear hU
  have HS0 : Hid _ := HD.out.S
  have HS1 : Hid _ := HV.out.S
  have HS2 : Hid _ := HU.out.S
  go_region_held3 (fun W => (W.cell? ⟨w.heap.size, 0, none⟩ = some (.slice a xs.length cap) ∧ W.cell? ⟨w.heap.size, 1, none⟩ = some (.int .i64 ((at' : Int) + 1)) ∧ W.cell? ⟨w.heap.size, 2, none⟩ = some (.int .i64 (p : Int)) ∧ W.cell? ⟨w.heap.size, 3, none⟩ = some (.int .i64 0) ∧ W.cell? ⟨w.heap.size, 4, none⟩ = some (.int .i64 0)) ∧ (W.cell? ⟨w.heap.size + 1, 0, none⟩ = some (.int .i64 2) ∧ W.cell? ⟨w.heap.size + 1, 1, none⟩ = some (.bool B) ∧ W.cell? ⟨w.heap.size + 1, 2, none⟩ = some (.int .i64 0) ∧ W.cell? ⟨w.heap.size + 1, 3, none⟩ = some (.float .f64 0) ∧ W.cell? ⟨w.heap.size + 1, 4, none⟩ = some (.string ⟨#[]⟩) ∧ W.cell? ⟨w.heap.size + 1, 5, none⟩ = some (.slice none 0 0) ∧ W.cell? ⟨w.heap.size + 1, 6, none⟩ = some (.int .u64 0) ∧ W.cell? ⟨w.heap.size + 1, 7, none⟩ = some (.slice none 0 0) ∧ W.cell? ⟨w.heap.size + 1, 8, none⟩ = some (.slice none 0 0) ∧ W.cell? ⟨w.heap.size + 1, 9, none⟩ = some (.string ⟨#[]⟩) ∧ W.cell? ⟨w.heap.size + 1, 10, none⟩ = some (.int .i64 0)))
    (first | with_reducible exact HS0.out | with_reducible exact HS1.out | with_reducible exact HS2.out)
    (fail)
  go_wp2_with fail
  obtain ⟨⟨r0, r1, r2, r3, r4⟩, _⟩ := own5 HU.out.res
  obtain ⟨s0, s1, s2, s3, s4, s5, s6, s7, s8, s9, s10⟩ := own11 HU.out.ter
  exact bodyPost_ret (v := .tuple #[.agg #[.slice a xs.length cap, .int .i64 ((at' : Int) + 1), .int .i64 (p : Int), .int .i64 0, .int .i64 0], .agg #[.int .i64 2, .bool B, .int .i64 0, .float .f64 0, .string ⟨#[]⟩, .slice none 0 0, .int .u64 0, .slice none 0 0, .slice none 0 0, .string ⟨#[]⟩, .int .i64 0]]) (by simp [results, Try.results93, go_sem, r0, r1, r2, r3, r4, s0, s1, s2, s3, s4, s5, s6, s7, s8, s9, s10] <;> rfl) rfl ⟨rfl, HU.out.bel⟩
set_option maxRecDepth 100000 in
set_option maxHeartbeats 4000000 in
theorem rgbody_bool_end (a : Option Addr) (n cap p : Nat) (s deep : Int) (w : World) :
    Calls Try.prog 93 #[.agg #[.slice a n cap, .int .i64 (n : Int), .int .i64 (p : Int), .int .i64 0, .int .i64 0], .agg #[.int .i64 2, .bool false, .int .i64 0, .float .f64 0, .string ⟨#[]⟩, .slice none 0 0, .int .u64 0, .slice none 0 0, .slice none 0 0, .string ⟨#[]⟩, .int .i64 0], .int .i64 s, .int .i64 deep] w fun e w' => e = .returned (.tuple #[.agg #[.slice a n cap, .int .i64 (n : Int), .int .i64 (p : Int), .int .i64 (n : Int), .int .i64 4], .agg #[.int .i64 2, .bool false, .int .i64 0, .float .f64 0, .string ⟨#[]⟩, .slice none 0 0, .int .u64 0, .slice none 0 0, .slice none 0 0, .string ⟨#[]⟩, .int .i64 0]]) ∧ Below w.heap.size w w' := by
  have HOn : Hid (∀ W, Below w.heap.size w W → Calls Try.prog 92 #[.agg #[.slice a n cap, .int .i64 (n : Int), .int .i64 (p : Int), .int .i64 0, .int .i64 0]] W fun e w' => e = .returned (.tuple #[.agg #[.slice a n cap, .int .i64 (n : Int), .int .i64 (p : Int), .int .i64 (n : Int), .int .i64 4], .int .u8 0]) ∧ Below W.heap.size W w') := fun W hW => rgone_end a n cap p W
  have HN := R4.new w #[.slice a n cap, .int .i64 (n : Int), .int .i64 (p : Int), .int .i64 0, .int .i64 0] #[.int .i64 2, .bool false, .int .i64 0, .float .f64 0, .string ⟨#[]⟩, .slice none 0 0, .int .u64 0, .slice none 0 0, .slice none 0 0, .string ⟨#[]⟩, .int .i64 0] #[.slice none 0 0, .int .i64 0, .int .i64 0, .int .i64 0, .int .i64 0] #[.int .i64 0, .bool false, .int .i64 0, .float .f64 0, .string ⟨#[]⟩, .slice none 0 0, .int .u64 0, .slice none 0 0, .slice none 0 0, .string ⟨#[]⟩, .int .i64 0]
  have HN : Hid _ := HN
  go_enter Try.func93, Try.ntmps93
  go_wp2_with fail
  refine (HOn.out _ HN.out.bel).mono ?_
  rintro e w0 ⟨rfl, hb⟩
  have HR0 := HN.out.call hb
  have HR0 : Hid _ := HR0
  clear hb HN 
  obtain ⟨A0, B0, C0, D0, E0, k1, k2, k3, k4, k5, ⟨c0, y0⟩, ⟨c1, y1⟩, ⟨c2, y2⟩, ⟨c3, y3⟩, ⟨c4, y4⟩, hE⟩ := chain5 HR0.out.box (.slice a n cap) (.int .i64 (n : Int)) (.int .i64 (p : Int)) (.int .i64 (n : Int)) (.int .i64 4)
  have HS0 := HR0.out.put (.slice a n cap) (.int .i64 (n : Int)) (.int .i64 (p : Int)) (.int .i64 (n : Int)) (.int .i64 4)
  rw [← hE] at HS0
  have HS0 : Hid _ := HS0
  clear hE HR0
  obtain ⟨⟨e0, e1, e2, e3, e4⟩, _⟩ := own5 HS0.out.box
  obtain ⟨G0, q1, HG⟩ : ∃ G0, E0.setCell ⟨w.heap.size + 1, 1, none⟩ (.bool false) = G0 ∧ Hid (R4 w G0 #[.slice a n cap, .int .i64 (n : Int), .int .i64 (p : Int), .int .i64 (n : Int), .int .i64 4] #[.int .i64 2, .bool false, .int .i64 0, .float .f64 0, .string ⟨#[]⟩, .slice none 0 0, .int .u64 0, .slice none 0 0, .slice none 0 0, .string ⟨#[]⟩, .int .i64 0] #[.slice none 0 0, .int .i64 0, .int .i64 0, .int .i64 0, .int .i64 0] #[.int .i64 0, .bool false, .int .i64 0, .float .f64 0, .string ⟨#[]⟩, .slice none 0 0, .int .u64 0, .slice none 0 0, .slice none 0 0, .string ⟨#[]⟩, .int .i64 0]) := ⟨_, rfl, HS0.out.set 1 (.bool false)⟩
  have qc1 : E0.cell? ⟨w.heap.size + 1, 1, none⟩ = some (.bool false) := by rw [cell_of_row _ _ 1 _ _ _ HS0.out.tbx]; rfl
  have qf1 : E0.frozen? ⟨w.heap.size + 1, 1, none⟩ = false := frozen_of_row _ _ 1 _ _ HS0.out.tbx
  obtain ⟨⟨h0, h1, h2, h3, h4⟩, _⟩ := own5 HG.out.box
  go_wp2_with fail
  have HD := HG.out.drew
  have HD : Hid _ := HD
  obtain ⟨V1, V2, V3, V4, V5, l1, l2, l3, l4, l5, ⟨d0, x0⟩, ⟨d1, x1⟩, ⟨d2, x2⟩, ⟨d3, x3⟩, ⟨d4, x4⟩, hV⟩ := chain5 HD.out.res (.slice a n cap) (.int .i64 (n : Int)) (.int .i64 (p : Int)) (.int .i64 (n : Int)) (.int .i64 4)
  have HV := HD.out.putR (.slice a n cap) (.int .i64 (n : Int)) (.int .i64 (p : Int)) (.int .i64 (n : Int)) (.int .i64 4)
  rw [← hV] at HV
  have HV : Hid _ := HV
  clear hV
  obtain ⟨U1, U2, U3, U4, U5, U6, U7, U8, U9, U10, U11, m0, m1, m2, m3, m4, m5, m6, m7, m8, m9, m10, ⟨b0, g0⟩, ⟨b1, g1⟩, ⟨b2, g2⟩, ⟨b3, g3⟩, ⟨b4, g4⟩, ⟨b5, g5⟩, ⟨b6, g6⟩, ⟨b7, g7⟩, ⟨b8, g8⟩, ⟨b9, g9⟩, ⟨b10, g10⟩, hU⟩ := chain11 HV.out.ter (.int .i64 2) (.bool false) (.int .i64 0) (.float .f64 0) (.string ⟨#[]⟩) (.slice none 0 0) (.int .u64 0) (.slice none 0 0) (.slice none 0 0) (.string ⟨#[]⟩) (.int .i64 0)
  have HU := HV.out.putT (.int .i64 2) (.bool false) (.int .i64 0) (.float .f64 0) (.string ⟨#[]⟩) (.slice none 0 0) (.int .u64 0) (.slice none 0 0) (.slice none 0 0) (.string ⟨#[]⟩) (.int .i64 0)
  rw [← hU] at HU
  have HU : Hid _ := HU
  clear hU
  have HS0 : Hid _ := HD.out.S
  have HS1 : Hid _ := HV.out.S
  have HS2 : Hid _ := HU.out.S
  go_region_held3 (fun W => (W.cell? ⟨w.heap.size, 0, none⟩ = some (.slice a n cap) ∧ W.cell? ⟨w.heap.size, 1, none⟩ = some (.int .i64 (n : Int)) ∧ W.cell? ⟨w.heap.size, 2, none⟩ = some (.int .i64 (p : Int)) ∧ W.cell? ⟨w.heap.size, 3, none⟩ = some (.int .i64 (n : Int)) ∧ W.cell? ⟨w.heap.size, 4, none⟩ = some (.int .i64 4)) ∧ (W.cell? ⟨w.heap.size + 1, 0, none⟩ = some (.int .i64 2) ∧ W.cell? ⟨w.heap.size + 1, 1, none⟩ = some (.bool false) ∧ W.cell? ⟨w.heap.size + 1, 2, none⟩ = some (.int .i64 0) ∧ W.cell? ⟨w.heap.size + 1, 3, none⟩ = some (.float .f64 0) ∧ W.cell? ⟨w.heap.size + 1, 4, none⟩ = some (.string ⟨#[]⟩) ∧ W.cell? ⟨w.heap.size + 1, 5, none⟩ = some (.slice none 0 0) ∧ W.cell? ⟨w.heap.size + 1, 6, none⟩ = some (.int .u64 0) ∧ W.cell? ⟨w.heap.size + 1, 7, none⟩ = some (.slice none 0 0) ∧ W.cell? ⟨w.heap.size + 1, 8, none⟩ = some (.slice none 0 0) ∧ W.cell? ⟨w.heap.size + 1, 9, none⟩ = some (.string ⟨#[]⟩) ∧ W.cell? ⟨w.heap.size + 1, 10, none⟩ = some (.int .i64 0)))
    (first | with_reducible exact HS0.out | with_reducible exact HS1.out | with_reducible exact HS2.out)
    (fail)
  go_wp2_with fail
  obtain ⟨⟨r0, r1, r2, r3, r4⟩, _⟩ := own5 HU.out.res
  obtain ⟨s0, s1, s2, s3, s4, s5, s6, s7, s8, s9, s10⟩ := own11 HU.out.ter
  exact bodyPost_ret (v := .tuple #[.agg #[.slice a n cap, .int .i64 (n : Int), .int .i64 (p : Int), .int .i64 (n : Int), .int .i64 4], .agg #[.int .i64 2, .bool false, .int .i64 0, .float .f64 0, .string ⟨#[]⟩, .slice none 0 0, .int .u64 0, .slice none 0 0, .slice none 0 0, .string ⟨#[]⟩, .int .i64 0]]) (by simp [results, Try.results93, go_sem, r0, r1, r2, r3, r4, s0, s1, s2, s3, s4, s5, s6, s7, s8, s9, s10] <;> rfl) rfl ⟨rfl, HU.out.bel⟩
set_option maxRecDepth 100000 in
set_option maxHeartbeats 4000000 in
theorem rgbody_bool_bad (xs : List Int) (a : Option Addr) (cap at' p : Nat) (s deep x : Int) (w : World) (hx : xs[at']? = some x) (h1 : 1 < x) (hrd : RdB w (Lo w.heap.size) a xs) (hln : xs.length ≤ 281474976710656) :
    Calls Try.prog 93 #[.agg #[.slice a xs.length cap, .int .i64 (at' : Int), .int .i64 (p : Int), .int .i64 0, .int .i64 0], .agg #[.int .i64 2, .bool false, .int .i64 0, .float .f64 0, .string ⟨#[]⟩, .slice none 0 0, .int .u64 0, .slice none 0 0, .slice none 0 0, .string ⟨#[]⟩, .int .i64 0], .int .i64 s, .int .i64 deep] w fun e w' => e = .returned (.tuple #[.agg #[.slice a xs.length cap, .int .i64 ((at' : Int) + 1), .int .i64 (p : Int), .int .i64 (at' : Int), .int .i64 30], .agg #[.int .i64 2, .bool false, .int .i64 0, .float .f64 0, .string ⟨#[]⟩, .slice none 0 0, .int .u64 0, .slice none 0 0, .slice none 0 0, .string ⟨#[]⟩, .int .i64 0]]) ∧ Below w.heap.size w w' := by
  have hl : at' < xs.length := (List.getElem?_eq_some_iff.1 hx).1
  have HOn : Hid (∀ W, Below w.heap.size w W → Calls Try.prog 92 #[.agg #[.slice a xs.length cap, .int .i64 (at' : Int), .int .i64 (p : Int), .int .i64 0, .int .i64 0]] W fun e w' => e = .returned (.tuple #[.agg #[.slice a xs.length cap, .int .i64 ((at' : Int) + 1), .int .i64 (p : Int), .int .i64 0, .int .i64 0], .int .u8 x]) ∧ Below W.heap.size W w') := fun W hW => rgone_ok xs a cap at' p W x hx (hrd.same (Same.of_below hW (Nat.le_refl _)) (Lo.le hW.size)) hln
  have HBd : Hid (∀ W, Below w.heap.size w W → Calls Try.prog 91 #[.agg #[.slice a xs.length cap, .int .i64 ((at' : Int) + 1), .int .i64 (p : Int), .int .i64 0, .int .i64 0], .int .i64 (at' : Int), .int .i64 30] W fun e w' => e = .returned (.agg #[.slice a xs.length cap, .int .i64 ((at' : Int) + 1), .int .i64 (p : Int), .int .i64 (at' : Int), .int .i64 30]) ∧ Below W.heap.size W w') := fun W _ => rgbad_ok ((at' : Int) + 1) p a xs.length cap W at' 30
  have hx1 : decide (1 < x) = true := decide_eq_true h1
  have hB : (x == 1) = false := by simp; omega
  have hwa : wrap64 ((at' : Int) + 1 - 1) = (at' : Int) := by unfold wrap64; omega
  have hwb : IntKind.i64.wrap ((at' : Int) + 1 - 1) = (at' : Int) := by rw [IntKind.wrap_i64]; omega
  have hwc : IntKind.i64.wrap (at' : Int) = (at' : Int) := by rw [IntKind.wrap_i64]; omega
  have hwd : wrap64 (at' : Int) = (at' : Int) := by unfold wrap64; omega
  clear hx h1 hrd hln hl
  have HN := R4.new w #[.slice a xs.length cap, .int .i64 (at' : Int), .int .i64 (p : Int), .int .i64 0, .int .i64 0] #[.int .i64 2, .bool false, .int .i64 0, .float .f64 0, .string ⟨#[]⟩, .slice none 0 0, .int .u64 0, .slice none 0 0, .slice none 0 0, .string ⟨#[]⟩, .int .i64 0] #[.slice none 0 0, .int .i64 0, .int .i64 0, .int .i64 0, .int .i64 0] #[.int .i64 0, .bool false, .int .i64 0, .float .f64 0, .string ⟨#[]⟩, .slice none 0 0, .int .u64 0, .slice none 0 0, .slice none 0 0, .string ⟨#[]⟩, .int .i64 0]
  have HN : Hid _ := HN
  go_enter Try.func93, Try.ntmps93
  go_wp2_with fail
  refine (HOn.out _ HN.out.bel).mono ?_
  rintro e w0 ⟨rfl, hb⟩
  have HR0 := HN.out.call hb
  have HR0 : Hid _ := HR0
  clear hb HN 
  obtain ⟨A0, B0, C0, D0, E0, k1, k2, k3, k4, k5, ⟨c0, y0⟩, ⟨c1, y1⟩, ⟨c2, y2⟩, ⟨c3, y3⟩, ⟨c4, y4⟩, hE⟩ := chain5 HR0.out.box (.slice a xs.length cap) (.int .i64 ((at' : Int) + 1)) (.int .i64 (p : Int)) (.int .i64 0) (.int .i64 0)
  have HS0 := HR0.out.put (.slice a xs.length cap) (.int .i64 ((at' : Int) + 1)) (.int .i64 (p : Int)) (.int .i64 0) (.int .i64 0)
  rw [← hE] at HS0
  have HS0 : Hid _ := HS0
  clear hE HR0
  obtain ⟨⟨e0, e1, e2, e3, e4⟩, _⟩ := own5 HS0.out.box
  obtain ⟨G0, q1, HG⟩ : ∃ G0, E0.setCell ⟨w.heap.size + 1, 1, none⟩ (.bool false) = G0 ∧ Hid (R4 w G0 #[.slice a xs.length cap, .int .i64 ((at' : Int) + 1), .int .i64 (p : Int), .int .i64 0, .int .i64 0] #[.int .i64 2, .bool false, .int .i64 0, .float .f64 0, .string ⟨#[]⟩, .slice none 0 0, .int .u64 0, .slice none 0 0, .slice none 0 0, .string ⟨#[]⟩, .int .i64 0] #[.slice none 0 0, .int .i64 0, .int .i64 0, .int .i64 0, .int .i64 0] #[.int .i64 0, .bool false, .int .i64 0, .float .f64 0, .string ⟨#[]⟩, .slice none 0 0, .int .u64 0, .slice none 0 0, .slice none 0 0, .string ⟨#[]⟩, .int .i64 0]) := ⟨_, rfl, HS0.out.set 1 (.bool false)⟩
  have qc1 : E0.cell? ⟨w.heap.size + 1, 1, none⟩ = some (.bool false) := by rw [cell_of_row _ _ 1 _ _ _ HS0.out.tbx]; rfl
  have qf1 : E0.frozen? ⟨w.heap.size + 1, 1, none⟩ = false := frozen_of_row _ _ 1 _ _ HS0.out.tbx
  obtain ⟨⟨h0, h1, h2, h3, h4⟩, _⟩ := own5 HG.out.box
  go_wp2_with fail
  refine (HBd.out _ HG.out.bel).mono ?_
  rintro e w1 ⟨rfl, hb⟩
  have HR1 := HG.out.call hb
  have HR1 : Hid _ := HR1
  clear hb HG HS0 e0 e1 e2 e3 e4 h0 h1 h2 h3 h4 q1 qc1 qf1 c0 c1 c2 c3 c4 y0 y1 y2 y3 y4 k1 k2 k3 k4 k5
  obtain ⟨A1, B1, C1, D1, E1, k1, k2, k3, k4, k5, ⟨c0, y0⟩, ⟨c1, y1⟩, ⟨c2, y2⟩, ⟨c3, y3⟩, ⟨c4, y4⟩, hE⟩ := chain5 HR1.out.box (.slice a xs.length cap) (.int .i64 ((at' : Int) + 1)) (.int .i64 (p : Int)) (.int .i64 (at' : Int)) (.int .i64 30)
  have HS1 := HR1.out.put (.slice a xs.length cap) (.int .i64 ((at' : Int) + 1)) (.int .i64 (p : Int)) (.int .i64 (at' : Int)) (.int .i64 30)
  rw [← hE] at HS1
  have HS1 : Hid _ := HS1
  clear hE HR1
  obtain ⟨⟨e0, e1, e2, e3, e4⟩, _⟩ := own5 HS1.out.box
  go_wp2_with fail
  have HD := HS1.out.drew
  have HD : Hid _ := HD
  obtain ⟨V1, V2, V3, V4, V5, l1, l2, l3, l4, l5, ⟨d0, x0⟩, ⟨d1, x1⟩, ⟨d2, x2⟩, ⟨d3, x3⟩, ⟨d4, x4⟩, hV⟩ := chain5 HD.out.res (.slice a xs.length cap) (.int .i64 ((at' : Int) + 1)) (.int .i64 (p : Int)) (.int .i64 (at' : Int)) (.int .i64 30)
  have HV := HD.out.putR (.slice a xs.length cap) (.int .i64 ((at' : Int) + 1)) (.int .i64 (p : Int)) (.int .i64 (at' : Int)) (.int .i64 30)
  rw [← hV] at HV
  have HV : Hid _ := HV
  clear hV
  obtain ⟨U1, U2, U3, U4, U5, U6, U7, U8, U9, U10, U11, m0, m1, m2, m3, m4, m5, m6, m7, m8, m9, m10, ⟨b0, g0⟩, ⟨b1, g1⟩, ⟨b2, g2⟩, ⟨b3, g3⟩, ⟨b4, g4⟩, ⟨b5, g5⟩, ⟨b6, g6⟩, ⟨b7, g7⟩, ⟨b8, g8⟩, ⟨b9, g9⟩, ⟨b10, g10⟩, hU⟩ := chain11 HV.out.ter (.int .i64 2) (.bool false) (.int .i64 0) (.float .f64 0) (.string ⟨#[]⟩) (.slice none 0 0) (.int .u64 0) (.slice none 0 0) (.slice none 0 0) (.string ⟨#[]⟩) (.int .i64 0)
  have HU := HV.out.putT (.int .i64 2) (.bool false) (.int .i64 0) (.float .f64 0) (.string ⟨#[]⟩) (.slice none 0 0) (.int .u64 0) (.slice none 0 0) (.slice none 0 0) (.string ⟨#[]⟩) (.int .i64 0)
  rw [← hU] at HU
  have HU : Hid _ := HU
  clear hU
  have HS0 : Hid _ := HD.out.S
  have HS1 : Hid _ := HV.out.S
  have HS2 : Hid _ := HU.out.S
  go_region_held3 (fun W => (W.cell? ⟨w.heap.size, 0, none⟩ = some (.slice a xs.length cap) ∧ W.cell? ⟨w.heap.size, 1, none⟩ = some (.int .i64 ((at' : Int) + 1)) ∧ W.cell? ⟨w.heap.size, 2, none⟩ = some (.int .i64 (p : Int)) ∧ W.cell? ⟨w.heap.size, 3, none⟩ = some (.int .i64 (at' : Int)) ∧ W.cell? ⟨w.heap.size, 4, none⟩ = some (.int .i64 30)) ∧ (W.cell? ⟨w.heap.size + 1, 0, none⟩ = some (.int .i64 2) ∧ W.cell? ⟨w.heap.size + 1, 1, none⟩ = some (.bool false) ∧ W.cell? ⟨w.heap.size + 1, 2, none⟩ = some (.int .i64 0) ∧ W.cell? ⟨w.heap.size + 1, 3, none⟩ = some (.float .f64 0) ∧ W.cell? ⟨w.heap.size + 1, 4, none⟩ = some (.string ⟨#[]⟩) ∧ W.cell? ⟨w.heap.size + 1, 5, none⟩ = some (.slice none 0 0) ∧ W.cell? ⟨w.heap.size + 1, 6, none⟩ = some (.int .u64 0) ∧ W.cell? ⟨w.heap.size + 1, 7, none⟩ = some (.slice none 0 0) ∧ W.cell? ⟨w.heap.size + 1, 8, none⟩ = some (.slice none 0 0) ∧ W.cell? ⟨w.heap.size + 1, 9, none⟩ = some (.string ⟨#[]⟩) ∧ W.cell? ⟨w.heap.size + 1, 10, none⟩ = some (.int .i64 0)))
    (first | with_reducible exact HS0.out | with_reducible exact HS1.out | with_reducible exact HS2.out)
    (fail)
  go_wp2_with fail
  obtain ⟨⟨r0, r1, r2, r3, r4⟩, _⟩ := own5 HU.out.res
  obtain ⟨s0, s1, s2, s3, s4, s5, s6, s7, s8, s9, s10⟩ := own11 HU.out.ter
  exact bodyPost_ret (v := .tuple #[.agg #[.slice a xs.length cap, .int .i64 ((at' : Int) + 1), .int .i64 (p : Int), .int .i64 (at' : Int), .int .i64 30], .agg #[.int .i64 2, .bool false, .int .i64 0, .float .f64 0, .string ⟨#[]⟩, .slice none 0 0, .int .u64 0, .slice none 0 0, .slice none 0 0, .string ⟨#[]⟩, .int .i64 0]]) (by simp [results, Try.results93, go_sem, r0, r1, r2, r3, r4, s0, s1, s2, s3, s4, s5, s6, s7, s8, s9, s10] <;> rfl) rfl ⟨rfl, HU.out.bel⟩
end Go.Proofs.Ytmmiiapfefmcjaa


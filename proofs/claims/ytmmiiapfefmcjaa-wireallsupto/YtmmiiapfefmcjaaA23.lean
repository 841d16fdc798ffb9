/- The document's reading of a value's body: a ref, an int. -/
import Derived.Test.YtmmiiapfefmcjaaA14
namespace Go.Proofs.Ytmmiiapfefmcjaa
open Go.RowKit

set_option maxRecDepth 100000 in
set_option maxHeartbeats 4000000 in
theorem rgbody_ref (xs : List Int) (hby : By xs) (a : Option Addr) (cap at' p : Nat) (s deep : Int) (w : World) (hrd : RdB w (Lo w.heap.size) a xs) (hln : xs.length ≤ 281474976710656) (v a2 : Nat) (hr : Sp.rn xs at' 10 0 0 = .ok v a2) (hv : v < 18446744073709551616) :
    Calls Try.prog 93 #[.agg #[.slice a xs.length cap, .int .i64 (at' : Int), .int .i64 (p : Int), .int .i64 0, .int .i64 0], .agg #[.int .i64 7, .bool false, .int .i64 0, .float .f64 0, .string ⟨#[]⟩, .slice none 0 0, .int .u64 0, .slice none 0 0, .slice none 0 0, .string ⟨#[]⟩, .int .i64 0], .int .i64 s, .int .i64 deep] w fun e w' => e = .returned (.tuple #[.agg #[.slice a xs.length cap, .int .i64 (a2 : Int), .int .i64 (p : Int), .int .i64 0, .int .i64 0], .agg #[.int .i64 7, .bool false, .int .i64 0, .float .f64 0, .string ⟨#[]⟩, .slice none 0 0, .int .u64 (v : Int), .slice none 0 0, .slice none 0 0, .string ⟨#[]⟩, .int .i64 0]]) ∧ Below w.heap.size w w' := by
  have HNu : Hid (∀ W, Below w.heap.size w W → Calls Try.prog 117 #[.agg #[.slice a xs.length cap, .int .i64 (at' : Int), .int .i64 (p : Int), .int .i64 0, .int .i64 0]] W fun e w' => e = .returned (.tuple #[.agg #[.slice a xs.length cap, .int .i64 (a2 : Int), .int .i64 (p : Int), .int .i64 0, .int .i64 0], .int .u64 (v : Int)]) ∧ Below W.heap.size W w') := fun W hW => rgnum_ok xs hby a cap at' p v a2 W hr (hrd.same (Same.of_below hW (Nat.le_refl _)) (Lo.le hW.size)) hln
  have hw1 : IntKind.u64.wrap (v : Int) = (v : Int) := by rw [IntKind.wrap_u64]; omega
  clear hr hv hrd hln hby
  have HN := R4.new w #[.slice a xs.length cap, .int .i64 (at' : Int), .int .i64 (p : Int), .int .i64 0, .int .i64 0] #[.int .i64 7, .bool false, .int .i64 0, .float .f64 0, .string ⟨#[]⟩, .slice none 0 0, .int .u64 0, .slice none 0 0, .slice none 0 0, .string ⟨#[]⟩, .int .i64 0] #[.slice none 0 0, .int .i64 0, .int .i64 0, .int .i64 0, .int .i64 0] #[.int .i64 0, .bool false, .int .i64 0, .float .f64 0, .string ⟨#[]⟩, .slice none 0 0, .int .u64 0, .slice none 0 0, .slice none 0 0, .string ⟨#[]⟩, .int .i64 0]
  have HN : Hid _ := HN
  go_enter Try.func93, Try.ntmps93
  go_wp2_with fail
  refine (HNu.out _ HN.out.bel).mono ?_
  rintro e w0 ⟨rfl, hb⟩
  have HR0 := HN.out.call hb
  have HR0 : Hid _ := HR0
  clear hb HN 
  obtain ⟨A0, B0, C0, D0, E0, k1, k2, k3, k4, k5, ⟨c0, y0⟩, ⟨c1, y1⟩, ⟨c2, y2⟩, ⟨c3, y3⟩, ⟨c4, y4⟩, hE⟩ := chain5 HR0.out.box (.slice a xs.length cap) (.int .i64 (a2 : Int)) (.int .i64 (p : Int)) (.int .i64 0) (.int .i64 0)
  have HS0 := HR0.out.put (.slice a xs.length cap) (.int .i64 (a2 : Int)) (.int .i64 (p : Int)) (.int .i64 0) (.int .i64 0)
  rw [← hE] at HS0
  have HS0 : Hid _ := HS0
  clear hE HR0
  obtain ⟨⟨e0, e1, e2, e3, e4⟩, _⟩ := own5 HS0.out.box
  obtain ⟨G0, q6, HG⟩ : ∃ G0, E0.setCell ⟨w.heap.size + 1, 6, none⟩ (.int .u64 (v : Int)) = G0 ∧ Hid (R4 w G0 #[.slice a xs.length cap, .int .i64 (a2 : Int), .int .i64 (p : Int), .int .i64 0, .int .i64 0] #[.int .i64 7, .bool false, .int .i64 0, .float .f64 0, .string ⟨#[]⟩, .slice none 0 0, .int .u64 (v : Int), .slice none 0 0, .slice none 0 0, .string ⟨#[]⟩, .int .i64 0] #[.slice none 0 0, .int .i64 0, .int .i64 0, .int .i64 0, .int .i64 0] #[.int .i64 0, .bool false, .int .i64 0, .float .f64 0, .string ⟨#[]⟩, .slice none 0 0, .int .u64 0, .slice none 0 0, .slice none 0 0, .string ⟨#[]⟩, .int .i64 0]) := ⟨_, rfl, HS0.out.set 6 (.int .u64 (v : Int))⟩
  have qc6 : E0.cell? ⟨w.heap.size + 1, 6, none⟩ = some (.int .u64 0) := by rw [cell_of_row _ _ 6 _ _ _ HS0.out.tbx]; rfl
  have qf6 : E0.frozen? ⟨w.heap.size + 1, 6, none⟩ = false := frozen_of_row _ _ 6 _ _ HS0.out.tbx
  obtain ⟨⟨h0, h1, h2, h3, h4⟩, _⟩ := own5 HG.out.box
  go_wp2_with fail
  have HD := HG.out.drew
  have HD : Hid _ := HD
  obtain ⟨V1, V2, V3, V4, V5, l1, l2, l3, l4, l5, ⟨d0, x0⟩, ⟨d1, x1⟩, ⟨d2, x2⟩, ⟨d3, x3⟩, ⟨d4, x4⟩, hV⟩ := chain5 HD.out.res (.slice a xs.length cap) (.int .i64 (a2 : Int)) (.int .i64 (p : Int)) (.int .i64 0) (.int .i64 0)
  have HV := HD.out.putR (.slice a xs.length cap) (.int .i64 (a2 : Int)) (.int .i64 (p : Int)) (.int .i64 0) (.int .i64 0)
  rw [← hV] at HV
  have HV : Hid _ := HV
  clear hV
  obtain ⟨U1, U2, U3, U4, U5, U6, U7, U8, U9, U10, U11, m0, m1, m2, m3, m4, m5, m6, m7, m8, m9, m10, ⟨b0, g0⟩, ⟨b1, g1⟩, ⟨b2, g2⟩, ⟨b3, g3⟩, ⟨b4, g4⟩, ⟨b5, g5⟩, ⟨b6, g6⟩, ⟨b7, g7⟩, ⟨b8, g8⟩, ⟨b9, g9⟩, ⟨b10, g10⟩, hU⟩ := chain11 HV.out.ter (.int .i64 7) (.bool false) (.int .i64 0) (.float .f64 0) (.string ⟨#[]⟩) (.slice none 0 0) (.int .u64 (v : Int)) (.slice none 0 0) (.slice none 0 0) (.string ⟨#[]⟩) (.int .i64 0)
  have HU := HV.out.putT (.int .i64 7) (.bool false) (.int .i64 0) (.float .f64 0) (.string ⟨#[]⟩) (.slice none 0 0) (.int .u64 (v : Int)) (.slice none 0 0) (.slice none 0 0) (.string ⟨#[]⟩) (.int .i64 0)
  rw [← hU] at HU
  have HU : Hid _ := HU
  clear hU
  have HS0 : Hid _ := HD.out.S
  have HS1 : Hid _ := HV.out.S
  have HS2 : Hid _ := HU.out.S
  go_region_held3 (fun W => (W.cell? ⟨w.heap.size, 0, none⟩ = some (.slice a xs.length cap) ∧ W.cell? ⟨w.heap.size, 1, none⟩ = some (.int .i64 (a2 : Int)) ∧ W.cell? ⟨w.heap.size, 2, none⟩ = some (.int .i64 (p : Int)) ∧ W.cell? ⟨w.heap.size, 3, none⟩ = some (.int .i64 0) ∧ W.cell? ⟨w.heap.size, 4, none⟩ = some (.int .i64 0)) ∧ (W.cell? ⟨w.heap.size + 1, 0, none⟩ = some (.int .i64 7) ∧ W.cell? ⟨w.heap.size + 1, 1, none⟩ = some (.bool false) ∧ W.cell? ⟨w.heap.size + 1, 2, none⟩ = some (.int .i64 0) ∧ W.cell? ⟨w.heap.size + 1, 3, none⟩ = some (.float .f64 0) ∧ W.cell? ⟨w.heap.size + 1, 4, none⟩ = some (.string ⟨#[]⟩) ∧ W.cell? ⟨w.heap.size + 1, 5, none⟩ = some (.slice none 0 0) ∧ W.cell? ⟨w.heap.size + 1, 6, none⟩ = some (.int .u64 (v : Int)) ∧ W.cell? ⟨w.heap.size + 1, 7, none⟩ = some (.slice none 0 0) ∧ W.cell? ⟨w.heap.size + 1, 8, none⟩ = some (.slice none 0 0) ∧ W.cell? ⟨w.heap.size + 1, 9, none⟩ = some (.string ⟨#[]⟩) ∧ W.cell? ⟨w.heap.size + 1, 10, none⟩ = some (.int .i64 0)))
    (first | with_reducible exact HS0.out | with_reducible exact HS1.out | with_reducible exact HS2.out)
    (fail)
  go_wp2_with fail
  obtain ⟨⟨r0, r1, r2, r3, r4⟩, _⟩ := own5 HU.out.res
  obtain ⟨s0, s1, s2, s3, s4, s5, s6, s7, s8, s9, s10⟩ := own11 HU.out.ter
  exact bodyPost_ret (v := .tuple #[.agg #[.slice a xs.length cap, .int .i64 (a2 : Int), .int .i64 (p : Int), .int .i64 0, .int .i64 0], .agg #[.int .i64 7, .bool false, .int .i64 0, .float .f64 0, .string ⟨#[]⟩, .slice none 0 0, .int .u64 (v : Int), .slice none 0 0, .slice none 0 0, .string ⟨#[]⟩, .int .i64 0]]) (by simp [results, Try.results93, go_sem, r0, r1, r2, r3, r4, s0, s1, s2, s3, s4, s5, s6, s7, s8, s9, s10] <;> rfl) rfl ⟨rfl, HU.out.bel⟩
set_option maxRecDepth 100000 in
set_option maxHeartbeats 4000000 in
theorem rgbody_ref_bad (xs : List Int) (hby : By xs) (a : Option Addr) (cap at' p : Nat) (s deep : Int) (w : World) (hrd : RdB w (Lo w.heap.size) a xs) (hln : xs.length ≤ 281474976710656) (q : Nat) (er : Int) (hr : Sp.rn xs at' 10 0 0 = .bad q er) (hle : at' ≤ xs.length) :
    Calls Try.prog 93 #[.agg #[.slice a xs.length cap, .int .i64 (at' : Int), .int .i64 (p : Int), .int .i64 0, .int .i64 0], .agg #[.int .i64 7, .bool false, .int .i64 0, .float .f64 0, .string ⟨#[]⟩, .slice none 0 0, .int .u64 0, .slice none 0 0, .slice none 0 0, .string ⟨#[]⟩, .int .i64 0], .int .i64 s, .int .i64 deep] w fun e w' => ∃ at2 : Nat, e = .returned (.tuple #[.agg #[.slice a xs.length cap, .int .i64 (at2 : Int), .int .i64 (p : Int), .int .i64 (q : Int), .int .i64 er], .agg #[.int .i64 7, .bool false, .int .i64 0, .float .f64 0, .string ⟨#[]⟩, .slice none 0 0, .int .u64 0, .slice none 0 0, .slice none 0 0, .string ⟨#[]⟩, .int .i64 0]]) ∧ Below w.heap.size w w' := by
  have HNu : Hid (∀ W, Below w.heap.size w W → Calls Try.prog 117 #[.agg #[.slice a xs.length cap, .int .i64 (at' : Int), .int .i64 (p : Int), .int .i64 0, .int .i64 0]] W fun e w' => ∃ at2 : Nat, e = .returned (.tuple #[.agg #[.slice a xs.length cap, .int .i64 (at2 : Int), .int .i64 (p : Int), .int .i64 (q : Int), .int .i64 er], .int .u64 0]) ∧ Below W.heap.size W w') := fun W hW => rgnum_bad xs hby a cap at' p q er W hr hle (hrd.same (Same.of_below hW (Nat.le_refl _)) (Lo.le hW.size)) hln
  clear hr hle hrd hln hby
  have HN := R4.new w #[.slice a xs.length cap, .int .i64 (at' : Int), .int .i64 (p : Int), .int .i64 0, .int .i64 0] #[.int .i64 7, .bool false, .int .i64 0, .float .f64 0, .string ⟨#[]⟩, .slice none 0 0, .int .u64 0, .slice none 0 0, .slice none 0 0, .string ⟨#[]⟩, .int .i64 0] #[.slice none 0 0, .int .i64 0, .int .i64 0, .int .i64 0, .int .i64 0] #[.int .i64 0, .bool false, .int .i64 0, .float .f64 0, .string ⟨#[]⟩, .slice none 0 0, .int .u64 0, .slice none 0 0, .slice none 0 0, .string ⟨#[]⟩, .int .i64 0]
  have HN : Hid _ := HN
  go_enter Try.func93, Try.ntmps93
  go_wp2_with fail
  refine (HNu.out _ HN.out.bel).mono ?_
  rintro e w0 ⟨at2, rfl, hb⟩
  have HR0 := HN.out.call hb
  have HR0 : Hid _ := HR0
  clear hb HN 
  obtain ⟨A0, B0, C0, D0, E0, k1, k2, k3, k4, k5, ⟨c0, y0⟩, ⟨c1, y1⟩, ⟨c2, y2⟩, ⟨c3, y3⟩, ⟨c4, y4⟩, hE⟩ := chain5 HR0.out.box (.slice a xs.length cap) (.int .i64 (at2 : Int)) (.int .i64 (p : Int)) (.int .i64 (q : Int)) (.int .i64 er)
  have HS0 := HR0.out.put (.slice a xs.length cap) (.int .i64 (at2 : Int)) (.int .i64 (p : Int)) (.int .i64 (q : Int)) (.int .i64 er)
  rw [← hE] at HS0
  have HS0 : Hid _ := HS0
  clear hE HR0
  obtain ⟨⟨e0, e1, e2, e3, e4⟩, _⟩ := own5 HS0.out.box
  obtain ⟨G0, q6, HG⟩ : ∃ G0, E0.setCell ⟨w.heap.size + 1, 6, none⟩ (.int .u64 0) = G0 ∧ Hid (R4 w G0 #[.slice a xs.length cap, .int .i64 (at2 : Int), .int .i64 (p : Int), .int .i64 (q : Int), .int .i64 er] #[.int .i64 7, .bool false, .int .i64 0, .float .f64 0, .string ⟨#[]⟩, .slice none 0 0, .int .u64 0, .slice none 0 0, .slice none 0 0, .string ⟨#[]⟩, .int .i64 0] #[.slice none 0 0, .int .i64 0, .int .i64 0, .int .i64 0, .int .i64 0] #[.int .i64 0, .bool false, .int .i64 0, .float .f64 0, .string ⟨#[]⟩, .slice none 0 0, .int .u64 0, .slice none 0 0, .slice none 0 0, .string ⟨#[]⟩, .int .i64 0]) := ⟨_, rfl, HS0.out.set 6 (.int .u64 0)⟩
  have qc6 : E0.cell? ⟨w.heap.size + 1, 6, none⟩ = some (.int .u64 0) := by rw [cell_of_row _ _ 6 _ _ _ HS0.out.tbx]; rfl
  have qf6 : E0.frozen? ⟨w.heap.size + 1, 6, none⟩ = false := frozen_of_row _ _ 6 _ _ HS0.out.tbx
  obtain ⟨⟨h0, h1, h2, h3, h4⟩, _⟩ := own5 HG.out.box
  go_wp2_with fail
  have HD := HG.out.drew
  have HD : Hid _ := HD
  obtain ⟨V1, V2, V3, V4, V5, l1, l2, l3, l4, l5, ⟨d0, x0⟩, ⟨d1, x1⟩, ⟨d2, x2⟩, ⟨d3, x3⟩, ⟨d4, x4⟩, hV⟩ := chain5 HD.out.res (.slice a xs.length cap) (.int .i64 (at2 : Int)) (.int .i64 (p : Int)) (.int .i64 (q : Int)) (.int .i64 er)
  have HV := HD.out.putR (.slice a xs.length cap) (.int .i64 (at2 : Int)) (.int .i64 (p : Int)) (.int .i64 (q : Int)) (.int .i64 er)
  rw [← hV] at HV
  have HV : Hid _ := HV
  clear hV
  obtain ⟨U1, U2, U3, U4, U5, U6, U7, U8, U9, U10, U11, m0, m1, m2, m3, m4, m5, m6, m7, m8, m9, m10, ⟨b0, g0⟩, ⟨b1, g1⟩, ⟨b2, g2⟩, ⟨b3, g3⟩, ⟨b4, g4⟩, ⟨b5, g5⟩, ⟨b6, g6⟩, ⟨b7, g7⟩, ⟨b8, g8⟩, ⟨b9, g9⟩, ⟨b10, g10⟩, hU⟩ := chain11 HV.out.ter (.int .i64 7) (.bool false) (.int .i64 0) (.float .f64 0) (.string ⟨#[]⟩) (.slice none 0 0) (.int .u64 0) (.slice none 0 0) (.slice none 0 0) (.string ⟨#[]⟩) (.int .i64 0)
  have HU := HV.out.putT (.int .i64 7) (.bool false) (.int .i64 0) (.float .f64 0) (.string ⟨#[]⟩) (.slice none 0 0) (.int .u64 0) (.slice none 0 0) (.slice none 0 0) (.string ⟨#[]⟩) (.int .i64 0)
  rw [← hU] at HU
  have HU : Hid _ := HU
  clear hU
  have HS0 : Hid _ := HD.out.S
  have HS1 : Hid _ := HV.out.S
  have HS2 : Hid _ := HU.out.S
  go_region_held3 (fun W => (W.cell? ⟨w.heap.size, 0, none⟩ = some (.slice a xs.length cap) ∧ W.cell? ⟨w.heap.size, 1, none⟩ = some (.int .i64 (at2 : Int)) ∧ W.cell? ⟨w.heap.size, 2, none⟩ = some (.int .i64 (p : Int)) ∧ W.cell? ⟨w.heap.size, 3, none⟩ = some (.int .i64 (q : Int)) ∧ W.cell? ⟨w.heap.size, 4, none⟩ = some (.int .i64 er)) ∧ (W.cell? ⟨w.heap.size + 1, 0, none⟩ = some (.int .i64 7) ∧ W.cell? ⟨w.heap.size + 1, 1, none⟩ = some (.bool false) ∧ W.cell? ⟨w.heap.size + 1, 2, none⟩ = some (.int .i64 0) ∧ W.cell? ⟨w.heap.size + 1, 3, none⟩ = some (.float .f64 0) ∧ W.cell? ⟨w.heap.size + 1, 4, none⟩ = some (.string ⟨#[]⟩) ∧ W.cell? ⟨w.heap.size + 1, 5, none⟩ = some (.slice none 0 0) ∧ W.cell? ⟨w.heap.size + 1, 6, none⟩ = some (.int .u64 0) ∧ W.cell? ⟨w.heap.size + 1, 7, none⟩ = some (.slice none 0 0) ∧ W.cell? ⟨w.heap.size + 1, 8, none⟩ = some (.slice none 0 0) ∧ W.cell? ⟨w.heap.size + 1, 9, none⟩ = some (.string ⟨#[]⟩) ∧ W.cell? ⟨w.heap.size + 1, 10, none⟩ = some (.int .i64 0)))
    (first | with_reducible exact HS0.out | with_reducible exact HS1.out | with_reducible exact HS2.out)
    (fail)
  go_wp2_with fail
  obtain ⟨⟨r0, r1, r2, r3, r4⟩, _⟩ := own5 HU.out.res
  obtain ⟨s0, s1, s2, s3, s4, s5, s6, s7, s8, s9, s10⟩ := own11 HU.out.ter
  exact bodyPost_ret (v := .tuple #[.agg #[.slice a xs.length cap, .int .i64 (at2 : Int), .int .i64 (p : Int), .int .i64 (q : Int), .int .i64 er], .agg #[.int .i64 7, .bool false, .int .i64 0, .float .f64 0, .string ⟨#[]⟩, .slice none 0 0, .int .u64 0, .slice none 0 0, .slice none 0 0, .string ⟨#[]⟩, .int .i64 0]]) (by simp [results, Try.results93, go_sem, r0, r1, r2, r3, r4, s0, s1, s2, s3, s4, s5, s6, s7, s8, s9, s10] <;> rfl) rfl ⟨at2, rfl, HU.out.bel⟩
set_option maxRecDepth 100000 in
set_option maxHeartbeats 4000000 in
theorem rgbody_int0 (xs : List Int) (hby : By xs) (a : Option Addr) (cap at' p : Nat) (s deep : Int) (w : World) (hrd : RdB w (Lo w.heap.size) a xs) (hln : xs.length ≤ 281474976710656) (v a2 : Nat) (hr : Sp.rn xs at' 10 0 0 = .ok v a2) (hv : v < 18446744073709551616) (hm : v % 2 = 0) :
    Calls Try.prog 93 #[.agg #[.slice a xs.length cap, .int .i64 (at' : Int), .int .i64 (p : Int), .int .i64 0, .int .i64 0], .agg #[.int .i64 3, .bool false, .int .i64 0, .float .f64 0, .string ⟨#[]⟩, .slice none 0 0, .int .u64 0, .slice none 0 0, .slice none 0 0, .string ⟨#[]⟩, .int .i64 0], .int .i64 s, .int .i64 deep] w fun e w' => e = .returned (.tuple #[.agg #[.slice a xs.length cap, .int .i64 (a2 : Int), .int .i64 (p : Int), .int .i64 0, .int .i64 0], .agg #[.int .i64 3, .bool false, .int .i64 (Sp.unfold' v), .float .f64 0, .string ⟨#[]⟩, .slice none 0 0, .int .u64 0, .slice none 0 0, .slice none 0 0, .string ⟨#[]⟩, .int .i64 0]]) ∧ Below w.heap.size w w' := by
  have HNu : Hid (∀ W, Below w.heap.size w W → Calls Try.prog 117 #[.agg #[.slice a xs.length cap, .int .i64 (at' : Int), .int .i64 (p : Int), .int .i64 0, .int .i64 0]] W fun e w' => e = .returned (.tuple #[.agg #[.slice a xs.length cap, .int .i64 (a2 : Int), .int .i64 (p : Int), .int .i64 0, .int .i64 0], .int .u64 (v : Int)]) ∧ Below W.heap.size W w') := fun W hW => rgnum_ok xs hby a cap at' p v a2 W hr (hrd.same (Same.of_below hW (Nat.le_refl _)) (Lo.le hW.size)) hln
  have hd1 : Int.tdiv (v : Int) 2 = (v : Int) / 2 := Int.tdiv_eq_ediv_of_nonneg (Int.natCast_nonneg _)
  have hd2 : Int.tmod (v : Int) 2 = (v : Int) % 2 := Int.tmod_eq_emod_of_nonneg (Int.natCast_nonneg _)
  obtain ⟨H, HH⟩ : ∃ H : Int, (v : Int) / 2 = H := ⟨_, rfl⟩
  have hH0 : 0 ≤ H := by omega
  have hH1 : H < 9223372036854775808 := by omega
  have hw1 : IntKind.u64.wrap H = H := by rw [IntKind.wrap_u64]; omega
  have hw2 : IntKind.i64.wrap H = H := by rw [IntKind.wrap_i64]; omega
  have hw3 : wrap64 H = H := by unfold wrap64; omega
  have hm1 : ((v : Int) % 2 == 1) = false := by simp; omega
  have HX : Hid (Sp.unfold' v = H) := by show Sp.unfold' v = H; unfold Sp.unfold'; rw [if_neg (by omega)]; omega
  clear hr hv hrd hln hby hm hH0 hH1
  have HN := R4.new w #[.slice a xs.length cap, .int .i64 (at' : Int), .int .i64 (p : Int), .int .i64 0, .int .i64 0] #[.int .i64 3, .bool false, .int .i64 0, .float .f64 0, .string ⟨#[]⟩, .slice none 0 0, .int .u64 0, .slice none 0 0, .slice none 0 0, .string ⟨#[]⟩, .int .i64 0] #[.slice none 0 0, .int .i64 0, .int .i64 0, .int .i64 0, .int .i64 0] #[.int .i64 0, .bool false, .int .i64 0, .float .f64 0, .string ⟨#[]⟩, .slice none 0 0, .int .u64 0, .slice none 0 0, .slice none 0 0, .string ⟨#[]⟩, .int .i64 0]
  have HN : Hid _ := HN
  go_enter Try.func93, Try.ntmps93
  go_wp2_with fail
  refine (HNu.out _ HN.out.bel).mono ?_
  rintro e w0 ⟨rfl, hb⟩
  have HR0 := HN.out.call hb
  have HR0 : Hid _ := HR0
  clear hb HN 
  obtain ⟨A0, B0, C0, D0, E0, k1, k2, k3, k4, k5, ⟨c0, y0⟩, ⟨c1, y1⟩, ⟨c2, y2⟩, ⟨c3, y3⟩, ⟨c4, y4⟩, hE⟩ := chain5 HR0.out.box (.slice a xs.length cap) (.int .i64 (a2 : Int)) (.int .i64 (p : Int)) (.int .i64 0) (.int .i64 0)
  have HS0 := HR0.out.put (.slice a xs.length cap) (.int .i64 (a2 : Int)) (.int .i64 (p : Int)) (.int .i64 0) (.int .i64 0)
  rw [← hE] at HS0
  have HS0 : Hid _ := HS0
  clear hE HR0
  obtain ⟨⟨e0, e1, e2, e3, e4⟩, _⟩ := own5 HS0.out.box
  obtain ⟨G0, q2, HG⟩ : ∃ G0, E0.setCell ⟨w.heap.size + 1, 2, none⟩ (.int .i64 H) = G0 ∧ Hid (R4 w G0 #[.slice a xs.length cap, .int .i64 (a2 : Int), .int .i64 (p : Int), .int .i64 0, .int .i64 0] #[.int .i64 3, .bool false, .int .i64 H, .float .f64 0, .string ⟨#[]⟩, .slice none 0 0, .int .u64 0, .slice none 0 0, .slice none 0 0, .string ⟨#[]⟩, .int .i64 0] #[.slice none 0 0, .int .i64 0, .int .i64 0, .int .i64 0, .int .i64 0] #[.int .i64 0, .bool false, .int .i64 0, .float .f64 0, .string ⟨#[]⟩, .slice none 0 0, .int .u64 0, .slice none 0 0, .slice none 0 0, .string ⟨#[]⟩, .int .i64 0]) := ⟨_, rfl, HS0.out.set 2 (.int .i64 H)⟩
  have qc2 : E0.cell? ⟨w.heap.size + 1, 2, none⟩ = some (.int .i64 0) := by rw [cell_of_row _ _ 2 _ _ _ HS0.out.tbx]; rfl
  have qf2 : E0.frozen? ⟨w.heap.size + 1, 2, none⟩ = false := frozen_of_row _ _ 2 _ _ HS0.out.tbx
  obtain ⟨⟨h0, h1, h2, h3, h4⟩, _⟩ := own5 HG.out.box
  go_wp2_with fail
  have HD := HG.out.drew
  have HD : Hid _ := HD
  obtain ⟨V1, V2, V3, V4, V5, l1, l2, l3, l4, l5, ⟨d0, x0⟩, ⟨d1, x1⟩, ⟨d2, x2⟩, ⟨d3, x3⟩, ⟨d4, x4⟩, hV⟩ := chain5 HD.out.res (.slice a xs.length cap) (.int .i64 (a2 : Int)) (.int .i64 (p : Int)) (.int .i64 0) (.int .i64 0)
  have HV := HD.out.putR (.slice a xs.length cap) (.int .i64 (a2 : Int)) (.int .i64 (p : Int)) (.int .i64 0) (.int .i64 0)
  rw [← hV] at HV
  have HV : Hid _ := HV
  clear hV
  obtain ⟨U1, U2, U3, U4, U5, U6, U7, U8, U9, U10, U11, m0, m1, m2, m3, m4, m5, m6, m7, m8, m9, m10, ⟨b0, g0⟩, ⟨b1, g1⟩, ⟨b2, g2⟩, ⟨b3, g3⟩, ⟨b4, g4⟩, ⟨b5, g5⟩, ⟨b6, g6⟩, ⟨b7, g7⟩, ⟨b8, g8⟩, ⟨b9, g9⟩, ⟨b10, g10⟩, hU⟩ := chain11 HV.out.ter (.int .i64 3) (.bool false) (.int .i64 H) (.float .f64 0) (.string ⟨#[]⟩) (.slice none 0 0) (.int .u64 0) (.slice none 0 0) (.slice none 0 0) (.string ⟨#[]⟩) (.int .i64 0)
  have HU := HV.out.putT (.int .i64 3) (.bool false) (.int .i64 H) (.float .f64 0) (.string ⟨#[]⟩) (.slice none 0 0) (.int .u64 0) (.slice none 0 0) (.slice none 0 0) (.string ⟨#[]⟩) (.int .i64 0)
  rw [← hU] at HU
  have HU : Hid _ := HU
  clear hU
  have HS0 : Hid _ := HD.out.S
  have HS1 : Hid _ := HV.out.S
  have HS2 : Hid _ := HU.out.S
  go_region_held3 (fun W => (W.cell? ⟨w.heap.size, 0, none⟩ = some (.slice a xs.length cap) ∧ W.cell? ⟨w.heap.size, 1, none⟩ = some (.int .i64 (a2 : Int)) ∧ W.cell? ⟨w.heap.size, 2, none⟩ = some (.int .i64 (p : Int)) ∧ W.cell? ⟨w.heap.size, 3, none⟩ = some (.int .i64 0) ∧ W.cell? ⟨w.heap.size, 4, none⟩ = some (.int .i64 0)) ∧ (W.cell? ⟨w.heap.size + 1, 0, none⟩ = some (.int .i64 3) ∧ W.cell? ⟨w.heap.size + 1, 1, none⟩ = some (.bool false) ∧ W.cell? ⟨w.heap.size + 1, 2, none⟩ = some (.int .i64 H) ∧ W.cell? ⟨w.heap.size + 1, 3, none⟩ = some (.float .f64 0) ∧ W.cell? ⟨w.heap.size + 1, 4, none⟩ = some (.string ⟨#[]⟩) ∧ W.cell? ⟨w.heap.size + 1, 5, none⟩ = some (.slice none 0 0) ∧ W.cell? ⟨w.heap.size + 1, 6, none⟩ = some (.int .u64 0) ∧ W.cell? ⟨w.heap.size + 1, 7, none⟩ = some (.slice none 0 0) ∧ W.cell? ⟨w.heap.size + 1, 8, none⟩ = some (.slice none 0 0) ∧ W.cell? ⟨w.heap.size + 1, 9, none⟩ = some (.string ⟨#[]⟩) ∧ W.cell? ⟨w.heap.size + 1, 10, none⟩ = some (.int .i64 0)))
    (first | with_reducible exact HS0.out | with_reducible exact HS1.out | with_reducible exact HS2.out)
    (fail)
  go_wp2_with fail
  obtain ⟨⟨r0, r1, r2, r3, r4⟩, _⟩ := own5 HU.out.res
  obtain ⟨s0, s1, s2, s3, s4, s5, s6, s7, s8, s9, s10⟩ := own11 HU.out.ter
  exact bodyPost_ret (v := .tuple #[.agg #[.slice a xs.length cap, .int .i64 (a2 : Int), .int .i64 (p : Int), .int .i64 0, .int .i64 0], .agg #[.int .i64 3, .bool false, .int .i64 H, .float .f64 0, .string ⟨#[]⟩, .slice none 0 0, .int .u64 0, .slice none 0 0, .slice none 0 0, .string ⟨#[]⟩, .int .i64 0]]) (by simp [results, Try.results93, go_sem, r0, r1, r2, r3, r4, s0, s1, s2, s3, s4, s5, s6, s7, s8, s9, s10] <;> rfl) rfl ⟨by rw [HX.out], HU.out.bel⟩
set_option maxRecDepth 100000 in
set_option maxHeartbeats 4000000 in
theorem rgbody_int1 (xs : List Int) (hby : By xs) (a : Option Addr) (cap at' p : Nat) (s deep : Int) (w : World) (hrd : RdB w (Lo w.heap.size) a xs) (hln : xs.length ≤ 281474976710656) (v a2 : Nat) (hr : Sp.rn xs at' 10 0 0 = .ok v a2) (hv : v < 18446744073709551616) (hm : v % 2 = 1) :
    Calls Try.prog 93 #[.agg #[.slice a xs.length cap, .int .i64 (at' : Int), .int .i64 (p : Int), .int .i64 0, .int .i64 0], .agg #[.int .i64 3, .bool false, .int .i64 0, .float .f64 0, .string ⟨#[]⟩, .slice none 0 0, .int .u64 0, .slice none 0 0, .slice none 0 0, .string ⟨#[]⟩, .int .i64 0], .int .i64 s, .int .i64 deep] w fun e w' => e = .returned (.tuple #[.agg #[.slice a xs.length cap, .int .i64 (a2 : Int), .int .i64 (p : Int), .int .i64 0, .int .i64 0], .agg #[.int .i64 3, .bool false, .int .i64 (Sp.unfold' v), .float .f64 0, .string ⟨#[]⟩, .slice none 0 0, .int .u64 0, .slice none 0 0, .slice none 0 0, .string ⟨#[]⟩, .int .i64 0]]) ∧ Below w.heap.size w w' := by
  have HNu : Hid (∀ W, Below w.heap.size w W → Calls Try.prog 117 #[.agg #[.slice a xs.length cap, .int .i64 (at' : Int), .int .i64 (p : Int), .int .i64 0, .int .i64 0]] W fun e w' => e = .returned (.tuple #[.agg #[.slice a xs.length cap, .int .i64 (a2 : Int), .int .i64 (p : Int), .int .i64 0, .int .i64 0], .int .u64 (v : Int)]) ∧ Below W.heap.size W w') := fun W hW => rgnum_ok xs hby a cap at' p v a2 W hr (hrd.same (Same.of_below hW (Nat.le_refl _)) (Lo.le hW.size)) hln
  have hd1 : Int.tdiv (v : Int) 2 = (v : Int) / 2 := Int.tdiv_eq_ediv_of_nonneg (Int.natCast_nonneg _)
  have hd2 : Int.tmod (v : Int) 2 = (v : Int) % 2 := Int.tmod_eq_emod_of_nonneg (Int.natCast_nonneg _)
  obtain ⟨H, HH⟩ : ∃ H : Int, (v : Int) / 2 = H := ⟨_, rfl⟩
  have hH0 : 0 ≤ H := by omega
  have hH1 : H < 9223372036854775808 := by omega
  have hw1 : IntKind.u64.wrap H = H := by rw [IntKind.wrap_u64]; omega
  have hw2 : IntKind.i64.wrap H = H := by rw [IntKind.wrap_i64]; omega
  have hw3 : wrap64 H = H := by unfold wrap64; omega
  have hm1 : ((v : Int) % 2 == 1) = true := by simp; omega
  have hw4 : IntKind.i64.wrap (-H) = -H := by rw [IntKind.wrap_i64]; omega
  have hw5 : wrap64 (-H) = -H := by unfold wrap64; omega
  have hw6 : IntKind.i64.wrap (-H - 1) = -H - 1 := by rw [IntKind.wrap_i64]; omega
  have hw7 : wrap64 (-H - 1) = -H - 1 := by unfold wrap64; omega
  have HX : Hid (Sp.unfold' v = -H - 1) := by show Sp.unfold' v = -H - 1; unfold Sp.unfold'; rw [if_pos (by omega)]; omega
  clear hr hv hrd hln hby hm hH0 hH1
  have HN := R4.new w #[.slice a xs.length cap, .int .i64 (at' : Int), .int .i64 (p : Int), .int .i64 0, .int .i64 0] #[.int .i64 3, .bool false, .int .i64 0, .float .f64 0, .string ⟨#[]⟩, .slice none 0 0, .int .u64 0, .slice none 0 0, .slice none 0 0, .string ⟨#[]⟩, .int .i64 0] #[.slice none 0 0, .int .i64 0, .int .i64 0, .int .i64 0, .int .i64 0] #[.int .i64 0, .bool false, .int .i64 0, .float .f64 0, .string ⟨#[]⟩, .slice none 0 0, .int .u64 0, .slice none 0 0, .slice none 0 0, .string ⟨#[]⟩, .int .i64 0]
  have HN : Hid _ := HN
  go_enter Try.func93, Try.ntmps93
  go_wp2_with fail
  refine (HNu.out _ HN.out.bel).mono ?_
  rintro e w0 ⟨rfl, hb⟩
  have HR0 := HN.out.call hb
  have HR0 : Hid _ := HR0
  clear hb HN 
  obtain ⟨A0, B0, C0, D0, E0, k1, k2, k3, k4, k5, ⟨c0, y0⟩, ⟨c1, y1⟩, ⟨c2, y2⟩, ⟨c3, y3⟩, ⟨c4, y4⟩, hE⟩ := chain5 HR0.out.box (.slice a xs.length cap) (.int .i64 (a2 : Int)) (.int .i64 (p : Int)) (.int .i64 0) (.int .i64 0)
  have HS0 := HR0.out.put (.slice a xs.length cap) (.int .i64 (a2 : Int)) (.int .i64 (p : Int)) (.int .i64 0) (.int .i64 0)
  rw [← hE] at HS0
  have HS0 : Hid _ := HS0
  clear hE HR0
  obtain ⟨⟨e0, e1, e2, e3, e4⟩, _⟩ := own5 HS0.out.box
  obtain ⟨G0, q2, HG⟩ : ∃ G0, E0.setCell ⟨w.heap.size + 1, 2, none⟩ (.int .i64 H) = G0 ∧ Hid (R4 w G0 #[.slice a xs.length cap, .int .i64 (a2 : Int), .int .i64 (p : Int), .int .i64 0, .int .i64 0] #[.int .i64 3, .bool false, .int .i64 H, .float .f64 0, .string ⟨#[]⟩, .slice none 0 0, .int .u64 0, .slice none 0 0, .slice none 0 0, .string ⟨#[]⟩, .int .i64 0] #[.slice none 0 0, .int .i64 0, .int .i64 0, .int .i64 0, .int .i64 0] #[.int .i64 0, .bool false, .int .i64 0, .float .f64 0, .string ⟨#[]⟩, .slice none 0 0, .int .u64 0, .slice none 0 0, .slice none 0 0, .string ⟨#[]⟩, .int .i64 0]) := ⟨_, rfl, HS0.out.set 2 (.int .i64 H)⟩
  have qc2 : E0.cell? ⟨w.heap.size + 1, 2, none⟩ = some (.int .i64 0) := by rw [cell_of_row _ _ 2 _ _ _ HS0.out.tbx]; rfl
  have qf2 : E0.frozen? ⟨w.heap.size + 1, 2, none⟩ = false := frozen_of_row _ _ 2 _ _ HS0.out.tbx
  obtain ⟨⟨h0, h1, h2, h3, h4⟩, _⟩ := own5 HG.out.box
  obtain ⟨G1, p2, HG1⟩ : ∃ G1, G0.setCell ⟨w.heap.size + 1, 2, none⟩ (.int .i64 (-H - 1)) = G1 ∧ Hid (R4 w G1 #[.slice a xs.length cap, .int .i64 (a2 : Int), .int .i64 (p : Int), .int .i64 0, .int .i64 0] #[.int .i64 3, .bool false, .int .i64 (-H - 1), .float .f64 0, .string ⟨#[]⟩, .slice none 0 0, .int .u64 0, .slice none 0 0, .slice none 0 0, .string ⟨#[]⟩, .int .i64 0] #[.slice none 0 0, .int .i64 0, .int .i64 0, .int .i64 0, .int .i64 0] #[.int .i64 0, .bool false, .int .i64 0, .float .f64 0, .string ⟨#[]⟩, .slice none 0 0, .int .u64 0, .slice none 0 0, .slice none 0 0, .string ⟨#[]⟩, .int .i64 0]) := ⟨_, rfl, HG.out.set 2 (.int .i64 (-H - 1))⟩
  have pc2 : G0.cell? ⟨w.heap.size + 1, 2, none⟩ = some (.int .i64 H) := by rw [cell_of_row _ _ 2 _ _ _ HG.out.tbx]; rfl
  have pf2 : G0.frozen? ⟨w.heap.size + 1, 2, none⟩ = false := frozen_of_row _ _ 2 _ _ HG.out.tbx
  obtain ⟨⟨i0, i1, i2, i3, i4⟩, _⟩ := own5 HG1.out.box
  go_wp2_with fail
  have HD := HG1.out.drew
  have HD : Hid _ := HD
  obtain ⟨V1, V2, V3, V4, V5, l1, l2, l3, l4, l5, ⟨d0, x0⟩, ⟨d1, x1⟩, ⟨d2, x2⟩, ⟨d3, x3⟩, ⟨d4, x4⟩, hV⟩ := chain5 HD.out.res (.slice a xs.length cap) (.int .i64 (a2 : Int)) (.int .i64 (p : Int)) (.int .i64 0) (.int .i64 0)
  have HV := HD.out.putR (.slice a xs.length cap) (.int .i64 (a2 : Int)) (.int .i64 (p : Int)) (.int .i64 0) (.int .i64 0)
  rw [← hV] at HV
  have HV : Hid _ := HV
  clear hV
  obtain ⟨U1, U2, U3, U4, U5, U6, U7, U8, U9, U10, U11, m0, m1, m2, m3, m4, m5, m6, m7, m8, m9, m10, ⟨b0, g0⟩, ⟨b1, g1⟩, ⟨b2, g2⟩, ⟨b3, g3⟩, ⟨b4, g4⟩, ⟨b5, g5⟩, ⟨b6, g6⟩, ⟨b7, g7⟩, ⟨b8, g8⟩, ⟨b9, g9⟩, ⟨b10, g10⟩, hU⟩ := chain11 HV.out.ter (.int .i64 3) (.bool false) (.int .i64 (-H - 1)) (.float .f64 0) (.string ⟨#[]⟩) (.slice none 0 0) (.int .u64 0) (.slice none 0 0) (.slice none 0 0) (.string ⟨#[]⟩) (.int .i64 0)
  have HU := HV.out.putT (.int .i64 3) (.bool false) (.int .i64 (-H - 1)) (.float .f64 0) (.string ⟨#[]⟩) (.slice none 0 0) (.int .u64 0) (.slice none 0 0) (.slice none 0 0) (.string ⟨#[]⟩) (.int .i64 0)
  rw [← hU] at HU
  have HU : Hid _ := HU
  clear hU
  have HS0 : Hid _ := HD.out.S
  have HS1 : Hid _ := HV.out.S
  have HS2 : Hid _ := HU.out.S
  go_region_held3 (fun W => (W.cell? ⟨w.heap.size, 0, none⟩ = some (.slice a xs.length cap) ∧ W.cell? ⟨w.heap.size, 1, none⟩ = some (.int .i64 (a2 : Int)) ∧ W.cell? ⟨w.heap.size, 2, none⟩ = some (.int .i64 (p : Int)) ∧ W.cell? ⟨w.heap.size, 3, none⟩ = some (.int .i64 0) ∧ W.cell? ⟨w.heap.size, 4, none⟩ = some (.int .i64 0)) ∧ (W.cell? ⟨w.heap.size + 1, 0, none⟩ = some (.int .i64 3) ∧ W.cell? ⟨w.heap.size + 1, 1, none⟩ = some (.bool false) ∧ W.cell? ⟨w.heap.size + 1, 2, none⟩ = some (.int .i64 (-H - 1)) ∧ W.cell? ⟨w.heap.size + 1, 3, none⟩ = some (.float .f64 0) ∧ W.cell? ⟨w.heap.size + 1, 4, none⟩ = some (.string ⟨#[]⟩) ∧ W.cell? ⟨w.heap.size + 1, 5, none⟩ = some (.slice none 0 0) ∧ W.cell? ⟨w.heap.size + 1, 6, none⟩ = some (.int .u64 0) ∧ W.cell? ⟨w.heap.size + 1, 7, none⟩ = some (.slice none 0 0) ∧ W.cell? ⟨w.heap.size + 1, 8, none⟩ = some (.slice none 0 0) ∧ W.cell? ⟨w.heap.size + 1, 9, none⟩ = some (.string ⟨#[]⟩) ∧ W.cell? ⟨w.heap.size + 1, 10, none⟩ = some (.int .i64 0)))
    (first | with_reducible exact HS0.out | with_reducible exact HS1.out | with_reducible exact HS2.out)
    (fail)
  go_wp2_with fail
  obtain ⟨⟨r0, r1, r2, r3, r4⟩, _⟩ := own5 HU.out.res
  obtain ⟨s0, s1, s2, s3, s4, s5, s6, s7, s8, s9, s10⟩ := own11 HU.out.ter
  exact bodyPost_ret (v := .tuple #[.agg #[.slice a xs.length cap, .int .i64 (a2 : Int), .int .i64 (p : Int), .int .i64 0, .int .i64 0], .agg #[.int .i64 3, .bool false, .int .i64 (-H - 1), .float .f64 0, .string ⟨#[]⟩, .slice none 0 0, .int .u64 0, .slice none 0 0, .slice none 0 0, .string ⟨#[]⟩, .int .i64 0]]) (by simp [results, Try.results93, go_sem, r0, r1, r2, r3, r4, s0, s1, s2, s3, s4, s5, s6, s7, s8, s9, s10] <;> rfl) rfl ⟨by rw [HX.out], HU.out.bel⟩
set_option maxRecDepth 100000 in
set_option maxHeartbeats 4000000 in
theorem rgbody_int_bad (xs : List Int) (hby : By xs) (a : Option Addr) (cap at' p : Nat) (s deep : Int) (w : World) (hrd : RdB w (Lo w.heap.size) a xs) (hln : xs.length ≤ 281474976710656) (q : Nat) (er : Int) (hr : Sp.rn xs at' 10 0 0 = .bad q er) (hle : at' ≤ xs.length) :
    Calls Try.prog 93 #[.agg #[.slice a xs.length cap, .int .i64 (at' : Int), .int .i64 (p : Int), .int .i64 0, .int .i64 0], .agg #[.int .i64 3, .bool false, .int .i64 0, .float .f64 0, .string ⟨#[]⟩, .slice none 0 0, .int .u64 0, .slice none 0 0, .slice none 0 0, .string ⟨#[]⟩, .int .i64 0], .int .i64 s, .int .i64 deep] w fun e w' => ∃ at2 : Nat, e = .returned (.tuple #[.agg #[.slice a xs.length cap, .int .i64 (at2 : Int), .int .i64 (p : Int), .int .i64 (q : Int), .int .i64 er], .agg #[.int .i64 3, .bool false, .int .i64 0, .float .f64 0, .string ⟨#[]⟩, .slice none 0 0, .int .u64 0, .slice none 0 0, .slice none 0 0, .string ⟨#[]⟩, .int .i64 0]]) ∧ Below w.heap.size w w' := by
  have HNu : Hid (∀ W, Below w.heap.size w W → Calls Try.prog 117 #[.agg #[.slice a xs.length cap, .int .i64 (at' : Int), .int .i64 (p : Int), .int .i64 0, .int .i64 0]] W fun e w' => ∃ at2 : Nat, e = .returned (.tuple #[.agg #[.slice a xs.length cap, .int .i64 (at2 : Int), .int .i64 (p : Int), .int .i64 (q : Int), .int .i64 er], .int .u64 0]) ∧ Below W.heap.size W w') := fun W hW => rgnum_bad xs hby a cap at' p q er W hr hle (hrd.same (Same.of_below hW (Nat.le_refl _)) (Lo.le hW.size)) hln
  clear hr hle hrd hln hby
  have HN := R4.new w #[.slice a xs.length cap, .int .i64 (at' : Int), .int .i64 (p : Int), .int .i64 0, .int .i64 0] #[.int .i64 3, .bool false, .int .i64 0, .float .f64 0, .string ⟨#[]⟩, .slice none 0 0, .int .u64 0, .slice none 0 0, .slice none 0 0, .string ⟨#[]⟩, .int .i64 0] #[.slice none 0 0, .int .i64 0, .int .i64 0, .int .i64 0, .int .i64 0] #[.int .i64 0, .bool false, .int .i64 0, .float .f64 0, .string ⟨#[]⟩, .slice none 0 0, .int .u64 0, .slice none 0 0, .slice none 0 0, .string ⟨#[]⟩, .int .i64 0]
  have HN : Hid _ := HN
  go_enter Try.func93, Try.ntmps93
  go_wp2_with fail
  refine (HNu.out _ HN.out.bel).mono ?_
  rintro e w0 ⟨at2, rfl, hb⟩
  have HR0 := HN.out.call hb
  have HR0 : Hid _ := HR0
  clear hb HN 
  obtain ⟨A0, B0, C0, D0, E0, k1, k2, k3, k4, k5, ⟨c0, y0⟩, ⟨c1, y1⟩, ⟨c2, y2⟩, ⟨c3, y3⟩, ⟨c4, y4⟩, hE⟩ := chain5 HR0.out.box (.slice a xs.length cap) (.int .i64 (at2 : Int)) (.int .i64 (p : Int)) (.int .i64 (q : Int)) (.int .i64 er)
  have HS0 := HR0.out.put (.slice a xs.length cap) (.int .i64 (at2 : Int)) (.int .i64 (p : Int)) (.int .i64 (q : Int)) (.int .i64 er)
  rw [← hE] at HS0
  have HS0 : Hid _ := HS0
  clear hE HR0
  obtain ⟨⟨e0, e1, e2, e3, e4⟩, _⟩ := own5 HS0.out.box
  obtain ⟨G0, q2, HG⟩ : ∃ G0, E0.setCell ⟨w.heap.size + 1, 2, none⟩ (.int .i64 0) = G0 ∧ Hid (R4 w G0 #[.slice a xs.length cap, .int .i64 (at2 : Int), .int .i64 (p : Int), .int .i64 (q : Int), .int .i64 er] #[.int .i64 3, .bool false, .int .i64 0, .float .f64 0, .string ⟨#[]⟩, .slice none 0 0, .int .u64 0, .slice none 0 0, .slice none 0 0, .string ⟨#[]⟩, .int .i64 0] #[.slice none 0 0, .int .i64 0, .int .i64 0, .int .i64 0, .int .i64 0] #[.int .i64 0, .bool false, .int .i64 0, .float .f64 0, .string ⟨#[]⟩, .slice none 0 0, .int .u64 0, .slice none 0 0, .slice none 0 0, .string ⟨#[]⟩, .int .i64 0]) := ⟨_, rfl, HS0.out.set 2 (.int .i64 0)⟩
  have qc2 : E0.cell? ⟨w.heap.size + 1, 2, none⟩ = some (.int .i64 0) := by rw [cell_of_row _ _ 2 _ _ _ HS0.out.tbx]; rfl
  have qf2 : E0.frozen? ⟨w.heap.size + 1, 2, none⟩ = false := frozen_of_row _ _ 2 _ _ HS0.out.tbx
  obtain ⟨⟨h0, h1, h2, h3, h4⟩, _⟩ := own5 HG.out.box
  go_wp2_with fail
  have HD := HG.out.drew
  have HD : Hid _ := HD
  obtain ⟨V1, V2, V3, V4, V5, l1, l2, l3, l4, l5, ⟨d0, x0⟩, ⟨d1, x1⟩, ⟨d2, x2⟩, ⟨d3, x3⟩, ⟨d4, x4⟩, hV⟩ := chain5 HD.out.res (.slice a xs.length cap) (.int .i64 (at2 : Int)) (.int .i64 (p : Int)) (.int .i64 (q : Int)) (.int .i64 er)
  have HV := HD.out.putR (.slice a xs.length cap) (.int .i64 (at2 : Int)) (.int .i64 (p : Int)) (.int .i64 (q : Int)) (.int .i64 er)
  rw [← hV] at HV
  have HV : Hid _ := HV
  clear hV
  obtain ⟨U1, U2, U3, U4, U5, U6, U7, U8, U9, U10, U11, m0, m1, m2, m3, m4, m5, m6, m7, m8, m9, m10, ⟨b0, g0⟩, ⟨b1, g1⟩, ⟨b2, g2⟩, ⟨b3, g3⟩, ⟨b4, g4⟩, ⟨b5, g5⟩, ⟨b6, g6⟩, ⟨b7, g7⟩, ⟨b8, g8⟩, ⟨b9, g9⟩, ⟨b10, g10⟩, hU⟩ := chain11 HV.out.ter (.int .i64 3) (.bool false) (.int .i64 0) (.float .f64 0) (.string ⟨#[]⟩) (.slice none 0 0) (.int .u64 0) (.slice none 0 0) (.slice none 0 0) (.string ⟨#[]⟩) (.int .i64 0)
  have HU := HV.out.putT (.int .i64 3) (.bool false) (.int .i64 0) (.float .f64 0) (.string ⟨#[]⟩) (.slice none 0 0) (.int .u64 0) (.slice none 0 0) (.slice none 0 0) (.string ⟨#[]⟩) (.int .i64 0)
  rw [← hU] at HU
  have HU : Hid _ := HU
  clear hU
  have HS0 : Hid _ := HD.out.S
  have HS1 : Hid _ := HV.out.S
  have HS2 : Hid _ := HU.out.S
  go_region_held3 (fun W => (W.cell? ⟨w.heap.size, 0, none⟩ = some (.slice a xs.length cap) ∧ W.cell? ⟨w.heap.size, 1, none⟩ = some (.int .i64 (at2 : Int)) ∧ W.cell? ⟨w.heap.size, 2, none⟩ = some (.int .i64 (p : Int)) ∧ W.cell? ⟨w.heap.size, 3, none⟩ = some (.int .i64 (q : Int)) ∧ W.cell? ⟨w.heap.size, 4, none⟩ = some (.int .i64 er)) ∧ (W.cell? ⟨w.heap.size + 1, 0, none⟩ = some (.int .i64 3) ∧ W.cell? ⟨w.heap.size + 1, 1, none⟩ = some (.bool false) ∧ W.cell? ⟨w.heap.size + 1, 2, none⟩ = some (.int .i64 0) ∧ W.cell? ⟨w.heap.size + 1, 3, none⟩ = some (.float .f64 0) ∧ W.cell? ⟨w.heap.size + 1, 4, none⟩ = some (.string ⟨#[]⟩) ∧ W.cell? ⟨w.heap.size + 1, 5, none⟩ = some (.slice none 0 0) ∧ W.cell? ⟨w.heap.size + 1, 6, none⟩ = some (.int .u64 0) ∧ W.cell? ⟨w.heap.size + 1, 7, none⟩ = some (.slice none 0 0) ∧ W.cell? ⟨w.heap.size + 1, 8, none⟩ = some (.slice none 0 0) ∧ W.cell? ⟨w.heap.size + 1, 9, none⟩ = some (.string ⟨#[]⟩) ∧ W.cell? ⟨w.heap.size + 1, 10, none⟩ = some (.int .i64 0)))
    (first | with_reducible exact HS0.out | with_reducible exact HS1.out | with_reducible exact HS2.out)
    (fail)
  go_wp2_with fail
  obtain ⟨⟨r0, r1, r2, r3, r4⟩, _⟩ := own5 HU.out.res
  obtain ⟨s0, s1, s2, s3, s4, s5, s6, s7, s8, s9, s10⟩ := own11 HU.out.ter
  exact bodyPost_ret (v := .tuple #[.agg #[.slice a xs.length cap, .int .i64 (at2 : Int), .int .i64 (p : Int), .int .i64 (q : Int), .int .i64 er], .agg #[.int .i64 3, .bool false, .int .i64 0, .float .f64 0, .string ⟨#[]⟩, .slice none 0 0, .int .u64 0, .slice none 0 0, .slice none 0 0, .string ⟨#[]⟩, .int .i64 0]]) (by simp [results, Try.results93, go_sem, r0, r1, r2, r3, r4, s0, s1, s2, s3, s4, s5, s6, s7, s8, s9, s10] <;> rfl) rfl ⟨at2, rfl, HU.out.bel⟩
end Go.Proofs.Ytmmiiapfefmcjaa


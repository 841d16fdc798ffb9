/- The document's reading of a list and of fields whose number is none. -/
import Derived.Test.YtkomcebknllaiaaL20
import Derived.Test.YtkomcebknllaiaaL2
import Derived.Test.YtkomcebknllaiaaL3
import Derived.Lib.BytesEntry
namespace Go.Proofs.Ytkomcebknllaiaa
open Go.RowKit

set_option maxRecDepth 100000 in
set_option maxHeartbeats 4000000 in
theorem rgbody_list_stop (xs : List Int) (a : Option Addr) (cap at' p : Nat) (start deep : Int) (w : World) (nv : Nat) (q : Nat) (er : Int) (her : er ≠ 0) (HLo : Hid (∀ W, Below w.heap.size w W → Calls Try.prog 125 #[.agg #[.slice a xs.length cap, .int .i64 (at' : Int), .int .i64 (p : Int), .int .i64 0, .int .i64 0], .int .u64 4096, .int .i64 start, .int .i64 2] W fun e w' => ∃ a2 : Nat, e = .returned (.tuple #[.agg #[.slice a xs.length cap, .int .i64 (a2 : Int), .int .i64 (p : Int), .int .i64 (q : Int), .int .i64 er], .int .u64 (nv : Int)]) ∧ Below W.heap.size W w')) :
    Calls Try.prog 108 #[.agg #[.slice a xs.length cap, .int .i64 (at' : Int), .int .i64 (p : Int), .int .i64 0, .int .i64 0], .agg #[.int .i64 8, .bool false, .int .i64 0, .float .f64 0, .string ⟨#[]⟩, .slice none 0 0, .int .u64 0, .slice none 0 0, .slice none 0 0, .string ⟨#[]⟩, .int .i64 0], .int .i64 start, .int .i64 deep] w fun e w' => ∃ a2 : Nat, e = .returned (.tuple #[.agg #[.slice a xs.length cap, .int .i64 (a2 : Int), .int .i64 (p : Int), .int .i64 (q : Int), .int .i64 er], .agg #[.int .i64 8, .bool false, .int .i64 0, .float .f64 0, .string ⟨#[]⟩, .slice none 0 0, .int .u64 0, .slice none 0 0, .slice none 0 0, .string ⟨#[]⟩, .int .i64 0]]) ∧ Below w.heap.size w w' := by
  have he : (er == 0) = false := by simp [her]
  clear her
  have HN : Hid (R4 w ((((w.alloc (.cells #[.slice a xs.length cap, .int .i64 (at' : Int), .int .i64 (p : Int), .int .i64 0, .int .i64 0] 98)).alloc (.cells #[.int .i64 8, .bool false, .int .i64 0, .float .f64 0, .string ⟨#[]⟩, .slice none 0 0, .int .u64 0, .slice none 0 0, .slice none 0 0, .string ⟨#[]⟩, .int .i64 0] 29)).alloc (.cells #[.slice none 0 0, .int .i64 0, .int .i64 0, .int .i64 0, .int .i64 0] 98)).alloc (.cells #[.int .i64 0, .bool false, .int .i64 0, .float .f64 0, .string ⟨#[]⟩, .slice none 0 0, .int .u64 0, .slice none 0 0, .slice none 0 0, .string ⟨#[]⟩, .int .i64 0] 29)) #[.slice a xs.length cap, .int .i64 (at' : Int), .int .i64 (p : Int), .int .i64 0, .int .i64 0] #[.int .i64 8, .bool false, .int .i64 0, .float .f64 0, .string ⟨#[]⟩, .slice none 0 0, .int .u64 0, .slice none 0 0, .slice none 0 0, .string ⟨#[]⟩, .int .i64 0] #[.slice none 0 0, .int .i64 0, .int .i64 0, .int .i64 0, .int .i64 0] #[.int .i64 0, .bool false, .int .i64 0, .float .f64 0, .string ⟨#[]⟩, .slice none 0 0, .int .u64 0, .slice none 0 0, .slice none 0 0, .string ⟨#[]⟩, .int .i64 0]) := R4.new _ _ _ _ _
  go_enter Try.func108, Try.ntmps108
  go_wp2_with fail
  refine (HLo.out _ HN.out.bel).mono ?_
  rintro e w0 ⟨a2, rfl, hb⟩
  have HR0 := HN.out.call hb
  have HR0 : Hid _ := HR0
  clear hb HN 
  obtain ⟨A0, B0, C0, D0, E0, k1, k2, k3, k4, k5, ⟨c0, y0⟩, ⟨c1, y1⟩, ⟨c2, y2⟩, ⟨c3, y3⟩, ⟨c4, y4⟩, hE⟩ := chain5 HR0.out.box (.slice a xs.length cap) (.int .i64 (a2 : Int)) (.int .i64 (p : Int)) (.int .i64 (q : Int)) (.int .i64 er)
  have HS0 := HR0.out.put (.slice a xs.length cap) (.int .i64 (a2 : Int)) (.int .i64 (p : Int)) (.int .i64 (q : Int)) (.int .i64 er)
  rw [← hE] at HS0
  have HS0 : Hid _ := HS0
  clear hE HR0
  obtain ⟨⟨e0, e1, e2, e3, e4⟩, _⟩ := own5 HS0.out.box
  go_wp2_with fail
  go_loopw [15] (fun x wr => x = .int .u64 0 ∧ Hid (R4 w wr #[.slice a xs.length cap, .int .i64 (a2 : Int), .int .i64 (p : Int), .int .i64 (q : Int), .int .i64 er] #[.int .i64 8, .bool false, .int .i64 0, .float .f64 0, .string ⟨#[]⟩, .slice none 0 0, .int .u64 0, .slice none 0 0, .slice none 0 0, .string ⟨#[]⟩, .int .i64 0] #[.slice none 0 0, .int .i64 0, .int .i64 0, .int .i64 0, .int .i64 0] #[.int .i64 0, .bool false, .int .i64 0, .float .f64 0, .string ⟨#[]⟩, .slice none 0 0, .int .u64 0, .slice none 0 0, .slice none 0 0, .string ⟨#[]⟩, .int .i64 0])) (fun _ _ => 0)
  case atStart => exact ⟨rfl, HS0.out⟩
  case round =>
    obtain ⟨rfl, HR⟩ := hrel
    clear HS0 HLo e0 e1 e2 e3 e4 c0 c1 c2 c3 c4 y0 y1 y2 y3 y4 k1 k2 k3 k4 k5
    obtain ⟨⟨e0, e1, e2, e3, e4⟩, _⟩ := own5 HR.out.box
    by_cases hnv : nv = 0
    · subst hnv
      go_wp2_with fail
      have HQR := HR.out
      have HQR : Hid _ := HQR
      have HD := HQR.out.drew
      have HD : Hid _ := HD
      obtain ⟨V1, V2, V3, V4, V5, l1, l2, l3, l4, l5, ⟨d0, x0⟩, ⟨d1, x1⟩, ⟨d2, x2⟩, ⟨d3, x3⟩, ⟨d4, x4⟩, hV⟩ := chain5 HD.out.res (.slice a xs.length cap) (.int .i64 (a2 : Int)) (.int .i64 (p : Int)) (.int .i64 (q : Int)) (.int .i64 er)
      have HV := HD.out.putR (.slice a xs.length cap) (.int .i64 (a2 : Int)) (.int .i64 (p : Int)) (.int .i64 (q : Int)) (.int .i64 er)
      rw [← hV] at HV
      have HV : Hid _ := HV
      have HV2 : Hid _ := hV
      clear hV
      obtain ⟨U1, U2, U3, U4, U5, U6, U7, U8, U9, U10, U11, m0, m1, m2, m3, m4, m5, m6, m7, m8, m9, m10, ⟨b0, g0⟩, ⟨b1, g1⟩, ⟨b2, g2⟩, ⟨b3, g3⟩, ⟨b4, g4⟩, ⟨b5, g5⟩, ⟨b6, g6⟩, ⟨b7, g7⟩, ⟨b8, g8⟩, ⟨b9, g9⟩, ⟨b10, g10⟩, hU⟩ := chain11 HV.out.ter (.int .i64 8) (.bool false) (.int .i64 0) (.float .f64 0) (.string ⟨#[]⟩) (.slice none 0 0) (.int .u64 0) (.slice none 0 0) (.slice none 0 0) (.string ⟨#[]⟩) (.int .i64 0)
      have HU := HV.out.putT (.int .i64 8) (.bool false) (.int .i64 0) (.float .f64 0) (.string ⟨#[]⟩) (.slice none 0 0) (.int .u64 0) (.slice none 0 0) (.slice none 0 0) (.string ⟨#[]⟩) (.int .i64 0)
      rw [← hU] at HU
      have HU : Hid _ := HU
      have HU2 : Hid _ := hU
      clear hU
      have HS0 : Hid ((wr.drew.cell? ⟨w.heap.size, 0, none⟩ = some (.slice a xs.length cap) ∧ wr.drew.cell? ⟨w.heap.size, 1, none⟩ = some (.int .i64 (a2 : Int)) ∧ wr.drew.cell? ⟨w.heap.size, 2, none⟩ = some (.int .i64 (p : Int)) ∧ wr.drew.cell? ⟨w.heap.size, 3, none⟩ = some (.int .i64 (q : Int)) ∧ wr.drew.cell? ⟨w.heap.size, 4, none⟩ = some (.int .i64 er)) ∧ (wr.drew.cell? ⟨w.heap.size + 1, 0, none⟩ = some (.int .i64 8) ∧ wr.drew.cell? ⟨w.heap.size + 1, 1, none⟩ = some (.bool false) ∧ wr.drew.cell? ⟨w.heap.size + 1, 2, none⟩ = some (.int .i64 0) ∧ wr.drew.cell? ⟨w.heap.size + 1, 3, none⟩ = some (.float .f64 0) ∧ wr.drew.cell? ⟨w.heap.size + 1, 4, none⟩ = some (.string ⟨#[]⟩) ∧ wr.drew.cell? ⟨w.heap.size + 1, 5, none⟩ = some (.slice none 0 0) ∧ wr.drew.cell? ⟨w.heap.size + 1, 6, none⟩ = some (.int .u64 0) ∧ wr.drew.cell? ⟨w.heap.size + 1, 7, none⟩ = some (.slice none 0 0) ∧ wr.drew.cell? ⟨w.heap.size + 1, 8, none⟩ = some (.slice none 0 0) ∧ wr.drew.cell? ⟨w.heap.size + 1, 9, none⟩ = some (.string ⟨#[]⟩) ∧ wr.drew.cell? ⟨w.heap.size + 1, 10, none⟩ = some (.int .i64 0))) := ⟨(own5 HD.out.box).1, own11 HD.out.tbx⟩
      have HS1 : Hid ((V5.cell? ⟨w.heap.size, 0, none⟩ = some (.slice a xs.length cap) ∧ V5.cell? ⟨w.heap.size, 1, none⟩ = some (.int .i64 (a2 : Int)) ∧ V5.cell? ⟨w.heap.size, 2, none⟩ = some (.int .i64 (p : Int)) ∧ V5.cell? ⟨w.heap.size, 3, none⟩ = some (.int .i64 (q : Int)) ∧ V5.cell? ⟨w.heap.size, 4, none⟩ = some (.int .i64 er)) ∧ (V5.cell? ⟨w.heap.size + 1, 0, none⟩ = some (.int .i64 8) ∧ V5.cell? ⟨w.heap.size + 1, 1, none⟩ = some (.bool false) ∧ V5.cell? ⟨w.heap.size + 1, 2, none⟩ = some (.int .i64 0) ∧ V5.cell? ⟨w.heap.size + 1, 3, none⟩ = some (.float .f64 0) ∧ V5.cell? ⟨w.heap.size + 1, 4, none⟩ = some (.string ⟨#[]⟩) ∧ V5.cell? ⟨w.heap.size + 1, 5, none⟩ = some (.slice none 0 0) ∧ V5.cell? ⟨w.heap.size + 1, 6, none⟩ = some (.int .u64 0) ∧ V5.cell? ⟨w.heap.size + 1, 7, none⟩ = some (.slice none 0 0) ∧ V5.cell? ⟨w.heap.size + 1, 8, none⟩ = some (.slice none 0 0) ∧ V5.cell? ⟨w.heap.size + 1, 9, none⟩ = some (.string ⟨#[]⟩) ∧ V5.cell? ⟨w.heap.size + 1, 10, none⟩ = some (.int .i64 0))) := ⟨(own5 HV.out.box).1, own11 HV.out.tbx⟩
      have HS2 : Hid ((U11.cell? ⟨w.heap.size, 0, none⟩ = some (.slice a xs.length cap) ∧ U11.cell? ⟨w.heap.size, 1, none⟩ = some (.int .i64 (a2 : Int)) ∧ U11.cell? ⟨w.heap.size, 2, none⟩ = some (.int .i64 (p : Int)) ∧ U11.cell? ⟨w.heap.size, 3, none⟩ = some (.int .i64 (q : Int)) ∧ U11.cell? ⟨w.heap.size, 4, none⟩ = some (.int .i64 er)) ∧ (U11.cell? ⟨w.heap.size + 1, 0, none⟩ = some (.int .i64 8) ∧ U11.cell? ⟨w.heap.size + 1, 1, none⟩ = some (.bool false) ∧ U11.cell? ⟨w.heap.size + 1, 2, none⟩ = some (.int .i64 0) ∧ U11.cell? ⟨w.heap.size + 1, 3, none⟩ = some (.float .f64 0) ∧ U11.cell? ⟨w.heap.size + 1, 4, none⟩ = some (.string ⟨#[]⟩) ∧ U11.cell? ⟨w.heap.size + 1, 5, none⟩ = some (.slice none 0 0) ∧ U11.cell? ⟨w.heap.size + 1, 6, none⟩ = some (.int .u64 0) ∧ U11.cell? ⟨w.heap.size + 1, 7, none⟩ = some (.slice none 0 0) ∧ U11.cell? ⟨w.heap.size + 1, 8, none⟩ = some (.slice none 0 0) ∧ U11.cell? ⟨w.heap.size + 1, 9, none⟩ = some (.string ⟨#[]⟩) ∧ U11.cell? ⟨w.heap.size + 1, 10, none⟩ = some (.int .i64 0))) := ⟨(own5 HU.out.box).1, own11 HU.out.tbx⟩
      go_region_held3 (fun W => (W.cell? ⟨w.heap.size, 0, none⟩ = some (.slice a xs.length cap) ∧ W.cell? ⟨w.heap.size, 1, none⟩ = some (.int .i64 (a2 : Int)) ∧ W.cell? ⟨w.heap.size, 2, none⟩ = some (.int .i64 (p : Int)) ∧ W.cell? ⟨w.heap.size, 3, none⟩ = some (.int .i64 (q : Int)) ∧ W.cell? ⟨w.heap.size, 4, none⟩ = some (.int .i64 er)) ∧ (W.cell? ⟨w.heap.size + 1, 0, none⟩ = some (.int .i64 8) ∧ W.cell? ⟨w.heap.size + 1, 1, none⟩ = some (.bool false) ∧ W.cell? ⟨w.heap.size + 1, 2, none⟩ = some (.int .i64 0) ∧ W.cell? ⟨w.heap.size + 1, 3, none⟩ = some (.float .f64 0) ∧ W.cell? ⟨w.heap.size + 1, 4, none⟩ = some (.string ⟨#[]⟩) ∧ W.cell? ⟨w.heap.size + 1, 5, none⟩ = some (.slice none 0 0) ∧ W.cell? ⟨w.heap.size + 1, 6, none⟩ = some (.int .u64 0) ∧ W.cell? ⟨w.heap.size + 1, 7, none⟩ = some (.slice none 0 0) ∧ W.cell? ⟨w.heap.size + 1, 8, none⟩ = some (.slice none 0 0) ∧ W.cell? ⟨w.heap.size + 1, 9, none⟩ = some (.string ⟨#[]⟩) ∧ W.cell? ⟨w.heap.size + 1, 10, none⟩ = some (.int .i64 0)))
        (first | with_reducible exact HS0.out | with_reducible exact HS1.out | with_reducible exact HS2.out)
        (fail)
      go_wp2_with fail
      obtain ⟨⟨r0, r1, r2, r3, r4⟩, _⟩ := own5 HU.out.res
      obtain ⟨s0, s1, s2, s3, s4, s5, s6, s7, s8, s9, s10⟩ := own11 HU.out.ter
      exact bodyPost_ret (v := .tuple #[.agg #[.slice a xs.length cap, .int .i64 (a2 : Int), .int .i64 (p : Int), .int .i64 (q : Int), .int .i64 er], .agg #[.int .i64 8, .bool false, .int .i64 0, .float .f64 0, .string ⟨#[]⟩, .slice none 0 0, .int .u64 0, .slice none 0 0, .slice none 0 0, .string ⟨#[]⟩, .int .i64 0]]) (by simp [results, Try.results108, go_sem, r0, r1, r2, r3, r4, s0, s1, s2, s3, s4, s5, s6, s7, s8, s9, s10] <;> rfl) rfl ⟨a2, rfl, HU.out.bel⟩
    · have hnv' : decide ((0 : Int) < (nv : Int)) = true := decide_eq_true (by omega)
      have hnv2 : 0 < nv := by omega
      clear hnv
      go_wp2_with fail
      have HQR := HR.out
      have HQR : Hid _ := HQR
      have HD := HQR.out.drew
      have HD : Hid _ := HD
      obtain ⟨V1, V2, V3, V4, V5, l1, l2, l3, l4, l5, ⟨d0, x0⟩, ⟨d1, x1⟩, ⟨d2, x2⟩, ⟨d3, x3⟩, ⟨d4, x4⟩, hV⟩ := chain5 HD.out.res (.slice a xs.length cap) (.int .i64 (a2 : Int)) (.int .i64 (p : Int)) (.int .i64 (q : Int)) (.int .i64 er)
      have HV := HD.out.putR (.slice a xs.length cap) (.int .i64 (a2 : Int)) (.int .i64 (p : Int)) (.int .i64 (q : Int)) (.int .i64 er)
      rw [← hV] at HV
      have HV : Hid _ := HV
      have HV2 : Hid _ := hV
      clear hV
      obtain ⟨U1, U2, U3, U4, U5, U6, U7, U8, U9, U10, U11, m0, m1, m2, m3, m4, m5, m6, m7, m8, m9, m10, ⟨b0, g0⟩, ⟨b1, g1⟩, ⟨b2, g2⟩, ⟨b3, g3⟩, ⟨b4, g4⟩, ⟨b5, g5⟩, ⟨b6, g6⟩, ⟨b7, g7⟩, ⟨b8, g8⟩, ⟨b9, g9⟩, ⟨b10, g10⟩, hU⟩ := chain11 HV.out.ter (.int .i64 8) (.bool false) (.int .i64 0) (.float .f64 0) (.string ⟨#[]⟩) (.slice none 0 0) (.int .u64 0) (.slice none 0 0) (.slice none 0 0) (.string ⟨#[]⟩) (.int .i64 0)
      have HU := HV.out.putT (.int .i64 8) (.bool false) (.int .i64 0) (.float .f64 0) (.string ⟨#[]⟩) (.slice none 0 0) (.int .u64 0) (.slice none 0 0) (.slice none 0 0) (.string ⟨#[]⟩) (.int .i64 0)
      rw [← hU] at HU
      have HU : Hid _ := HU
      have HU2 : Hid _ := hU
      clear hU
      have HS0 : Hid ((wr.drew.cell? ⟨w.heap.size, 0, none⟩ = some (.slice a xs.length cap) ∧ wr.drew.cell? ⟨w.heap.size, 1, none⟩ = some (.int .i64 (a2 : Int)) ∧ wr.drew.cell? ⟨w.heap.size, 2, none⟩ = some (.int .i64 (p : Int)) ∧ wr.drew.cell? ⟨w.heap.size, 3, none⟩ = some (.int .i64 (q : Int)) ∧ wr.drew.cell? ⟨w.heap.size, 4, none⟩ = some (.int .i64 er)) ∧ (wr.drew.cell? ⟨w.heap.size + 1, 0, none⟩ = some (.int .i64 8) ∧ wr.drew.cell? ⟨w.heap.size + 1, 1, none⟩ = some (.bool false) ∧ wr.drew.cell? ⟨w.heap.size + 1, 2, none⟩ = some (.int .i64 0) ∧ wr.drew.cell? ⟨w.heap.size + 1, 3, none⟩ = some (.float .f64 0) ∧ wr.drew.cell? ⟨w.heap.size + 1, 4, none⟩ = some (.string ⟨#[]⟩) ∧ wr.drew.cell? ⟨w.heap.size + 1, 5, none⟩ = some (.slice none 0 0) ∧ wr.drew.cell? ⟨w.heap.size + 1, 6, none⟩ = some (.int .u64 0) ∧ wr.drew.cell? ⟨w.heap.size + 1, 7, none⟩ = some (.slice none 0 0) ∧ wr.drew.cell? ⟨w.heap.size + 1, 8, none⟩ = some (.slice none 0 0) ∧ wr.drew.cell? ⟨w.heap.size + 1, 9, none⟩ = some (.string ⟨#[]⟩) ∧ wr.drew.cell? ⟨w.heap.size + 1, 10, none⟩ = some (.int .i64 0))) := ⟨(own5 HD.out.box).1, own11 HD.out.tbx⟩
      have HS1 : Hid ((V5.cell? ⟨w.heap.size, 0, none⟩ = some (.slice a xs.length cap) ∧ V5.cell? ⟨w.heap.size, 1, none⟩ = some (.int .i64 (a2 : Int)) ∧ V5.cell? ⟨w.heap.size, 2, none⟩ = some (.int .i64 (p : Int)) ∧ V5.cell? ⟨w.heap.size, 3, none⟩ = some (.int .i64 (q : Int)) ∧ V5.cell? ⟨w.heap.size, 4, none⟩ = some (.int .i64 er)) ∧ (V5.cell? ⟨w.heap.size + 1, 0, none⟩ = some (.int .i64 8) ∧ V5.cell? ⟨w.heap.size + 1, 1, none⟩ = some (.bool false) ∧ V5.cell? ⟨w.heap.size + 1, 2, none⟩ = some (.int .i64 0) ∧ V5.cell? ⟨w.heap.size + 1, 3, none⟩ = some (.float .f64 0) ∧ V5.cell? ⟨w.heap.size + 1, 4, none⟩ = some (.string ⟨#[]⟩) ∧ V5.cell? ⟨w.heap.size + 1, 5, none⟩ = some (.slice none 0 0) ∧ V5.cell? ⟨w.heap.size + 1, 6, none⟩ = some (.int .u64 0) ∧ V5.cell? ⟨w.heap.size + 1, 7, none⟩ = some (.slice none 0 0) ∧ V5.cell? ⟨w.heap.size + 1, 8, none⟩ = some (.slice none 0 0) ∧ V5.cell? ⟨w.heap.size + 1, 9, none⟩ = some (.string ⟨#[]⟩) ∧ V5.cell? ⟨w.heap.size + 1, 10, none⟩ = some (.int .i64 0))) := ⟨(own5 HV.out.box).1, own11 HV.out.tbx⟩
      have HS2 : Hid ((U11.cell? ⟨w.heap.size, 0, none⟩ = some (.slice a xs.length cap) ∧ U11.cell? ⟨w.heap.size, 1, none⟩ = some (.int .i64 (a2 : Int)) ∧ U11.cell? ⟨w.heap.size, 2, none⟩ = some (.int .i64 (p : Int)) ∧ U11.cell? ⟨w.heap.size, 3, none⟩ = some (.int .i64 (q : Int)) ∧ U11.cell? ⟨w.heap.size, 4, none⟩ = some (.int .i64 er)) ∧ (U11.cell? ⟨w.heap.size + 1, 0, none⟩ = some (.int .i64 8) ∧ U11.cell? ⟨w.heap.size + 1, 1, none⟩ = some (.bool false) ∧ U11.cell? ⟨w.heap.size + 1, 2, none⟩ = some (.int .i64 0) ∧ U11.cell? ⟨w.heap.size + 1, 3, none⟩ = some (.float .f64 0) ∧ U11.cell? ⟨w.heap.size + 1, 4, none⟩ = some (.string ⟨#[]⟩) ∧ U11.cell? ⟨w.heap.size + 1, 5, none⟩ = some (.slice none 0 0) ∧ U11.cell? ⟨w.heap.size + 1, 6, none⟩ = some (.int .u64 0) ∧ U11.cell? ⟨w.heap.size + 1, 7, none⟩ = some (.slice none 0 0) ∧ U11.cell? ⟨w.heap.size + 1, 8, none⟩ = some (.slice none 0 0) ∧ U11.cell? ⟨w.heap.size + 1, 9, none⟩ = some (.string ⟨#[]⟩) ∧ U11.cell? ⟨w.heap.size + 1, 10, none⟩ = some (.int .i64 0))) := ⟨(own5 HU.out.box).1, own11 HU.out.tbx⟩
      go_region_held3 (fun W => (W.cell? ⟨w.heap.size, 0, none⟩ = some (.slice a xs.length cap) ∧ W.cell? ⟨w.heap.size, 1, none⟩ = some (.int .i64 (a2 : Int)) ∧ W.cell? ⟨w.heap.size, 2, none⟩ = some (.int .i64 (p : Int)) ∧ W.cell? ⟨w.heap.size, 3, none⟩ = some (.int .i64 (q : Int)) ∧ W.cell? ⟨w.heap.size, 4, none⟩ = some (.int .i64 er)) ∧ (W.cell? ⟨w.heap.size + 1, 0, none⟩ = some (.int .i64 8) ∧ W.cell? ⟨w.heap.size + 1, 1, none⟩ = some (.bool false) ∧ W.cell? ⟨w.heap.size + 1, 2, none⟩ = some (.int .i64 0) ∧ W.cell? ⟨w.heap.size + 1, 3, none⟩ = some (.float .f64 0) ∧ W.cell? ⟨w.heap.size + 1, 4, none⟩ = some (.string ⟨#[]⟩) ∧ W.cell? ⟨w.heap.size + 1, 5, none⟩ = some (.slice none 0 0) ∧ W.cell? ⟨w.heap.size + 1, 6, none⟩ = some (.int .u64 0) ∧ W.cell? ⟨w.heap.size + 1, 7, none⟩ = some (.slice none 0 0) ∧ W.cell? ⟨w.heap.size + 1, 8, none⟩ = some (.slice none 0 0) ∧ W.cell? ⟨w.heap.size + 1, 9, none⟩ = some (.string ⟨#[]⟩) ∧ W.cell? ⟨w.heap.size + 1, 10, none⟩ = some (.int .i64 0)))
        (first | with_reducible exact HS0.out | with_reducible exact HS1.out | with_reducible exact HS2.out)
        (fail)
      go_wp2_with fail
      obtain ⟨⟨r0, r1, r2, r3, r4⟩, _⟩ := own5 HU.out.res
      obtain ⟨s0, s1, s2, s3, s4, s5, s6, s7, s8, s9, s10⟩ := own11 HU.out.ter
      exact bodyPost_ret (v := .tuple #[.agg #[.slice a xs.length cap, .int .i64 (a2 : Int), .int .i64 (p : Int), .int .i64 (q : Int), .int .i64 er], .agg #[.int .i64 8, .bool false, .int .i64 0, .float .f64 0, .string ⟨#[]⟩, .slice none 0 0, .int .u64 0, .slice none 0 0, .slice none 0 0, .string ⟨#[]⟩, .int .i64 0]]) (by simp [results, Try.results108, go_sem, r0, r1, r2, r3, r4, s0, s1, s2, s3, s4, s5, s6, s7, s8, s9, s10] <;> rfl) rfl ⟨a2, rfl, HU.out.bel⟩
set_option maxRecDepth 100000 in
set_option maxHeartbeats 4000000 in
theorem rgfields_stop (xs : List Int) (a : Option Addr) (cap at' p : Nat) (start deep : Int) (w : World) (nv : Nat) (q : Nat) (er : Int) (her : er ≠ 0) (HLo : Hid (∀ W, Below w.heap.size w W → Calls Try.prog 125 #[.agg #[.slice a xs.length cap, .int .i64 (at' : Int), .int .i64 (p : Int), .int .i64 0, .int .i64 0], .int .u64 4096, .int .i64 start, .int .i64 2] W fun e w' => ∃ a2 : Nat, e = .returned (.tuple #[.agg #[.slice a xs.length cap, .int .i64 (a2 : Int), .int .i64 (p : Int), .int .i64 (q : Int), .int .i64 er], .int .u64 (nv : Int)]) ∧ Below W.heap.size W w')) :
    Calls Try.prog 127 #[.agg #[.slice a xs.length cap, .int .i64 (at' : Int), .int .i64 (p : Int), .int .i64 0, .int .i64 0], .int .i64 start, .int .i64 deep] w fun e w' => ∃ (a2 : Nat) (af : Option Addr) (cf : Nat), e = .returned (.tuple #[.agg #[.slice a xs.length cap, .int .i64 (a2 : Int), .int .i64 (p : Int), .int .i64 (q : Int), .int .i64 er], .slice af 0 cf]) ∧ Below w.heap.size w w' := by
  have he : (er == 0) = false := by simp [her]
  clear her
  go_enter Try.func127, Try.ntmps127
  go_wp2_with fail
  have HN : Hid (RB w ((((w.alloc (.cells #[.slice a xs.length cap, .int .i64 (at' : Int), .int .i64 (p : Int), .int .i64 0, .int .i64 0] 98)).alloc (.cells #[.slice none 0 0, .int .i64 0, .int .i64 0, .int .i64 0, .int .i64 0] 98))).alloc (.cells #[] 84)) (.slice a xs.length cap) (.int .i64 (at' : Int)) (.int .i64 (p : Int)) (.int .i64 0) (.int .i64 0)) := (RB.new w (.slice a xs.length cap) (.int .i64 (at' : Int)) (.int .i64 (p : Int)) (.int .i64 0) (.int .i64 0) (.slice none 0 0) (.int .i64 0) (.int .i64 0) (.int .i64 0) (.int .i64 0)).call ((Below.refl _ _).alloc (Nat.le_refl _) (.cells #[] 84))
  refine (HLo.out _ HN.out.bel).mono ?_
  rintro e w0 ⟨a2, rfl, hb⟩
  have HR0 : Hid (RB w w0 (.slice a xs.length cap) (.int .i64 (at' : Int)) (.int .i64 (p : Int)) (.int .i64 0) (.int .i64 0)) := HN.out.call hb
  clear hb
  obtain ⟨A0, B0, C0, D0, E0, k1, k2, k3, k4, k5, ⟨c0, y0⟩, ⟨c1, y1⟩, ⟨c2, y2⟩, ⟨c3, y3⟩, ⟨c4, y4⟩, hE⟩ := chain5 HR0.out.box (.slice a xs.length cap) (.int .i64 (a2 : Int)) (.int .i64 (p : Int)) (.int .i64 (q : Int)) (.int .i64 er)
  have HS0 : Hid (RB w E0 (.slice a xs.length cap) (.int .i64 (a2 : Int)) (.int .i64 (p : Int)) (.int .i64 (q : Int)) (.int .i64 er)) := by rw [hE]; exact HR0.out.put _ _ _ _ _
  clear hE
  obtain ⟨⟨⟨e0, e1, e2, e3, e4⟩, _⟩, _⟩ := HS0.out.get
  go_wp2_with fail
  go_loopw [8, 10] (fun u x wr => u = .slice (some ⟨w.heap.size + 1 + 1, 0, none⟩) 0 0 ∧ x = .int .u64 0 ∧ Hid (RB w wr (.slice a xs.length cap) (.int .i64 (a2 : Int)) (.int .i64 (p : Int)) (.int .i64 (q : Int)) (.int .i64 er))) (fun _ _ _ => 0)
  case atStart => exact ⟨rfl, rfl, HS0.out⟩
  case round =>
    obtain ⟨rfl, rfl, HR⟩ := hrel
    clear HS0 HR0 HN HLo e0 e1 e2 e3 e4 c0 c1 c2 c3 c4 y0 y1 y2 y3 y4 k1 k2 k3 k4 k5
    obtain ⟨⟨⟨e0, e1, e2, e3, e4⟩, _⟩, _⟩ := HR.out.get
    by_cases hnv : nv = 0
    · subst hnv
      obtain ⟨v0, v1, v2, v3, v4, hres⟩ := HR.out.res
      obtain ⟨V1, V2, V3, V4, V5, l1, l2, l3, l4, l5, ⟨d0, x0⟩, ⟨d1, x1⟩, ⟨d2, x2⟩, ⟨d3, x3⟩, ⟨d4, x4⟩, hV5⟩ := chain5 hres (.slice a xs.length cap) (.int .i64 (a2 : Int)) (.int .i64 (p : Int)) (.int .i64 (q : Int)) (.int .i64 er)
      have HF := HR.out.fin (.slice a xs.length cap) (.int .i64 (a2 : Int)) (.int .i64 (p : Int)) (.int .i64 (q : Int)) (.int .i64 er)
      rw [← hV5] at HF
      have HF : Hid _ := HF
      clear hV5 hres
      go_wp2_with fail
      obtain ⟨⟨r0, r1, r2, r3, r4⟩, hbb⟩ := HF.out
      exact bodyPost_ret (v := .tuple #[.agg #[.slice a xs.length cap, .int .i64 (a2 : Int), .int .i64 (p : Int), .int .i64 (q : Int), .int .i64 er], .slice (some ⟨w.heap.size + 1 + 1, 0, none⟩) 0 0]) (by simp [results, Try.results127, go_sem, r0, r1, r2, r3, r4] <;> rfl) rfl ⟨_, _, _, rfl, hbb⟩
    · have hnv' : decide ((0 : Int) < (nv : Int)) = true := decide_eq_true (by omega)
      have hnv2 : 0 < nv := by omega
      clear hnv
      obtain ⟨v0, v1, v2, v3, v4, hres⟩ := HR.out.res
      obtain ⟨V1, V2, V3, V4, V5, l1, l2, l3, l4, l5, ⟨d0, x0⟩, ⟨d1, x1⟩, ⟨d2, x2⟩, ⟨d3, x3⟩, ⟨d4, x4⟩, hV5⟩ := chain5 hres (.slice a xs.length cap) (.int .i64 (a2 : Int)) (.int .i64 (p : Int)) (.int .i64 (q : Int)) (.int .i64 er)
      have HF := HR.out.fin (.slice a xs.length cap) (.int .i64 (a2 : Int)) (.int .i64 (p : Int)) (.int .i64 (q : Int)) (.int .i64 er)
      rw [← hV5] at HF
      have HF : Hid _ := HF
      clear hV5 hres
      go_wp2_with fail
      obtain ⟨⟨r0, r1, r2, r3, r4⟩, hbb⟩ := HF.out
      exact bodyPost_ret (v := .tuple #[.agg #[.slice a xs.length cap, .int .i64 (a2 : Int), .int .i64 (p : Int), .int .i64 (q : Int), .int .i64 er], .slice (some ⟨w.heap.size + 1 + 1, 0, none⟩) 0 0]) (by simp [results, Try.results127, go_sem, r0, r1, r2, r3, r4] <;> rfl) rfl ⟨_, _, _, rfl, hbb⟩
end Go.Proofs.Ytkomcebknllaiaa

/- The leaves of package value's order: numbers, texts, bools, floats, bytes. -/
namespace Go.Proofs.Ytkomcebknllaiaa
open Go.RowKit

set_option maxRecDepth 100000 in
set_option maxHeartbeats 400000 in
theorem cmpInt_any (a b : Int) (w : World) :
    Calls Try.prog 70 #[.int .i64 a, .int .i64 b] w fun e w' => e = .returned (.int .i64 (Sp.cmpI a b)) ∧ w = w' := by
  by_cases h1 : a < b
  · have H : Hid (Sp.cmpI a b = -1) := by show _ = _; simp [Sp.cmpI, h1]
    go_enter Try.func70, Try.ntmps70
    go_wp2
    go_ret
    exact ⟨ret_int H.out.symm, rfl⟩
  · by_cases h2 : b < a
    · have H : Hid (Sp.cmpI a b = 1) := by show _ = _; simp [Sp.cmpI, h1, h2]
      go_enter Try.func70, Try.ntmps70
      go_wp2
      go_ret
      exact ⟨ret_int H.out.symm, rfl⟩
    · have H : Hid (Sp.cmpI a b = 0) := by show _ = _; simp [Sp.cmpI, h1, h2]
      go_enter Try.func70, Try.ntmps70
      go_wp2
      go_ret
      exact ⟨ret_int H.out.symm, rfl⟩
set_option maxRecDepth 100000 in
set_option maxHeartbeats 400000 in
theorem cmpI64_any (a b : Int) (w : World) :
    Calls Try.prog 72 #[.int .i64 a, .int .i64 b] w fun e w' => e = .returned (.int .i64 (Sp.cmpI a b)) ∧ w = w' := by
  by_cases h1 : a < b
  · have H : Hid (Sp.cmpI a b = -1) := by show _ = _; simp [Sp.cmpI, h1]
    go_enter Try.func72, Try.ntmps72
    go_wp2
    go_ret
    exact ⟨ret_int H.out.symm, rfl⟩
  · by_cases h2 : b < a
    · have H : Hid (Sp.cmpI a b = 1) := by show _ = _; simp [Sp.cmpI, h1, h2]
      go_enter Try.func72, Try.ntmps72
      go_wp2
      go_ret
      exact ⟨ret_int H.out.symm, rfl⟩
    · have H : Hid (Sp.cmpI a b = 0) := by show _ = _; simp [Sp.cmpI, h1, h2]
      go_enter Try.func72, Try.ntmps72
      go_wp2
      go_ret
      exact ⟨ret_int H.out.symm, rfl⟩
set_option maxRecDepth 100000 in
set_option maxHeartbeats 400000 in
theorem cmpU64_any (a b : Int) (w : World) :
    Calls Try.prog 73 #[.int .u64 a, .int .u64 b] w fun e w' => e = .returned (.int .i64 (Sp.cmpI a b)) ∧ w = w' := by
  by_cases h1 : a < b
  · have H : Hid (Sp.cmpI a b = -1) := by show _ = _; simp [Sp.cmpI, h1]
    go_enter Try.func73, Try.ntmps73
    go_wp2
    go_ret
    exact ⟨ret_int H.out.symm, rfl⟩
  · by_cases h2 : b < a
    · have H : Hid (Sp.cmpI a b = 1) := by show _ = _; simp [Sp.cmpI, h1, h2]
      go_enter Try.func73, Try.ntmps73
      go_wp2
      go_ret
      exact ⟨ret_int H.out.symm, rfl⟩
    · have H : Hid (Sp.cmpI a b = 0) := by show _ = _; simp [Sp.cmpI, h1, h2]
      go_enter Try.func73, Try.ntmps73
      go_wp2
      go_ret
      exact ⟨ret_int H.out.symm, rfl⟩
set_option maxRecDepth 100000 in
set_option maxHeartbeats 400000 in
theorem cmpRef_any (a b : Int) (w : World) :
    Calls Try.prog 77 #[.int .u64 a, .int .u64 b] w fun e w' => e = .returned (.int .i64 (Sp.cmpI a b)) ∧ w = w' := by
  by_cases h1 : a < b
  · have H : Hid (Sp.cmpI a b = -1) := by show _ = _; simp [Sp.cmpI, h1]
    go_enter Try.func77, Try.ntmps77
    go_wp2
    go_ret
    exact ⟨ret_int H.out.symm, rfl⟩
  · by_cases h2 : b < a
    · have H : Hid (Sp.cmpI a b = 1) := by show _ = _; simp [Sp.cmpI, h1, h2]
      go_enter Try.func77, Try.ntmps77
      go_wp2
      go_ret
      exact ⟨ret_int H.out.symm, rfl⟩
    · have H : Hid (Sp.cmpI a b = 0) := by show _ = _; simp [Sp.cmpI, h1, h2]
      go_enter Try.func77, Try.ntmps77
      go_wp2
      go_ret
      exact ⟨ret_int H.out.symm, rfl⟩

theorem less_of (a b : ByteArray) : Op.bytesLess a.toList b.toList = decide (Sp.cmpS a b = -1) := by
  rw [ByteArray.toList_eq, ByteArray.toList_eq]; exact bytesLess_cmp _ _
theorem same_of (a b : ByteArray) : (a.toList == b.toList) = decide (Sp.cmpS a b = 0) := by
  rw [ByteArray.toList_eq, ByteArray.toList_eq, Bool.eq_iff_iff]
  simp [Sp.cmpS, cmp_eq_zero]

set_option maxRecDepth 100000 in
set_option maxHeartbeats 400000 in
theorem cmpStr_any (a b : ByteArray) (w : World) :
    Calls Try.prog 75 #[.string a, .string b] w fun e w' => e = .returned (.int .i64 (Sp.cmpS a b)) ∧ w = w' := by
  have hl := less_of a b
  have he := same_of a b
  rcases cmp_vals a.data.toList b.data.toList with h | h | h
  · have H : Hid (Sp.cmpS a b = -1) := h
    rw [H.out] at hl he; simp at hl he
    go_enter Try.func75, Try.ntmps75
    go_wp2
    go_ret
    exact ⟨ret_int H.out.symm, rfl⟩
  · have H : Hid (Sp.cmpS a b = 0) := h
    rw [H.out] at hl he; simp at hl he
    have he' : (a.toList == b.toList) = true := by simp [he]
    clear he
    go_enter Try.func75, Try.ntmps75
    go_wp2
    go_ret
    exact ⟨ret_int H.out.symm, rfl⟩
  · have H : Hid (Sp.cmpS a b = 1) := h
    rw [H.out] at hl he; simp at hl he
    have he' : (a.toList == b.toList) = false := by simp [he]
    clear he
    go_enter Try.func75, Try.ntmps75
    go_wp2
    go_ret
    exact ⟨ret_int H.out.symm, rfl⟩

set_option maxRecDepth 100000 in
set_option maxHeartbeats 400000 in
theorem boolRank_any (b : Bool) (w : World) :
    Calls Try.prog 71 #[.bool b] w fun e w' => e = .returned (.int .i64 (Sp.rank b)) ∧ w = w' := by
  cases b
  · go_enter Try.func71, Try.ntmps71
    go_wp2
    go_ret
    exact ⟨rfl, rfl⟩
  · go_enter Try.func71, Try.ntmps71
    go_wp2
    go_ret
    exact ⟨rfl, rfl⟩

theorem fr_and (f : Nat) (hf : f < 18446744073709551616) : bits BinOp.and IntKind.u64 (f : Int) 9223372036854775808 = if 9223372036854775808 ≤ f then 9223372036854775808 else 0 := by
  have h := bits_and_u64_nat f 9223372036854775808 hf (by decide)
  have h' : bits BinOp.and IntKind.u64 (f : Int) 9223372036854775808 = ((f &&& 9223372036854775808 : Nat) : Int) := h
  rw [h', nat_bit63]
  split <;> omega
theorem fr_or (f : Nat) (hf : f < 9223372036854775808) : bits BinOp.or IntKind.u64 (f : Int) 9223372036854775808 = (f : Int) + 9223372036854775808 := by
  have h := bits_or_u64_nat f 9223372036854775808 (by omega) (by decide)
  have h' : bits BinOp.or IntKind.u64 (f : Int) 9223372036854775808 = ((f ||| 9223372036854775808 : Nat) : Int) := h
  rw [h', nat_join63' 9223372036854775808 f (by decide) hf]
  omega
theorem xor_max (f : Nat) (hf : f < 18446744073709551616) : 18446744073709551615 ^^^ f = 18446744073709551615 - f := by
  have h := congrArg BitVec.toNat (BitVec.allOnes_xor (x := BitVec.ofNat 64 f))
  rw [BitVec.toNat_xor, BitVec.toNat_not, BitVec.toNat_allOnes, BitVec.toNat_ofNat, Nat.mod_eq_of_lt (by simpa using hf)] at h
  simpa using h
theorem fr_xor (f : Nat) (hf : f < 18446744073709551616) : bits BinOp.xor IntKind.u64 IntKind.u64.max (f : Int) = 18446744073709551615 - (f : Int) := by
  have h := bits_xor_u64_nat 18446744073709551615 f (by decide) hf
  have h' : bits BinOp.xor IntKind.u64 IntKind.u64.max (f : Int) = ((18446744073709551615 ^^^ f : Nat) : Int) := h
  rw [h', xor_max f hf]
  omega
theorem bits_run (f : Nat) (w : World) : (callFunc 47 #[.float .f64 f]).run Try.prog w = .ok (.value (.int .u64 f)) w := by
  rw [run_callFunc_extern Try.func47 (by kernel_rfl) (by kernel_rfl) (by kernel_rfl) (e := Extern.MathFloatBits.float64bits) (by kernel_rfl)]
  rfl

set_option maxRecDepth 100000 in
set_option maxHeartbeats 400000 in
theorem floatRank_any (f : Nat) (w : World) (hf : f < 18446744073709551616) :
    Calls Try.prog 74 #[.float .f64 f] w fun e w' => e = .returned (.int .u64 (Sp.frank f)) ∧ w = w' := by
  have hb := bits_run f
  by_cases h : 9223372036854775808 ≤ f
  · have ha : (bits BinOp.and IntKind.u64 (f : Int) 9223372036854775808 != 0) = true := by rw [fr_and f hf, if_pos h]; decide
    have H : Hid (Sp.frank f = bits BinOp.xor IntKind.u64 IntKind.u64.max (f : Int)) := by show _ = _; rw [fr_xor f hf]; unfold Sp.frank; rw [if_pos h]
    go_enter Try.func74, Try.ntmps74
    go_wp2
    go_ret
    exact ⟨ret_int H.out.symm, rfl⟩
  · have ha : (bits BinOp.and IntKind.u64 (f : Int) 9223372036854775808 != 0) = false := by rw [fr_and f hf, if_neg h]; decide
    have H : Hid (Sp.frank f = bits BinOp.or IntKind.u64 (f : Int) 9223372036854775808) := by show _ = _; rw [fr_or f (by omega)]; unfold Sp.frank; rw [if_neg h]
    go_enter Try.func74, Try.ntmps74
    go_wp2
    go_ret
    exact ⟨ret_int H.out.symm, rfl⟩

theorem load_run (x : ByteArray) (a : Option Addr) (c : Nat) (S : Nat → Prop) (w : World) (ha : BytesAt w S a x) : (Extern.Bytes.bytesOf (.slice a x.size c)).run Try.prog w = .ok x w := by
  by_cases h0 : x.size = 0
  · obtain rfl := ba_empty h0
    cases a <;> rfl
  · obtain ⟨g, o, rfl, _, _⟩ := ha 0 (by omega)
    have h := Lib.run_loadBytesX (P := Try.prog) w (x.data.toList.map fun u => (u.toNat : Int)) ⟨g, o, none⟩ ByteArray.empty (fun j z hj => by
      rw [List.getElem?_map] at hj
      cases hu : x.data.toList[j]? with
      | none => rw [hu] at hj; simp at hj
      | some u =>
        rw [hu] at hj
        have hz : (u.toNat : Int) = z := by simpa using hj
        subst hz
        have hjl : j < x.size := by
          rw [← ba_len]
          exact (List.getElem?_eq_some_iff.1 hu).1
        obtain ⟨g', o', e, _, hc⟩ := ha j hjl
        simp only [Option.some.injEq, Addr.mk.injEq, and_true] at e
        obtain ⟨rfl, rfl⟩ := e
        have ea : (⟨g, o, none⟩ : Addr).add j = ⟨g, o + j, none⟩ := by
          unfold Addr.add; split
          · rename_i h; rw [h]; rfl
          · rfl
        rw [ea, hc]
        have : Sp.byte x j = (u.toNat : Int) := by
          unfold Sp.byte
          have hu' : x.data[j]? = some u := by simpa using hu
          simp [hu']
        rw [this])
    rw [List.length_map, ba_len] at h
    show (Extern.Bytes.loadBytes ⟨g, o, none⟩ x.size ByteArray.empty).run Try.prog w = _
    rw [h]
    have e2 : Lib.bytesOf (x.data.toList.map fun u => (u.toNat : Int)) = x.data.toList := by
      unfold Lib.bytesOf
      rw [List.map_map]
      conv => rhs; rw [← List.map_id x.data.toList]
      refine List.map_congr_left fun u _ => ?_
      simp
    rw [e2]
    cases x with | mk d => simp
theorem bcmp_run (x y : ByteArray) (a b : Option Addr) (c d : Nat) (S : Nat → Prop) (w : World) (ha : BytesAt w S a x) (hb : BytesAt w S b y) :
    (callFunc 116 #[.slice a x.size c, .slice b y.size d]).run Try.prog w = .ok (.value (.int .i64 (Sp.cmpS x y))) w := by
  rw [run_callFunc_extern Try.func116 (by kernel_rfl) (by kernel_rfl) (by kernel_rfl) (e := Extern.BytealgCompare.compare) (by kernel_rfl)]
  have e : (Extern.BytealgCompare.compare #[.slice a x.size c, .slice b y.size d]).run Try.prog w = .ok (.int .i64 (Sp.cmpS x y)) w := by
    change Sem.run Try.prog (do pure (goInt (Extern.BytealgCompare.cmp (← Extern.Bytes.bytesOf (.slice a x.size c)) (← Extern.Bytes.bytesOf (.slice b y.size d))))) w = _
    simp only [Sem.run_bind, load_run x a c S w ha, load_run y b d S w hb, Result.andThen_ok, Sem.run_pure, Lib.cmp_eq]
    rfl
  rw [e]; rfl

set_option maxRecDepth 100000 in
set_option maxHeartbeats 400000 in
theorem bytesCmp_any (x y : ByteArray) (a b : Option Addr) (c d : Nat) (S : Nat → Prop) (w : World) (ha : BytesAt w S a x) (hb : BytesAt w S b y) :
    Calls Try.prog 76 #[.slice a x.size c, .slice b y.size d] w fun e w' => e = .returned (.int .i64 (Sp.cmpS x y)) ∧ w = w' := by
  have hr := bcmp_run x y a b c d S w ha hb
  clear ha hb
  go_enter Try.func76, Try.ntmps76
  go_wp2
  go_ret
  exact ⟨rfl, rfl⟩
end Go.Proofs.Ytkomcebknllaiaa

/- Package value's order of two values is the plain order of their terms. -/
namespace Go.Proofs.Ytkomcebknllaiaa
open Go.RowKit

def OrderC (N : Nat) : Prop := ∀ (s t : Tm), s.sz ≤ N → ∀ (va vb : Value) (S : Nat → Prop) (w : World), s.V w S va → t.V w S vb → s.Ok → t.Ok →
  Calls Try.prog 45 #[va, vb] w fun e w' => e = .returned (.int .i64 (s.cmp t)) ∧ ∃ m, w' = w.drewN m

theorem same_drewN (S : Nat → Prop) (w : World) (n : Nat) : Same S w (w.drewN n) := fun _ _ => rfl

set_option maxRecDepth 100000 in
set_option maxHeartbeats 1000000 in
theorem orderLists_any (N : Nat) (HC : OrderC N) (A B : TmL) (hN : A.sz ≤ N) (a b : Option Addr) (ca cb : Nat) (S : Nat → Prop) (w : World) (ha : A.V w S a 0) (hb : B.V w S b 0) (oa : A.Ok) (ob : B.Ok) (la : A.len ≤ maxLen) (lb : B.len ≤ maxLen) :
    Calls Try.prog 78 #[.slice a A.len ca, .slice b B.len cb] w fun e w' => e = .returned (.int .i64 (A.cmp B)) ∧ ∃ m, w' = w.drewN m := by
  unfold maxLen at la lb
  have HCH : Hid (OrderC N) := HC
  have H0 : Hid (A.V w S a 0 ∧ B.V w S b 0 ∧ A.Ok ∧ B.Ok) := ⟨ha, hb, oa, ob⟩
  clear HC ha hb oa ob
  by_cases hm : A.len ≤ B.len
  all_goals
    go_enter Try.func78, Try.ntmps78
    go_wp2_with fail
    go_loopw [12] (fun x wr => ∃ (k m : Nat) (l r : TmL), x = .int .i64 k ∧ l.len + k = A.len ∧ r.len + k = B.len ∧ l.sz ≤ N ∧ Hid (l.V w S a k ∧ r.V w S b k ∧ l.Ok ∧ r.Ok ∧ A.cmp B = l.cmp r) ∧ Hid (wr = w.drewN m)) (fun x _ => A.len - (intOf x).toNat)
    case atStart => exact ⟨0, 0, A, B, rfl, rfl, rfl, hN, ⟨H0.out.1, H0.out.2.1, H0.out.2.2.1, H0.out.2.2.2, rfl⟩, rfl⟩
    case round =>
      obtain ⟨k, m, l, r, rfl, hl, hr, hlN, HI, HW⟩ := hrel
      cases l with
      | nil =>
        have h1 : A.len ≤ k := by simp [TmL.len] at hl; omega
        have H : Hid (A.cmp B = Sp.cmpI A.len B.len) := by
          show _ = _
          rw [HI.out.2.2.2.2]
          cases r with
          | nil => simp only [TmL.len] at hl hr; simp only [TmL.cmp]; unfold Sp.cmpI; rw [if_neg (by omega), if_neg (by omega)]
          | cons u r => simp only [TmL.len] at hl hr; simp only [TmL.cmp]; unfold Sp.cmpI; rw [if_pos (by omega)]
        have h2 : k ≤ B.len := by omega
        have h3 : A.len ≤ B.len := by simp only [TmL.len] at hl; omega
        clear hl hr
        first
        | (exfalso; omega)
        | (go_wp2_with (go_at_call 70; refine (cmpInt_any _ _ _).mono ?_; rintro e w' ⟨rfl, rfl⟩)
           go_ret
           exact ⟨ret_int H.out.symm, m, HW.out⟩)
      | cons t l =>
        cases r with
        | nil =>
          have h1 : B.len ≤ k := by simp [TmL.len] at hr; omega
          have H : Hid (A.cmp B = Sp.cmpI A.len B.len) := by
            show _ = _
            rw [HI.out.2.2.2.2]
            simp only [TmL.len] at hl hr; simp only [TmL.cmp]; unfold Sp.cmpI; rw [if_neg (by omega), if_pos (by omega)]
          have h3 : B.len < A.len := by simp only [TmL.len] at hl hr; omega
          clear hl hr
          first
          | (exfalso; omega)
          | (go_wp2_with (go_at_call 70; refine (cmpInt_any _ _ _).mono ?_; rintro e w' ⟨rfl, rfl⟩)
             go_ret
             exact ⟨ret_int H.out.symm, m, HW.out⟩)
        | cons u r =>
          obtain ⟨hv1, hv2, ho1, ho2, hc⟩ := HI.out
          simp only [TmL.V] at hv1 hv2
          obtain ⟨g1, o1, v1, rfl, _, c1, ht, hl'⟩ := hv1
          obtain ⟨g2, o2, v2, rfl, _, c2, hu, hr'⟩ := hv2
          have hk1 : k < A.len := by simp only [TmL.len] at hl; omega
          have hk2 : k < B.len := by simp only [TmL.len] at hr; omega
          have hi0 : (0 : Int) ≤ (k : Int) := Int.natCast_nonneg _
          have hi1 : (k : Int) < (A.len : Int) := by omega
          have hi2 : (k : Int) < (B.len : Int) := by omega
          have HL : Hid (l.len + (k + 1) = A.len ∧ r.len + (k + 1) = B.len) := by show _ ∧ _; simp only [TmL.len] at hl hr; omega
          have htN : t.sz ≤ N ∧ l.sz ≤ N := by simp [TmL.sz] at hlN; omega
          have HO : Hid (∀ n, Calls Try.prog 45 #[v1, v2] (wr.drewN n) fun e w' => e = .returned (.int .i64 (t.cmp u)) ∧ ∃ m, w' = (wr.drewN n).drewN m) := fun n => by
            have hs : Same S w (wr.drewN n) := fun k _ => by rw [HW.out]; rfl
            exact HCH.out t u htN.1 v1 v2 S (wr.drewN n) (t.V_same hs (fun _ h => h) v1 ht) (u.V_same hs (fun _ h => h) v2 hu) ho1.head.1 ho2.head.1
          have c1 : wr.cell? ⟨g1, o1 + k, none⟩ = some v1 := by rw [HW.out]; exact c1
          have c2 : wr.cell? ⟨g2, o2 + k, none⟩ = some v2 := by rw [HW.out]; exact c2
          have HWN : Hid (∀ q, ∃ m', wr.drewN q = w.drewN m') := fun q => ⟨m + q, by rw [HW.out]; simp⟩
          have HN : Hid (l.V w S (some ⟨g1, o1, none⟩) (k + 1) ∧ r.V w S (some ⟨g2, o2, none⟩) (k + 1) ∧ l.Ok ∧ r.Ok) := ⟨hl', hr', ho1.head.2, ho2.head.2⟩
          have HCC : Hid (A.cmp B = if t.cmp u ≠ 0 then t.cmp u else l.cmp r) := by show _ = _; rw [hc, TmL.cmp]
          clear hl hr hlN HI hl' hr' ho1 ho2 hc ht hu H0
          go_wp2_with fail
          go_quiet ((go_at_call 45; exact Calls.quiet_of (HO.out _)))
          by_cases he : t.cmp u ≠ 0
          · have he' := ne_bool he
            have H : Hid (A.cmp B = t.cmp u) := by show _ = _; rw [HCC.out, if_pos he]
            clear he
            go_wp2_with fail
            go_ret
            exact ⟨ret_int H.out.symm, HWN.out _⟩
          · have he0 : t.cmp u = 0 := Decidable.not_not.1 he
            have H : Hid (A.cmp B = l.cmp r) := by show _ = _; rw [HCC.out, if_neg he]
            clear he
            go_wp2_with fail
            go_roundw
            case rel =>
              obtain ⟨m', hm'⟩ := HWN.out nq
              exact ⟨k + 1, m', l, r, by go_num, HL.out.1, HL.out.2, htN.2, ⟨HN.out.1, HN.out.2.1, HN.out.2.2.1, HN.out.2.2.2, H.out⟩, hm'⟩
            case measure => simp [intOf]; omega
end Go.Proofs.Ytkomcebknllaiaa

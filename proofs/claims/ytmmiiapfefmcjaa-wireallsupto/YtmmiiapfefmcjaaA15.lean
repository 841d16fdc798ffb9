/- The document's reading of a list and of fields whose number is none. -/
import Derived.Test.YtmmiiapfefmcjaaA14
import Derived.Test.YtmmiiapfefmcjaaA2
import Derived.Test.YtmmiiapfefmcjaaA3
import Derived.Lib.BytesEntry
import Derived.Deep.RegionWith
import Derived.Test.YtmmiiapfefmcjaaA6
import Derived.Test.YtmmiiapfefmcjaaA5
namespace Go.Proofs.Ytmmiiapfefmcjaa
open Go.RowKit

set_option maxRecDepth 100000 in
set_option maxHeartbeats 4000000 in
theorem rgbody_list_stop (xs : List Int) (a : Option Addr) (cap at' p : Nat) (start deep : Int) (w : World) (nv : Nat) (q : Nat) (er : Int) (her : er ≠ 0) (HLo : Hid (∀ W, Below w.heap.size w W → Calls Try.prog 118 #[.agg #[.slice a xs.length cap, .int .i64 (at' : Int), .int .i64 (p : Int), .int .i64 0, .int .i64 0], .int .u64 4096, .int .i64 start, .int .i64 2] W fun e w' => ∃ a2 : Nat, e = .returned (.tuple #[.agg #[.slice a xs.length cap, .int .i64 (a2 : Int), .int .i64 (p : Int), .int .i64 (q : Int), .int .i64 er], .int .u64 (nv : Int)]) ∧ Below W.heap.size W w')) :
    Calls Try.prog 93 #[.agg #[.slice a xs.length cap, .int .i64 (at' : Int), .int .i64 (p : Int), .int .i64 0, .int .i64 0], .agg #[.int .i64 8, .bool false, .int .i64 0, .float .f64 0, .string ⟨#[]⟩, .slice none 0 0, .int .u64 0, .slice none 0 0, .slice none 0 0, .string ⟨#[]⟩, .int .i64 0], .int .i64 start, .int .i64 deep] w fun e w' => ∃ a2 : Nat, e = .returned (.tuple #[.agg #[.slice a xs.length cap, .int .i64 (a2 : Int), .int .i64 (p : Int), .int .i64 (q : Int), .int .i64 er], .agg #[.int .i64 8, .bool false, .int .i64 0, .float .f64 0, .string ⟨#[]⟩, .slice none 0 0, .int .u64 0, .slice none 0 0, .slice none 0 0, .string ⟨#[]⟩, .int .i64 0]]) ∧ Below w.heap.size w w' := by
  have he : (er == 0) = false := by simp [her]
  clear her
  have HN := R4.new w #[.slice a xs.length cap, .int .i64 (at' : Int), .int .i64 (p : Int), .int .i64 0, .int .i64 0] #[.int .i64 8, .bool false, .int .i64 0, .float .f64 0, .string ⟨#[]⟩, .slice none 0 0, .int .u64 0, .slice none 0 0, .slice none 0 0, .string ⟨#[]⟩, .int .i64 0] #[.slice none 0 0, .int .i64 0, .int .i64 0, .int .i64 0, .int .i64 0] #[.int .i64 0, .bool false, .int .i64 0, .float .f64 0, .string ⟨#[]⟩, .slice none 0 0, .int .u64 0, .slice none 0 0, .slice none 0 0, .string ⟨#[]⟩, .int .i64 0]
  have HN : Hid _ := HN
  go_enter Try.func93, Try.ntmps93
  go_wp2_with fail
  refine (HLo.out _ HN.out.bel).mono ?_
  rintro e w0 ⟨a2, rfl, hb⟩
  have HR0 := HN.out.call hb
  have HR0 : Hid _ := HR0
  clear hb HN 
  obtain ⟨A0, B0, C0, D0, E0, k1, k2, k3, k4, k5, ⟨c0, y0⟩, ⟨c1, y1⟩, ⟨c2, y2⟩, ⟨c3, y3⟩, ⟨c4, y4⟩, hE⟩ := chain5 HR0.out.box (.slice a xs.length cap) (.int .i64 (a2 : Int)) (.int .i64 (p : Int)) (.int .i64 (q : Int)) (.int .i64 er)
  have HS0 := HR0.out.put (.slice a xs.length cap) (.int .i64 (a2 : Int)) (.int .i64 (p : Int)) (.int .i64 (q : Int)) (.int .i64 er)
  rw [← hE] at HS0
  have HS0 : Hid _ := HS0
  clear hE HR0
  obtain ⟨⟨e0, e1, e2, e3, e4⟩, _⟩ := own5 HS0.out.box
  go_wp2_with fail
  go_loopw [15] (fun x wr => x = .int .u64 0 ∧ Hid (R4 w wr #[.slice a xs.length cap, .int .i64 (a2 : Int), .int .i64 (p : Int), .int .i64 (q : Int), .int .i64 er] #[.int .i64 8, .bool false, .int .i64 0, .float .f64 0, .string ⟨#[]⟩, .slice none 0 0, .int .u64 0, .slice none 0 0, .slice none 0 0, .string ⟨#[]⟩, .int .i64 0] #[.slice none 0 0, .int .i64 0, .int .i64 0, .int .i64 0, .int .i64 0] #[.int .i64 0, .bool false, .int .i64 0, .float .f64 0, .string ⟨#[]⟩, .slice none 0 0, .int .u64 0, .slice none 0 0, .slice none 0 0, .string ⟨#[]⟩, .int .i64 0])) (fun _ _ => 0)
  case atStart => exact ⟨rfl, HS0.out⟩
  case round =>
    obtain ⟨rfl, HR⟩ := hrel
    clear HS0 HLo e0 e1 e2 e3 e4 c0 c1 c2 c3 c4 y0 y1 y2 y3 y4 k1 k2 k3 k4 k5
    obtain ⟨⟨e0, e1, e2, e3, e4⟩, _⟩ := own5 HR.out.box
    by_cases hnv : nv = 0
    · subst hnv
      go_wp2_with fail
      have HQR := HR.out
      have HQR : Hid _ := HQR
      have HD := HQR.out.drew
      have HD : Hid _ := HD
      obtain ⟨V1, V2, V3, V4, V5, l1, l2, l3, l4, l5, ⟨d0, x0⟩, ⟨d1, x1⟩, ⟨d2, x2⟩, ⟨d3, x3⟩, ⟨d4, x4⟩, hV⟩ := chain5 HD.out.res (.slice a xs.length cap) (.int .i64 (a2 : Int)) (.int .i64 (p : Int)) (.int .i64 (q : Int)) (.int .i64 er)
      have HV := HD.out.putR (.slice a xs.length cap) (.int .i64 (a2 : Int)) (.int .i64 (p : Int)) (.int .i64 (q : Int)) (.int .i64 er)
      rw [← hV] at HV
      have HV : Hid _ := HV
      have HV2 : Hid _ := hV
      clear hV
      obtain ⟨U1, U2, U3, U4, U5, U6, U7, U8, U9, U10, U11, m0, m1, m2, m3, m4, m5, m6, m7, m8, m9, m10, ⟨b0, g0⟩, ⟨b1, g1⟩, ⟨b2, g2⟩, ⟨b3, g3⟩, ⟨b4, g4⟩, ⟨b5, g5⟩, ⟨b6, g6⟩, ⟨b7, g7⟩, ⟨b8, g8⟩, ⟨b9, g9⟩, ⟨b10, g10⟩, hU⟩ := chain11 HV.out.ter (.int .i64 8) (.bool false) (.int .i64 0) (.float .f64 0) (.string ⟨#[]⟩) (.slice none 0 0) (.int .u64 0) (.slice none 0 0) (.slice none 0 0) (.string ⟨#[]⟩) (.int .i64 0)
      have HU := HV.out.putT (.int .i64 8) (.bool false) (.int .i64 0) (.float .f64 0) (.string ⟨#[]⟩) (.slice none 0 0) (.int .u64 0) (.slice none 0 0) (.slice none 0 0) (.string ⟨#[]⟩) (.int .i64 0)
      rw [← hU] at HU
      have HU : Hid _ := HU
      have HU2 : Hid _ := hU
      clear hU
      have HS0 : Hid _ := HD.out.S
      have HS1 : Hid _ := HV.out.S
      have HS2 : Hid _ := HU.out.S
      go_region_held3 (fun W => (W.cell? ⟨w.heap.size, 0, none⟩ = some (.slice a xs.length cap) ∧ W.cell? ⟨w.heap.size, 1, none⟩ = some (.int .i64 (a2 : Int)) ∧ W.cell? ⟨w.heap.size, 2, none⟩ = some (.int .i64 (p : Int)) ∧ W.cell? ⟨w.heap.size, 3, none⟩ = some (.int .i64 (q : Int)) ∧ W.cell? ⟨w.heap.size, 4, none⟩ = some (.int .i64 er)) ∧ (W.cell? ⟨w.heap.size + 1, 0, none⟩ = some (.int .i64 8) ∧ W.cell? ⟨w.heap.size + 1, 1, none⟩ = some (.bool false) ∧ W.cell? ⟨w.heap.size + 1, 2, none⟩ = some (.int .i64 0) ∧ W.cell? ⟨w.heap.size + 1, 3, none⟩ = some (.float .f64 0) ∧ W.cell? ⟨w.heap.size + 1, 4, none⟩ = some (.string ⟨#[]⟩) ∧ W.cell? ⟨w.heap.size + 1, 5, none⟩ = some (.slice none 0 0) ∧ W.cell? ⟨w.heap.size + 1, 6, none⟩ = some (.int .u64 0) ∧ W.cell? ⟨w.heap.size + 1, 7, none⟩ = some (.slice none 0 0) ∧ W.cell? ⟨w.heap.size + 1, 8, none⟩ = some (.slice none 0 0) ∧ W.cell? ⟨w.heap.size + 1, 9, none⟩ = some (.string ⟨#[]⟩) ∧ W.cell? ⟨w.heap.size + 1, 10, none⟩ = some (.int .i64 0)))
        (first | with_reducible exact HS0.out | with_reducible exact HS1.out | with_reducible exact HS2.out)
        (fail)
      go_wp2_with fail
      obtain ⟨⟨r0, r1, r2, r3, r4⟩, _⟩ := own5 HU.out.res
      obtain ⟨s0, s1, s2, s3, s4, s5, s6, s7, s8, s9, s10⟩ := own11 HU.out.ter
      exact bodyPost_ret (v := .tuple #[.agg #[.slice a xs.length cap, .int .i64 (a2 : Int), .int .i64 (p : Int), .int .i64 (q : Int), .int .i64 er], .agg #[.int .i64 8, .bool false, .int .i64 0, .float .f64 0, .string ⟨#[]⟩, .slice none 0 0, .int .u64 0, .slice none 0 0, .slice none 0 0, .string ⟨#[]⟩, .int .i64 0]]) (by simp [results, Try.results93, go_sem, r0, r1, r2, r3, r4, s0, s1, s2, s3, s4, s5, s6, s7, s8, s9, s10] <;> rfl) rfl ⟨a2, rfl, HU.out.bel⟩
    · have hnv' : decide ((0 : Int) < (nv : Int)) = true := decide_eq_true (by omega)
      have hnv2 : 0 < nv := by omega
      clear hnv
      go_wp2_with fail
      have HQR := HR.out
      have HQR : Hid _ := HQR
      have HD := HQR.out.drew
      have HD : Hid _ := HD
      obtain ⟨V1, V2, V3, V4, V5, l1, l2, l3, l4, l5, ⟨d0, x0⟩, ⟨d1, x1⟩, ⟨d2, x2⟩, ⟨d3, x3⟩, ⟨d4, x4⟩, hV⟩ := chain5 HD.out.res (.slice a xs.length cap) (.int .i64 (a2 : Int)) (.int .i64 (p : Int)) (.int .i64 (q : Int)) (.int .i64 er)
      have HV := HD.out.putR (.slice a xs.length cap) (.int .i64 (a2 : Int)) (.int .i64 (p : Int)) (.int .i64 (q : Int)) (.int .i64 er)
      rw [← hV] at HV
      have HV : Hid _ := HV
      have HV2 : Hid _ := hV
      clear hV
      obtain ⟨U1, U2, U3, U4, U5, U6, U7, U8, U9, U10, U11, m0, m1, m2, m3, m4, m5, m6, m7, m8, m9, m10, ⟨b0, g0⟩, ⟨b1, g1⟩, ⟨b2, g2⟩, ⟨b3, g3⟩, ⟨b4, g4⟩, ⟨b5, g5⟩, ⟨b6, g6⟩, ⟨b7, g7⟩, ⟨b8, g8⟩, ⟨b9, g9⟩, ⟨b10, g10⟩, hU⟩ := chain11 HV.out.ter (.int .i64 8) (.bool false) (.int .i64 0) (.float .f64 0) (.string ⟨#[]⟩) (.slice none 0 0) (.int .u64 0) (.slice none 0 0) (.slice none 0 0) (.string ⟨#[]⟩) (.int .i64 0)
      have HU := HV.out.putT (.int .i64 8) (.bool false) (.int .i64 0) (.float .f64 0) (.string ⟨#[]⟩) (.slice none 0 0) (.int .u64 0) (.slice none 0 0) (.slice none 0 0) (.string ⟨#[]⟩) (.int .i64 0)
      rw [← hU] at HU
      have HU : Hid _ := HU
      have HU2 : Hid _ := hU
      clear hU
      have HS0 : Hid _ := HD.out.S
      have HS1 : Hid _ := HV.out.S
      have HS2 : Hid _ := HU.out.S
      go_region_held3 (fun W => (W.cell? ⟨w.heap.size, 0, none⟩ = some (.slice a xs.length cap) ∧ W.cell? ⟨w.heap.size, 1, none⟩ = some (.int .i64 (a2 : Int)) ∧ W.cell? ⟨w.heap.size, 2, none⟩ = some (.int .i64 (p : Int)) ∧ W.cell? ⟨w.heap.size, 3, none⟩ = some (.int .i64 (q : Int)) ∧ W.cell? ⟨w.heap.size, 4, none⟩ = some (.int .i64 er)) ∧ (W.cell? ⟨w.heap.size + 1, 0, none⟩ = some (.int .i64 8) ∧ W.cell? ⟨w.heap.size + 1, 1, none⟩ = some (.bool false) ∧ W.cell? ⟨w.heap.size + 1, 2, none⟩ = some (.int .i64 0) ∧ W.cell? ⟨w.heap.size + 1, 3, none⟩ = some (.float .f64 0) ∧ W.cell? ⟨w.heap.size + 1, 4, none⟩ = some (.string ⟨#[]⟩) ∧ W.cell? ⟨w.heap.size + 1, 5, none⟩ = some (.slice none 0 0) ∧ W.cell? ⟨w.heap.size + 1, 6, none⟩ = some (.int .u64 0) ∧ W.cell? ⟨w.heap.size + 1, 7, none⟩ = some (.slice none 0 0) ∧ W.cell? ⟨w.heap.size + 1, 8, none⟩ = some (.slice none 0 0) ∧ W.cell? ⟨w.heap.size + 1, 9, none⟩ = some (.string ⟨#[]⟩) ∧ W.cell? ⟨w.heap.size + 1, 10, none⟩ = some (.int .i64 0)))
        (first | with_reducible exact HS0.out | with_reducible exact HS1.out | with_reducible exact HS2.out)
        (fail)
      go_wp2_with fail
      obtain ⟨⟨r0, r1, r2, r3, r4⟩, _⟩ := own5 HU.out.res
      obtain ⟨s0, s1, s2, s3, s4, s5, s6, s7, s8, s9, s10⟩ := own11 HU.out.ter
      exact bodyPost_ret (v := .tuple #[.agg #[.slice a xs.length cap, .int .i64 (a2 : Int), .int .i64 (p : Int), .int .i64 (q : Int), .int .i64 er], .agg #[.int .i64 8, .bool false, .int .i64 0, .float .f64 0, .string ⟨#[]⟩, .slice none 0 0, .int .u64 0, .slice none 0 0, .slice none 0 0, .string ⟨#[]⟩, .int .i64 0]]) (by simp [results, Try.results93, go_sem, r0, r1, r2, r3, r4, s0, s1, s2, s3, s4, s5, s6, s7, s8, s9, s10] <;> rfl) rfl ⟨a2, rfl, HU.out.bel⟩
set_option maxRecDepth 100000 in
set_option maxHeartbeats 4000000 in
theorem rgfields_stop (xs : List Int) (a : Option Addr) (cap at' p : Nat) (start deep : Int) (w : World) (nv : Nat) (q : Nat) (er : Int) (her : er ≠ 0) (HLo : Hid (∀ W, Below w.heap.size w W → Calls Try.prog 118 #[.agg #[.slice a xs.length cap, .int .i64 (at' : Int), .int .i64 (p : Int), .int .i64 0, .int .i64 0], .int .u64 4096, .int .i64 start, .int .i64 2] W fun e w' => ∃ a2 : Nat, e = .returned (.tuple #[.agg #[.slice a xs.length cap, .int .i64 (a2 : Int), .int .i64 (p : Int), .int .i64 (q : Int), .int .i64 er], .int .u64 (nv : Int)]) ∧ Below W.heap.size W w')) :
    Calls Try.prog 120 #[.agg #[.slice a xs.length cap, .int .i64 (at' : Int), .int .i64 (p : Int), .int .i64 0, .int .i64 0], .int .i64 start, .int .i64 deep] w fun e w' => ∃ (a2 : Nat) (af : Option Addr) (cf : Nat), e = .returned (.tuple #[.agg #[.slice a xs.length cap, .int .i64 (a2 : Int), .int .i64 (p : Int), .int .i64 (q : Int), .int .i64 er], .slice af 0 cf]) ∧ Below w.heap.size w w' := by
  have he : (er == 0) = false := by simp [her]
  clear her
  go_enter Try.func120, Try.ntmps120
  go_wp2_with fail
  have HN : Hid (RB w ((((w.alloc (.cells #[.slice a xs.length cap, .int .i64 (at' : Int), .int .i64 (p : Int), .int .i64 0, .int .i64 0] 94)).alloc (.cells #[.slice none 0 0, .int .i64 0, .int .i64 0, .int .i64 0, .int .i64 0] 94))).alloc (.cells #[] 83)) (.slice a xs.length cap) (.int .i64 (at' : Int)) (.int .i64 (p : Int)) (.int .i64 0) (.int .i64 0)) := (RB.new w (.slice a xs.length cap) (.int .i64 (at' : Int)) (.int .i64 (p : Int)) (.int .i64 0) (.int .i64 0) (.slice none 0 0) (.int .i64 0) (.int .i64 0) (.int .i64 0) (.int .i64 0)).call ((Below.refl _ _).alloc (Nat.le_refl _) (.cells #[] 83))
  refine (HLo.out _ HN.out.bel).mono ?_
  rintro e w0 ⟨a2, rfl, hb⟩
  have HR0 : Hid (RB w w0 (.slice a xs.length cap) (.int .i64 (at' : Int)) (.int .i64 (p : Int)) (.int .i64 0) (.int .i64 0)) := HN.out.call hb
  clear hb
  obtain ⟨A0, B0, C0, D0, E0, k1, k2, k3, k4, k5, ⟨c0, y0⟩, ⟨c1, y1⟩, ⟨c2, y2⟩, ⟨c3, y3⟩, ⟨c4, y4⟩, hE⟩ := chain5 HR0.out.box (.slice a xs.length cap) (.int .i64 (a2 : Int)) (.int .i64 (p : Int)) (.int .i64 (q : Int)) (.int .i64 er)
  have HS0 : Hid (RB w E0 (.slice a xs.length cap) (.int .i64 (a2 : Int)) (.int .i64 (p : Int)) (.int .i64 (q : Int)) (.int .i64 er)) := by rw [hE]; exact HR0.out.put _ _ _ _ _
  clear hE
  obtain ⟨⟨⟨e0, e1, e2, e3, e4⟩, _⟩, _⟩ := HS0.out.get
  go_wp2_with fail
  go_loopw [8, 10] (fun u x wr => u = .slice (some ⟨w.heap.size + 1 + 1, 0, none⟩) 0 0 ∧ x = .int .u64 0 ∧ Hid (RB w wr (.slice a xs.length cap) (.int .i64 (a2 : Int)) (.int .i64 (p : Int)) (.int .i64 (q : Int)) (.int .i64 er))) (fun _ _ _ => 0)
  case atStart => exact ⟨rfl, rfl, HS0.out⟩
  case round =>
    obtain ⟨rfl, rfl, HR⟩ := hrel
    clear HS0 HR0 HN HLo e0 e1 e2 e3 e4 c0 c1 c2 c3 c4 y0 y1 y2 y3 y4 k1 k2 k3 k4 k5
    obtain ⟨⟨⟨e0, e1, e2, e3, e4⟩, _⟩, _⟩ := HR.out.get
    by_cases hnv : nv = 0
    · subst hnv
      obtain ⟨v0, v1, v2, v3, v4, hres⟩ := HR.out.res
      obtain ⟨V1, V2, V3, V4, V5, l1, l2, l3, l4, l5, ⟨d0, x0⟩, ⟨d1, x1⟩, ⟨d2, x2⟩, ⟨d3, x3⟩, ⟨d4, x4⟩, hV5⟩ := chain5 hres (.slice a xs.length cap) (.int .i64 (a2 : Int)) (.int .i64 (p : Int)) (.int .i64 (q : Int)) (.int .i64 er)
      have HF := HR.out.fin (.slice a xs.length cap) (.int .i64 (a2 : Int)) (.int .i64 (p : Int)) (.int .i64 (q : Int)) (.int .i64 er)
      rw [← hV5] at HF
      have HF : Hid _ := HF
      clear hV5 hres
      go_wp2_with fail
      obtain ⟨⟨r0, r1, r2, r3, r4⟩, hbb⟩ := HF.out
      exact bodyPost_ret (v := .tuple #[.agg #[.slice a xs.length cap, .int .i64 (a2 : Int), .int .i64 (p : Int), .int .i64 (q : Int), .int .i64 er], .slice (some ⟨w.heap.size + 1 + 1, 0, none⟩) 0 0]) (by simp [results, Try.results120, go_sem, r0, r1, r2, r3, r4] <;> rfl) rfl ⟨_, _, _, rfl, hbb⟩
    · have hnv' : decide ((0 : Int) < (nv : Int)) = true := decide_eq_true (by omega)
      have hnv2 : 0 < nv := by omega
      clear hnv
      obtain ⟨v0, v1, v2, v3, v4, hres⟩ := HR.out.res
      obtain ⟨V1, V2, V3, V4, V5, l1, l2, l3, l4, l5, ⟨d0, x0⟩, ⟨d1, x1⟩, ⟨d2, x2⟩, ⟨d3, x3⟩, ⟨d4, x4⟩, hV5⟩ := chain5 hres (.slice a xs.length cap) (.int .i64 (a2 : Int)) (.int .i64 (p : Int)) (.int .i64 (q : Int)) (.int .i64 er)
      have HF := HR.out.fin (.slice a xs.length cap) (.int .i64 (a2 : Int)) (.int .i64 (p : Int)) (.int .i64 (q : Int)) (.int .i64 er)
      rw [← hV5] at HF
      have HF : Hid _ := HF
      clear hV5 hres
      go_wp2_with fail
      obtain ⟨⟨r0, r1, r2, r3, r4⟩, hbb⟩ := HF.out
      exact bodyPost_ret (v := .tuple #[.agg #[.slice a xs.length cap, .int .i64 (a2 : Int), .int .i64 (p : Int), .int .i64 (q : Int), .int .i64 er], .slice (some ⟨w.heap.size + 1 + 1, 0, none⟩) 0 0]) (by simp [results, Try.results120, go_sem, r0, r1, r2, r3, r4] <;> rfl) rfl ⟨_, _, _, rfl, hbb⟩
end Go.Proofs.Ytmmiiapfefmcjaa

/- The leaves of package value's order: numbers, texts, bools, floats, bytes. -/
namespace Go.Proofs.Ytmmiiapfefmcjaa
open Go.RowKit

theorem less_of (a b : ByteArray) : Op.bytesLess a.toList b.toList = decide (Sp.cmpS a b = -1) := by
  rw [ByteArray.toList_eq, ByteArray.toList_eq]; exact bytesLess_cmp _ _
theorem same_of (a b : ByteArray) : (a.toList == b.toList) = decide (Sp.cmpS a b = 0) := by
  rw [ByteArray.toList_eq, ByteArray.toList_eq, Bool.eq_iff_iff]
  simp [Sp.cmpS, cmp_eq_zero]

theorem bits_run (f : Nat) (w : World) : (callFunc 44 #[.float .f64 f]).run Try.prog w = .ok (.value (.int .u64 f)) w := by
  rw [run_callFunc_extern Try.func44 (by kernel_rfl) (by kernel_rfl) (by kernel_rfl) (e := Extern.MathFloatBits.float64bits) (by kernel_rfl)]
  rfl

end Go.Proofs.Ytmmiiapfefmcjaa

/- Package value's order of two values is the plain order of their terms. -/
namespace Go.Proofs.Ytmmiiapfefmcjaa
open Go.RowKit

def OrderC (N : Nat) : Prop := ∀ (s t : Tm), s.sz ≤ N → ∀ (va vb : Value) (S : Nat → Prop) (w : World), s.V w S va → t.V w S vb → s.Ok → t.Ok →
  Calls Try.prog 42 #[va, vb] w fun e w' => e = .returned (.int .i64 (s.cmp t)) ∧ ∃ m, w' = w.drewN m

end Go.Proofs.Ytmmiiapfefmcjaa

/- Package value's order of dicts and records is the plain order of their terms' fields. -/
namespace Go.Proofs.Ytmmiiapfefmcjaa
open Go.RowKit

end Go.Proofs.Ytmmiiapfefmcjaa

/- value.Check at a term's value: what the plain walk through the term says. -/
namespace Go.Proofs.Ytmmiiapfefmcjaa
open Go.RowKit

/-- the walk of a whole term -/
def Tm.all (t : Tm) : Wr := t.wk 1 0 0
/-- the number of the first part that is wrong (0: none is), how many parts it has, how deep the deepest lies (0: it can't be) -/
def Tm.cAt (t : Tm) : Int := if t.all.e ≠ 0 then t.all.p - 1 else 0
def Tm.szN (t : Tm) : Int := if t.all.e ≠ 0 then 0 else t.all.p
def Tm.szD (t : Tm) : Int := if t.all.e ≠ 0 then 0 else t.all.d
/-- a term's kind as the document counts it -/
def Tm.kindK (t : Tm) : Int := if t.kind < 1 ∨ 11 < t.kind then 0 else t.kind
end Go.Proofs.Ytmmiiapfefmcjaa

/- Package value's order of any two values that can be is the plain order of their terms. -/
namespace Go.Proofs.Ytmmiiapfefmcjaa
open Go.RowKit

end Go.Proofs.Ytmmiiapfefmcjaa

/- value.termOf and value.entriesOf: the term of a value that can be, in new memory. -/
namespace Go.Proofs.Ytmmiiapfefmcjaa
open Go.RowKit

mutual
/-- a term without what plays no part -/
def Tm.clean : Tm → Tm
  | .mk k b i f tx by' rf l fs c v => .mk k (if k = 2 then b else false) (if k = 3 then i else 0) (if k = 4 then f else 0) (if k = 5 then tx else ByteArray.empty) (if k = 6 then by' else ByteArray.empty) (if k = 7 then rf else 0) (if k = 8 then l.clean else .nil) (if k = 9 ∨ k = 10 then fs.clean else .nil) (if k = 10 then c else ByteArray.empty) (if k = 10 then v else 0)
def TmL.clean : TmL → TmL
  | .nil => .nil
  | .cons t l => .cons t.clean l.clean
def TmF.clean : TmF → TmF
  | .nil => .nil
  | .cons n t l => .cons n t.clean l.clean
end
mutual
/-- numbers are in their bounds -/
def Tm.Bdd : Tm → Prop
  | .mk _ _ i f _ _ rf l fs _ v => (-9223372036854775808 ≤ i ∧ i ≤ 9223372036854775807) ∧ f < 18446744073709551616 ∧ (0 ≤ rf ∧ rf ≤ 18446744073709551615) ∧ (-9223372036854775808 ≤ v ∧ v ≤ 9223372036854775807) ∧ l.Bdd ∧ fs.Bdd
def TmL.Bdd : TmL → Prop
  | .nil => True
  | .cons t l => t.Bdd ∧ l.Bdd
def TmF.Bdd : TmF → Prop
  | .nil => True
  | .cons _ t l => t.Bdd ∧ l.Bdd
end
mutual
theorem Tm.In_bdd {w : World} {B : Nat → Prop} : (t : Tm) → ∀ cs, t.In w B cs → t.Bdd
  | .mk k b i f tx by' rf l fs c v, cs, h => by
    simp only [Tm.In] at h
    obtain ⟨ab, cb, al, cl, af, cf, rfl, hbd, hby, hl, hfs⟩ := h
    simp only [Tm.Bdd]
    exact ⟨⟨hbd.i0, hbd.i1⟩, hbd.f1, ⟨hbd.r0, hbd.r1⟩, ⟨hbd.v0, hbd.v1⟩, TmL.In_bdd l _ _ hl, TmF.In_bdd fs _ _ hfs⟩
theorem TmL.In_bdd {w : World} {B : Nat → Prop} : (l : TmL) → ∀ a j, l.In w B a j → l.Bdd
  | .nil, _, _, _ => trivial
  | .cons t l, a, j, h => by
    simp only [TmL.In] at h
    obtain ⟨_, _, _, _, _, _, ht, hl⟩ := h
    exact ⟨Tm.In_bdd t _ ht, TmL.In_bdd l _ _ hl⟩
theorem TmF.In_bdd {w : World} {B : Nat → Prop} : (l : TmF) → ∀ a j, l.In w B a j → l.Bdd
  | .nil, _, _, _ => trivial
  | .cons n t l, a, j, h => by
    simp only [TmF.In] at h
    obtain ⟨_, _, _, _, _, _, _, _, ht, hl⟩ := h
    exact ⟨Tm.In_bdd t _ ht, TmF.In_bdd l _ _ hl⟩
end
theorem TmL.clean_len : (l : TmL) → l.clean.len = l.len
  | .nil => rfl
  | .cons t l => by simp only [TmL.clean, TmL.len, TmL.clean_len l]
theorem TmF.clean_len : (l : TmF) → l.clean.len = l.len
  | .nil => rfl
  | .cons n t l => by simp only [TmF.clean, TmF.len, TmF.clean_len l]

def TOfC (N : Nat) : Prop := ∀ (t : Tm), t.sz ≤ N → ∀ (v : Value) (B : Nat → Prop) (w : World), t.V w B v → Sub B w → t.Ok → t.Bdd →
  Calls Try.prog 35 #[v] w fun e w' => ∃ cs, e = .returned (.agg cs) ∧ Below w.heap.size w w' ∧ t.clean.In w' (FrS w w') cs
theorem TOfC.at {N : Nat} (HC : TOfC N) {t : Tm} (hN : t.sz ≤ N) {v : Value} {B : Nat → Prop} {w : World} (h : t.V w B v) (hB : Sub B w) (ho : t.Ok) (hb : t.Bdd) :
    ∀ W, Below w.heap.size w W → Calls Try.prog 35 #[v] W fun e w' => ∃ k b i f tx ab nb cb rf al nl cl af nf cf c vr, e = .returned (.agg (tcells k b i f tx (.slice ab nb cb) rf (.slice al nl cl) (.slice af nf cf) c vr)) ∧ Below W.heap.size W w' ∧ t.clean.In w' (FrS W w') (tcells k b i f tx (.slice ab nb cb) rf (.slice al nl cl) (.slice af nf cf) c vr) := by
  intro W hW
  refine (HC t hN v B W (t.V_same (hB.same hW) (fun _ h => h) v h) (hB.later hW) ho hb).mono ?_
  rintro e w' ⟨cs, rfl, hb, hv⟩
  obtain ⟨k1, b1, i1, f1, tx1, ab1, nb1, cb1, rf1, al1, nl1, cl1, af1, nf1, cf1, cc1, vr1, rfl⟩ := Tm.In_tc' hv
  exact ⟨k1, b1, i1, f1, tx1, ab1, nb1, cb1, rf1, al1, nl1, cl1, af1, nf1, cf1, cc1, vr1, rfl, hb, hv⟩
end Go.Proofs.Ytmmiiapfefmcjaa

/- tenonref01.seen.part, Check and Size: the reference's walk through a term comes to the plain walk. -/
namespace Go.Proofs.Ytmmiiapfefmcjaa
open Go.RowKit

/-- what the reference's walk answers, against the plain walk's numbers -/
def Seen (at' : Int) (r : Wr) (n d a : Int) : Prop := (r.e = 0 → n = r.p ∧ d = r.d ∧ a = at') ∧ (r.e ≠ 0 → a = r.p - 1)

/-- block g holds a 'seen' -/
def Bx (w : World) (g : Nat) (n d a e : Int) : Prop := w.heap[g]? = some (.cells #[.int .i64 n, .int .i64 d, .int .i64 a, .int .i64 e] 79 (0, 0))
theorem Bx.cells {w : World} {g : Nat} {n d a e : Int} (h : Bx w g n d a e) : (w.cell? ⟨g, 0, none⟩ = some (.int .i64 n) ∧ w.cell? ⟨g, 1, none⟩ = some (.int .i64 d) ∧ w.cell? ⟨g, 2, none⟩ = some (.int .i64 a) ∧ w.cell? ⟨g, 3, none⟩ = some (.int .i64 e)) ∧ (w.frozen? ⟨g, 0, none⟩ = false ∧ w.frozen? ⟨g, 1, none⟩ = false ∧ w.frozen? ⟨g, 2, none⟩ = false ∧ w.frozen? ⟨g, 3, none⟩ = false) := by
  unfold Bx at h
  refine ⟨⟨?_, ?_, ?_, ?_⟩, ?_, ?_, ?_, ?_⟩
  · rw [cell_of_row w g 0 _ _ _ h]; rfl
  · rw [cell_of_row w g 1 _ _ _ h]; rfl
  · rw [cell_of_row w g 2 _ _ _ h]; rfl
  · rw [cell_of_row w g 3 _ _ _ h]; rfl
  · exact frozen_of_row w g 0 _ _ h
  · exact frozen_of_row w g 1 _ _ h
  · exact frozen_of_row w g 2 _ _ h
  · exact frozen_of_row w g 3 _ _ h
theorem Bx.later {w w' : World} {g : Nat} {n d a e : Int} (h : Bx w g n d a e) (hb : Below w.heap.size w w') : Bx w' g n d a e := by
  have hg : g < w.heap.size := World.block_lt_of_cell? _ _ h.cells.1.1
  unfold Bx at h ⊢; rw [hb.block g hg]; exact h

theorem Bx.other {w : World} {g : Nat} {n d a e : Int} (h : Bx w g n d a e) {p : Addr} (hp : g ≠ p.block) (v : Value) : Bx (w.setCell p v) g n d a e := by
  unfold Bx at h ⊢; rw [heap_setCell_other _ _ _ _ hp]; exact h
theorem Same.set {S : Nat → Prop} {w w' : World} (h : Same S w w') {p : Addr} (hp : ¬ S p.block) (v : Value) : Same S w (w'.setCell p v) := fun k hk => by
  rw [heap_setCell_other _ _ _ _ (fun e => hp (e ▸ hk))]; exact h k hk

/-- the eleven cells of a term in a box -/
theorem tbox {w : World} {g : Nat} {k : Int} {b : Bool} {i : Int} {f : Nat} {tx : ByteArray} {vb : Value} {rf : Int} {vl vf : Value} {c : ByteArray} {vr : Int}
    (h : w.heap[g]? = some (.cells (tcells k b i f tx vb rf vl vf c vr) 29 (0, 0))) :
    w.cell? ⟨g, 0, none⟩ = some (.int .i64 k) ∧ w.cell? ⟨g, 1, none⟩ = some (.bool b) ∧ w.cell? ⟨g, 2, none⟩ = some (.int .i64 i) ∧ w.cell? ⟨g, 3, none⟩ = some (.float .f64 f) ∧ w.cell? ⟨g, 4, none⟩ = some (.string tx) ∧ w.cell? ⟨g, 5, none⟩ = some vb ∧ w.cell? ⟨g, 6, none⟩ = some (.int .u64 rf) ∧ w.cell? ⟨g, 7, none⟩ = some vl ∧ w.cell? ⟨g, 8, none⟩ = some vf ∧ w.cell? ⟨g, 9, none⟩ = some (.string c) ∧ w.cell? ⟨g, 10, none⟩ = some (.int .i64 vr) := by
  have hh := fun j => cell_of_row w g j _ _ _ h
  exact ⟨hh 0, hh 1, hh 2, hh 3, hh 4, hh 5, hh 6, hh 7, hh 8, hh 9, hh 10⟩

theorem wrap_small {n : Int} (h0 : 0 ≤ n) (h1 : n ≤ 1000000) : IntKind.i64.wrap n = n := by
  rw [IntKind.wrap_i64]; omega

def PartC (N : Nat) : Prop := ∀ (t : Tm), t.sz ≤ N → ∀ (cs : Array Value) (B : Nat → Prop) (p d a n : Int) (w : World), t.In w B cs → Sub B w → 0 ≤ p → p ≤ 16384 → 1 ≤ n → n ≤ 65 →
  Calls Try.prog 38 #[.agg #[.int .i64 p, .int .i64 d, .int .i64 a, .int .i64 0], .agg cs, .int .i64 n] w fun e w' => ∃ n' d' a', e = .returned (.agg #[.int .i64 n', .int .i64 d', .int .i64 a', .int .i64 (t.wk n p d).e]) ∧ Below w.heap.size w w' ∧ Seen a (t.wk n p d) n' d' a'

end Go.Proofs.Ytmmiiapfefmcjaa

/- value.termOf at a list. -/
namespace Go.Proofs.Ytmmiiapfefmcjaa
open Go.RowKit

theorem RW.eleven {w wr : World} {g n : Nat} {xs : List Value} (h : RW 29 w wr g n xs) (o : Nat) (ho : o + 11 ≤ n) :
    ((∃ u, wr.cell? ⟨g, o, none⟩ = some u) ∧ wr.frozen? ⟨g, o, none⟩ = false) ∧ ((∃ u, wr.cell? ⟨g, o + 1, none⟩ = some u) ∧ wr.frozen? ⟨g, o + 1, none⟩ = false) ∧ ((∃ u, wr.cell? ⟨g, o + 2, none⟩ = some u) ∧ wr.frozen? ⟨g, o + 2, none⟩ = false) ∧ ((∃ u, wr.cell? ⟨g, o + 3, none⟩ = some u) ∧ wr.frozen? ⟨g, o + 3, none⟩ = false) ∧ ((∃ u, wr.cell? ⟨g, o + 4, none⟩ = some u) ∧ wr.frozen? ⟨g, o + 4, none⟩ = false) ∧ ((∃ u, wr.cell? ⟨g, o + 5, none⟩ = some u) ∧ wr.frozen? ⟨g, o + 5, none⟩ = false) ∧ ((∃ u, wr.cell? ⟨g, o + 6, none⟩ = some u) ∧ wr.frozen? ⟨g, o + 6, none⟩ = false) ∧ ((∃ u, wr.cell? ⟨g, o + 7, none⟩ = some u) ∧ wr.frozen? ⟨g, o + 7, none⟩ = false) ∧ ((∃ u, wr.cell? ⟨g, o + 8, none⟩ = some u) ∧ wr.frozen? ⟨g, o + 8, none⟩ = false) ∧ ((∃ u, wr.cell? ⟨g, o + 9, none⟩ = some u) ∧ wr.frozen? ⟨g, o + 9, none⟩ = false) ∧ ((∃ u, wr.cell? ⟨g, o + 10, none⟩ = some u) ∧ wr.frozen? ⟨g, o + 10, none⟩ = false) :=
  ⟨h.own o (by omega), h.own (o + 1) (by omega), h.own (o + 2) (by omega), h.own (o + 3) (by omega), h.own (o + 4) (by omega), h.own (o + 5) (by omega), h.own (o + 6) (by omega), h.own (o + 7) (by omega), h.own (o + 8) (by omega), h.own (o + 9) (by omega), h.own (o + 10) (by omega)⟩
/-- a box of a term's cells can be written -/
theorem box_writes {W : World} {g : Nat} {cs : Array Value} {e : TypeId} (h : W.heap[g]? = some (.cells cs e (0, 0))) : ∀ j, W.frozen? ⟨g, j, none⟩ = false := fun j => frozen_of_row _ _ j _ _ h

end Go.Proofs.Ytmmiiapfefmcjaa

/- value.entriesOf: the entries of a dict that can be, in new memory. -/
namespace Go.Proofs.Ytmmiiapfefmcjaa
open Go.RowKit

theorem cell_far {w : World} {g o : Nat} {p : Addr} (h : p.block ≠ g) (v : Value) : (w.setCell ⟨g, o, none⟩ v).cell? p = w.cell? p := World.cell?_setCell_other _ _ _ _ (by intro e; exact h (by rw [← e]))

theorem Try.infoEn : (Try.prog.info? 83).map (fun i => (i.zero, i.size, i.bytes)) = some (some (.agg #[.string ByteArray.empty, .int .i64 0, .bool false, .int .i64 0, .float .f64 0, .string ByteArray.empty, .slice none 0 0, .int .u64 0, .slice none 0 0, .slice none 0 0, .string ByteArray.empty, .int .i64 0]), 12, 168) := by kernel_rfl
theorem Try.undEs : Try.prog.underlying 27 = some (.slice 83) := by kernel_rfl

end Go.Proofs.Ytmmiiapfefmcjaa

/- value.termOf, kind by kind. -/
namespace Go.Proofs.Ytmmiiapfefmcjaa
open Go.RowKit

/-- two boxes of terms: what they hold later -/
theorem boxes_at {w : World} {o p : Obj} {w1 : World} (h : Below ((w.alloc o).alloc p).heap.size ((w.alloc o).alloc p) w1) : w1.heap[w.heap.size]? = some o ∧ w1.heap[w.heap.size + 1]? = some p ∧ Below w.heap.size w w1 ∧ w.heap.size + 2 ≤ w1.heap.size := by
  refine ⟨?_, ?_, below_to (((Below.refl _ _).alloc (Nat.le_refl _) _).alloc (by simp) _) h, by have := h.size; simpa using this⟩
  · rw [h.block w.heap.size (by simp; omega), Below.heap_alloc _ _ _ (by simp)]; exact heap_alloc_new w o
  · rw [h.block (w.heap.size + 1) (by simp)]; have := heap_alloc_new (w.alloc o) p; simpa using this

end Go.Proofs.Ytmmiiapfefmcjaa

/- value.termOf at a record. -/
namespace Go.Proofs.Ytmmiiapfefmcjaa
open Go.RowKit

theorem Bd.leaf {k i : Int} {f : Nat} {tx c : ByteArray} {nb nl nf : Nat} {rf vr : Int} (h0 : 1 ≤ k ∧ k ≤ 10) (hi : -9223372036854775808 ≤ i ∧ i ≤ 9223372036854775807) (hf : f < 18446744073709551616) (hr : 0 ≤ rf ∧ rf ≤ 18446744073709551615) (hv : -9223372036854775808 ≤ vr ∧ vr ≤ 9223372036854775807) (h1 : tx.size ≤ 65536) (h2 : c.size ≤ 65536) (h3 : nb ≤ 65536) (h4 : nl ≤ 4096) (h5 : nf ≤ 4096) : Bd k i f tx nb rf nl nf c vr :=
  ⟨by omega, by omega, hi.1, hi.2, hf, hr.1, hr.2, hv.1, hv.2, by omega, by omega, by omega, by omega, by omega⟩
theorem empty_size : ByteArray.empty.size = 0 := rfl

section
variable {b : Bool} {i : Int} {f : Nat} {tx : ByteArray} {by' : ByteArray} {rf : Int} {l : TmL} {fs : TmF} {c : ByteArray} {v : Int}
theorem Tm.clean_1 : (Tm.mk 1 b i f tx by' rf l fs c v).clean = .mk 1 false 0 0 ByteArray.empty ByteArray.empty 0 .nil .nil ByteArray.empty 0 := by simp [Tm.clean]
theorem Tm.clean_2 : (Tm.mk 2 b i f tx by' rf l fs c v).clean = .mk 2 b 0 0 ByteArray.empty ByteArray.empty 0 .nil .nil ByteArray.empty 0 := by simp [Tm.clean]
theorem Tm.clean_3 : (Tm.mk 3 b i f tx by' rf l fs c v).clean = .mk 3 false i 0 ByteArray.empty ByteArray.empty 0 .nil .nil ByteArray.empty 0 := by simp [Tm.clean]
theorem Tm.clean_4 : (Tm.mk 4 b i f tx by' rf l fs c v).clean = .mk 4 false 0 f ByteArray.empty ByteArray.empty 0 .nil .nil ByteArray.empty 0 := by simp [Tm.clean]
theorem Tm.clean_5 : (Tm.mk 5 b i f tx by' rf l fs c v).clean = .mk 5 false 0 0 tx ByteArray.empty 0 .nil .nil ByteArray.empty 0 := by simp [Tm.clean]
theorem Tm.clean_6 : (Tm.mk 6 b i f tx by' rf l fs c v).clean = .mk 6 false 0 0 ByteArray.empty by' 0 .nil .nil ByteArray.empty 0 := by simp [Tm.clean]
theorem Tm.clean_7 : (Tm.mk 7 b i f tx by' rf l fs c v).clean = .mk 7 false 0 0 ByteArray.empty ByteArray.empty rf .nil .nil ByteArray.empty 0 := by simp [Tm.clean]
theorem Tm.clean_8 : (Tm.mk 8 b i f tx by' rf l fs c v).clean = .mk 8 false 0 0 ByteArray.empty ByteArray.empty 0 l.clean .nil ByteArray.empty 0 := by simp [Tm.clean]
theorem Tm.clean_9 : (Tm.mk 9 b i f tx by' rf l fs c v).clean = .mk 9 false 0 0 ByteArray.empty ByteArray.empty 0 .nil fs.clean ByteArray.empty 0 := by simp [Tm.clean]
theorem Tm.clean_10 : (Tm.mk 10 b i f tx by' rf l fs c v).clean = .mk 10 false 0 0 ByteArray.empty ByteArray.empty 0 .nil fs.clean c v := by simp [Tm.clean]
end

end Go.Proofs.Ytmmiiapfefmcjaa


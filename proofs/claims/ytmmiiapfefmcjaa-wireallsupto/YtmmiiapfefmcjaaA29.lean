/- The document's reading of a value's body: a record whose version is none. -/
import Derived.Test.YtmmiiapfefmcjaaA27
namespace Go.Proofs.Ytmmiiapfefmcjaa
open Go.RowKit

set_option maxRecDepth 100000 in
set_option maxHeartbeats 4000000 in
theorem rgbody_rec_low (xs : List Int) (hby : By xs) (a : Option Addr) (cap at' p start : Nat) (deep : Int) (w : World) (hcp : xs.length ≤ cap) (hnl : a = none → cap = 0) (hsp : ∀ q, a = some q → q.spot = none) (hrd : RdB w (Lo w.heap.size) a xs) (hln : xs.length ≤ 281474976710656) (l : List Int) (a1 v a3 : Nat) (hr : Sp.rdN xs at' start = .ok l a1) (hn : Sp.rn xs a1 10 0 0 = .ok v a3) (hv : v < 1) :
    Calls Try.prog 93 #[.agg #[.slice a xs.length cap, .int .i64 (at' : Int), .int .i64 (p : Int), .int .i64 0, .int .i64 0], .agg #[.int .i64 10, .bool false, .int .i64 0, .float .f64 0, .string ⟨#[]⟩, .slice none 0 0, .int .u64 0, .slice none 0 0, .slice none 0 0, .string ⟨#[]⟩, .int .i64 0], .int .i64 (start : Int), .int .i64 deep] w fun e w' => ∃ (at2 : Nat) (sc : ByteArray) (vv : Int) (af : Option Addr) (cf : Nat), e = .returned (.tuple #[.agg #[.slice a xs.length cap, .int .i64 (at2 : Int), .int .i64 (p : Int), .int .i64 (start : Int), .int .i64 1], .agg #[.int .i64 10, .bool false, .int .i64 0, .float .f64 0, .string ⟨#[]⟩, .slice none 0 0, .int .u64 0, .slice none 0 0, .slice af 0 cf, .string sc, .int .i64 vv]]) ∧ Below w.heap.size w w' := by
  have HNm : Hid (∀ W, Below w.heap.size w W → Calls Try.prog 121 #[.agg #[.slice a xs.length cap, .int .i64 (at' : Int), .int .i64 (p : Int), .int .i64 0, .int .i64 0], .int .i64 (start : Int)] W fun e w' => e = .returned (.tuple #[.agg #[.slice a xs.length cap, .int .i64 (a1 : Int), .int .i64 (p : Int), .int .i64 0, .int .i64 0], .string (Sp.txt l)]) ∧ Below W.heap.size W w') := fun W hW => rgname_ok xs hby a cap at' p start W hcp hnl hsp (hrd.same (Same.of_below hW (Nat.le_refl _)) (Lo.le hW.size)) hln l a1 hr
  have HNu : Hid (∀ W, Below w.heap.size w W → Calls Try.prog 117 #[.agg #[.slice a xs.length cap, .int .i64 (a1 : Int), .int .i64 (p : Int), .int .i64 0, .int .i64 0]] W fun e w' => e = .returned (.tuple #[.agg #[.slice a xs.length cap, .int .i64 (a3 : Int), .int .i64 (p : Int), .int .i64 0, .int .i64 0], .int .u64 (v : Int)]) ∧ Below W.heap.size W w') := fun W hW => rgnum_ok xs hby a cap a1 p v a3 W hn (hrd.same (Same.of_below hW (Nat.le_refl _)) (Lo.le hW.size)) hln
  have HBd : Hid (∀ W, Below w.heap.size w W → Calls Try.prog 91 #[.agg #[.slice a xs.length cap, .int .i64 (a3 : Int), .int .i64 (p : Int), .int .i64 0, .int .i64 0], .int .i64 (start : Int), .int .i64 1] W fun e w' => e = .returned (.agg #[.slice a xs.length cap, .int .i64 (a3 : Int), .int .i64 (p : Int), .int .i64 (start : Int), .int .i64 1]) ∧ Below W.heap.size W w') := fun W _ => rgbad_ok a3 p a xs.length cap W start 1
  have HFi : Hid (∀ W, Below w.heap.size w W → Calls Try.prog 120 #[.agg #[.slice a xs.length cap, .int .i64 (a3 : Int), .int .i64 (p : Int), .int .i64 (start : Int), .int .i64 1], .int .i64 (start : Int), .int .i64 deep] W fun e w' => ∃ (af : Option Addr) (cf : Nat), e = .returned (.tuple #[.agg #[.slice a xs.length cap, .int .i64 (a3 : Int), .int .i64 (p : Int), .int .i64 (start : Int), .int .i64 1], .slice af 0 cf]) ∧ Below W.heap.size W w') := fun W _ => rgfields_pass xs a cap a3 p start 1 (by decide) start deep W
  have hv1 : decide ((v : Int) < 1) = true := decide_eq_true (by omega)
  obtain ⟨vv, hw1⟩ : ∃ vv, IntKind.i64.wrap (v : Int) = vv := ⟨_, rfl⟩
  have hw2 : wrap64 (v : Int) = vv := by rw [← hw1, IntKind.wrap_i64]; unfold wrap64; omega
  clear hr hn hv hby hcp hnl hsp hrd hln
  have HN := R4.new w #[.slice a xs.length cap, .int .i64 (at' : Int), .int .i64 (p : Int), .int .i64 0, .int .i64 0] #[.int .i64 10, .bool false, .int .i64 0, .float .f64 0, .string ⟨#[]⟩, .slice none 0 0, .int .u64 0, .slice none 0 0, .slice none 0 0, .string ⟨#[]⟩, .int .i64 0] #[.slice none 0 0, .int .i64 0, .int .i64 0, .int .i64 0, .int .i64 0] #[.int .i64 0, .bool false, .int .i64 0, .float .f64 0, .string ⟨#[]⟩, .slice none 0 0, .int .u64 0, .slice none 0 0, .slice none 0 0, .string ⟨#[]⟩, .int .i64 0]
  have HN : Hid _ := HN
  go_enter Try.func93, Try.ntmps93
  go_wp2_with fail
  refine (HNm.out _ HN.out.bel).mono ?_
  rintro e w0 ⟨rfl, hb⟩
  have HR0 := HN.out.call hb
  have HR0 : Hid _ := HR0
  clear hb HN 
  obtain ⟨A0, B0, C0, D0, E0, k1, k2, k3, k4, k5, ⟨c0, y0⟩, ⟨c1, y1⟩, ⟨c2, y2⟩, ⟨c3, y3⟩, ⟨c4, y4⟩, hE⟩ := chain5 HR0.out.box (.slice a xs.length cap) (.int .i64 (a1 : Int)) (.int .i64 (p : Int)) (.int .i64 0) (.int .i64 0)
  have HS0 := HR0.out.put (.slice a xs.length cap) (.int .i64 (a1 : Int)) (.int .i64 (p : Int)) (.int .i64 0) (.int .i64 0)
  rw [← hE] at HS0
  have HS0 : Hid _ := HS0
  clear hE HR0
  obtain ⟨⟨e0, e1, e2, e3, e4⟩, _⟩ := own5 HS0.out.box
  obtain ⟨G0, u9, HGa⟩ : ∃ G0, E0.setCell ⟨w.heap.size + 1, 9, none⟩ (.string (Sp.txt l)) = G0 ∧ Hid (R4 w G0 #[.slice a xs.length cap, .int .i64 (a1 : Int), .int .i64 (p : Int), .int .i64 0, .int .i64 0] #[.int .i64 10, .bool false, .int .i64 0, .float .f64 0, .string ⟨#[]⟩, .slice none 0 0, .int .u64 0, .slice none 0 0, .slice none 0 0, .string (Sp.txt l), .int .i64 0] #[.slice none 0 0, .int .i64 0, .int .i64 0, .int .i64 0, .int .i64 0] #[.int .i64 0, .bool false, .int .i64 0, .float .f64 0, .string ⟨#[]⟩, .slice none 0 0, .int .u64 0, .slice none 0 0, .slice none 0 0, .string ⟨#[]⟩, .int .i64 0]) := ⟨_, rfl, HS0.out.set 9 (.string (Sp.txt l))⟩
  have uc9 : E0.cell? ⟨w.heap.size + 1, 9, none⟩ = some (.string ⟨#[]⟩) := by rw [cell_of_row _ _ 9 _ _ _ HS0.out.tbx]; rfl
  have uf9 : E0.frozen? ⟨w.heap.size + 1, 9, none⟩ = false := frozen_of_row _ _ 9 _ _ HS0.out.tbx
  obtain ⟨⟨uh0, uh1, uh2, uh3, uh4⟩, _⟩ := own5 HGa.out.box
  go_wp2_with fail
  refine (HNu.out _ HGa.out.bel).mono ?_
  rintro e w1 ⟨rfl, hb⟩
  have HR1 := HGa.out.call hb
  have HR1 : Hid _ := HR1
  clear hb HGa HS0 e0 e1 e2 e3 e4 u9 uc9 uf9 uh0 uh1 uh2 uh3 uh4 c0 c1 c2 c3 c4 y0 y1 y2 y3 y4 k1 k2 k3 k4 k5
  obtain ⟨A1, B1, C1, D1, E1, k1, k2, k3, k4, k5, ⟨c0, y0⟩, ⟨c1, y1⟩, ⟨c2, y2⟩, ⟨c3, y3⟩, ⟨c4, y4⟩, hE⟩ := chain5 HR1.out.box (.slice a xs.length cap) (.int .i64 (a3 : Int)) (.int .i64 (p : Int)) (.int .i64 0) (.int .i64 0)
  have HS1 := HR1.out.put (.slice a xs.length cap) (.int .i64 (a3 : Int)) (.int .i64 (p : Int)) (.int .i64 0) (.int .i64 0)
  rw [← hE] at HS1
  have HS1 : Hid _ := HS1
  clear hE HR1
  obtain ⟨⟨e0, e1, e2, e3, e4⟩, _⟩ := own5 HS1.out.box
  go_wp2_with fail
  refine (HBd.out _ HS1.out.bel).mono ?_
  rintro e w3 ⟨rfl, hb⟩
  have HR3 := HS1.out.call hb
  have HR3 : Hid _ := HR3
  clear hb HS1 e0 e1 e2 e3 e4 c0 c1 c2 c3 c4 y0 y1 y2 y3 y4 k1 k2 k3 k4 k5
  obtain ⟨A3, B3, C3, D3, E3, k1, k2, k3, k4, k5, ⟨c0, y0⟩, ⟨c1, y1⟩, ⟨c2, y2⟩, ⟨c3, y3⟩, ⟨c4, y4⟩, hE⟩ := chain5 HR3.out.box (.slice a xs.length cap) (.int .i64 (a3 : Int)) (.int .i64 (p : Int)) (.int .i64 (start : Int)) (.int .i64 1)
  have HS3 := HR3.out.put (.slice a xs.length cap) (.int .i64 (a3 : Int)) (.int .i64 (p : Int)) (.int .i64 (start : Int)) (.int .i64 1)
  rw [← hE] at HS3
  have HS3 : Hid _ := HS3
  clear hE HR3
  obtain ⟨⟨e0, e1, e2, e3, e4⟩, _⟩ := own5 HS3.out.box
  obtain ⟨G1, v10, HGb⟩ : ∃ G1, E3.setCell ⟨w.heap.size + 1, 10, none⟩ (.int .i64 vv) = G1 ∧ Hid (R4 w G1 #[.slice a xs.length cap, .int .i64 (a3 : Int), .int .i64 (p : Int), .int .i64 (start : Int), .int .i64 1] #[.int .i64 10, .bool false, .int .i64 0, .float .f64 0, .string ⟨#[]⟩, .slice none 0 0, .int .u64 0, .slice none 0 0, .slice none 0 0, .string (Sp.txt l), .int .i64 vv] #[.slice none 0 0, .int .i64 0, .int .i64 0, .int .i64 0, .int .i64 0] #[.int .i64 0, .bool false, .int .i64 0, .float .f64 0, .string ⟨#[]⟩, .slice none 0 0, .int .u64 0, .slice none 0 0, .slice none 0 0, .string ⟨#[]⟩, .int .i64 0]) := ⟨_, rfl, HS3.out.set 10 (.int .i64 vv)⟩
  have vc10 : E3.cell? ⟨w.heap.size + 1, 10, none⟩ = some (.int .i64 0) := by rw [cell_of_row _ _ 10 _ _ _ HS3.out.tbx]; rfl
  have vf10 : E3.frozen? ⟨w.heap.size + 1, 10, none⟩ = false := frozen_of_row _ _ 10 _ _ HS3.out.tbx
  obtain ⟨⟨vh0, vh1, vh2, vh3, vh4⟩, _⟩ := own5 HGb.out.box
  go_wp2_with fail
  refine (HFi.out _ HGb.out.bel).mono ?_
  rintro e w2 ⟨af, cf, rfl, hb⟩
  have HR2 := HGb.out.call hb
  have HR2 : Hid _ := HR2
  clear hb HGb HS3 e0 e1 e2 e3 e4 v10 vc10 vf10 vh0 vh1 vh2 vh3 vh4 c0 c1 c2 c3 c4 y0 y1 y2 y3 y4 k1 k2 k3 k4 k5
  obtain ⟨A2, B2, C2, D2, E2, k1, k2, k3, k4, k5, ⟨c0, y0⟩, ⟨c1, y1⟩, ⟨c2, y2⟩, ⟨c3, y3⟩, ⟨c4, y4⟩, hE⟩ := chain5 HR2.out.box (.slice a xs.length cap) (.int .i64 (a3 : Int)) (.int .i64 (p : Int)) (.int .i64 (start : Int)) (.int .i64 1)
  have HS2 := HR2.out.put (.slice a xs.length cap) (.int .i64 (a3 : Int)) (.int .i64 (p : Int)) (.int .i64 (start : Int)) (.int .i64 1)
  rw [← hE] at HS2
  have HS2 : Hid _ := HS2
  clear hE HR2
  obtain ⟨⟨e0, e1, e2, e3, e4⟩, _⟩ := own5 HS2.out.box
  obtain ⟨G2, x8, HG⟩ : ∃ G2, E2.setCell ⟨w.heap.size + 1, 8, none⟩ (.slice af 0 cf) = G2 ∧ Hid (R4 w G2 #[.slice a xs.length cap, .int .i64 (a3 : Int), .int .i64 (p : Int), .int .i64 (start : Int), .int .i64 1] #[.int .i64 10, .bool false, .int .i64 0, .float .f64 0, .string ⟨#[]⟩, .slice none 0 0, .int .u64 0, .slice none 0 0, .slice af 0 cf, .string (Sp.txt l), .int .i64 vv] #[.slice none 0 0, .int .i64 0, .int .i64 0, .int .i64 0, .int .i64 0] #[.int .i64 0, .bool false, .int .i64 0, .float .f64 0, .string ⟨#[]⟩, .slice none 0 0, .int .u64 0, .slice none 0 0, .slice none 0 0, .string ⟨#[]⟩, .int .i64 0]) := ⟨_, rfl, HS2.out.set 8 (.slice af 0 cf)⟩
  have xc8 : E2.cell? ⟨w.heap.size + 1, 8, none⟩ = some (.slice none 0 0) := by rw [cell_of_row _ _ 8 _ _ _ HS2.out.tbx]; rfl
  have xf8 : E2.frozen? ⟨w.heap.size + 1, 8, none⟩ = false := frozen_of_row _ _ 8 _ _ HS2.out.tbx
  obtain ⟨⟨xh0, xh1, xh2, xh3, xh4⟩, _⟩ := own5 HG.out.box
  go_wp2_with fail
  have HD := HG.out.drew
  have HD : Hid _ := HD
  obtain ⟨V1, V2, V3, V4, V5, l1, l2, l3, l4, l5, ⟨d0, x0⟩, ⟨d1, x1⟩, ⟨d2, x2⟩, ⟨d3, x3⟩, ⟨d4, x4⟩, hV⟩ := chain5 HD.out.res (.slice a xs.length cap) (.int .i64 (a3 : Int)) (.int .i64 (p : Int)) (.int .i64 (start : Int)) (.int .i64 1)
  have HV := HD.out.putR (.slice a xs.length cap) (.int .i64 (a3 : Int)) (.int .i64 (p : Int)) (.int .i64 (start : Int)) (.int .i64 1)
  rw [← hV] at HV
  have HV : Hid _ := HV
  clear hV
  obtain ⟨U1, U2, U3, U4, U5, U6, U7, U8, U9, U10, U11, m0, m1, m2, m3, m4, m5, m6, m7, m8, m9, m10, ⟨b0, g0⟩, ⟨b1, g1⟩, ⟨b2, g2⟩, ⟨b3, g3⟩, ⟨b4, g4⟩, ⟨b5, g5⟩, ⟨b6, g6⟩, ⟨b7, g7⟩, ⟨b8, g8⟩, ⟨b9, g9⟩, ⟨b10, g10⟩, hU⟩ := chain11 HV.out.ter (.int .i64 10) (.bool false) (.int .i64 0) (.float .f64 0) (.string ⟨#[]⟩) (.slice none 0 0) (.int .u64 0) (.slice none 0 0) (.slice af 0 cf) (.string (Sp.txt l)) (.int .i64 vv)
  have HU := HV.out.putT (.int .i64 10) (.bool false) (.int .i64 0) (.float .f64 0) (.string ⟨#[]⟩) (.slice none 0 0) (.int .u64 0) (.slice none 0 0) (.slice af 0 cf) (.string (Sp.txt l)) (.int .i64 vv)
  rw [← hU] at HU
  have HU : Hid _ := HU
  clear hU
  have HS0 : Hid _ := HD.out.S
  have HS1 : Hid _ := HV.out.S
  have HS2 : Hid _ := HU.out.S
  go_region_held3 (fun W => (W.cell? ⟨w.heap.size, 0, none⟩ = some (.slice a xs.length cap) ∧ W.cell? ⟨w.heap.size, 1, none⟩ = some (.int .i64 (a3 : Int)) ∧ W.cell? ⟨w.heap.size, 2, none⟩ = some (.int .i64 (p : Int)) ∧ W.cell? ⟨w.heap.size, 3, none⟩ = some (.int .i64 (start : Int)) ∧ W.cell? ⟨w.heap.size, 4, none⟩ = some (.int .i64 1)) ∧ (W.cell? ⟨w.heap.size + 1, 0, none⟩ = some (.int .i64 10) ∧ W.cell? ⟨w.heap.size + 1, 1, none⟩ = some (.bool false) ∧ W.cell? ⟨w.heap.size + 1, 2, none⟩ = some (.int .i64 0) ∧ W.cell? ⟨w.heap.size + 1, 3, none⟩ = some (.float .f64 0) ∧ W.cell? ⟨w.heap.size + 1, 4, none⟩ = some (.string ⟨#[]⟩) ∧ W.cell? ⟨w.heap.size + 1, 5, none⟩ = some (.slice none 0 0) ∧ W.cell? ⟨w.heap.size + 1, 6, none⟩ = some (.int .u64 0) ∧ W.cell? ⟨w.heap.size + 1, 7, none⟩ = some (.slice none 0 0) ∧ W.cell? ⟨w.heap.size + 1, 8, none⟩ = some (.slice af 0 cf) ∧ W.cell? ⟨w.heap.size + 1, 9, none⟩ = some (.string (Sp.txt l)) ∧ W.cell? ⟨w.heap.size + 1, 10, none⟩ = some (.int .i64 vv)))
    (first | with_reducible exact HS0.out | with_reducible exact HS1.out | with_reducible exact HS2.out)
    (fail)
  go_wp2_with fail
  obtain ⟨⟨r0, r1, r2, r3, r4⟩, _⟩ := own5 HU.out.res
  obtain ⟨s0, s1, s2, s3, s4, s5, s6, s7, s8, s9, s10⟩ := own11 HU.out.ter
  exact bodyPost_ret (v := .tuple #[.agg #[.slice a xs.length cap, .int .i64 (a3 : Int), .int .i64 (p : Int), .int .i64 (start : Int), .int .i64 1], .agg #[.int .i64 10, .bool false, .int .i64 0, .float .f64 0, .string ⟨#[]⟩, .slice none 0 0, .int .u64 0, .slice none 0 0, .slice af 0 cf, .string (Sp.txt l), .int .i64 vv]]) (by simp [results, Try.results93, go_sem, r0, r1, r2, r3, r4, s0, s1, s2, s3, s4, s5, s6, s7, s8, s9, s10] <;> rfl) rfl ⟨a3, _, _, af, cf, rfl, HU.out.bel⟩
set_option maxRecDepth 100000 in
set_option maxHeartbeats 4000000 in
theorem rgbody_rec_high (xs : List Int) (hby : By xs) (a : Option Addr) (cap at' p start : Nat) (deep : Int) (w : World) (hcp : xs.length ≤ cap) (hnl : a = none → cap = 0) (hsp : ∀ q, a = some q → q.spot = none) (hrd : RdB w (Lo w.heap.size) a xs) (hln : xs.length ≤ 281474976710656) (l : List Int) (a1 v a3 : Nat) (hr : Sp.rdN xs at' start = .ok l a1) (hn : Sp.rn xs a1 10 0 0 = .ok v a3) (hv : 1000 < v) :
    Calls Try.prog 93 #[.agg #[.slice a xs.length cap, .int .i64 (at' : Int), .int .i64 (p : Int), .int .i64 0, .int .i64 0], .agg #[.int .i64 10, .bool false, .int .i64 0, .float .f64 0, .string ⟨#[]⟩, .slice none 0 0, .int .u64 0, .slice none 0 0, .slice none 0 0, .string ⟨#[]⟩, .int .i64 0], .int .i64 (start : Int), .int .i64 deep] w fun e w' => ∃ (at2 : Nat) (sc : ByteArray) (vv : Int) (af : Option Addr) (cf : Nat), e = .returned (.tuple #[.agg #[.slice a xs.length cap, .int .i64 (at2 : Int), .int .i64 (p : Int), .int .i64 (start : Int), .int .i64 1], .agg #[.int .i64 10, .bool false, .int .i64 0, .float .f64 0, .string ⟨#[]⟩, .slice none 0 0, .int .u64 0, .slice none 0 0, .slice af 0 cf, .string sc, .int .i64 vv]]) ∧ Below w.heap.size w w' := by
  have HNm : Hid (∀ W, Below w.heap.size w W → Calls Try.prog 121 #[.agg #[.slice a xs.length cap, .int .i64 (at' : Int), .int .i64 (p : Int), .int .i64 0, .int .i64 0], .int .i64 (start : Int)] W fun e w' => e = .returned (.tuple #[.agg #[.slice a xs.length cap, .int .i64 (a1 : Int), .int .i64 (p : Int), .int .i64 0, .int .i64 0], .string (Sp.txt l)]) ∧ Below W.heap.size W w') := fun W hW => rgname_ok xs hby a cap at' p start W hcp hnl hsp (hrd.same (Same.of_below hW (Nat.le_refl _)) (Lo.le hW.size)) hln l a1 hr
  have HNu : Hid (∀ W, Below w.heap.size w W → Calls Try.prog 117 #[.agg #[.slice a xs.length cap, .int .i64 (a1 : Int), .int .i64 (p : Int), .int .i64 0, .int .i64 0]] W fun e w' => e = .returned (.tuple #[.agg #[.slice a xs.length cap, .int .i64 (a3 : Int), .int .i64 (p : Int), .int .i64 0, .int .i64 0], .int .u64 (v : Int)]) ∧ Below W.heap.size W w') := fun W hW => rgnum_ok xs hby a cap a1 p v a3 W hn (hrd.same (Same.of_below hW (Nat.le_refl _)) (Lo.le hW.size)) hln
  have HBd : Hid (∀ W, Below w.heap.size w W → Calls Try.prog 91 #[.agg #[.slice a xs.length cap, .int .i64 (a3 : Int), .int .i64 (p : Int), .int .i64 0, .int .i64 0], .int .i64 (start : Int), .int .i64 1] W fun e w' => e = .returned (.agg #[.slice a xs.length cap, .int .i64 (a3 : Int), .int .i64 (p : Int), .int .i64 (start : Int), .int .i64 1]) ∧ Below W.heap.size W w') := fun W _ => rgbad_ok a3 p a xs.length cap W start 1
  have HFi : Hid (∀ W, Below w.heap.size w W → Calls Try.prog 120 #[.agg #[.slice a xs.length cap, .int .i64 (a3 : Int), .int .i64 (p : Int), .int .i64 (start : Int), .int .i64 1], .int .i64 (start : Int), .int .i64 deep] W fun e w' => ∃ (af : Option Addr) (cf : Nat), e = .returned (.tuple #[.agg #[.slice a xs.length cap, .int .i64 (a3 : Int), .int .i64 (p : Int), .int .i64 (start : Int), .int .i64 1], .slice af 0 cf]) ∧ Below W.heap.size W w') := fun W _ => rgfields_pass xs a cap a3 p start 1 (by decide) start deep W
  have hv1 : decide ((v : Int) < 1) = false := decide_eq_false (by omega)
  have hv2 : decide ((1000 : Int) < (v : Int)) = true := decide_eq_true (by omega)
  obtain ⟨vv, hw1⟩ : ∃ vv, IntKind.i64.wrap (v : Int) = vv := ⟨_, rfl⟩
  have hw2 : wrap64 (v : Int) = vv := by rw [← hw1, IntKind.wrap_i64]; unfold wrap64; omega
  clear hr hn hv hby hcp hnl hsp hrd hln
  have HN := R4.new w #[.slice a xs.length cap, .int .i64 (at' : Int), .int .i64 (p : Int), .int .i64 0, .int .i64 0] #[.int .i64 10, .bool false, .int .i64 0, .float .f64 0, .string ⟨#[]⟩, .slice none 0 0, .int .u64 0, .slice none 0 0, .slice none 0 0, .string ⟨#[]⟩, .int .i64 0] #[.slice none 0 0, .int .i64 0, .int .i64 0, .int .i64 0, .int .i64 0] #[.int .i64 0, .bool false, .int .i64 0, .float .f64 0, .string ⟨#[]⟩, .slice none 0 0, .int .u64 0, .slice none 0 0, .slice none 0 0, .string ⟨#[]⟩, .int .i64 0]
  have HN : Hid _ := HN
  go_enter Try.func93, Try.ntmps93
  go_wp2_with fail
  refine (HNm.out _ HN.out.bel).mono ?_
  rintro e w0 ⟨rfl, hb⟩
  have HR0 := HN.out.call hb
  have HR0 : Hid _ := HR0
  clear hb HN 
  obtain ⟨A0, B0, C0, D0, E0, k1, k2, k3, k4, k5, ⟨c0, y0⟩, ⟨c1, y1⟩, ⟨c2, y2⟩, ⟨c3, y3⟩, ⟨c4, y4⟩, hE⟩ := chain5 HR0.out.box (.slice a xs.length cap) (.int .i64 (a1 : Int)) (.int .i64 (p : Int)) (.int .i64 0) (.int .i64 0)
  have HS0 := HR0.out.put (.slice a xs.length cap) (.int .i64 (a1 : Int)) (.int .i64 (p : Int)) (.int .i64 0) (.int .i64 0)
  rw [← hE] at HS0
  have HS0 : Hid _ := HS0
  clear hE HR0
  obtain ⟨⟨e0, e1, e2, e3, e4⟩, _⟩ := own5 HS0.out.box
  obtain ⟨G0, u9, HGa⟩ : ∃ G0, E0.setCell ⟨w.heap.size + 1, 9, none⟩ (.string (Sp.txt l)) = G0 ∧ Hid (R4 w G0 #[.slice a xs.length cap, .int .i64 (a1 : Int), .int .i64 (p : Int), .int .i64 0, .int .i64 0] #[.int .i64 10, .bool false, .int .i64 0, .float .f64 0, .string ⟨#[]⟩, .slice none 0 0, .int .u64 0, .slice none 0 0, .slice none 0 0, .string (Sp.txt l), .int .i64 0] #[.slice none 0 0, .int .i64 0, .int .i64 0, .int .i64 0, .int .i64 0] #[.int .i64 0, .bool false, .int .i64 0, .float .f64 0, .string ⟨#[]⟩, .slice none 0 0, .int .u64 0, .slice none 0 0, .slice none 0 0, .string ⟨#[]⟩, .int .i64 0]) := ⟨_, rfl, HS0.out.set 9 (.string (Sp.txt l))⟩
  have uc9 : E0.cell? ⟨w.heap.size + 1, 9, none⟩ = some (.string ⟨#[]⟩) := by rw [cell_of_row _ _ 9 _ _ _ HS0.out.tbx]; rfl
  have uf9 : E0.frozen? ⟨w.heap.size + 1, 9, none⟩ = false := frozen_of_row _ _ 9 _ _ HS0.out.tbx
  obtain ⟨⟨uh0, uh1, uh2, uh3, uh4⟩, _⟩ := own5 HGa.out.box
  go_wp2_with fail
  refine (HNu.out _ HGa.out.bel).mono ?_
  rintro e w1 ⟨rfl, hb⟩
  have HR1 := HGa.out.call hb
  have HR1 : Hid _ := HR1
  clear hb HGa HS0 e0 e1 e2 e3 e4 u9 uc9 uf9 uh0 uh1 uh2 uh3 uh4 c0 c1 c2 c3 c4 y0 y1 y2 y3 y4 k1 k2 k3 k4 k5
  obtain ⟨A1, B1, C1, D1, E1, k1, k2, k3, k4, k5, ⟨c0, y0⟩, ⟨c1, y1⟩, ⟨c2, y2⟩, ⟨c3, y3⟩, ⟨c4, y4⟩, hE⟩ := chain5 HR1.out.box (.slice a xs.length cap) (.int .i64 (a3 : Int)) (.int .i64 (p : Int)) (.int .i64 0) (.int .i64 0)
  have HS1 := HR1.out.put (.slice a xs.length cap) (.int .i64 (a3 : Int)) (.int .i64 (p : Int)) (.int .i64 0) (.int .i64 0)
  rw [← hE] at HS1
  have HS1 : Hid _ := HS1
  clear hE HR1
  obtain ⟨⟨e0, e1, e2, e3, e4⟩, _⟩ := own5 HS1.out.box
  go_wp2_with fail
  refine (HBd.out _ HS1.out.bel).mono ?_
  rintro e w3 ⟨rfl, hb⟩
  have HR3 := HS1.out.call hb
  have HR3 : Hid _ := HR3
  clear hb HS1 e0 e1 e2 e3 e4 c0 c1 c2 c3 c4 y0 y1 y2 y3 y4 k1 k2 k3 k4 k5
  obtain ⟨A3, B3, C3, D3, E3, k1, k2, k3, k4, k5, ⟨c0, y0⟩, ⟨c1, y1⟩, ⟨c2, y2⟩, ⟨c3, y3⟩, ⟨c4, y4⟩, hE⟩ := chain5 HR3.out.box (.slice a xs.length cap) (.int .i64 (a3 : Int)) (.int .i64 (p : Int)) (.int .i64 (start : Int)) (.int .i64 1)
  have HS3 := HR3.out.put (.slice a xs.length cap) (.int .i64 (a3 : Int)) (.int .i64 (p : Int)) (.int .i64 (start : Int)) (.int .i64 1)
  rw [← hE] at HS3
  have HS3 : Hid _ := HS3
  clear hE HR3
  obtain ⟨⟨e0, e1, e2, e3, e4⟩, _⟩ := own5 HS3.out.box
  obtain ⟨G1, v10, HGb⟩ : ∃ G1, E3.setCell ⟨w.heap.size + 1, 10, none⟩ (.int .i64 vv) = G1 ∧ Hid (R4 w G1 #[.slice a xs.length cap, .int .i64 (a3 : Int), .int .i64 (p : Int), .int .i64 (start : Int), .int .i64 1] #[.int .i64 10, .bool false, .int .i64 0, .float .f64 0, .string ⟨#[]⟩, .slice none 0 0, .int .u64 0, .slice none 0 0, .slice none 0 0, .string (Sp.txt l), .int .i64 vv] #[.slice none 0 0, .int .i64 0, .int .i64 0, .int .i64 0, .int .i64 0] #[.int .i64 0, .bool false, .int .i64 0, .float .f64 0, .string ⟨#[]⟩, .slice none 0 0, .int .u64 0, .slice none 0 0, .slice none 0 0, .string ⟨#[]⟩, .int .i64 0]) := ⟨_, rfl, HS3.out.set 10 (.int .i64 vv)⟩
  have vc10 : E3.cell? ⟨w.heap.size + 1, 10, none⟩ = some (.int .i64 0) := by rw [cell_of_row _ _ 10 _ _ _ HS3.out.tbx]; rfl
  have vf10 : E3.frozen? ⟨w.heap.size + 1, 10, none⟩ = false := frozen_of_row _ _ 10 _ _ HS3.out.tbx
  obtain ⟨⟨vh0, vh1, vh2, vh3, vh4⟩, _⟩ := own5 HGb.out.box
  go_wp2_with fail
  refine (HFi.out _ HGb.out.bel).mono ?_
  rintro e w2 ⟨af, cf, rfl, hb⟩
  have HR2 := HGb.out.call hb
  have HR2 : Hid _ := HR2
  clear hb HGb HS3 e0 e1 e2 e3 e4 v10 vc10 vf10 vh0 vh1 vh2 vh3 vh4 c0 c1 c2 c3 c4 y0 y1 y2 y3 y4 k1 k2 k3 k4 k5
  obtain ⟨A2, B2, C2, D2, E2, k1, k2, k3, k4, k5, ⟨c0, y0⟩, ⟨c1, y1⟩, ⟨c2, y2⟩, ⟨c3, y3⟩, ⟨c4, y4⟩, hE⟩ := chain5 HR2.out.box (.slice a xs.length cap) (.int .i64 (a3 : Int)) (.int .i64 (p : Int)) (.int .i64 (start : Int)) (.int .i64 1)
  have HS2 := HR2.out.put (.slice a xs.length cap) (.int .i64 (a3 : Int)) (.int .i64 (p : Int)) (.int .i64 (start : Int)) (.int .i64 1)
  rw [← hE] at HS2
  have HS2 : Hid _ := HS2
  clear hE HR2
  obtain ⟨⟨e0, e1, e2, e3, e4⟩, _⟩ := own5 HS2.out.box
  obtain ⟨G2, x8, HG⟩ : ∃ G2, E2.setCell ⟨w.heap.size + 1, 8, none⟩ (.slice af 0 cf) = G2 ∧ Hid (R4 w G2 #[.slice a xs.length cap, .int .i64 (a3 : Int), .int .i64 (p : Int), .int .i64 (start : Int), .int .i64 1] #[.int .i64 10, .bool false, .int .i64 0, .float .f64 0, .string ⟨#[]⟩, .slice none 0 0, .int .u64 0, .slice none 0 0, .slice af 0 cf, .string (Sp.txt l), .int .i64 vv] #[.slice none 0 0, .int .i64 0, .int .i64 0, .int .i64 0, .int .i64 0] #[.int .i64 0, .bool false, .int .i64 0, .float .f64 0, .string ⟨#[]⟩, .slice none 0 0, .int .u64 0, .slice none 0 0, .slice none 0 0, .string ⟨#[]⟩, .int .i64 0]) := ⟨_, rfl, HS2.out.set 8 (.slice af 0 cf)⟩
  have xc8 : E2.cell? ⟨w.heap.size + 1, 8, none⟩ = some (.slice none 0 0) := by rw [cell_of_row _ _ 8 _ _ _ HS2.out.tbx]; rfl
  have xf8 : E2.frozen? ⟨w.heap.size + 1, 8, none⟩ = false := frozen_of_row _ _ 8 _ _ HS2.out.tbx
  obtain ⟨⟨xh0, xh1, xh2, xh3, xh4⟩, _⟩ := own5 HG.out.box
  go_wp2_with fail
  have HD := HG.out.drew
  have HD : Hid _ := HD
  obtain ⟨V1, V2, V3, V4, V5, l1, l2, l3, l4, l5, ⟨d0, x0⟩, ⟨d1, x1⟩, ⟨d2, x2⟩, ⟨d3, x3⟩, ⟨d4, x4⟩, hV⟩ := chain5 HD.out.res (.slice a xs.length cap) (.int .i64 (a3 : Int)) (.int .i64 (p : Int)) (.int .i64 (start : Int)) (.int .i64 1)
  have HV := HD.out.putR (.slice a xs.length cap) (.int .i64 (a3 : Int)) (.int .i64 (p : Int)) (.int .i64 (start : Int)) (.int .i64 1)
  rw [← hV] at HV
  have HV : Hid _ := HV
  clear hV
  obtain ⟨U1, U2, U3, U4, U5, U6, U7, U8, U9, U10, U11, m0, m1, m2, m3, m4, m5, m6, m7, m8, m9, m10, ⟨b0, g0⟩, ⟨b1, g1⟩, ⟨b2, g2⟩, ⟨b3, g3⟩, ⟨b4, g4⟩, ⟨b5, g5⟩, ⟨b6, g6⟩, ⟨b7, g7⟩, ⟨b8, g8⟩, ⟨b9, g9⟩, ⟨b10, g10⟩, hU⟩ := chain11 HV.out.ter (.int .i64 10) (.bool false) (.int .i64 0) (.float .f64 0) (.string ⟨#[]⟩) (.slice none 0 0) (.int .u64 0) (.slice none 0 0) (.slice af 0 cf) (.string (Sp.txt l)) (.int .i64 vv)
  have HU := HV.out.putT (.int .i64 10) (.bool false) (.int .i64 0) (.float .f64 0) (.string ⟨#[]⟩) (.slice none 0 0) (.int .u64 0) (.slice none 0 0) (.slice af 0 cf) (.string (Sp.txt l)) (.int .i64 vv)
  rw [← hU] at HU
  have HU : Hid _ := HU
  clear hU
  have HS0 : Hid _ := HD.out.S
  have HS1 : Hid _ := HV.out.S
  have HS2 : Hid _ := HU.out.S
  go_region_held3 (fun W => (W.cell? ⟨w.heap.size, 0, none⟩ = some (.slice a xs.length cap) ∧ W.cell? ⟨w.heap.size, 1, none⟩ = some (.int .i64 (a3 : Int)) ∧ W.cell? ⟨w.heap.size, 2, none⟩ = some (.int .i64 (p : Int)) ∧ W.cell? ⟨w.heap.size, 3, none⟩ = some (.int .i64 (start : Int)) ∧ W.cell? ⟨w.heap.size, 4, none⟩ = some (.int .i64 1)) ∧ (W.cell? ⟨w.heap.size + 1, 0, none⟩ = some (.int .i64 10) ∧ W.cell? ⟨w.heap.size + 1, 1, none⟩ = some (.bool false) ∧ W.cell? ⟨w.heap.size + 1, 2, none⟩ = some (.int .i64 0) ∧ W.cell? ⟨w.heap.size + 1, 3, none⟩ = some (.float .f64 0) ∧ W.cell? ⟨w.heap.size + 1, 4, none⟩ = some (.string ⟨#[]⟩) ∧ W.cell? ⟨w.heap.size + 1, 5, none⟩ = some (.slice none 0 0) ∧ W.cell? ⟨w.heap.size + 1, 6, none⟩ = some (.int .u64 0) ∧ W.cell? ⟨w.heap.size + 1, 7, none⟩ = some (.slice none 0 0) ∧ W.cell? ⟨w.heap.size + 1, 8, none⟩ = some (.slice af 0 cf) ∧ W.cell? ⟨w.heap.size + 1, 9, none⟩ = some (.string (Sp.txt l)) ∧ W.cell? ⟨w.heap.size + 1, 10, none⟩ = some (.int .i64 vv)))
    (first | with_reducible exact HS0.out | with_reducible exact HS1.out | with_reducible exact HS2.out)
    (fail)
  go_wp2_with fail
  obtain ⟨⟨r0, r1, r2, r3, r4⟩, _⟩ := own5 HU.out.res
  obtain ⟨s0, s1, s2, s3, s4, s5, s6, s7, s8, s9, s10⟩ := own11 HU.out.ter
  exact bodyPost_ret (v := .tuple #[.agg #[.slice a xs.length cap, .int .i64 (a3 : Int), .int .i64 (p : Int), .int .i64 (start : Int), .int .i64 1], .agg #[.int .i64 10, .bool false, .int .i64 0, .float .f64 0, .string ⟨#[]⟩, .slice none 0 0, .int .u64 0, .slice none 0 0, .slice af 0 cf, .string (Sp.txt l), .int .i64 vv]]) (by simp [results, Try.results93, go_sem, r0, r1, r2, r3, r4, s0, s1, s2, s3, s4, s5, s6, s7, s8, s9, s10] <;> rfl) rfl ⟨a3, _, _, af, cf, rfl, HU.out.bel⟩
end Go.Proofs.Ytmmiiapfefmcjaa


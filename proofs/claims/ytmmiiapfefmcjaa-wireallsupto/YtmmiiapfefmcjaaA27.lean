/- The document's reading of a value's body: a dict. -/
import Derived.Test.YtmmiiapfefmcjaaA14
namespace Go.Proofs.Ytmmiiapfefmcjaa
open Go.RowKit

set_option maxRecDepth 100000 in
set_option maxHeartbeats 4000000 in
theorem rgbody_dict (a : Option Addr) (n cap at' p : Nat) (s deep : Int) (w : World) (R : World → World → Nat → Nat → Nat → Int → Option Addr → Nat → Nat → Prop)
    (HB : Hid (∀ W, Below w.heap.size w W → Calls Try.prog 120 #[.agg #[.slice a n cap, .int .i64 (at' : Int), .int .i64 (p : Int), .int .i64 0, .int .i64 0], .int .i64 s, .int .i64 deep] W fun e w' => ∃ (a2 p2 q : Nat) (er : Int) (af : Option Addr) (nf cf : Nat), e = .returned (.tuple #[.agg #[.slice a n cap, .int .i64 (a2 : Int), .int .i64 (p2 : Int), .int .i64 (q : Int), .int .i64 er], .slice af nf cf]) ∧ Below W.heap.size W w' ∧ R W w' a2 p2 q er af nf cf)) :
    Calls Try.prog 93 #[.agg #[.slice a n cap, .int .i64 (at' : Int), .int .i64 (p : Int), .int .i64 0, .int .i64 0], .agg #[.int .i64 9, .bool false, .int .i64 0, .float .f64 0, .string ⟨#[]⟩, .slice none 0 0, .int .u64 0, .slice none 0 0, .slice none 0 0, .string ⟨#[]⟩, .int .i64 0], .int .i64 s, .int .i64 deep] w fun e w' => ∃ (a2 p2 q : Nat) (er : Int) (af : Option Addr) (nf cf : Nat), e = .returned (.tuple #[.agg #[.slice a n cap, .int .i64 (a2 : Int), .int .i64 (p2 : Int), .int .i64 (q : Int), .int .i64 er], .agg #[.int .i64 9, .bool false, .int .i64 0, .float .f64 0, .string ⟨#[]⟩, .slice none 0 0, .int .u64 0, .slice none 0 0, .slice af nf cf, .string ⟨#[]⟩, .int .i64 0]]) ∧ Below w.heap.size w w' ∧ ∃ W W', Below w.heap.size w W ∧ Same (Fr W W') W' w' ∧ W'.heap.size ≤ w'.heap.size ∧ R W W' a2 p2 q er af nf cf := by
  have HN := R4.new w #[.slice a n cap, .int .i64 (at' : Int), .int .i64 (p : Int), .int .i64 0, .int .i64 0] #[.int .i64 9, .bool false, .int .i64 0, .float .f64 0, .string ⟨#[]⟩, .slice none 0 0, .int .u64 0, .slice none 0 0, .slice none 0 0, .string ⟨#[]⟩, .int .i64 0] #[.slice none 0 0, .int .i64 0, .int .i64 0, .int .i64 0, .int .i64 0] #[.int .i64 0, .bool false, .int .i64 0, .float .f64 0, .string ⟨#[]⟩, .slice none 0 0, .int .u64 0, .slice none 0 0, .slice none 0 0, .string ⟨#[]⟩, .int .i64 0]
  have HN : Hid _ := HN
  go_enter Try.func93, Try.ntmps93
  go_wp2_with fail
  refine (HB.out _ HN.out.bel).mono ?_
  rintro e w0 ⟨a2, p2, q, er, af, nf, cf, rfl, hb, hR⟩
  have hlt := lt_row HN.out.ter
  obtain ⟨W, HRR⟩ : ∃ W, Hid (Below w.heap.size w W ∧ w.heap.size + 1 + 1 + 1 < W.heap.size ∧ R W w0 a2 p2 q er af nf cf) := ⟨_, HN.out.bel, hlt, hR⟩
  have HR0 := HN.out.call hb
  clear hR hlt
  have HR0 : Hid _ := HR0
  clear hb HN 
  obtain ⟨A0, B0, C0, D0, E0, k1, k2, k3, k4, k5, ⟨c0, y0⟩, ⟨c1, y1⟩, ⟨c2, y2⟩, ⟨c3, y3⟩, ⟨c4, y4⟩, hE⟩ := chain5 HR0.out.box (.slice a n cap) (.int .i64 (a2 : Int)) (.int .i64 (p2 : Int)) (.int .i64 (q : Int)) (.int .i64 er)
  have HS0 := HR0.out.put (.slice a n cap) (.int .i64 (a2 : Int)) (.int .i64 (p2 : Int)) (.int .i64 (q : Int)) (.int .i64 er)
  rw [← hE] at HS0
  have HS0 : Hid _ := HS0
  have HE2 : Hid _ := hE
  clear hE HR0
  obtain ⟨⟨e0, e1, e2, e3, e4⟩, _⟩ := own5 HS0.out.box
  obtain ⟨G0, q8, HG⟩ : ∃ G0, E0.setCell ⟨w.heap.size + 1, 8, none⟩ (.slice af nf cf) = G0 ∧ Hid (R4 w G0 #[.slice a n cap, .int .i64 (a2 : Int), .int .i64 (p2 : Int), .int .i64 (q : Int), .int .i64 er] #[.int .i64 9, .bool false, .int .i64 0, .float .f64 0, .string ⟨#[]⟩, .slice none 0 0, .int .u64 0, .slice none 0 0, .slice af nf cf, .string ⟨#[]⟩, .int .i64 0] #[.slice none 0 0, .int .i64 0, .int .i64 0, .int .i64 0, .int .i64 0] #[.int .i64 0, .bool false, .int .i64 0, .float .f64 0, .string ⟨#[]⟩, .slice none 0 0, .int .u64 0, .slice none 0 0, .slice none 0 0, .string ⟨#[]⟩, .int .i64 0]) := ⟨_, rfl, HS0.out.set 8 (.slice af nf cf)⟩
  have qc8 : E0.cell? ⟨w.heap.size + 1, 8, none⟩ = some (.slice none 0 0) := by rw [cell_of_row _ _ 8 _ _ _ HS0.out.tbx]; rfl
  have qf8 : E0.frozen? ⟨w.heap.size + 1, 8, none⟩ = false := frozen_of_row _ _ 8 _ _ HS0.out.tbx
  obtain ⟨⟨h0, h1, h2, h3, h4⟩, _⟩ := own5 HG.out.box
  go_wp2_with fail
  have HD := HG.out.drew
  have HD : Hid _ := HD
  obtain ⟨V1, V2, V3, V4, V5, l1, l2, l3, l4, l5, ⟨d0, x0⟩, ⟨d1, x1⟩, ⟨d2, x2⟩, ⟨d3, x3⟩, ⟨d4, x4⟩, hV⟩ := chain5 HD.out.res (.slice a n cap) (.int .i64 (a2 : Int)) (.int .i64 (p2 : Int)) (.int .i64 (q : Int)) (.int .i64 er)
  have HV := HD.out.putR (.slice a n cap) (.int .i64 (a2 : Int)) (.int .i64 (p2 : Int)) (.int .i64 (q : Int)) (.int .i64 er)
  rw [← hV] at HV
  have HV : Hid _ := HV
  have HV2 : Hid _ := hV
  clear hV
  obtain ⟨U1, U2, U3, U4, U5, U6, U7, U8, U9, U10, U11, m0, m1, m2, m3, m4, m5, m6, m7, m8, m9, m10, ⟨b0, g0⟩, ⟨b1, g1⟩, ⟨b2, g2⟩, ⟨b3, g3⟩, ⟨b4, g4⟩, ⟨b5, g5⟩, ⟨b6, g6⟩, ⟨b7, g7⟩, ⟨b8, g8⟩, ⟨b9, g9⟩, ⟨b10, g10⟩, hU⟩ := chain11 HV.out.ter (.int .i64 9) (.bool false) (.int .i64 0) (.float .f64 0) (.string ⟨#[]⟩) (.slice none 0 0) (.int .u64 0) (.slice none 0 0) (.slice af nf cf) (.string ⟨#[]⟩) (.int .i64 0)
  have HU := HV.out.putT (.int .i64 9) (.bool false) (.int .i64 0) (.float .f64 0) (.string ⟨#[]⟩) (.slice none 0 0) (.int .u64 0) (.slice none 0 0) (.slice af nf cf) (.string ⟨#[]⟩) (.int .i64 0)
  rw [← hU] at HU
  have HU : Hid _ := HU
  have HU2 : Hid _ := hU
  clear hU
  have HSM : Hid (Same (Fr W w0) w0 U11 ∧ w0.heap.size ≤ U11.heap.size) := by
    refine ⟨fun k hk => ?_, ?_⟩
    · have hk1 := hk.1
      have hlt := HRR.out.2.1
      rw [HU2.out, setN_other (by omega), HV2.out, setN_other (by omega), ← q8]
      show (E0.setCell _ _).heap[k]? = _
      rw [Below.heap_setCell _ _ _ _ (by simp <;> omega), HE2.out, setN_other (by omega)]
    · rw [HU2.out, setN_size, HV2.out, setN_size, ← q8]
      show _ ≤ (E0.setCell _ _).heap.size
      have h1 : (E0.setCell ⟨w.heap.size + 1, 8, none⟩ (.slice af nf cf)).heap.size = E0.heap.size := by simp
      have h2 : E0.heap.size = w0.heap.size := by rw [HE2.out, setN_size]
      rw [h1, h2]; exact Nat.le_refl _
  have HT0 : Hid _ := HD.out.S
  have HT1 : Hid _ := HV.out.S
  have HT2 : Hid _ := HU.out.S
  go_region_held3 (fun W => (W.cell? ⟨w.heap.size, 0, none⟩ = some (.slice a n cap) ∧ W.cell? ⟨w.heap.size, 1, none⟩ = some (.int .i64 (a2 : Int)) ∧ W.cell? ⟨w.heap.size, 2, none⟩ = some (.int .i64 (p2 : Int)) ∧ W.cell? ⟨w.heap.size, 3, none⟩ = some (.int .i64 (q : Int)) ∧ W.cell? ⟨w.heap.size, 4, none⟩ = some (.int .i64 er)) ∧ (W.cell? ⟨w.heap.size + 1, 0, none⟩ = some (.int .i64 9) ∧ W.cell? ⟨w.heap.size + 1, 1, none⟩ = some (.bool false) ∧ W.cell? ⟨w.heap.size + 1, 2, none⟩ = some (.int .i64 0) ∧ W.cell? ⟨w.heap.size + 1, 3, none⟩ = some (.float .f64 0) ∧ W.cell? ⟨w.heap.size + 1, 4, none⟩ = some (.string ⟨#[]⟩) ∧ W.cell? ⟨w.heap.size + 1, 5, none⟩ = some (.slice none 0 0) ∧ W.cell? ⟨w.heap.size + 1, 6, none⟩ = some (.int .u64 0) ∧ W.cell? ⟨w.heap.size + 1, 7, none⟩ = some (.slice none 0 0) ∧ W.cell? ⟨w.heap.size + 1, 8, none⟩ = some (.slice af nf cf) ∧ W.cell? ⟨w.heap.size + 1, 9, none⟩ = some (.string ⟨#[]⟩) ∧ W.cell? ⟨w.heap.size + 1, 10, none⟩ = some (.int .i64 0)))
    (first | with_reducible exact HT0.out | with_reducible exact HT1.out | with_reducible exact HT2.out)
    (fail)
  go_wp2_with fail
  obtain ⟨⟨r0, r1, r2, r3, r4⟩, _⟩ := own5 HU.out.res
  obtain ⟨s0, s1, s2, s3, s4, s5, s6, s7, s8, s9, s10⟩ := own11 HU.out.ter
  exact bodyPost_ret (v := .tuple #[.agg #[.slice a n cap, .int .i64 (a2 : Int), .int .i64 (p2 : Int), .int .i64 (q : Int), .int .i64 er], .agg #[.int .i64 9, .bool false, .int .i64 0, .float .f64 0, .string ⟨#[]⟩, .slice none 0 0, .int .u64 0, .slice none 0 0, .slice af nf cf, .string ⟨#[]⟩, .int .i64 0]]) (by simp [results, Try.results93, go_sem, r0, r1, r2, r3, r4, s0, s1, s2, s3, s4, s5, s6, s7, s8, s9, s10] <;> rfl) rfl ⟨a2, p2, q, er, af, nf, cf, rfl, HU.out.bel, W, w0, HRR.out.1, HSM.out.1, HSM.out.2, HRR.out.2.2⟩
end Go.Proofs.Ytmmiiapfefmcjaa

/- The document's reading of a value's body: a record. -/
namespace Go.Proofs.Ytmmiiapfefmcjaa
open Go.RowKit

set_option maxRecDepth 100000 in
set_option maxHeartbeats 4000000 in
theorem rgbody_rec (xs : List Int) (hby : By xs) (a : Option Addr) (cap at' p start : Nat) (deep : Int) (w : World) (hcp : xs.length ≤ cap) (hnl : a = none → cap = 0) (hsp : ∀ q, a = some q → q.spot = none) (hrd : RdB w (Lo w.heap.size) a xs) (hln : xs.length ≤ 281474976710656) (l : List Int) (a1 v a3 : Nat) (hr : Sp.rdN xs at' start = .ok l a1) (hn : Sp.rn xs a1 10 0 0 = .ok v a3) (hv : 1 ≤ v ∧ v ≤ 1000) (R : World → World → Nat → Nat → Nat → Int → Option Addr → Nat → Nat → Prop)
    (HB : Hid (∀ W, Below w.heap.size w W → Calls Try.prog 120 #[.agg #[.slice a xs.length cap, .int .i64 (a3 : Int), .int .i64 (p : Int), .int .i64 0, .int .i64 0], .int .i64 (start : Int), .int .i64 deep] W fun e w' => ∃ (a2 p2 q : Nat) (er : Int) (af : Option Addr) (nf cf : Nat), e = .returned (.tuple #[.agg #[.slice a xs.length cap, .int .i64 (a2 : Int), .int .i64 (p2 : Int), .int .i64 (q : Int), .int .i64 er], .slice af nf cf]) ∧ Below W.heap.size W w' ∧ R W w' a2 p2 q er af nf cf)) :
    Calls Try.prog 93 #[.agg #[.slice a xs.length cap, .int .i64 (at' : Int), .int .i64 (p : Int), .int .i64 0, .int .i64 0], .agg #[.int .i64 10, .bool false, .int .i64 0, .float .f64 0, .string ⟨#[]⟩, .slice none 0 0, .int .u64 0, .slice none 0 0, .slice none 0 0, .string ⟨#[]⟩, .int .i64 0], .int .i64 (start : Int), .int .i64 deep] w fun e w' => ∃ (a2 p2 q : Nat) (er : Int) (af : Option Addr) (nf cf : Nat), e = .returned (.tuple #[.agg #[.slice a xs.length cap, .int .i64 (a2 : Int), .int .i64 (p2 : Int), .int .i64 (q : Int), .int .i64 er], .agg #[.int .i64 10, .bool false, .int .i64 0, .float .f64 0, .string ⟨#[]⟩, .slice none 0 0, .int .u64 0, .slice none 0 0, .slice af nf cf, .string (Sp.txt l), .int .i64 (v : Int)]]) ∧ Below w.heap.size w w' ∧ ∃ W W', Below w.heap.size w W ∧ Same (Fr W W') W' w' ∧ W'.heap.size ≤ w'.heap.size ∧ R W W' a2 p2 q er af nf cf := by
  have HNm : Hid (∀ W, Below w.heap.size w W → Calls Try.prog 121 #[.agg #[.slice a xs.length cap, .int .i64 (at' : Int), .int .i64 (p : Int), .int .i64 0, .int .i64 0], .int .i64 (start : Int)] W fun e w' => e = .returned (.tuple #[.agg #[.slice a xs.length cap, .int .i64 (a1 : Int), .int .i64 (p : Int), .int .i64 0, .int .i64 0], .string (Sp.txt l)]) ∧ Below W.heap.size W w') := fun W hW => rgname_ok xs hby a cap at' p start W hcp hnl hsp (hrd.same (Same.of_below hW (Nat.le_refl _)) (Lo.le hW.size)) hln l a1 hr
  have HNu : Hid (∀ W, Below w.heap.size w W → Calls Try.prog 117 #[.agg #[.slice a xs.length cap, .int .i64 (a1 : Int), .int .i64 (p : Int), .int .i64 0, .int .i64 0]] W fun e w' => e = .returned (.tuple #[.agg #[.slice a xs.length cap, .int .i64 (a3 : Int), .int .i64 (p : Int), .int .i64 0, .int .i64 0], .int .u64 (v : Int)]) ∧ Below W.heap.size W w') := fun W hW => rgnum_ok xs hby a cap a1 p v a3 W hn (hrd.same (Same.of_below hW (Nat.le_refl _)) (Lo.le hW.size)) hln
  have hv1 : decide ((v : Int) < 1) = false := decide_eq_false (by omega)
  have hv2 : decide ((1000 : Int) < (v : Int)) = false := decide_eq_false (by omega)
  have hvw : IntKind.i64.wrap (v : Int) = (v : Int) := by rw [IntKind.wrap_i64]; omega
  have hvx : wrap64 (v : Int) = (v : Int) := by unfold wrap64; omega
  clear hr hn hv hby hcp hnl hsp hrd hln
  have HN := R4.new w #[.slice a xs.length cap, .int .i64 (at' : Int), .int .i64 (p : Int), .int .i64 0, .int .i64 0] #[.int .i64 10, .bool false, .int .i64 0, .float .f64 0, .string ⟨#[]⟩, .slice none 0 0, .int .u64 0, .slice none 0 0, .slice none 0 0, .string ⟨#[]⟩, .int .i64 0] #[.slice none 0 0, .int .i64 0, .int .i64 0, .int .i64 0, .int .i64 0] #[.int .i64 0, .bool false, .int .i64 0, .float .f64 0, .string ⟨#[]⟩, .slice none 0 0, .int .u64 0, .slice none 0 0, .slice none 0 0, .string ⟨#[]⟩, .int .i64 0]
  have HN : Hid _ := HN
  go_enter Try.func93, Try.ntmps93
  go_wp2_with fail
  refine (HNm.out _ HN.out.bel).mono ?_
  rintro e w0 ⟨rfl, hb⟩
  have HR0 := HN.out.call hb
  have HR0 : Hid _ := HR0
  clear hb HN 
  obtain ⟨A0, B0, C0, D0, E0, k1, k2, k3, k4, k5, ⟨c0, y0⟩, ⟨c1, y1⟩, ⟨c2, y2⟩, ⟨c3, y3⟩, ⟨c4, y4⟩, hE⟩ := chain5 HR0.out.box (.slice a xs.length cap) (.int .i64 (a1 : Int)) (.int .i64 (p : Int)) (.int .i64 0) (.int .i64 0)
  have HS0 := HR0.out.put (.slice a xs.length cap) (.int .i64 (a1 : Int)) (.int .i64 (p : Int)) (.int .i64 0) (.int .i64 0)
  rw [← hE] at HS0
  have HS0 : Hid _ := HS0
  clear hE HR0
  obtain ⟨⟨e0, e1, e2, e3, e4⟩, _⟩ := own5 HS0.out.box
  obtain ⟨G0, u9, HGa⟩ : ∃ G0, E0.setCell ⟨w.heap.size + 1, 9, none⟩ (.string (Sp.txt l)) = G0 ∧ Hid (R4 w G0 #[.slice a xs.length cap, .int .i64 (a1 : Int), .int .i64 (p : Int), .int .i64 0, .int .i64 0] #[.int .i64 10, .bool false, .int .i64 0, .float .f64 0, .string ⟨#[]⟩, .slice none 0 0, .int .u64 0, .slice none 0 0, .slice none 0 0, .string (Sp.txt l), .int .i64 0] #[.slice none 0 0, .int .i64 0, .int .i64 0, .int .i64 0, .int .i64 0] #[.int .i64 0, .bool false, .int .i64 0, .float .f64 0, .string ⟨#[]⟩, .slice none 0 0, .int .u64 0, .slice none 0 0, .slice none 0 0, .string ⟨#[]⟩, .int .i64 0]) := ⟨_, rfl, HS0.out.set 9 (.string (Sp.txt l))⟩
  have uc9 : E0.cell? ⟨w.heap.size + 1, 9, none⟩ = some (.string ⟨#[]⟩) := by rw [cell_of_row _ _ 9 _ _ _ HS0.out.tbx]; rfl
  have uf9 : E0.frozen? ⟨w.heap.size + 1, 9, none⟩ = false := frozen_of_row _ _ 9 _ _ HS0.out.tbx
  obtain ⟨⟨uh0, uh1, uh2, uh3, uh4⟩, _⟩ := own5 HGa.out.box
  go_wp2_with fail
  refine (HNu.out _ HGa.out.bel).mono ?_
  rintro e w1 ⟨rfl, hb⟩
  have HR1 := HGa.out.call hb
  have HR1 : Hid _ := HR1
  clear hb HGa HS0 e0 e1 e2 e3 e4 u9 uc9 uf9 uh0 uh1 uh2 uh3 uh4 c0 c1 c2 c3 c4 y0 y1 y2 y3 y4 k1 k2 k3 k4 k5
  obtain ⟨A1, B1, C1, D1, E1, k1, k2, k3, k4, k5, ⟨c0, y0⟩, ⟨c1, y1⟩, ⟨c2, y2⟩, ⟨c3, y3⟩, ⟨c4, y4⟩, hE⟩ := chain5 HR1.out.box (.slice a xs.length cap) (.int .i64 (a3 : Int)) (.int .i64 (p : Int)) (.int .i64 0) (.int .i64 0)
  have HS1 := HR1.out.put (.slice a xs.length cap) (.int .i64 (a3 : Int)) (.int .i64 (p : Int)) (.int .i64 0) (.int .i64 0)
  rw [← hE] at HS1
  have HS1 : Hid _ := HS1
  clear hE HR1
  obtain ⟨⟨e0, e1, e2, e3, e4⟩, _⟩ := own5 HS1.out.box
  obtain ⟨G1, v10, HGb⟩ : ∃ G1, E1.setCell ⟨w.heap.size + 1, 10, none⟩ (.int .i64 (v : Int)) = G1 ∧ Hid (R4 w G1 #[.slice a xs.length cap, .int .i64 (a3 : Int), .int .i64 (p : Int), .int .i64 0, .int .i64 0] #[.int .i64 10, .bool false, .int .i64 0, .float .f64 0, .string ⟨#[]⟩, .slice none 0 0, .int .u64 0, .slice none 0 0, .slice none 0 0, .string (Sp.txt l), .int .i64 (v : Int)] #[.slice none 0 0, .int .i64 0, .int .i64 0, .int .i64 0, .int .i64 0] #[.int .i64 0, .bool false, .int .i64 0, .float .f64 0, .string ⟨#[]⟩, .slice none 0 0, .int .u64 0, .slice none 0 0, .slice none 0 0, .string ⟨#[]⟩, .int .i64 0]) := ⟨_, rfl, HS1.out.set 10 (.int .i64 (v : Int))⟩
  have vc10 : E1.cell? ⟨w.heap.size + 1, 10, none⟩ = some (.int .i64 0) := by rw [cell_of_row _ _ 10 _ _ _ HS1.out.tbx]; rfl
  have vf10 : E1.frozen? ⟨w.heap.size + 1, 10, none⟩ = false := frozen_of_row _ _ 10 _ _ HS1.out.tbx
  obtain ⟨⟨vh0, vh1, vh2, vh3, vh4⟩, _⟩ := own5 HGb.out.box
  go_wp2_with fail
  refine (HB.out _ HGb.out.bel).mono ?_
  rintro e w2 ⟨a2, p2, q, er, af, nf, cf, rfl, hb, hR⟩
  have hlt := lt_row HGb.out.ter
  obtain ⟨W, HRR⟩ : ∃ W, Hid (Below w.heap.size w W ∧ w.heap.size + 1 + 1 + 1 < W.heap.size ∧ R W w2 a2 p2 q er af nf cf) := ⟨_, HGb.out.bel, hlt, hR⟩
  have HR2 := HGb.out.call hb
  clear hR hlt
  have HR2 : Hid _ := HR2
  clear hb HGb HS1 e0 e1 e2 e3 e4 v10 vc10 vf10 vh0 vh1 vh2 vh3 vh4 c0 c1 c2 c3 c4 y0 y1 y2 y3 y4 k1 k2 k3 k4 k5
  obtain ⟨A2, B2, C2, D2, E2, k1, k2, k3, k4, k5, ⟨c0, y0⟩, ⟨c1, y1⟩, ⟨c2, y2⟩, ⟨c3, y3⟩, ⟨c4, y4⟩, hE⟩ := chain5 HR2.out.box (.slice a xs.length cap) (.int .i64 (a2 : Int)) (.int .i64 (p2 : Int)) (.int .i64 (q : Int)) (.int .i64 er)
  have HS2 := HR2.out.put (.slice a xs.length cap) (.int .i64 (a2 : Int)) (.int .i64 (p2 : Int)) (.int .i64 (q : Int)) (.int .i64 er)
  rw [← hE] at HS2
  have HS2 : Hid _ := HS2
  have HE2 : Hid _ := hE
  clear hE HR2
  obtain ⟨⟨e0, e1, e2, e3, e4⟩, _⟩ := own5 HS2.out.box
  obtain ⟨G2, x8, HG⟩ : ∃ G2, E2.setCell ⟨w.heap.size + 1, 8, none⟩ (.slice af nf cf) = G2 ∧ Hid (R4 w G2 #[.slice a xs.length cap, .int .i64 (a2 : Int), .int .i64 (p2 : Int), .int .i64 (q : Int), .int .i64 er] #[.int .i64 10, .bool false, .int .i64 0, .float .f64 0, .string ⟨#[]⟩, .slice none 0 0, .int .u64 0, .slice none 0 0, .slice af nf cf, .string (Sp.txt l), .int .i64 (v : Int)] #[.slice none 0 0, .int .i64 0, .int .i64 0, .int .i64 0, .int .i64 0] #[.int .i64 0, .bool false, .int .i64 0, .float .f64 0, .string ⟨#[]⟩, .slice none 0 0, .int .u64 0, .slice none 0 0, .slice none 0 0, .string ⟨#[]⟩, .int .i64 0]) := ⟨_, rfl, HS2.out.set 8 (.slice af nf cf)⟩
  have xc8 : E2.cell? ⟨w.heap.size + 1, 8, none⟩ = some (.slice none 0 0) := by rw [cell_of_row _ _ 8 _ _ _ HS2.out.tbx]; rfl
  have xf8 : E2.frozen? ⟨w.heap.size + 1, 8, none⟩ = false := frozen_of_row _ _ 8 _ _ HS2.out.tbx
  obtain ⟨⟨xh0, xh1, xh2, xh3, xh4⟩, _⟩ := own5 HG.out.box
  go_wp2_with fail
  have HD := HG.out.drew
  have HD : Hid _ := HD
  obtain ⟨V1, V2, V3, V4, V5, l1, l2, l3, l4, l5, ⟨d0, x0⟩, ⟨d1, x1⟩, ⟨d2, x2⟩, ⟨d3, x3⟩, ⟨d4, x4⟩, hV⟩ := chain5 HD.out.res (.slice a xs.length cap) (.int .i64 (a2 : Int)) (.int .i64 (p2 : Int)) (.int .i64 (q : Int)) (.int .i64 er)
  have HV := HD.out.putR (.slice a xs.length cap) (.int .i64 (a2 : Int)) (.int .i64 (p2 : Int)) (.int .i64 (q : Int)) (.int .i64 er)
  rw [← hV] at HV
  have HV : Hid _ := HV
  have HV2 : Hid _ := hV
  clear hV
  obtain ⟨U1, U2, U3, U4, U5, U6, U7, U8, U9, U10, U11, m0, m1, m2, m3, m4, m5, m6, m7, m8, m9, m10, ⟨b0, g0⟩, ⟨b1, g1⟩, ⟨b2, g2⟩, ⟨b3, g3⟩, ⟨b4, g4⟩, ⟨b5, g5⟩, ⟨b6, g6⟩, ⟨b7, g7⟩, ⟨b8, g8⟩, ⟨b9, g9⟩, ⟨b10, g10⟩, hU⟩ := chain11 HV.out.ter (.int .i64 10) (.bool false) (.int .i64 0) (.float .f64 0) (.string ⟨#[]⟩) (.slice none 0 0) (.int .u64 0) (.slice none 0 0) (.slice af nf cf) (.string (Sp.txt l)) (.int .i64 (v : Int))
  have HU := HV.out.putT (.int .i64 10) (.bool false) (.int .i64 0) (.float .f64 0) (.string ⟨#[]⟩) (.slice none 0 0) (.int .u64 0) (.slice none 0 0) (.slice af nf cf) (.string (Sp.txt l)) (.int .i64 (v : Int))
  rw [← hU] at HU
  have HU : Hid _ := HU
  have HU2 : Hid _ := hU
  clear hU
  have HSM : Hid (Same (Fr W w2) w2 U11 ∧ w2.heap.size ≤ U11.heap.size) := by
    refine ⟨fun k hk => ?_, ?_⟩
    · have hk1 := hk.1
      have hlt := HRR.out.2.1
      rw [HU2.out, setN_other (by omega), HV2.out, setN_other (by omega), ← x8]
      show (E2.setCell _ _).heap[k]? = _
      rw [Below.heap_setCell _ _ _ _ (by simp <;> omega), HE2.out, setN_other (by omega)]
    · rw [HU2.out, setN_size, HV2.out, setN_size, ← x8]
      show _ ≤ (E2.setCell _ _).heap.size
      have h1 : (E2.setCell ⟨w.heap.size + 1, 8, none⟩ (.slice af nf cf)).heap.size = E2.heap.size := by simp
      have h2 : E2.heap.size = w2.heap.size := by rw [HE2.out, setN_size]
      rw [h1, h2]; exact Nat.le_refl _
  have HT0 : Hid _ := HD.out.S
  have HT1 : Hid _ := HV.out.S
  have HT2 : Hid _ := HU.out.S
  go_region_held3 (fun W => (W.cell? ⟨w.heap.size, 0, none⟩ = some (.slice a xs.length cap) ∧ W.cell? ⟨w.heap.size, 1, none⟩ = some (.int .i64 (a2 : Int)) ∧ W.cell? ⟨w.heap.size, 2, none⟩ = some (.int .i64 (p2 : Int)) ∧ W.cell? ⟨w.heap.size, 3, none⟩ = some (.int .i64 (q : Int)) ∧ W.cell? ⟨w.heap.size, 4, none⟩ = some (.int .i64 er)) ∧ (W.cell? ⟨w.heap.size + 1, 0, none⟩ = some (.int .i64 10) ∧ W.cell? ⟨w.heap.size + 1, 1, none⟩ = some (.bool false) ∧ W.cell? ⟨w.heap.size + 1, 2, none⟩ = some (.int .i64 0) ∧ W.cell? ⟨w.heap.size + 1, 3, none⟩ = some (.float .f64 0) ∧ W.cell? ⟨w.heap.size + 1, 4, none⟩ = some (.string ⟨#[]⟩) ∧ W.cell? ⟨w.heap.size + 1, 5, none⟩ = some (.slice none 0 0) ∧ W.cell? ⟨w.heap.size + 1, 6, none⟩ = some (.int .u64 0) ∧ W.cell? ⟨w.heap.size + 1, 7, none⟩ = some (.slice none 0 0) ∧ W.cell? ⟨w.heap.size + 1, 8, none⟩ = some (.slice af nf cf) ∧ W.cell? ⟨w.heap.size + 1, 9, none⟩ = some (.string (Sp.txt l)) ∧ W.cell? ⟨w.heap.size + 1, 10, none⟩ = some (.int .i64 (v : Int))))
    (first | with_reducible exact HT0.out | with_reducible exact HT1.out | with_reducible exact HT2.out)
    (fail)
  go_wp2_with fail
  obtain ⟨⟨r0, r1, r2, r3, r4⟩, _⟩ := own5 HU.out.res
  obtain ⟨s0, s1, s2, s3, s4, s5, s6, s7, s8, s9, s10⟩ := own11 HU.out.ter
  exact bodyPost_ret (v := .tuple #[.agg #[.slice a xs.length cap, .int .i64 (a2 : Int), .int .i64 (p2 : Int), .int .i64 (q : Int), .int .i64 er], .agg #[.int .i64 10, .bool false, .int .i64 0, .float .f64 0, .string ⟨#[]⟩, .slice none 0 0, .int .u64 0, .slice none 0 0, .slice af nf cf, .string (Sp.txt l), .int .i64 (v : Int)]]) (by simp [results, Try.results93, go_sem, r0, r1, r2, r3, r4, s0, s1, s2, s3, s4, s5, s6, s7, s8, s9, s10] <;> rfl) rfl ⟨a2, p2, q, er, af, nf, cf, rfl, HU.out.bel, W, w2, HRR.out.1, HSM.out.1, HSM.out.2, HRR.out.2.2⟩
end Go.Proofs.Ytmmiiapfefmcjaa

/- The document's reading of fields. -/
namespace Go.Proofs.Ytmmiiapfefmcjaa
open Go.RowKit

set_option maxRecDepth 100000 in
set_option maxHeartbeats 4000000 in
theorem rgfields_pass (xs : List Int) (a : Option Addr) (cap at' p q : Nat) (er : Int) (her : er ≠ 0) (s deep : Int) (w : World) :
    Calls Try.prog 120 #[.agg #[.slice a xs.length cap, .int .i64 (at' : Int), .int .i64 (p : Int), .int .i64 (q : Int), .int .i64 er], .int .i64 s, .int .i64 deep] w fun e w' => ∃ (af : Option Addr) (cf : Nat), e = .returned (.tuple #[.agg #[.slice a xs.length cap, .int .i64 (at' : Int), .int .i64 (p : Int), .int .i64 (q : Int), .int .i64 er], .slice af 0 cf]) ∧ Below w.heap.size w w' := by
  have HLo : Hid (∀ W, Calls Try.prog 118 #[.agg #[.slice a xs.length cap, .int .i64 (at' : Int), .int .i64 (p : Int), .int .i64 (q : Int), .int .i64 er], .int .u64 4096, .int .i64 s, .int .i64 2] W fun e w' => e = .returned (.tuple #[.agg #[.slice a xs.length cap, .int .i64 (at' : Int), .int .i64 (p : Int), .int .i64 (q : Int), .int .i64 er], .int .u64 0]) ∧ Below W.heap.size W w') := fun W => rglong_pass xs a cap at' p q er her 4096 s 2 W
  have he : (er == 0) = false := by simp [her]
  clear her
  go_enter Try.func120, Try.ntmps120
  go_wp2_with fail
  refine (HLo.out _).mono ?_
  rintro e w0 ⟨rfl, hb⟩
  have HR0 : Hid (RB w w0 (.slice a xs.length cap) (.int .i64 (at' : Int)) (.int .i64 (p : Int)) (.int .i64 (q : Int)) (.int .i64 er)) := ((RB.new w (.slice a xs.length cap) (.int .i64 (at' : Int)) (.int .i64 (p : Int)) (.int .i64 (q : Int)) (.int .i64 er) (.slice none 0 0) (.int .i64 0) (.int .i64 0) (.int .i64 0) (.int .i64 0)).call ((Below.refl _ _).alloc (Nat.le_refl _) (.cells #[] 83))).call hb
  clear hb
  obtain ⟨A0, B0, C0, D0, E0, k1, k2, k3, k4, k5, ⟨c0, y0⟩, ⟨c1, y1⟩, ⟨c2, y2⟩, ⟨c3, y3⟩, ⟨c4, y4⟩, hE⟩ := chain5 HR0.out.box (.slice a xs.length cap) (.int .i64 (at' : Int)) (.int .i64 (p : Int)) (.int .i64 (q : Int)) (.int .i64 er)
  have HS0 : Hid (RB w E0 (.slice a xs.length cap) (.int .i64 (at' : Int)) (.int .i64 (p : Int)) (.int .i64 (q : Int)) (.int .i64 er)) := by rw [hE]; exact HR0.out.put _ _ _ _ _
  clear hE
  obtain ⟨⟨⟨e0, e1, e2, e3, e4⟩, _⟩, _⟩ := HS0.out.get
  go_wp2_with fail
  go_loopw [8, 10] (fun u x wr => u = .slice (some ⟨w.heap.size + 1 + 1, 0, none⟩) 0 0 ∧ x = .int .u64 0 ∧ Hid (RB w wr (.slice a xs.length cap) (.int .i64 (at' : Int)) (.int .i64 (p : Int)) (.int .i64 (q : Int)) (.int .i64 er))) (fun _ _ _ => 0)
  case atStart => exact ⟨rfl, rfl, HS0.out⟩
  case round =>
    obtain ⟨rfl, rfl, HR⟩ := hrel
    clear HS0 HR0 e0 e1 e2 e3 e4 c0 c1 c2 c3 c4 y0 y1 y2 y3 y4 k1 k2 k3 k4 k5
    obtain ⟨⟨⟨e0, e1, e2, e3, e4⟩, _⟩, _⟩ := HR.out.get
    obtain ⟨v0, v1, v2, v3, v4, hres⟩ := HR.out.res
    obtain ⟨V1, V2, V3, V4, V5, l1, l2, l3, l4, l5, ⟨d0, x0⟩, ⟨d1, x1⟩, ⟨d2, x2⟩, ⟨d3, x3⟩, ⟨d4, x4⟩, hV5⟩ := chain5 hres (.slice a xs.length cap) (.int .i64 (at' : Int)) (.int .i64 (p : Int)) (.int .i64 (q : Int)) (.int .i64 er)
    have HF := HR.out.fin (.slice a xs.length cap) (.int .i64 (at' : Int)) (.int .i64 (p : Int)) (.int .i64 (q : Int)) (.int .i64 er)
    rw [← hV5] at HF
    have HF : Hid _ := HF
    clear hV5 hres
    go_wp2_with fail
    obtain ⟨⟨r0, r1, r2, r3, r4⟩, hbb⟩ := HF.out
    exact bodyPost_ret (v := .tuple #[.agg #[.slice a xs.length cap, .int .i64 (at' : Int), .int .i64 (p : Int), .int .i64 (q : Int), .int .i64 er], .slice (some ⟨w.heap.size + 1 + 1, 0, none⟩) 0 0]) (by simp [results, Try.results120, go_sem, r0, r1, r2, r3, r4] <;> rfl) rfl ⟨_, _, rfl, hbb⟩
end Go.Proofs.Ytmmiiapfefmcjaa


/- The document's reading of a value, whatever the bytes are. -/
import Derived.Test.YtmmiiapfefmcjaaA15
import Derived.Test.YtmmiiapfefmcjaaA20
import Derived.Test.YtmmiiapfefmcjaaA19
import Derived.Test.YtmmiiapfefmcjaaA16
namespace Go.Proofs.Ytmmiiapfefmcjaa
open Go.RowKit

/-- what a reading of fields with their number tells -/
def DR (xs : List Int) (start : Nat) (step : Nat → Nat → Rs (Tm × Nat)) (at0 p0 : Nat) (w w' : World) (a2 p2 q : Nat) (er : Int) (al : Option Addr) (nl : Nat) : Prop :=
  (∃ L, Sp.rdD xs start step at0 p0 = .ok (L, p2) a2 ∧ q = 0 ∧ er = 0 ∧ a2 ≤ xs.length ∧ nl = L.len ∧ L.len ≤ 4096 ∧ L.In w' (Fr w w') al 0) ∨ (er ≠ 0 ∧ Sp.rdD xs start step at0 p0 = .bad q er)
set_option maxRecDepth 100000 in
set_option maxHeartbeats 4000000 in
theorem rgfields_all (xs : List Int) (hby : By xs) (a : Option Addr) (cap at' p start : Nat) (deep : Int) (w : World) (hcp : xs.length ≤ cap) (hnl : a = none → cap = 0) (hsp : ∀ q, a = some q → q.spot = none) (hrd : RdB w (Lo w.heap.size) a xs) (hln : xs.length ≤ 281474976710656) (hle : at' ≤ xs.length) (hdp : 0 ≤ deep ∧ deep ≤ 64) (step : Nat → Nat → Rs (Tm × Nat)) (HT : Hid (∀ (at0 p0 : Nat) (W : World), Below w.heap.size w W → at0 ≤ xs.length → Calls Try.prog 49 #[.agg #[.slice a xs.length cap, .int .i64 (at0 : Int), .int .i64 (p0 : Int), .int .i64 0, .int .i64 0], .int .i64 (deep + 1)] W fun e w' => ∃ (a2 p2 q : Nat) (er : Int) (u : Int) (b : Bool) (i : Int) (f : Nat) (tx : ByteArray) (ab : Option Addr) (nb cb : Nat) (rf : Int) (al : Option Addr) (nl cl : Nat) (af : Option Addr) (nf cf : Nat) (c : ByteArray) (vr : Int), e = .returned (.tuple #[.agg #[.slice a xs.length cap, .int .i64 (a2 : Int), .int .i64 (p2 : Int), .int .i64 (q : Int), .int .i64 er], .agg #[.int .i64 u, .bool b, .int .i64 i, .float .f64 f, .string tx, .slice ab nb cb, .int .u64 rf, .slice al nl cl, .slice af nf cf, .string c, .int .i64 vr]]) ∧ Below W.heap.size W w' ∧ TR step xs.length at0 p0 W w' a2 p2 q er #[.int .i64 u, .bool b, .int .i64 i, .float .f64 f, .string tx, .slice ab nb cb, .int .u64 rf, .slice al nl cl, .slice af nf cf, .string c, .int .i64 vr])) :
    Calls Try.prog 120 #[.agg #[.slice a xs.length cap, .int .i64 (at' : Int), .int .i64 (p : Int), .int .i64 0, .int .i64 0], .int .i64 (start : Int), .int .i64 deep] w fun e w' => ∃ (a2 p2 q : Nat) (er : Int) (al : Option Addr) (nl cl : Nat), e = .returned (.tuple #[.agg #[.slice a xs.length cap, .int .i64 (a2 : Int), .int .i64 (p2 : Int), .int .i64 (q : Int), .int .i64 er], .slice al nl cl]) ∧ Below w.heap.size w w' ∧ DR xs start step at' p w w' a2 p2 q er al nl := by
  cases hn : Sp.rn xs at' 10 0 0 with
  | bad q er =>
    have her := rn_er _ _ _ _ _ hn
    refine (rgfields_stop xs a cap at' p start deep w 0 q er her (fun W hW => rglong_bad xs hby a cap at' p q er her 4096 start 2 W hn hle (hrd.same (Same.of_below hW (Nat.le_refl _)) (Lo.le hW.size)) hln)).mono ?_
    rintro e w' ⟨a2, af, cf, rfl, hb⟩
    exact ⟨a2, p, q, er, af, 0, cf, rfl, hb, .inr ⟨her, by rw [Sp.rdD, Sp.cnt, hn]⟩⟩
  | ok n a1 =>
    by_cases hx : 4096 < n
    · refine (rgfields_stop xs a cap at' p start deep w n start 2 (by decide) (fun W hW => (rglong_most xs hby a cap at' p n a1 start 4096 2 W hn (by omega) (hrd.same (Same.of_below hW (Nat.le_refl _)) (Lo.le hW.size)) hln).mono fun e w' h => ⟨a1, h⟩)).mono ?_
      rintro e w' ⟨a2, af, cf, rfl, hb⟩
      exact ⟨a2, p, start, 2, af, 0, cf, rfl, hb, .inr ⟨by decide, by rw [Sp.rdD, Sp.cnt, hn]; dsimp only; rw [if_pos hx]⟩⟩
    · refine (rgfields_list xs hby a cap at' p start deep w hcp hnl hsp hrd hln n a1 hn (rn_ok _ _ _ _ _ hn) (by omega) hdp step HT).mono ?_
      rintro e w' ⟨a2, p2, q, er, al, nl, cl, rfl, hb, hF⟩
      have hd : Sp.rdD xs start step at' p = Sp.rdF xs start step n [] a1 p := by rw [Sp.rdD, Sp.cnt, hn]; dsimp only; rw [if_neg hx]
      refine ⟨a2, p2, q, er, al, nl, cl, rfl, hb, ?_⟩
      unfold DR
      rw [hd]
      rcases hF with ⟨L, h1, h2, h3, h4, h5, h6⟩ | h
      · exact .inl ⟨L, h1, h2, h3, h4, h5, by rw [rdF_len _ _ _ _ _ _ _ h1]; omega, h6⟩
      · exact .inr h
end Go.Proofs.Ytmmiiapfefmcjaa

/- The document's reading of a value's body: a list, by whatever contract of its parts. -/
namespace Go.Proofs.Ytmmiiapfefmcjaa
open Go.RowKit

set_option maxRecDepth 100000 in
set_option maxHeartbeats 4000000 in
theorem rgbody_list (xs : List Int) (hby : By xs) (a : Option Addr) (cap at' p start : Nat) (deep : Int) (w : World) (hrd : RdB w (Lo w.heap.size) a xs) (hln : xs.length ≤ 281474976710656) (n a1 : Nat) (hn : Sp.rn xs at' 10 0 0 = .ok n a1) (ha1 : a1 ≤ xs.length) (hx : n ≤ 4096) (hdp : 0 ≤ deep ∧ deep ≤ 64) (step : Nat → Nat → Rs (Tm × Nat)) (HT : Hid (∀ (at0 p0 : Nat) (W : World), Below w.heap.size w W → at0 ≤ xs.length → Calls Try.prog 49 #[.agg #[.slice a xs.length cap, .int .i64 (at0 : Int), .int .i64 (p0 : Int), .int .i64 0, .int .i64 0], .int .i64 (deep + 1)] W fun e w' => ∃ (a2 p2 q : Nat) (er : Int) (u : Int) (b : Bool) (i : Int) (f : Nat) (tx : ByteArray) (ab : Option Addr) (nb cb : Nat) (rf : Int) (al : Option Addr) (nl cl : Nat) (af : Option Addr) (nf cf : Nat) (c : ByteArray) (vr : Int), e = .returned (.tuple #[.agg #[.slice a xs.length cap, .int .i64 (a2 : Int), .int .i64 (p2 : Int), .int .i64 (q : Int), .int .i64 er], .agg #[.int .i64 u, .bool b, .int .i64 i, .float .f64 f, .string tx, .slice ab nb cb, .int .u64 rf, .slice al nl cl, .slice af nf cf, .string c, .int .i64 vr]]) ∧ Below W.heap.size W w' ∧ TR step xs.length at0 p0 W w' a2 p2 q er #[.int .i64 u, .bool b, .int .i64 i, .float .f64 f, .string tx, .slice ab nb cb, .int .u64 rf, .slice al nl cl, .slice af nf cf, .string c, .int .i64 vr])) :
    Calls Try.prog 93 #[.agg #[.slice a xs.length cap, .int .i64 (at' : Int), .int .i64 (p : Int), .int .i64 0, .int .i64 0], .agg #[.int .i64 8, .bool false, .int .i64 0, .float .f64 0, .string ⟨#[]⟩, .slice none 0 0, .int .u64 0, .slice none 0 0, .slice none 0 0, .string ⟨#[]⟩, .int .i64 0], .int .i64 (start : Int), .int .i64 deep] w fun e w' => ∃ (a2 p2 q : Nat) (er : Int) (al : Option Addr) (nl cl : Nat), e = .returned (.tuple #[.agg #[.slice a xs.length cap, .int .i64 (a2 : Int), .int .i64 (p2 : Int), .int .i64 (q : Int), .int .i64 er], .agg #[.int .i64 8, .bool false, .int .i64 0, .float .f64 0, .string ⟨#[]⟩, .slice none 0 0, .int .u64 0, .slice al nl cl, .slice none 0 0, .string ⟨#[]⟩, .int .i64 0]]) ∧ Below w.heap.size w w' ∧ LR step n a1 p xs.length w w' a2 p2 q er al nl := by
  obtain ⟨i0, hi, hz0, hz1, hz2⟩ := info_parts Try.infoT
  have HLo : Hid (∀ W, Below w.heap.size w W → Calls Try.prog 118 #[.agg #[.slice a xs.length cap, .int .i64 (at' : Int), .int .i64 (p : Int), .int .i64 0, .int .i64 0], .int .u64 4096, .int .i64 (start : Int), .int .i64 2] W fun e w' => e = .returned (.tuple #[.agg #[.slice a xs.length cap, .int .i64 (a1 : Int), .int .i64 (p : Int), .int .i64 0, .int .i64 0], .int .u64 (n : Int)]) ∧ Below W.heap.size W w') := fun W hW => rglong_ok xs hby a cap at' p n a1 4096 start 2 W hn (by omega) (hrd.same (Same.of_below hW (Nat.le_refl _)) (Lo.le hW.size)) hln
  have hwd : IntKind.i64.wrap (deep + 1) = deep + 1 := by rw [IntKind.wrap_i64]; omega
  clear hn hby hrd hln
  have HN := R4.new w #[.slice a xs.length cap, .int .i64 (at' : Int), .int .i64 (p : Int), .int .i64 0, .int .i64 0] #[.int .i64 8, .bool false, .int .i64 0, .float .f64 0, .string ⟨#[]⟩, .slice none 0 0, .int .u64 0, .slice none 0 0, .slice none 0 0, .string ⟨#[]⟩, .int .i64 0] #[.slice none 0 0, .int .i64 0, .int .i64 0, .int .i64 0, .int .i64 0] #[.int .i64 0, .bool false, .int .i64 0, .float .f64 0, .string ⟨#[]⟩, .slice none 0 0, .int .u64 0, .slice none 0 0, .slice none 0 0, .string ⟨#[]⟩, .int .i64 0]
  have HN : Hid _ := HN
  go_enter Try.func93, Try.ntmps93
  go_wp2_with fail
  refine (HLo.out _ HN.out.bel).mono ?_
  rintro e w0 ⟨rfl, hb⟩
  have HR0 := HN.out.call hb
  have HR0 : Hid _ := HR0
  clear hb HN 
  obtain ⟨A0, B0, C0, D0, E0, k1, k2, k3, k4, k5, ⟨c0, y0⟩, ⟨c1, y1⟩, ⟨c2, y2⟩, ⟨c3, y3⟩, ⟨c4, y4⟩, hE⟩ := chain5 HR0.out.box (.slice a xs.length cap) (.int .i64 (a1 : Int)) (.int .i64 (p : Int)) (.int .i64 0) (.int .i64 0)
  have HS0 := HR0.out.put (.slice a xs.length cap) (.int .i64 (a1 : Int)) (.int .i64 (p : Int)) (.int .i64 0) (.int .i64 0)
  rw [← hE] at HS0
  have HS0 : Hid _ := HS0
  clear hE HR0
  obtain ⟨⟨e0, e1, e2, e3, e4⟩, _⟩ := own5 HS0.out.box
  have H0 : Hid (QB w E0 #[.slice a xs.length cap, .int .i64 (a1 : Int), .int .i64 (p : Int), .int .i64 0, .int .i64 0] (.slice none 0 0) w.heap.size 0 [] ∧ LI step n a1 p xs.length 0 a1 p 0 0 E0 (Own (w.heap.size + 4) E0 w.heap.size) []) := by
    refine ⟨⟨HS0.out, ⟨rfl, .inl ⟨rfl, rfl⟩⟩, .inl rfl, lt_row HS0.out.box⟩, .inl ⟨rfl, rfl, ha1, fun L p2 a2 h => ⟨L, h, (TPre_nil _ _).2 rfl⟩, fun q er h => h⟩⟩
  go_wp2_with fail
  go_loopw [15] (fun x wr => ∃ (j aj pj qj : Nat) (erj : Int) (v : Value) (g : Nat) (ys : List (Array Value)), x = .int .u64 j ∧ j ≤ n ∧ Hid (QB w wr #[.slice a xs.length cap, .int .i64 (aj : Int), .int .i64 (pj : Int), .int .i64 (qj : Int), .int .i64 erj] v g j (ys.flatMap (·.toList)) ∧ LI step n a1 p xs.length j aj pj qj erj wr (Own (w.heap.size + 4) wr g) ys)) (fun x _ => n - (intOf x).toNat)
  case atStart => exact ⟨0, a1, p, 0, 0, .slice none 0 0, w.heap.size, [], rfl, by omega, H0.out⟩
  case round =>
    obtain ⟨j, aj, pj, qj, erj, v, g, ys, rfl, hj, HR⟩ := hrel
    clear H0 HS0 HLo e0 e1 e2 e3 e4 c0 c1 c2 c3 c4 y0 y1 y2 y3 y4 k1 k2 k3 k4 k5
    obtain ⟨⟨e0, e1, e2, e3, e4⟩, _⟩ := own5 HR.out.1.bx.box
    by_cases hjn : j < n
    · have hjn' : decide ((j : Int) < (n : Int)) = true := decide_eq_true (by omega)
      by_cases her : erj = 0
      · have HER : Hid (erj = 0 ∧ (qj : Int) = 0 ∧ aj ≤ xs.length) := by
          rcases HR.out.2 with h | h
          · exact ⟨her, by rw [h.2.1]; rfl, h.2.2.1⟩
          · exact absurd her h.1
        rw [HER.out.2.1] at e3
        rw [her] at e4
        clear her
        have HNX := HR.out.1.bx.call ((Below.refl _ _).alloc (Nat.le_refl _) (.cells #[.int .i64 0, .bool false, .int .i64 0, .float .f64 0, .string ⟨#[]⟩, .slice none 0 0, .int .u64 0, .slice none 0 0, .slice none 0 0, .string ⟨#[]⟩, .int .i64 0] 29))
        obtain ⟨⟨f0, f1, f2, f3, f4⟩, _⟩ := own5 HNX.box
        rw [HER.out.2.1] at f3
        rw [HER.out.1] at f4
        have HNX : Hid _ := HNX
        go_wp2_with fail
        refine (HT.out aj pj _ HNX.out.bel HER.out.2.2).mono ?_
        rintro e w1 ⟨a2, p2, q, er, u, b, i, f, tx, ab, nb, cb, rf, al, nl, cl, af, nf, cf, c, vr, rfl, hb, hT⟩
        have HB : Hid (Below (wr.alloc (.cells #[.int .i64 0, .bool false, .int .i64 0, .float .f64 0, .string ⟨#[]⟩, .slice none 0 0, .int .u64 0, .slice none 0 0, .slice none 0 0, .string ⟨#[]⟩, .int .i64 0] 29)).heap.size (wr.alloc (.cells #[.int .i64 0, .bool false, .int .i64 0, .float .f64 0, .string ⟨#[]⟩, .slice none 0 0, .int .u64 0, .slice none 0 0, .slice none 0 0, .string ⟨#[]⟩, .int .i64 0] 29)) w1) := hb
        have HTR : Hid (TR step xs.length aj pj (wr.alloc (.cells #[.int .i64 0, .bool false, .int .i64 0, .float .f64 0, .string ⟨#[]⟩, .slice none 0 0, .int .u64 0, .slice none 0 0, .slice none 0 0, .string ⟨#[]⟩, .int .i64 0] 29)) w1 a2 p2 q er #[.int .i64 u, .bool b, .int .i64 i, .float .f64 f, .string tx, .slice ab nb cb, .int .u64 rf, .slice al nl cl, .slice af nf cf, .string c, .int .i64 vr]) := hT
        have hprow : w1.heap[wr.heap.size]? = some (.cells #[.int .i64 0, .bool false, .int .i64 0, .float .f64 0, .string ⟨#[]⟩, .slice none 0 0, .int .u64 0, .slice none 0 0, .slice none 0 0, .string ⟨#[]⟩, .int .i64 0] 29 (0, 0)) := by rw [hb.block _ (by simp)]; exact heap_alloc_new wr _
        have hrow := (HNX.out.call hb).box
        clear hb hT f0 f1 f2 f3 f4 e0 e1 e2 e3 e4
        obtain ⟨A0, B0, C0, D0, E1, k1, k2, k3, k4, k5, ⟨c0, y0⟩, ⟨c1, y1⟩, ⟨c2, y2⟩, ⟨c3, y3⟩, ⟨c4, y4⟩, hE⟩ := chain5 hrow (.slice a xs.length cap) (.int .i64 (a2 : Int)) (.int .i64 (p2 : Int)) (.int .i64 (q : Int)) (.int .i64 er)
        have hprow2 : E1.heap[wr.heap.size]? = some (.cells #[.int .i64 0, .bool false, .int .i64 0, .float .f64 0, .string ⟨#[]⟩, .slice none 0 0, .int .u64 0, .slice none 0 0, .slice none 0 0, .string ⟨#[]⟩, .int .i64 0] 29 (0, 0)) := by rw [hE, setN_other (by have := HR.out.1.bx.size; omega)]; exact hprow
        obtain ⟨U1, U2, U3, U4, U5, U6, U7, U8, U9, U10, U11, m0, m1, m2, m3, m4, m5, m6, m7, m8, m9, m10, ⟨b0, g0⟩, ⟨b1, g1⟩, ⟨b2, g2⟩, ⟨b3, g3⟩, ⟨b4, g4⟩, ⟨b5, g5⟩, ⟨b6, g6⟩, ⟨b7, g7⟩, ⟨b8, g8⟩, ⟨b9, g9⟩, ⟨b10, g10⟩, hU⟩ := chain11 hprow2 (.int .i64 u) (.bool b) (.int .i64 i) (.float .f64 f) (.string tx) (.slice ab nb cb) (.int .u64 rf) (.slice al nl cl) (.slice af nf cf) (.string c) (.int .i64 vr)
        have HMD := HR.out.1.mid _ HB.out (.slice a xs.length cap) (.int .i64 (a2 : Int)) (.int .i64 (p2 : Int)) (.int .i64 (q : Int)) (.int .i64 er) hE [.int .i64 u, .bool b, .int .i64 i, .float .f64 f, .string tx, .slice ab nb cb, .int .u64 rf, .slice al nl cl, .slice af nf cf, .string c, .int .i64 vr] hU
        have HMD : Hid _ := HMD
        have hpr := row11 hprow2 (.int .i64 u) (.bool b) (.int .i64 i) (.float .f64 f) (.string tx) (.slice ab nb cb) (.int .u64 rf) (.slice al nl cl) (.slice af nf cf) (.string c) (.int .i64 vr)
        rw [← hU] at hpr
        obtain ⟨n0, n1, n2, n3, n4, n5, n6, n7, n8, n9, n10⟩ := own11 hpr
        have c7 : U11.cell? ⟨w.heap.size + 1, 7, none⟩ = some v := by rw [cell_of_row _ _ 7 _ _ _ HMD.out.1.bx.tbx]; rfl
        have c7a := fun o => (show (U11.alloc o).cell? ⟨w.heap.size + 1, 7, none⟩ = some v by rw [World.cell?_of_block (w := U11) (a := ⟨w.heap.size + 1, 7, none⟩) (Below.heap_alloc _ _ _ (by show w.heap.size + 1 < _; have := HMD.out.1.bx.size; omega))]; exact c7)
        have hszU := HMD.out.1.bx.size
        clear hE hU hprow hprow2 hrow hpr
        go_wp2_with (at_builtin; refine wpList_app _ rfl _ _ 26 rfl (w.heap.size + 4) 29 i0 _ 11 152 Try.undT hi hz0 hz1 hz2 rfl (by decide) v j (ys.flatMap (·.toList)) rfl (HMD.out.1.own.alloc _) ⟨w1.heap.size, 0, none⟩ 1 1 (tcells u b i f tx (.slice ab nb cb) rf (.slice al nl cl) (.slice af nf cf) c vr).toList rfl rfl (block_cells (by have := heap_alloc_new U11 (.cells (tcells u b i f tx (.slice ab nb cb) rf (.slice al nl cl) (.slice af nf cf) c vr) 29); rw [HMD.out.2.1] at this; exact this)) (tcells_one u b i f tx ab nb cb rf al nl cl af nf cf c vr) (by decide) (by unfold maxLen; omega) (by omega) (by simp; omega) ?_; intro g' cap' w3 hown' hgrow hor; have hlt3 := (hown'.lt g' rfl).2; have HAP := HMD.out.1.app hown' hgrow (by simpa using hor) hlt3; obtain ⟨c73, f73⟩ := HAP.2.2.2; have HAP : Hid _ := HAP; clear hown' hgrow hor hlt3)
        go_roundw
        case rel =>
          refine ⟨j + 1, a2, p2, q, er, .slice (some ⟨g', 0, none⟩) (j + 1) cap', g', ys ++ [(tcells u b i f tx (.slice ab nb cb) rf (.slice al nl cl) (.slice af nf cf) c vr)], by go_num, by omega, show _ ∧ _ from ⟨?_, HR.out.2.next HER.out.1 hjn HTR.out ?_⟩⟩
          · have := HAP.out.1
            rw [List.flatMap_append]; simpa using this
          · intro L l t hp ht
            have hB := HMD.out.2.2.2.2
            have hA := HAP.out.2.1
            have hz := HAP.out.2.2.1
            have hU := HMD.out.2.2.1
            have hsz := HMD.out.2.1
            have hs1 := HB.out.size
            have hs2 := HR.out.1.bx.size
            have hs3 := HR.out.1.lt
            simp at hs1
            have p1 : ∀ k, Own (w.heap.size + 4) wr g k → (w3.setCell ⟨w.heap.size + 1, 7, none⟩ (.slice (some ⟨g', 0, none⟩) (j + 1) cap')).heap[k]? = wr.heap[k]? := fun k hk => by
              have h1 := hk.1; have h2 := hk.2.1
              rw [(hA k hk.1 (by omega) hk.2.2).1, hU k (by omega) (by omega), hB.block k hk.2.1]
            have p2 : ∀ k, Own (w.heap.size + 4) wr g k → Own (w.heap.size + 4) (w3.setCell ⟨w.heap.size + 1, 7, none⟩ (.slice (some ⟨g', 0, none⟩) (j + 1) cap')) g' k := fun k hk => by
              have h1 := hk.1; have h2 := hk.2.1
              exact ⟨hk.1, by omega, (hA k hk.1 (by omega) hk.2.2).2⟩
            have p3 : ∀ k, Fr (wr.alloc (.cells #[.int .i64 0, .bool false, .int .i64 0, .float .f64 0, .string ⟨#[]⟩, .slice none 0 0, .int .u64 0, .slice none 0 0, .slice none 0 0, .string ⟨#[]⟩, .int .i64 0] 29)) w1 k → (w3.setCell ⟨w.heap.size + 1, 7, none⟩ (.slice (some ⟨g', 0, none⟩) (j + 1) cap')).heap[k]? = w1.heap[k]? := fun k hk => by
              have h1 := hk.1; have h2 := hk.2
              simp at h1
              rw [(hA k (by omega) (by omega) (by omega)).1, hU k (by omega) (by omega)]
            have p4 : ∀ k, Fr (wr.alloc (.cells #[.int .i64 0, .bool false, .int .i64 0, .float .f64 0, .string ⟨#[]⟩, .slice none 0 0, .int .u64 0, .slice none 0 0, .slice none 0 0, .string ⟨#[]⟩, .int .i64 0] 29)) w1 k → Own (w.heap.size + 4) (w3.setCell ⟨w.heap.size + 1, 7, none⟩ (.slice (some ⟨g', 0, none⟩) (j + 1) cap')) g' k := fun k hk => by
              have h1 := hk.1; have h2 := hk.2
              simp at h1
              exact ⟨by omega, by omega, (hA k (by omega) (by omega) (by omega)).2⟩
            exact TPre.snoc _ _ t l _ (TPre.same p1 p2 _ _ _ hp) (t.In_same p3 p4 _ ht) rfl
        case measure => simp [intOf]; omega
      · have her' : (erj == 0) = false := by simp [her]
        go_wp2_with fail
        obtain ⟨al, cl, rfl⟩ := HR.out.1.val
        have HQR := HR.out.1.bx
        have HQR : Hid _ := HQR
        have HD := HQR.out.drew
        have HD : Hid _ := HD
        obtain ⟨V1, V2, V3, V4, V5, l1, l2, l3, l4, l5, ⟨d0, x0⟩, ⟨d1, x1⟩, ⟨d2, x2⟩, ⟨d3, x3⟩, ⟨d4, x4⟩, hV⟩ := chain5 HD.out.res (.slice a xs.length cap) (.int .i64 (aj : Int)) (.int .i64 (pj : Int)) (.int .i64 (qj : Int)) (.int .i64 erj)
        have HV := HD.out.putR (.slice a xs.length cap) (.int .i64 (aj : Int)) (.int .i64 (pj : Int)) (.int .i64 (qj : Int)) (.int .i64 erj)
        rw [← hV] at HV
        have HV : Hid _ := HV
        have HV2 : Hid _ := hV
        clear hV
        obtain ⟨U1, U2, U3, U4, U5, U6, U7, U8, U9, U10, U11, m0, m1, m2, m3, m4, m5, m6, m7, m8, m9, m10, ⟨b0, g0⟩, ⟨b1, g1⟩, ⟨b2, g2⟩, ⟨b3, g3⟩, ⟨b4, g4⟩, ⟨b5, g5⟩, ⟨b6, g6⟩, ⟨b7, g7⟩, ⟨b8, g8⟩, ⟨b9, g9⟩, ⟨b10, g10⟩, hU⟩ := chain11 HV.out.ter (.int .i64 8) (.bool false) (.int .i64 0) (.float .f64 0) (.string ⟨#[]⟩) (.slice none 0 0) (.int .u64 0) (.slice al j cl) (.slice none 0 0) (.string ⟨#[]⟩) (.int .i64 0)
        have HU := HV.out.putT (.int .i64 8) (.bool false) (.int .i64 0) (.float .f64 0) (.string ⟨#[]⟩) (.slice none 0 0) (.int .u64 0) (.slice al j cl) (.slice none 0 0) (.string ⟨#[]⟩) (.int .i64 0)
        rw [← hU] at HU
        have HU : Hid _ := HU
        have HU2 : Hid _ := hU
        clear hU
        have HFI : Hid (LR step n a1 p xs.length w U11 aj pj qj erj al j) := by
          refine LI.fin HR.out.1 HR.out.2 (.inl her) (fun k hk => ?_) ?_
          · have hk1 := hk.1
            rw [HU2.out, setN_other (by omega), HV2.out, setN_other (by omega)]; rfl
          · rw [HU2.out, setN_size, HV2.out, setN_size]; exact Nat.le_refl _
        have HS0 : Hid _ := HD.out.S
        have HS1 : Hid _ := HV.out.S
        have HS2 : Hid _ := HU.out.S
        go_region_held3 (fun W => (W.cell? ⟨w.heap.size, 0, none⟩ = some (.slice a xs.length cap) ∧ W.cell? ⟨w.heap.size, 1, none⟩ = some (.int .i64 (aj : Int)) ∧ W.cell? ⟨w.heap.size, 2, none⟩ = some (.int .i64 (pj : Int)) ∧ W.cell? ⟨w.heap.size, 3, none⟩ = some (.int .i64 (qj : Int)) ∧ W.cell? ⟨w.heap.size, 4, none⟩ = some (.int .i64 erj)) ∧ (W.cell? ⟨w.heap.size + 1, 0, none⟩ = some (.int .i64 8) ∧ W.cell? ⟨w.heap.size + 1, 1, none⟩ = some (.bool false) ∧ W.cell? ⟨w.heap.size + 1, 2, none⟩ = some (.int .i64 0) ∧ W.cell? ⟨w.heap.size + 1, 3, none⟩ = some (.float .f64 0) ∧ W.cell? ⟨w.heap.size + 1, 4, none⟩ = some (.string ⟨#[]⟩) ∧ W.cell? ⟨w.heap.size + 1, 5, none⟩ = some (.slice none 0 0) ∧ W.cell? ⟨w.heap.size + 1, 6, none⟩ = some (.int .u64 0) ∧ W.cell? ⟨w.heap.size + 1, 7, none⟩ = some (.slice al j cl) ∧ W.cell? ⟨w.heap.size + 1, 8, none⟩ = some (.slice none 0 0) ∧ W.cell? ⟨w.heap.size + 1, 9, none⟩ = some (.string ⟨#[]⟩) ∧ W.cell? ⟨w.heap.size + 1, 10, none⟩ = some (.int .i64 0)))
          (first | with_reducible exact HS0.out | with_reducible exact HS1.out | with_reducible exact HS2.out)
          (fail)
        go_wp2_with fail
        obtain ⟨⟨r0, r1, r2, r3, r4⟩, _⟩ := own5 HU.out.res
        obtain ⟨s0, s1, s2, s3, s4, s5, s6, s7, s8, s9, s10⟩ := own11 HU.out.ter
        exact bodyPost_ret (v := .tuple #[.agg #[.slice a xs.length cap, .int .i64 (aj : Int), .int .i64 (pj : Int), .int .i64 (qj : Int), .int .i64 erj], .agg #[.int .i64 8, .bool false, .int .i64 0, .float .f64 0, .string ⟨#[]⟩, .slice none 0 0, .int .u64 0, .slice al j cl, .slice none 0 0, .string ⟨#[]⟩, .int .i64 0]]) (by simp [results, Try.results93, go_sem, r0, r1, r2, r3, r4, s0, s1, s2, s3, s4, s5, s6, s7, s8, s9, s10] <;> rfl) rfl ⟨aj, pj, qj, erj, al, j, cl, rfl, HU.out.bel, HFI.out⟩
    · have hjn' : decide ((j : Int) < (n : Int)) = false := decide_eq_false (by omega)
      have HJE : Hid (j = n) := by show _ = _; omega
      go_wp2_with fail
      obtain ⟨al, cl, rfl⟩ := HR.out.1.val
      have HQR := HR.out.1.bx
      have HQR : Hid _ := HQR
      have HD := HQR.out.drew
      have HD : Hid _ := HD
      obtain ⟨V1, V2, V3, V4, V5, l1, l2, l3, l4, l5, ⟨d0, x0⟩, ⟨d1, x1⟩, ⟨d2, x2⟩, ⟨d3, x3⟩, ⟨d4, x4⟩, hV⟩ := chain5 HD.out.res (.slice a xs.length cap) (.int .i64 (aj : Int)) (.int .i64 (pj : Int)) (.int .i64 (qj : Int)) (.int .i64 erj)
      have HV := HD.out.putR (.slice a xs.length cap) (.int .i64 (aj : Int)) (.int .i64 (pj : Int)) (.int .i64 (qj : Int)) (.int .i64 erj)
      rw [← hV] at HV
      have HV : Hid _ := HV
      have HV2 : Hid _ := hV
      clear hV
      obtain ⟨U1, U2, U3, U4, U5, U6, U7, U8, U9, U10, U11, m0, m1, m2, m3, m4, m5, m6, m7, m8, m9, m10, ⟨b0, g0⟩, ⟨b1, g1⟩, ⟨b2, g2⟩, ⟨b3, g3⟩, ⟨b4, g4⟩, ⟨b5, g5⟩, ⟨b6, g6⟩, ⟨b7, g7⟩, ⟨b8, g8⟩, ⟨b9, g9⟩, ⟨b10, g10⟩, hU⟩ := chain11 HV.out.ter (.int .i64 8) (.bool false) (.int .i64 0) (.float .f64 0) (.string ⟨#[]⟩) (.slice none 0 0) (.int .u64 0) (.slice al j cl) (.slice none 0 0) (.string ⟨#[]⟩) (.int .i64 0)
      have HU := HV.out.putT (.int .i64 8) (.bool false) (.int .i64 0) (.float .f64 0) (.string ⟨#[]⟩) (.slice none 0 0) (.int .u64 0) (.slice al j cl) (.slice none 0 0) (.string ⟨#[]⟩) (.int .i64 0)
      rw [← hU] at HU
      have HU : Hid _ := HU
      have HU2 : Hid _ := hU
      clear hU
      have HFI : Hid (LR step n a1 p xs.length w U11 aj pj qj erj al j) := by
        refine LI.fin HR.out.1 HR.out.2 (.inr HJE.out) (fun k hk => ?_) ?_
        · have hk1 := hk.1
          rw [HU2.out, setN_other (by omega), HV2.out, setN_other (by omega)]; rfl
        · rw [HU2.out, setN_size, HV2.out, setN_size]; exact Nat.le_refl _
      have HS0 : Hid _ := HD.out.S
      have HS1 : Hid _ := HV.out.S
      have HS2 : Hid _ := HU.out.S
      go_region_held3 (fun W => (W.cell? ⟨w.heap.size, 0, none⟩ = some (.slice a xs.length cap) ∧ W.cell? ⟨w.heap.size, 1, none⟩ = some (.int .i64 (aj : Int)) ∧ W.cell? ⟨w.heap.size, 2, none⟩ = some (.int .i64 (pj : Int)) ∧ W.cell? ⟨w.heap.size, 3, none⟩ = some (.int .i64 (qj : Int)) ∧ W.cell? ⟨w.heap.size, 4, none⟩ = some (.int .i64 erj)) ∧ (W.cell? ⟨w.heap.size + 1, 0, none⟩ = some (.int .i64 8) ∧ W.cell? ⟨w.heap.size + 1, 1, none⟩ = some (.bool false) ∧ W.cell? ⟨w.heap.size + 1, 2, none⟩ = some (.int .i64 0) ∧ W.cell? ⟨w.heap.size + 1, 3, none⟩ = some (.float .f64 0) ∧ W.cell? ⟨w.heap.size + 1, 4, none⟩ = some (.string ⟨#[]⟩) ∧ W.cell? ⟨w.heap.size + 1, 5, none⟩ = some (.slice none 0 0) ∧ W.cell? ⟨w.heap.size + 1, 6, none⟩ = some (.int .u64 0) ∧ W.cell? ⟨w.heap.size + 1, 7, none⟩ = some (.slice al j cl) ∧ W.cell? ⟨w.heap.size + 1, 8, none⟩ = some (.slice none 0 0) ∧ W.cell? ⟨w.heap.size + 1, 9, none⟩ = some (.string ⟨#[]⟩) ∧ W.cell? ⟨w.heap.size + 1, 10, none⟩ = some (.int .i64 0)))
        (first | with_reducible exact HS0.out | with_reducible exact HS1.out | with_reducible exact HS2.out)
        (fail)
      go_wp2_with fail
      obtain ⟨⟨r0, r1, r2, r3, r4⟩, _⟩ := own5 HU.out.res
      obtain ⟨s0, s1, s2, s3, s4, s5, s6, s7, s8, s9, s10⟩ := own11 HU.out.ter
      exact bodyPost_ret (v := .tuple #[.agg #[.slice a xs.length cap, .int .i64 (aj : Int), .int .i64 (pj : Int), .int .i64 (qj : Int), .int .i64 erj], .agg #[.int .i64 8, .bool false, .int .i64 0, .float .f64 0, .string ⟨#[]⟩, .slice none 0 0, .int .u64 0, .slice al j cl, .slice none 0 0, .string ⟨#[]⟩, .int .i64 0]]) (by simp [results, Try.results93, go_sem, r0, r1, r2, r3, r4, s0, s1, s2, s3, s4, s5, s6, s7, s8, s9, s10] <;> rfl) rfl ⟨aj, pj, qj, erj, al, j, cl, rfl, HU.out.bel, HFI.out⟩
end Go.Proofs.Ytmmiiapfefmcjaa


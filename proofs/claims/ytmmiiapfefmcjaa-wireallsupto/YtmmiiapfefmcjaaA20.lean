/- The document's reading of fields, by whatever contract of a value. -/
import Derived.Test.YtmmiiapfefmcjaaA17
import Derived.Test.YtmmiiapfefmcjaaA11
import Derived.Test.YtmmiiapfefmcjaaA19
namespace Go.Proofs.Ytmmiiapfefmcjaa
open Go.RowKit

/-- what a reading of a name tells -/
def NR (xs : List Int) (start at0 a0 q0 : Nat) (er0 : Int) (sc : ByteArray) : Prop :=
  (∃ l, Sp.rdN xs at0 start = .ok l a0 ∧ q0 = 0 ∧ er0 = 0 ∧ sc = Sp.txt l ∧ a0 ≤ xs.length) ∨ (er0 ≠ 0 ∧ Sp.rdN xs at0 start = .bad q0 er0)
theorem rgname_all (xs : List Int) (hby : By xs) (a : Option Addr) (cap at0 p0 start : Nat) (w : World) (hcp : xs.length ≤ cap) (hnl : a = none → cap = 0) (hsp : ∀ q, a = some q → q.spot = none) (hrd : RdB w (Lo w.heap.size) a xs) (hln : xs.length ≤ 281474976710656) (hle : at0 ≤ xs.length) :
    Calls Try.prog 121 #[.agg #[.slice a xs.length cap, .int .i64 (at0 : Int), .int .i64 (p0 : Int), .int .i64 0, .int .i64 0], .int .i64 (start : Int)] w fun e w' => ∃ (a0 q0 : Nat) (er0 : Int) (sc : ByteArray), e = .returned (.tuple #[.agg #[.slice a xs.length cap, .int .i64 (a0 : Int), .int .i64 (p0 : Int), .int .i64 (q0 : Int), .int .i64 er0], .string sc]) ∧ Below w.heap.size w w' ∧ NR xs start at0 a0 q0 er0 sc := by
  cases hr : Sp.rdN xs at0 start with
  | ok l a2 =>
    refine (rgname_ok xs hby a cap at0 p0 start w hcp hnl hsp hrd hln l a2 hr).mono ?_
    rintro e w' ⟨rfl, hb⟩
    obtain ⟨m, b, _, _, hbm, _, rfl, _⟩ := rdN_ok hr
    exact ⟨_, 0, 0, _, rfl, hb, .inl ⟨l, hr, rfl, rfl, rfl, hbm⟩⟩
  | bad q er =>
    have her : er ≠ 0 := rdN_er hr
    refine (rgname_bad xs hby a cap at0 p0 start w hcp hnl hsp hrd hln hle q er hr).mono ?_
    rintro e w' ⟨at2, s, rfl, hb⟩
    exact ⟨at2, q, er, s, rfl, hb, .inr ⟨her, hr⟩⟩
theorem name_first {s : ByteArray} (h : Sp.isNm s = true) : ¬ Sp.cmpS s (Sp.txt []) ≤ 0 := by
  have h1 : 1 ≤ s.size := by simp [Sp.isNm] at h; omega
  unfold Sp.cmpS
  have e : (Sp.txt []).data.toList = [] := by simp [Sp.txt, strOfNums]
  rw [e]
  cases hs : s.data.toList with
  | nil => have := ba_len s; rw [hs] at this; simp at this; omega
  | cons x l => simp [Lib.compareBytes]
theorem cmp_first {xs : List Int} {at' : Nat} {l : List Int} {a2 : Nat} (h : ∃ n a, Sp.rn xs at' 10 0 0 = .ok n a ∧ n ≤ 32 ∧ a + n ≤ xs.length ∧ l = (xs.drop a).take n ∧ a2 = a + n ∧ Sp.isNm (Sp.txt l) = true) : ¬ Sp.cmpS (Sp.txt l) (Sp.txt []) ≤ 0 := by
  obtain ⟨n, b, _, _, _, _, _, hnm⟩ := h
  exact name_first hnm
theorem leS_le {a b : ByteArray} (h : Sp.cmpS a b ≤ 0) : (Op.bytesLess a.toList b.toList || a.toList == b.toList) = true := by
  rw [less_of, same_of]
  have := cmp_vals a.data.toList b.data.toList
  have h2 : Sp.cmpS a b = -1 ∨ Sp.cmpS a b = 0 := by unfold Sp.cmpS at *; omega
  rcases h2 with e | e <;> simp [e]
set_option maxRecDepth 100000 in
set_option maxHeartbeats 4000000 in
theorem rgfields_list (xs : List Int) (hby : By xs) (a : Option Addr) (cap at' p start : Nat) (deep : Int) (w : World) (hcp : xs.length ≤ cap) (hnl : a = none → cap = 0) (hsp : ∀ q, a = some q → q.spot = none) (hrd : RdB w (Lo w.heap.size) a xs) (hln : xs.length ≤ 281474976710656) (n a1 : Nat) (hn : Sp.rn xs at' 10 0 0 = .ok n a1) (ha1 : a1 ≤ xs.length) (hx : n ≤ 4096) (hdp : 0 ≤ deep ∧ deep ≤ 64) (step : Nat → Nat → Rs (Tm × Nat)) (HT : Hid (∀ (at0 p0 : Nat) (W : World), Below w.heap.size w W → at0 ≤ xs.length → Calls Try.prog 49 #[.agg #[.slice a xs.length cap, .int .i64 (at0 : Int), .int .i64 (p0 : Int), .int .i64 0, .int .i64 0], .int .i64 (deep + 1)] W fun e w' => ∃ (a2 p2 q : Nat) (er : Int) (u : Int) (b : Bool) (i : Int) (f : Nat) (tx : ByteArray) (ab : Option Addr) (nb cb : Nat) (rf : Int) (al : Option Addr) (nl cl : Nat) (af : Option Addr) (nf cf : Nat) (c : ByteArray) (vr : Int), e = .returned (.tuple #[.agg #[.slice a xs.length cap, .int .i64 (a2 : Int), .int .i64 (p2 : Int), .int .i64 (q : Int), .int .i64 er], .agg #[.int .i64 u, .bool b, .int .i64 i, .float .f64 f, .string tx, .slice ab nb cb, .int .u64 rf, .slice al nl cl, .slice af nf cf, .string c, .int .i64 vr]]) ∧ Below W.heap.size W w' ∧ TR step xs.length at0 p0 W w' a2 p2 q er #[.int .i64 u, .bool b, .int .i64 i, .float .f64 f, .string tx, .slice ab nb cb, .int .u64 rf, .slice al nl cl, .slice af nf cf, .string c, .int .i64 vr])) :
    Calls Try.prog 120 #[.agg #[.slice a xs.length cap, .int .i64 (at' : Int), .int .i64 (p : Int), .int .i64 0, .int .i64 0], .int .i64 (start : Int), .int .i64 deep] w fun e w' => ∃ (a2 p2 q : Nat) (er : Int) (al : Option Addr) (nl cl : Nat), e = .returned (.tuple #[.agg #[.slice a xs.length cap, .int .i64 (a2 : Int), .int .i64 (p2 : Int), .int .i64 (q : Int), .int .i64 er], .slice al nl cl]) ∧ Below w.heap.size w w' ∧ FR xs start step n a1 p xs.length w w' a2 p2 q er al nl := by
  obtain ⟨i0, hi, hz0, hz1, hz2⟩ := info_parts Try.infoEn
  have HLo : Hid (∀ W, Below w.heap.size w W → Calls Try.prog 118 #[.agg #[.slice a xs.length cap, .int .i64 (at' : Int), .int .i64 (p : Int), .int .i64 0, .int .i64 0], .int .u64 4096, .int .i64 (start : Int), .int .i64 2] W fun e w' => e = .returned (.tuple #[.agg #[.slice a xs.length cap, .int .i64 (a1 : Int), .int .i64 (p : Int), .int .i64 0, .int .i64 0], .int .u64 (n : Int)]) ∧ Below W.heap.size W w') := fun W hW => rglong_ok xs hby a cap at' p n a1 4096 start 2 W hn (by omega) (hrd.same (Same.of_below hW (Nat.le_refl _)) (Lo.le hW.size)) hln
  have HNm : Hid (∀ (at0 p0 : Nat) (W : World), Below w.heap.size w W → at0 ≤ xs.length → Calls Try.prog 121 #[.agg #[.slice a xs.length cap, .int .i64 (at0 : Int), .int .i64 (p0 : Int), .int .i64 0, .int .i64 0], .int .i64 (start : Int)] W fun e w' => ∃ (a0 q0 : Nat) (er0 : Int) (sc : ByteArray), e = .returned (.tuple #[.agg #[.slice a xs.length cap, .int .i64 (a0 : Int), .int .i64 (p0 : Int), .int .i64 (q0 : Int), .int .i64 er0], .string sc]) ∧ Below W.heap.size W w' ∧ NR xs start at0 a0 q0 er0 sc) := fun at0 p0 W hW hle => rgname_all xs hby a cap at0 p0 start W hcp hnl hsp (hrd.same (Same.of_below hW (Nat.le_refl _)) (Lo.le hW.size)) hln hle
  have hwd : IntKind.i64.wrap (deep + 1) = deep + 1 := by rw [IntKind.wrap_i64]; omega
  clear hn hby hcp hnl hsp hrd hln
  go_enter Try.func120, Try.ntmps120
  go_wp2_with fail
  have HN : Hid (RB w ((((w.alloc (.cells #[.slice a xs.length cap, .int .i64 (at' : Int), .int .i64 (p : Int), .int .i64 0, .int .i64 0] 94)).alloc (.cells #[.slice none 0 0, .int .i64 0, .int .i64 0, .int .i64 0, .int .i64 0] 94))).alloc (.cells #[] 83)) (.slice a xs.length cap) (.int .i64 (at' : Int)) (.int .i64 (p : Int)) (.int .i64 0) (.int .i64 0)) := (RB.new w (.slice a xs.length cap) (.int .i64 (at' : Int)) (.int .i64 (p : Int)) (.int .i64 0) (.int .i64 0) (.slice none 0 0) (.int .i64 0) (.int .i64 0) (.int .i64 0) (.int .i64 0)).call ((Below.refl _ _).alloc (Nat.le_refl _) (.cells #[] 83))
  refine (HLo.out _ HN.out.bel).mono ?_
  rintro e w0 ⟨rfl, hb⟩
  have HR0 : Hid (RB w w0 (.slice a xs.length cap) (.int .i64 (at' : Int)) (.int .i64 (p : Int)) (.int .i64 0) (.int .i64 0)) := HN.out.call hb
  have hl0 : w0.heap[w.heap.size + 1 + 1]? = some (.cells #[] 83 (0, 0)) := by
    rw [hb.block _ (by simp)]
    have := heap_alloc_new ((w.alloc (.cells #[.slice a xs.length cap, .int .i64 (at' : Int), .int .i64 (p : Int), .int .i64 0, .int .i64 0] 94)).alloc (.cells #[.slice none 0 0, .int .i64 0, .int .i64 0, .int .i64 0, .int .i64 0] 94)) (.cells #[] 83)
    simpa using this
  clear hb
  obtain ⟨A0, B0, C0, D0, E0, k1, k2, k3, k4, k5, ⟨c0, y0⟩, ⟨c1, y1⟩, ⟨c2, y2⟩, ⟨c3, y3⟩, ⟨c4, y4⟩, hE⟩ := chain5 HR0.out.box (.slice a xs.length cap) (.int .i64 (a1 : Int)) (.int .i64 (p : Int)) (.int .i64 0) (.int .i64 0)
  have HS0 : Hid (RB w E0 (.slice a xs.length cap) (.int .i64 (a1 : Int)) (.int .i64 (p : Int)) (.int .i64 0) (.int .i64 0)) := by rw [hE]; exact HR0.out.put _ _ _ _ _
  have H0 : Hid (QF w E0 (.slice a xs.length cap) (.int .i64 (a1 : Int)) (.int .i64 (p : Int)) (.int .i64 0) (.int .i64 0) (.slice (some ⟨w.heap.size + 1 + 1, 0, none⟩) 0 0) (w.heap.size + 1 + 1) 0 (ecells []) ∧ FI xs start step n a1 p xs.length 0 a1 p 0 0 E0 (Own (w.heap.size + 2) E0 (w.heap.size + 1 + 1)) [] []) := by
    have hl : E0.heap[w.heap.size + 1 + 1]? = some (.cells #[] 83 (0, 0)) := by rw [hE, setN_other (by omega)]; exact hl0
    refine ⟨⟨HS0.out, ⟨rfl, .inr ⟨_, 0, #[], rfl, Nat.le_refl _, hl, Nat.le_refl _, by simp [maxLen], rfl, rfl⟩⟩, .inr rfl, lt_row hl⟩, .inl ⟨rfl, rfl, ha1, fun L p2 a2 h => ⟨L, h, (EPre_nil _ _).2 rfl⟩, fun q er h => h, .inl ⟨rfl, rfl⟩⟩⟩
  clear hE hl0
  obtain ⟨⟨⟨e0, e1, e2, e3, e4⟩, _⟩, _⟩ := HS0.out.get
  go_wp2_with fail
  go_loopw [8, 10] (fun u x wr => ∃ (j aj pj qj : Nat) (erj : Int) (g : Nat) (ys : List (ByteArray × Array Value)) (ahead : List Int) (lv : Option Addr) (lc : Nat), u = .slice lv j lc ∧ x = .int .u64 j ∧ j ≤ n ∧ Hid (QF w wr (.slice a xs.length cap) (.int .i64 (aj : Int)) (.int .i64 (pj : Int)) (.int .i64 (qj : Int)) (.int .i64 erj) (.slice lv j lc) g j (ecells ys) ∧ FI xs start step n a1 p xs.length j aj pj qj erj wr (Own (w.heap.size + 2) wr g) ys ahead)) (fun _ x _ => n - (intOf x).toNat)
  case atStart => exact ⟨0, a1, p, 0, 0, _, [], [], _, 0, rfl, rfl, by omega, H0.out⟩
  case round =>
    obtain ⟨j, aj, pj, qj, erj, g, ys, ahead, lv, lc, rfl, rfl, hj, HR⟩ := hrel
    clear H0 HS0 HR0 HLo HN e0 e1 e2 e3 e4 c0 c1 c2 c3 c4 y0 y1 y2 y3 y4 k1 k2 k3 k4 k5
    obtain ⟨⟨⟨e0, e1, e2, e3, e4⟩, _⟩, _⟩ := HR.out.1.bx.get
    by_cases hjn : j < n
    · have hjn' : decide ((j : Int) < (n : Int)) = true := decide_eq_true (by omega)
      by_cases her : erj = 0
      · have HER : Hid (erj = 0 ∧ (qj : Int) = 0 ∧ aj ≤ xs.length ∧ ((j = 0 ∧ ahead = []) ∨ ∃ ys0 c0, ys = ys0 ++ [(Sp.txt ahead, c0)] ∧ c0.size = 11)) := by
          rcases HR.out.2 with h | h
          · exact ⟨her, by rw [h.2.1]; rfl, h.2.2.1, h.2.2.2.2.2⟩
          · exact absurd her h.1
        rw [HER.out.2.1] at e3
        rw [her] at e4
        clear her
        have HNX := FE.new HR.out.1 #[.string ⟨#[]⟩, .int .i64 0, .bool false, .int .i64 0, .float .f64 0, .string ⟨#[]⟩, .slice none 0 0, .int .u64 0, .slice none 0 0, .slice none 0 0, .string ⟨#[]⟩, .int .i64 0]
        obtain ⟨⟨⟨f0, f1, f2, f3, f4⟩, _⟩, _⟩ := HNX.q.bx.get
        rw [HER.out.2.1] at f3
        rw [HER.out.1] at f4
        have HNX : Hid _ := HNX
        go_wp2_with fail
        refine (HNm.out aj pj _ HNX.out.q.bx.bel HER.out.2.2.1).mono ?_
        rintro e w1 ⟨a0, q0, er0, sc, rfl, hb, hN⟩
        have hnot := HR.out.1.not
        have HNOT : Hid _ := hnot
        clear hnot f0 f1 f2 f3 f4 e0 e1 e2 e3 e4
        rcases hN with ⟨l, hr, rfl, rfl, hsc, ha0⟩ | ⟨her0, hr⟩
        · have HSC : Hid (sc = Sp.txt l ∧ Sp.rdN xs aj start = .ok l a0 ∧ a0 ≤ xs.length) := ⟨hsc, hr, ha0⟩
          clear hsc hr ha0
          have HF1 := HNX.out.call hb
          clear hb
          obtain ⟨A0, B0, C0, D0, E1, k1, k2, k3, k4, k5, ⟨c0, y0⟩, ⟨c1, y1⟩, ⟨c2, y2⟩, ⟨c3, y3⟩, ⟨c4, y4⟩, hE⟩ := chain5 HF1.q.bx.box (.slice a xs.length cap) (.int .i64 (a0 : Int)) (.int .i64 (pj : Int)) (.int .i64 0) (.int .i64 0)
          have HF2 := HF1.put (.slice a xs.length cap) (.int .i64 (a0 : Int)) (.int .i64 (pj : Int)) (.int .i64 0) (.int .i64 0)
          rw [← hE] at HF2
          obtain ⟨F1, o1, hF3⟩ : ∃ F1, E1.setCell ⟨wr.heap.size, 0, none⟩ (.string sc) = F1 ∧ FE w wr F1 (.slice a xs.length cap) (.int .i64 (a0 : Int)) (.int .i64 (pj : Int)) (.int .i64 0) (.int .i64 0) (.slice lv j lc) g j (ecells ys) #[.string sc, .int .i64 0, .bool false, .int .i64 0, .float .f64 0, .string ⟨#[]⟩, .slice none 0 0, .int .u64 0, .slice none 0 0, .slice none 0 0, .string ⟨#[]⟩, .int .i64 0] := ⟨_, rfl, HF2.name HNOT.out _⟩
          have oc1 : E1.cell? ⟨wr.heap.size, 0, none⟩ = some (.string ⟨#[]⟩) := by rw [cell_of_row _ _ 0 _ _ _ HF2.row]; rfl
          have of1 : E1.frozen? ⟨wr.heap.size, 0, none⟩ = false := frozen_of_row _ _ 0 _ _ HF2.row
          have HF3 : Hid _ := hF3
          clear hE HF1 HF2 hF3
          obtain ⟨⟨⟨e0, e1, e2, e3, e4⟩, _⟩, _⟩ := HF3.out.q.bx.get
          obtain ⟨n0, n1, n2, n3, n4, n5, n6, n7, n8, n9, n10, n11⟩ := own12 HF3.out.row
          rcases HER.out.2.2.2 with ⟨hj0, hah⟩ | ⟨ys0, c0', hys, hc0⟩
          · have HJ0 : Hid (j = 0 ∧ ahead = []) := ⟨hj0, hah⟩
            have hcmp : Hid (¬ Sp.cmpS (Sp.txt l) (Sp.txt ahead) ≤ 0) := by
              show ¬ _
              rw [HJ0.out.2]; exact cmp_first (rdN_ok HSC.out.2.1)
            have hj1 : decide ((0 : Int) < (j : Int)) = false := decide_eq_false (by omega)
            have hj2 : ¬ 0 < j := by omega
            clear hj0 hah
            go_wp2_with fail
            go_quiet (fail)
            go_wp2_with fail
            have HF4 := HF3.out.call (below_drewN' _ F1 nq)
            obtain ⟨F2, hF2⟩ : ∃ F2, F1.drewN nq = F2 := ⟨_, rfl⟩
            rw [hF2] at HF4 ⊢
            have HF4 : Hid _ := HF4
            clear hF2 o1 oc1 of1 e0 e1 e2 e3 e4 n0 n1 n2 n3 n4 n5 n6 n7 n8 n9 n10 n11 c0 c1 c2 c3 c4 y0 y1 y2 y3 y4 k1 k2 k3 k4 k5
            refine (HT.out a0 pj _ HF4.out.q.bx.bel HSC.out.2.2).mono ?_
            rintro e w3 ⟨a2, p2, q, er, u, b, i, f, tx, ab, nb, cb, rf, al, nl, cl, af, nf, cf, c, vr, rfl, hb, hT⟩
            have HTR : Hid (TR step xs.length a0 pj F2 w3 a2 p2 q er #[.int .i64 u, .bool b, .int .i64 i, .float .f64 f, .string tx, .slice ab nb cb, .int .u64 rf, .slice al nl cl, .slice af nf cf, .string c, .int .i64 vr]) := hT
            have HSZ3 : Hid (wr.heap.size < F2.heap.size) := HF4.out.sz
            clear hT
            have HG1 := HF4.out.call hb
            clear hb
            obtain ⟨A1, B1, C1, D1, E3, k1, k2, k3, k4, k5, ⟨c0, y0⟩, ⟨c1, y1⟩, ⟨c2, y2⟩, ⟨c3, y3⟩, ⟨c4, y4⟩, hE⟩ := chain5 HG1.q.bx.box (.slice a xs.length cap) (.int .i64 (a2 : Int)) (.int .i64 (p2 : Int)) (.int .i64 (q : Int)) (.int .i64 er)
            have HG2 := HG1.put (.slice a xs.length cap) (.int .i64 (a2 : Int)) (.int .i64 (p2 : Int)) (.int .i64 (q : Int)) (.int .i64 er)
            rw [← hE] at HG2
            obtain ⟨U1, U2, U3, U4, U5, U6, U7, U8, U9, U10, U11, m0, m1, m2, m3, m4, m5, m6, m7, m8, m9, m10, ⟨b0, g0⟩, ⟨b1, g1⟩, ⟨b2, g2⟩, ⟨b3, g3⟩, ⟨b4, g4⟩, ⟨b5, g5⟩, ⟨b6, g6⟩, ⟨b7, g7⟩, ⟨b8, g8⟩, ⟨b9, g9⟩, ⟨b10, g10⟩, hU⟩ := chain12 HG2.row (.int .i64 u) (.bool b) (.int .i64 i) (.float .f64 f) (.string tx) (.slice ab nb cb) (.int .u64 rf) (.slice al nl cl) (.slice af nf cf) (.string c) (.int .i64 vr)
            have HG3 := HG2.rest HNOT.out (.int .i64 u) (.bool b) (.int .i64 i) (.float .f64 f) (.string tx) (.slice ab nb cb) (.int .u64 rf) (.slice al nl cl) (.slice af nf cf) (.string c) (.int .i64 vr)
            rw [← hU] at HG3
            have HEQ : Hid ((∀ k, k ≠ w.heap.size → k ≠ wr.heap.size → U11.heap[k]? = w3.heap[k]?) ∧ U11.heap.size = w3.heap.size) := ⟨fun k h1 h2 => by rw [hU, setN_other h2, hE, setN_other h1], by rw [hU, setN_size, hE, setN_size]⟩
            obtain ⟨n0, n1, n2, n3, n4, n5, n6, n7, n8, n9, n10, n11⟩ := own12 HG3.row
            have hszU : w.heap.size + 2 ≤ U11.heap.size := by have := HG3.two; have := HG3.sz; omega
            have HG3 : Hid _ := HG3
            clear hE hU HG1 HG2
            go_wp2_with (at_builtin; refine wpList_app _ rfl _ _ 27 rfl (w.heap.size + 2) 83 i0 _ 12 168 Try.undEs hi hz0 hz1 hz2 rfl (by decide) (.slice lv j lc) j (ecells ys) rfl (HG3.out.q.own.alloc _) ⟨U11.heap.size, 0, none⟩ 1 1 (.string sc :: (tcells u b i f tx (.slice ab nb cb) rf (.slice al nl cl) (.slice af nf cf) c vr).toList) rfl rfl (block_cells (heap_alloc_new U11 _)) (ecell_one sc u b i f tx ab nb cb rf al nl cl af nf cf c vr) (by decide) (by unfold maxLen; omega) (by omega) (by simp; omega) ?_; intro g' cap' w4 hown' hgrow hor; have HAP := HG3.out.app hown' hgrow (by simpa [Value.ownBlock] using hor); have HAP : Hid _ := HAP; clear hown' hgrow hor)
            go_roundw
            case rel =>
              refine ⟨j + 1, a2, p2, q, er, g', ys ++ [(sc, (tcells u b i f tx (.slice ab nb cb) rf (.slice al nl cl) (.slice af nf cf) c vr))], l, some ⟨g', 0, none⟩, cap', rfl, by go_num, by omega, show _ ∧ _ from ⟨?_, HR.out.2.next (W := F2) (w1 := w3) HER.out.1 hjn (.inr ⟨a0, HSC.out.2.1, (by have := hcmp.out; omega), HSC.out.1, rfl, HTR.out⟩) ?_⟩⟩
              · have h1 := HAP.out.1
                have e1 : ecells (ys ++ [(sc, (tcells u b i f tx (.slice ab nb cb) rf (.slice al nl cl) (.slice af nf cf) c vr))]) = ecells ys ++ (.string sc :: (tcells u b i f tx (.slice ab nb cb) rf (.slice al nl cl) (.slice af nf cf) c vr).toList) := by simp [ecells]
                rw [e1]; exact h1
              · intro L l' t hp hsz ht
                have hA := HAP.out.2.1
                have hz := HAP.out.2.2
                have hU := HEQ.out.1
                have hsz2 := HEQ.out.2
                have hs2 := HG3.out.two
                have hs3 := HR.out.1.lt
                have hs4 := HG3.out.sz
                have hs5 := HSZ3.out
                have p1 : ∀ k, Own (w.heap.size + 2) wr g k → w4.heap[k]? = wr.heap[k]? := fun k hk => by
                  have h1 := hk.1; have h2 := hk.2.1
                  rw [(hA k hk.1 (by omega) hk.2.2).1, HG3.out.far k hk.2.1 (by omega)]
                have p2 : ∀ k, Own (w.heap.size + 2) wr g k → Own (w.heap.size + 2) w4 g' k := fun k hk => by
                  have h1 := hk.1; have h2 := hk.2.1
                  exact ⟨hk.1, by omega, (hA k hk.1 (by omega) hk.2.2).2⟩
                have p3 : ∀ k, Fr F2 w3 k → w4.heap[k]? = w3.heap[k]? := fun k hk => by
                  have h1 := hk.1; have h2 := hk.2
                  rw [(hA k (by omega) (by omega) (by omega)).1, hU k (by omega) (by omega)]
                have p4 : ∀ k, Fr F2 w3 k → Own (w.heap.size + 2) w4 g' k := fun k hk => by
                  have h1 := hk.1; have h2 := hk.2
                  exact ⟨by omega, by omega, (hA k (by omega) (by omega) (by omega)).2⟩
                exact EPre.snoc _ _ _ t l' _ (EPre.same p1 p2 _ _ _ hp) hsz (t.In_same p3 p4 _ ht) rfl
            case measure => simp [intOf]; omega
          · obtain ⟨gl, cap0, hv0, hg0a, hg0b, hjp, hlast⟩ := QF.last (by rw [← hys]; exact HR.out.1) hc0
            injection hv0 with hv1 hv2 hv3
            subst hv1
            have HJ0 : Hid (ys = ys0 ++ [(Sp.txt ahead, c0')] ∧ c0'.size = 11) := ⟨hys, hc0⟩
            have hlastF : F1.cell? ⟨gl, (j - 1) * 12, none⟩ = some (.string (Sp.txt ahead)) := by
              rw [World.cell?_of_block (w := wr) (a := ⟨gl, (j - 1) * 12, none⟩) (HF3.out.far gl hg0b (by omega))]; exact hlast
            obtain ⟨la, HLA⟩ : ∃ la, Hid (Sp.txt ahead = la) := ⟨_, rfl⟩
            rw [HLA.out] at hlastF
            have hj1 : decide ((0 : Int) < (j : Int)) = true := decide_eq_true (by omega)
            have hj3 : IntKind.i64.wrap ((j : Int) - 1) = ((j - 1 : Nat) : Int) := by rw [IntKind.wrap_i64]; omega
            have hj4 : (0 : Int) ≤ ((j - 1 : Nat) : Int) := Int.natCast_nonneg _
            have hj5 : ((j - 1 : Nat) : Int) < (j : Int) := by omega
            obtain ⟨jm, HJM⟩ : ∃ jm : Nat, Hid (j - 1 = jm) := ⟨_, rfl⟩
            rw [HJM.out] at hlastF hj3 hj4 hj5
            clear hys hc0 hv2 hv3 hlast
            by_cases hcm : Sp.cmpS (Sp.txt l) (Sp.txt ahead) ≤ 0
            · have HCM : Hid (Sp.cmpS (Sp.txt l) (Sp.txt ahead) ≤ 0) := hcm
              have hls : (Op.bytesLess sc.toList la.toList || sc.toList == la.toList) = true := by rw [← HLA.out, HSC.out.1]; exact leS_le hcm
              clear hcm
              have HTP : Hid (∀ W, Calls Try.prog 49 #[.agg #[.slice a xs.length cap, .int .i64 (a0 : Int), .int .i64 (pj : Int), .int .i64 (start : Int), .int .i64 8], .int .i64 (deep + 1)] W fun e w' => e = .returned (.tuple #[.agg #[.slice a xs.length cap, .int .i64 (a0 : Int), .int .i64 (pj : Int), .int .i64 (start : Int), .int .i64 8], .agg #[.int .i64 0, .bool false, .int .i64 0, .float .f64 0, .string ⟨#[]⟩, .slice none 0 0, .int .u64 0, .slice none 0 0, .slice none 0 0, .string ⟨#[]⟩, .int .i64 0]]) ∧ Below W.heap.size W w') := fun W => rgterm_pass a xs.length cap a0 pj start 8 (by decide) (deep + 1) W
              have HBd : Hid (∀ W, Calls Try.prog 91 #[.agg #[.slice a xs.length cap, .int .i64 (a0 : Int), .int .i64 (pj : Int), .int .i64 0, .int .i64 0], .int .i64 (start : Int), .int .i64 8] W fun e w' => e = .returned (.agg #[.slice a xs.length cap, .int .i64 (a0 : Int), .int .i64 (pj : Int), .int .i64 (start : Int), .int .i64 8]) ∧ Below W.heap.size W w') := fun W => rgbad_ok a0 pj a xs.length cap W start 8
              go_wp2_with fail
              go_quiet (fail)
              go_wp2_with fail
              have HF5 := HF3.out.call (below_drewN' _ F1 nq)
              obtain ⟨F2, hF2⟩ : ∃ F2, F1.drewN nq = F2 := ⟨_, rfl⟩
              rw [hF2] at HF5 ⊢
              clear hF2 o1 oc1 of1 e0 e1 e2 e3 e4 n0 n1 n2 n3 n4 n5 n6 n7 n8 n9 n10 n11 c0 c1 c2 c3 c4 y0 y1 y2 y3 y4 k1 k2 k3 k4 k5
              refine (HBd.out _).mono ?_
              rintro e w2 ⟨rfl, hb⟩
              have HF6 := HF5.call hb
              clear hb
              obtain ⟨A0, B0, C0, D0, E2, k1, k2, k3, k4, k5, ⟨c0, y0⟩, ⟨c1, y1⟩, ⟨c2, y2⟩, ⟨c3, y3⟩, ⟨c4, y4⟩, hE⟩ := chain5 HF6.q.bx.box (.slice a xs.length cap) (.int .i64 (a0 : Int)) (.int .i64 (pj : Int)) (.int .i64 (start : Int)) (.int .i64 8)
              have HF4 := HF6.put (.slice a xs.length cap) (.int .i64 (a0 : Int)) (.int .i64 (pj : Int)) (.int .i64 (start : Int)) (.int .i64 8)
              rw [← hE] at HF4
              clear hE HF5 HF6
              obtain ⟨⟨⟨e0, e1, e2, e3, e4⟩, _⟩, _⟩ := HF4.q.bx.get
              have HF4 : Hid _ := HF4
              go_wp2_with fail
              refine (HTP.out _).mono ?_
              rintro e w3 ⟨rfl, hb⟩
              clear e0 e1 e2 e3 e4 c0 c1 c2 c3 c4 y0 y1 y2 y3 y4 k1 k2 k3 k4 k5
              have HG1 := HF4.out.call hb
              clear hb
              obtain ⟨A1, B1, C1, D1, E3, k1, k2, k3, k4, k5, ⟨c0, y0⟩, ⟨c1, y1⟩, ⟨c2, y2⟩, ⟨c3, y3⟩, ⟨c4, y4⟩, hE⟩ := chain5 HG1.q.bx.box (.slice a xs.length cap) (.int .i64 (a0 : Int)) (.int .i64 (pj : Int)) (.int .i64 (start : Int)) (.int .i64 8)
              have HG2 := HG1.put (.slice a xs.length cap) (.int .i64 (a0 : Int)) (.int .i64 (pj : Int)) (.int .i64 (start : Int)) (.int .i64 8)
              rw [← hE] at HG2
              obtain ⟨U1, U2, U3, U4, U5, U6, U7, U8, U9, U10, U11, m0, m1, m2, m3, m4, m5, m6, m7, m8, m9, m10, ⟨b0, g0⟩, ⟨b1, g1⟩, ⟨b2, g2⟩, ⟨b3, g3⟩, ⟨b4, g4⟩, ⟨b5, g5⟩, ⟨b6, g6⟩, ⟨b7, g7⟩, ⟨b8, g8⟩, ⟨b9, g9⟩, ⟨b10, g10⟩, hU⟩ := chain12 HG2.row (.int .i64 0) (.bool false) (.int .i64 0) (.float .f64 0) (.string ⟨#[]⟩) (.slice none 0 0) (.int .u64 0) (.slice none 0 0) (.slice none 0 0) (.string ⟨#[]⟩) (.int .i64 0)
              have HG3 := HG2.rest HNOT.out (.int .i64 0) (.bool false) (.int .i64 0) (.float .f64 0) (.string ⟨#[]⟩) (.slice none 0 0) (.int .u64 0) (.slice none 0 0) (.slice none 0 0) (.string ⟨#[]⟩) (.int .i64 0)
              rw [← hU] at HG3
              have HEQ : Hid ((∀ k, k ≠ w.heap.size → k ≠ wr.heap.size → U11.heap[k]? = w3.heap[k]?) ∧ U11.heap.size = w3.heap.size) := ⟨fun k h1 h2 => by rw [hU, setN_other h2, hE, setN_other h1], by rw [hU, setN_size, hE, setN_size]⟩
              obtain ⟨n0, n1, n2, n3, n4, n5, n6, n7, n8, n9, n10, n11⟩ := own12 HG3.row
              have hszU : w.heap.size + 2 ≤ U11.heap.size := by have := HG3.two; have := HG3.sz; omega
              have HG3 : Hid _ := HG3
              clear hE hU HG1 HG2
              go_wp2_with (at_builtin; refine wpList_app _ rfl _ _ 27 rfl (w.heap.size + 2) 83 i0 _ 12 168 Try.undEs hi hz0 hz1 hz2 rfl (by decide) (.slice (some ⟨gl, 0, none⟩) j lc) j (ecells ys) rfl (HG3.out.q.own.alloc _) ⟨U11.heap.size, 0, none⟩ 1 1 (.string sc :: (tcells 0 false 0 0 ⟨#[]⟩ (.slice none 0 0) 0 (.slice none 0 0) (.slice none 0 0) ⟨#[]⟩ 0).toList) rfl rfl (block_cells (heap_alloc_new U11 _)) (ecell_one sc 0 false 0 0 ⟨#[]⟩ none 0 0 0 none 0 0 none 0 0 ⟨#[]⟩ 0) (by decide) (by unfold maxLen; omega) (by omega) (by simp; omega) ?_; intro g' cap' w4 hown' hgrow hor; have HAP := HG3.out.app hown' hgrow (by simpa [Value.ownBlock] using hor); have HAP : Hid _ := HAP; clear hown' hgrow hor)
              go_roundw
              case rel =>
                refine ⟨j + 1, a0, pj, start, 8, g', ys ++ [(sc, (tcells 0 false 0 0 ⟨#[]⟩ (.slice none 0 0) 0 (.slice none 0 0) (.slice none 0 0) ⟨#[]⟩ 0))], l, some ⟨g', 0, none⟩, cap', rfl, by go_num, by omega, show _ ∧ _ from ⟨?_, HR.out.2.next (W := w4) (w1 := w4) HER.out.1 hjn (.inl ⟨by decide, .inr ⟨l, a0, HSC.out.2.1, HCM.out, rfl, rfl⟩⟩) ?_⟩⟩
                · have h1 := HAP.out.1
                  have e1 : ecells (ys ++ [(sc, (tcells 0 false 0 0 ⟨#[]⟩ (.slice none 0 0) 0 (.slice none 0 0) (.slice none 0 0) ⟨#[]⟩ 0))]) = ecells ys ++ (.string sc :: (tcells 0 false 0 0 ⟨#[]⟩ (.slice none 0 0) 0 (.slice none 0 0) (.slice none 0 0) ⟨#[]⟩ 0).toList) := by simp [ecells]
                  rw [e1]; exact h1
                · intro L l' t hp hsz ht
                  have hA := HAP.out.2.1
                  have hz := HAP.out.2.2
                  have hU := HEQ.out.1
                  have hsz2 := HEQ.out.2
                  have hs2 := HG3.out.two
                  have hs3 := HR.out.1.lt
                  have hs4 := HG3.out.sz
                  have hs5 := HG3.out.sz
                  have p1 : ∀ k, Own (w.heap.size + 2) wr g k → w4.heap[k]? = wr.heap[k]? := fun k hk => by
                    have h1 := hk.1; have h2 := hk.2.1
                    rw [(hA k hk.1 (by omega) hk.2.2).1, HG3.out.far k hk.2.1 (by omega)]
                  have p2 : ∀ k, Own (w.heap.size + 2) wr g k → Own (w.heap.size + 2) w4 g' k := fun k hk => by
                    have h1 := hk.1; have h2 := hk.2.1
                    exact ⟨hk.1, by omega, (hA k hk.1 (by omega) hk.2.2).2⟩
                  have p3 : ∀ k, Fr w4 w4 k → w4.heap[k]? = w4.heap[k]? := fun k _ => rfl
                  have p4 : ∀ k, Fr w4 w4 k → Own (w.heap.size + 2) w4 g' k := fun k hk => by
                    have h1 := hk.1; have h2 := hk.2
                    omega
                  exact EPre.snoc _ _ _ t l' _ (EPre.same p1 p2 _ _ _ hp) hsz (t.In_same p3 p4 _ ht) rfl
              case measure => simp [intOf]; omega
            · have hcmp : Hid (¬ Sp.cmpS (Sp.txt l) (Sp.txt ahead) ≤ 0) := hcm
              have hls : (Op.bytesLess sc.toList la.toList || sc.toList == la.toList) = false := by rw [← HLA.out, HSC.out.1]; exact leS_of hcm
              clear hcm
              go_wp2_with fail
              go_quiet (fail)
              go_wp2_with fail
              have HF4 := HF3.out.call (below_drewN' _ F1 nq)
              obtain ⟨F2, hF2⟩ : ∃ F2, F1.drewN nq = F2 := ⟨_, rfl⟩
              rw [hF2] at HF4 ⊢
              have HF4 : Hid _ := HF4
              clear hF2 o1 oc1 of1 e0 e1 e2 e3 e4 n0 n1 n2 n3 n4 n5 n6 n7 n8 n9 n10 n11 c0 c1 c2 c3 c4 y0 y1 y2 y3 y4 k1 k2 k3 k4 k5
              refine (HT.out a0 pj _ HF4.out.q.bx.bel HSC.out.2.2).mono ?_
              rintro e w3 ⟨a2, p2, q, er, u, b, i, f, tx, ab, nb, cb, rf, al, nl, cl, af, nf, cf, c, vr, rfl, hb, hT⟩
              have HTR : Hid (TR step xs.length a0 pj F2 w3 a2 p2 q er #[.int .i64 u, .bool b, .int .i64 i, .float .f64 f, .string tx, .slice ab nb cb, .int .u64 rf, .slice al nl cl, .slice af nf cf, .string c, .int .i64 vr]) := hT
              have HSZ3 : Hid (wr.heap.size < F2.heap.size) := HF4.out.sz
              clear hT
              have HG1 := HF4.out.call hb
              clear hb
              obtain ⟨A1, B1, C1, D1, E3, k1, k2, k3, k4, k5, ⟨c0, y0⟩, ⟨c1, y1⟩, ⟨c2, y2⟩, ⟨c3, y3⟩, ⟨c4, y4⟩, hE⟩ := chain5 HG1.q.bx.box (.slice a xs.length cap) (.int .i64 (a2 : Int)) (.int .i64 (p2 : Int)) (.int .i64 (q : Int)) (.int .i64 er)
              have HG2 := HG1.put (.slice a xs.length cap) (.int .i64 (a2 : Int)) (.int .i64 (p2 : Int)) (.int .i64 (q : Int)) (.int .i64 er)
              rw [← hE] at HG2
              obtain ⟨U1, U2, U3, U4, U5, U6, U7, U8, U9, U10, U11, m0, m1, m2, m3, m4, m5, m6, m7, m8, m9, m10, ⟨b0, g0⟩, ⟨b1, g1⟩, ⟨b2, g2⟩, ⟨b3, g3⟩, ⟨b4, g4⟩, ⟨b5, g5⟩, ⟨b6, g6⟩, ⟨b7, g7⟩, ⟨b8, g8⟩, ⟨b9, g9⟩, ⟨b10, g10⟩, hU⟩ := chain12 HG2.row (.int .i64 u) (.bool b) (.int .i64 i) (.float .f64 f) (.string tx) (.slice ab nb cb) (.int .u64 rf) (.slice al nl cl) (.slice af nf cf) (.string c) (.int .i64 vr)
              have HG3 := HG2.rest HNOT.out (.int .i64 u) (.bool b) (.int .i64 i) (.float .f64 f) (.string tx) (.slice ab nb cb) (.int .u64 rf) (.slice al nl cl) (.slice af nf cf) (.string c) (.int .i64 vr)
              rw [← hU] at HG3
              have HEQ : Hid ((∀ k, k ≠ w.heap.size → k ≠ wr.heap.size → U11.heap[k]? = w3.heap[k]?) ∧ U11.heap.size = w3.heap.size) := ⟨fun k h1 h2 => by rw [hU, setN_other h2, hE, setN_other h1], by rw [hU, setN_size, hE, setN_size]⟩
              obtain ⟨n0, n1, n2, n3, n4, n5, n6, n7, n8, n9, n10, n11⟩ := own12 HG3.row
              have hszU : w.heap.size + 2 ≤ U11.heap.size := by have := HG3.two; have := HG3.sz; omega
              have HG3 : Hid _ := HG3
              clear hE hU HG1 HG2
              go_wp2_with (at_builtin; refine wpList_app _ rfl _ _ 27 rfl (w.heap.size + 2) 83 i0 _ 12 168 Try.undEs hi hz0 hz1 hz2 rfl (by decide) (.slice (some ⟨gl, 0, none⟩) j lc) j (ecells ys) rfl (HG3.out.q.own.alloc _) ⟨U11.heap.size, 0, none⟩ 1 1 (.string sc :: (tcells u b i f tx (.slice ab nb cb) rf (.slice al nl cl) (.slice af nf cf) c vr).toList) rfl rfl (block_cells (heap_alloc_new U11 _)) (ecell_one sc u b i f tx ab nb cb rf al nl cl af nf cf c vr) (by decide) (by unfold maxLen; omega) (by omega) (by simp; omega) ?_; intro g' cap' w4 hown' hgrow hor; have HAP := HG3.out.app hown' hgrow (by simpa [Value.ownBlock] using hor); have HAP : Hid _ := HAP; clear hown' hgrow hor)
              go_roundw
              case rel =>
                refine ⟨j + 1, a2, p2, q, er, g', ys ++ [(sc, (tcells u b i f tx (.slice ab nb cb) rf (.slice al nl cl) (.slice af nf cf) c vr))], l, some ⟨g', 0, none⟩, cap', rfl, by go_num, by omega, show _ ∧ _ from ⟨?_, HR.out.2.next (W := F2) (w1 := w3) HER.out.1 hjn (.inr ⟨a0, HSC.out.2.1, (by have := hcmp.out; omega), HSC.out.1, rfl, HTR.out⟩) ?_⟩⟩
                · have h1 := HAP.out.1
                  have e1 : ecells (ys ++ [(sc, (tcells u b i f tx (.slice ab nb cb) rf (.slice al nl cl) (.slice af nf cf) c vr))]) = ecells ys ++ (.string sc :: (tcells u b i f tx (.slice ab nb cb) rf (.slice al nl cl) (.slice af nf cf) c vr).toList) := by simp [ecells]
                  rw [e1]; exact h1
                · intro L l' t hp hsz ht
                  have hA := HAP.out.2.1
                  have hz := HAP.out.2.2
                  have hU := HEQ.out.1
                  have hsz2 := HEQ.out.2
                  have hs2 := HG3.out.two
                  have hs3 := HR.out.1.lt
                  have hs4 := HG3.out.sz
                  have hs5 := HSZ3.out
                  have p1 : ∀ k, Own (w.heap.size + 2) wr g k → w4.heap[k]? = wr.heap[k]? := fun k hk => by
                    have h1 := hk.1; have h2 := hk.2.1
                    rw [(hA k hk.1 (by omega) hk.2.2).1, HG3.out.far k hk.2.1 (by omega)]
                  have p2 : ∀ k, Own (w.heap.size + 2) wr g k → Own (w.heap.size + 2) w4 g' k := fun k hk => by
                    have h1 := hk.1; have h2 := hk.2.1
                    exact ⟨hk.1, by omega, (hA k hk.1 (by omega) hk.2.2).2⟩
                  have p3 : ∀ k, Fr F2 w3 k → w4.heap[k]? = w3.heap[k]? := fun k hk => by
                    have h1 := hk.1; have h2 := hk.2
                    rw [(hA k (by omega) (by omega) (by omega)).1, hU k (by omega) (by omega)]
                  have p4 : ∀ k, Fr F2 w3 k → Own (w.heap.size + 2) w4 g' k := fun k hk => by
                    have h1 := hk.1; have h2 := hk.2
                    exact ⟨by omega, by omega, (hA k (by omega) (by omega) (by omega)).2⟩
                  exact EPre.snoc _ _ _ t l' _ (EPre.same p1 p2 _ _ _ hp) hsz (t.In_same p3 p4 _ ht) rfl
              case measure => simp [intOf]; omega
        · have her0' : (er0 == 0) = false := by simp [her0]
          have HSC : Hid (er0 ≠ 0 ∧ Sp.rdN xs aj start = .bad q0 er0) := ⟨her0, hr⟩
          clear her0 hr
          have HF1 := HNX.out.call hb
          clear hb
          obtain ⟨A0, B0, C0, D0, E1, k1, k2, k3, k4, k5, ⟨c0, y0⟩, ⟨c1, y1⟩, ⟨c2, y2⟩, ⟨c3, y3⟩, ⟨c4, y4⟩, hE⟩ := chain5 HF1.q.bx.box (.slice a xs.length cap) (.int .i64 (a0 : Int)) (.int .i64 (pj : Int)) (.int .i64 (q0 : Int)) (.int .i64 er0)
          have HF2 := HF1.put (.slice a xs.length cap) (.int .i64 (a0 : Int)) (.int .i64 (pj : Int)) (.int .i64 (q0 : Int)) (.int .i64 er0)
          rw [← hE] at HF2
          obtain ⟨F1, o1, hF3⟩ : ∃ F1, E1.setCell ⟨wr.heap.size, 0, none⟩ (.string sc) = F1 ∧ FE w wr F1 (.slice a xs.length cap) (.int .i64 (a0 : Int)) (.int .i64 (pj : Int)) (.int .i64 (q0 : Int)) (.int .i64 er0) (.slice lv j lc) g j (ecells ys) #[.string sc, .int .i64 0, .bool false, .int .i64 0, .float .f64 0, .string ⟨#[]⟩, .slice none 0 0, .int .u64 0, .slice none 0 0, .slice none 0 0, .string ⟨#[]⟩, .int .i64 0] := ⟨_, rfl, HF2.name HNOT.out _⟩
          have oc1 : E1.cell? ⟨wr.heap.size, 0, none⟩ = some (.string ⟨#[]⟩) := by rw [cell_of_row _ _ 0 _ _ _ HF2.row]; rfl
          have of1 : E1.frozen? ⟨wr.heap.size, 0, none⟩ = false := frozen_of_row _ _ 0 _ _ HF2.row
          have HF3 : Hid _ := hF3
          clear hE HF1 HF2 hF3
          obtain ⟨⟨⟨e0, e1, e2, e3, e4⟩, _⟩, _⟩ := HF3.out.q.bx.get
          obtain ⟨n0, n1, n2, n3, n4, n5, n6, n7, n8, n9, n10, n11⟩ := own12 HF3.out.row
          have HTP : Hid (∀ W, Calls Try.prog 49 #[.agg #[.slice a xs.length cap, .int .i64 (a0 : Int), .int .i64 (pj : Int), .int .i64 (q0 : Int), .int .i64 er0], .int .i64 (deep + 1)] W fun e w' => e = .returned (.tuple #[.agg #[.slice a xs.length cap, .int .i64 (a0 : Int), .int .i64 (pj : Int), .int .i64 (q0 : Int), .int .i64 er0], .agg #[.int .i64 0, .bool false, .int .i64 0, .float .f64 0, .string ⟨#[]⟩, .slice none 0 0, .int .u64 0, .slice none 0 0, .slice none 0 0, .string ⟨#[]⟩, .int .i64 0]]) ∧ Below W.heap.size W w') := fun W => rgterm_pass a xs.length cap a0 pj q0 er0 HSC.out.1 (deep + 1) W
          go_wp2_with fail
          go_quiet (fail)
          go_wp2_with fail
          have HF4 := HF3.out.call (below_drewN' _ F1 nq)
          obtain ⟨F2, hF2⟩ : ∃ F2, F1.drewN nq = F2 := ⟨_, rfl⟩
          rw [hF2] at HF4 ⊢
          have HF4 : Hid _ := HF4
          clear hF2 o1 oc1 of1 e0 e1 e2 e3 e4 n0 n1 n2 n3 n4 n5 n6 n7 n8 n9 n10 n11 c0 c1 c2 c3 c4 y0 y1 y2 y3 y4 k1 k2 k3 k4 k5
          refine (HTP.out _).mono ?_
          rintro e w3 ⟨rfl, hb⟩
          have HG1 := HF4.out.call hb
          clear hb
          obtain ⟨A1, B1, C1, D1, E3, k1, k2, k3, k4, k5, ⟨c0, y0⟩, ⟨c1, y1⟩, ⟨c2, y2⟩, ⟨c3, y3⟩, ⟨c4, y4⟩, hE⟩ := chain5 HG1.q.bx.box (.slice a xs.length cap) (.int .i64 (a0 : Int)) (.int .i64 (pj : Int)) (.int .i64 (q0 : Int)) (.int .i64 er0)
          have HG2 := HG1.put (.slice a xs.length cap) (.int .i64 (a0 : Int)) (.int .i64 (pj : Int)) (.int .i64 (q0 : Int)) (.int .i64 er0)
          rw [← hE] at HG2
          obtain ⟨U1, U2, U3, U4, U5, U6, U7, U8, U9, U10, U11, m0, m1, m2, m3, m4, m5, m6, m7, m8, m9, m10, ⟨b0, g0⟩, ⟨b1, g1⟩, ⟨b2, g2⟩, ⟨b3, g3⟩, ⟨b4, g4⟩, ⟨b5, g5⟩, ⟨b6, g6⟩, ⟨b7, g7⟩, ⟨b8, g8⟩, ⟨b9, g9⟩, ⟨b10, g10⟩, hU⟩ := chain12 HG2.row (.int .i64 0) (.bool false) (.int .i64 0) (.float .f64 0) (.string ⟨#[]⟩) (.slice none 0 0) (.int .u64 0) (.slice none 0 0) (.slice none 0 0) (.string ⟨#[]⟩) (.int .i64 0)
          have HG3 := HG2.rest HNOT.out (.int .i64 0) (.bool false) (.int .i64 0) (.float .f64 0) (.string ⟨#[]⟩) (.slice none 0 0) (.int .u64 0) (.slice none 0 0) (.slice none 0 0) (.string ⟨#[]⟩) (.int .i64 0)
          rw [← hU] at HG3
          have HEQ : Hid ((∀ k, k ≠ w.heap.size → k ≠ wr.heap.size → U11.heap[k]? = w3.heap[k]?) ∧ U11.heap.size = w3.heap.size) := ⟨fun k h1 h2 => by rw [hU, setN_other h2, hE, setN_other h1], by rw [hU, setN_size, hE, setN_size]⟩
          obtain ⟨n0, n1, n2, n3, n4, n5, n6, n7, n8, n9, n10, n11⟩ := own12 HG3.row
          have hszU : w.heap.size + 2 ≤ U11.heap.size := by have := HG3.two; have := HG3.sz; omega
          have HG3 : Hid _ := HG3
          clear hE hU HG1 HG2
          go_wp2_with (at_builtin; refine wpList_app _ rfl _ _ 27 rfl (w.heap.size + 2) 83 i0 _ 12 168 Try.undEs hi hz0 hz1 hz2 rfl (by decide) (.slice lv j lc) j (ecells ys) rfl (HG3.out.q.own.alloc _) ⟨U11.heap.size, 0, none⟩ 1 1 (.string sc :: (tcells 0 false 0 0 ⟨#[]⟩ (.slice none 0 0) 0 (.slice none 0 0) (.slice none 0 0) ⟨#[]⟩ 0).toList) rfl rfl (block_cells (heap_alloc_new U11 _)) (ecell_one sc 0 false 0 0 ⟨#[]⟩ none 0 0 0 none 0 0 none 0 0 ⟨#[]⟩ 0) (by decide) (by unfold maxLen; omega) (by omega) (by simp; omega) ?_; intro g' cap' w4 hown' hgrow hor; have HAP := HG3.out.app hown' hgrow (by simpa [Value.ownBlock] using hor); have HAP : Hid _ := HAP; clear hown' hgrow hor)
          go_roundw
          case rel =>
            refine ⟨j + 1, a0, pj, q0, er0, g', ys ++ [(sc, (tcells 0 false 0 0 ⟨#[]⟩ (.slice none 0 0) 0 (.slice none 0 0) (.slice none 0 0) ⟨#[]⟩ 0))], [], some ⟨g', 0, none⟩, cap', rfl, by go_num, by omega, show _ ∧ _ from ⟨?_, HR.out.2.next (W := w4) (w1 := w4) HER.out.1 hjn (.inl ⟨HSC.out.1, .inl HSC.out.2⟩) ?_⟩⟩
            · have h1 := HAP.out.1
              have e1 : ecells (ys ++ [(sc, (tcells 0 false 0 0 ⟨#[]⟩ (.slice none 0 0) 0 (.slice none 0 0) (.slice none 0 0) ⟨#[]⟩ 0))]) = ecells ys ++ (.string sc :: (tcells 0 false 0 0 ⟨#[]⟩ (.slice none 0 0) 0 (.slice none 0 0) (.slice none 0 0) ⟨#[]⟩ 0).toList) := by simp [ecells]
              rw [e1]; exact h1
            · intro L l' t hp hsz ht
              have hA := HAP.out.2.1
              have hz := HAP.out.2.2
              have hU := HEQ.out.1
              have hsz2 := HEQ.out.2
              have hs2 := HG3.out.two
              have hs3 := HR.out.1.lt
              have hs4 := HG3.out.sz
              have hs5 := HG3.out.sz
              have p1 : ∀ k, Own (w.heap.size + 2) wr g k → w4.heap[k]? = wr.heap[k]? := fun k hk => by
                have h1 := hk.1; have h2 := hk.2.1
                rw [(hA k hk.1 (by omega) hk.2.2).1, HG3.out.far k hk.2.1 (by omega)]
              have p2 : ∀ k, Own (w.heap.size + 2) wr g k → Own (w.heap.size + 2) w4 g' k := fun k hk => by
                have h1 := hk.1; have h2 := hk.2.1
                exact ⟨hk.1, by omega, (hA k hk.1 (by omega) hk.2.2).2⟩
              have p3 : ∀ k, Fr w4 w4 k → w4.heap[k]? = w4.heap[k]? := fun k _ => rfl
              have p4 : ∀ k, Fr w4 w4 k → Own (w.heap.size + 2) w4 g' k := fun k hk => by
                have h1 := hk.1; have h2 := hk.2
                omega
              exact EPre.snoc _ _ _ t l' _ (EPre.same p1 p2 _ _ _ hp) hsz (t.In_same p3 p4 _ ht) rfl
          case measure => simp [intOf]; omega
      · have HER : Hid (erj ≠ 0) := her
        have her' : (erj == 0) = false := by simp [her]
        clear her
        obtain ⟨v0, v1, v2, v3, v4, hres⟩ := HR.out.1.bx.res
        obtain ⟨V1, V2, V3, V4, V5, l1, l2, l3, l4, l5, ⟨d0, x0⟩, ⟨d1, x1⟩, ⟨d2, x2⟩, ⟨d3, x3⟩, ⟨d4, x4⟩, hV5⟩ := chain5 hres (.slice a xs.length cap) (.int .i64 (aj : Int)) (.int .i64 (pj : Int)) (.int .i64 (qj : Int)) (.int .i64 erj)
        have HF := HR.out.1.bx.fin (.slice a xs.length cap) (.int .i64 (aj : Int)) (.int .i64 (pj : Int)) (.int .i64 (qj : Int)) (.int .i64 erj)
        rw [← hV5] at HF
        have HF : Hid _ := HF
        have HFI : Hid (FR xs start step n a1 p xs.length w V5 aj pj qj erj lv j) := by
          refine FI.fin HR.out.1 HR.out.2 (.inl HER.out) (fun k hk => ?_) ?_
          · have hk1 := hk.1
            rw [hV5, setN_other (by omega)]
          · rw [hV5, setN_size]; exact Nat.le_refl _
        clear hV5 hres
        go_wp2_with fail
        obtain ⟨⟨r0, r1, r2, r3, r4⟩, hbb⟩ := HF.out
        exact bodyPost_ret (v := .tuple #[.agg #[.slice a xs.length cap, .int .i64 (aj : Int), .int .i64 (pj : Int), .int .i64 (qj : Int), .int .i64 erj], .slice lv j lc]) (by simp [results, Try.results120, go_sem, r0, r1, r2, r3, r4] <;> rfl) rfl ⟨aj, pj, qj, erj, lv, j, lc, rfl, hbb, HFI.out⟩
    · have hjn' : decide ((j : Int) < (n : Int)) = false := decide_eq_false (by omega)
      have HJE : Hid (j = n) := by show _ = _; omega
      obtain ⟨v0, v1, v2, v3, v4, hres⟩ := HR.out.1.bx.res
      obtain ⟨V1, V2, V3, V4, V5, l1, l2, l3, l4, l5, ⟨d0, x0⟩, ⟨d1, x1⟩, ⟨d2, x2⟩, ⟨d3, x3⟩, ⟨d4, x4⟩, hV5⟩ := chain5 hres (.slice a xs.length cap) (.int .i64 (aj : Int)) (.int .i64 (pj : Int)) (.int .i64 (qj : Int)) (.int .i64 erj)
      have HF := HR.out.1.bx.fin (.slice a xs.length cap) (.int .i64 (aj : Int)) (.int .i64 (pj : Int)) (.int .i64 (qj : Int)) (.int .i64 erj)
      rw [← hV5] at HF
      have HF : Hid _ := HF
      have HFI : Hid (FR xs start step n a1 p xs.length w V5 aj pj qj erj lv j) := by
        refine FI.fin HR.out.1 HR.out.2 (.inr HJE.out) (fun k hk => ?_) ?_
        · have hk1 := hk.1
          rw [hV5, setN_other (by omega)]
        · rw [hV5, setN_size]; exact Nat.le_refl _
      clear hV5 hres
      go_wp2_with fail
      obtain ⟨⟨r0, r1, r2, r3, r4⟩, hbb⟩ := HF.out
      exact bodyPost_ret (v := .tuple #[.agg #[.slice a xs.length cap, .int .i64 (aj : Int), .int .i64 (pj : Int), .int .i64 (qj : Int), .int .i64 erj], .slice lv j lc]) (by simp [results, Try.results120, go_sem, r0, r1, r2, r3, r4] <;> rfl) rfl ⟨aj, pj, qj, erj, lv, j, lc, rfl, hbb, HFI.out⟩
end Go.Proofs.Ytmmiiapfefmcjaa


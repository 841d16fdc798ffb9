/- The document's reading of a value: its kind is read, its body is read by another. -/
import Derived.Test.YtmmiiapfefmcjaaA13
namespace Go.Proofs.Ytmmiiapfefmcjaa
open Go.RowKit

set_option maxRecDepth 100000 in
set_option maxHeartbeats 4000000 in
theorem rgterm_tag0 (xs : List Int) (a : Option Addr) (cap at' p : Nat) (k deep : Int) (w : World) (hx : xs[at']? = some k) (hrd : RdB w (Lo w.heap.size) a xs) (hln : xs.length ≤ 281474976710656) (hp : p < 16384) (hd : deep ≤ 64) (hk : k < 1) :
    Calls Try.prog 49 #[.agg (rdg a xs.length cap at' p 0 0), .int .i64 deep] w fun e w' => e = .returned (.tuple #[.agg (rdg a xs.length cap (at' + 1) (p + 1) at' 30), .agg zT]) ∧ Below w.heap.size w w' := by
  have hl : at' < xs.length := (List.getElem?_eq_some_iff.1 hx).1
  have he : ((at' : Int) == (xs.length : Int)) = false := by simp; omega
  have HOn : Hid (∀ W, Below w.heap.size w W → Calls Try.prog 92 #[.agg #[.slice a xs.length cap, .int .i64 (at' : Int), .int .i64 ((p : Int) + 1), .int .i64 0, .int .i64 0]] W fun e w' => e = .returned (.tuple #[.agg #[.slice a xs.length cap, .int .i64 ((at' : Int) + 1), .int .i64 ((p : Int) + 1), .int .i64 0, .int .i64 0], .int .u8 k]) ∧ Below W.heap.size W w') := fun W hW => rgone_ok xs a cap at' (p + 1) W k hx (hrd.same (Same.of_below hW (Nat.le_refl _)) (Lo.le hW.size)) hln
  have hp' : ¬ (16384 : Int) ≤ (p : Int) := by omega
  have hq : decide ((16384 : Int) ≤ (p : Int)) = false := decide_eq_false hp'
  have hd' : decide ((64 : Int) < deep) = false := decide_eq_false (by omega)
  have hw1 : wrap64 ((p : Int) + 1) = (p : Int) + 1 := by unfold wrap64; omega
  have hw2 : IntKind.i64.wrap ((p : Int) + 1) = (p : Int) + 1 := by rw [IntKind.wrap_i64]; omega
  have hk0 : decide (k < 1) = true := decide_eq_true hk
  have HBd : Hid (∀ W, Calls Try.prog 91 #[.agg #[.slice a xs.length cap, .int .i64 ((at' : Int) + 1), .int .i64 ((p : Int) + 1), .int .i64 0, .int .i64 0], .int .i64 (at' : Int), .int .i64 30] W fun e w' => e = .returned (.agg #[.slice a xs.length cap, .int .i64 ((at' : Int) + 1), .int .i64 ((p : Int) + 1), .int .i64 (at' : Int), .int .i64 30]) ∧ Below W.heap.size W w') := fun W => rgbad_ok ((at' : Int) + 1) ((p : Int) + 1) a xs.length cap W at' 30
  clear hx hrd hl hp hd hln
  have HN : Hid (∀ y0 y1 y2 y3 y4 z0 z1 z2 z3 z4 z5 z6 z7 z8 z9 z10, R3 w (((w.alloc (.cells #[.slice a xs.length cap, .int .i64 (at' : Int), .int .i64 ((p : Int) + 1), .int .i64 0, .int .i64 0] 94)).alloc (.cells #[y0, y1, y2, y3, y4] 94)).alloc (.cells #[z0, z1, z2, z3, z4, z5, z6, z7, z8, z9, z10] 29)) #[.slice a xs.length cap, .int .i64 (at' : Int), .int .i64 ((p : Int) + 1), .int .i64 0, .int .i64 0] #[y0, y1, y2, y3, y4] #[z0, z1, z2, z3, z4, z5, z6, z7, z8, z9, z10]) := fun _ _ _ _ _ _ _ _ _ _ _ _ _ _ _ _ => R3.new _ _ _ _
  unfold rdg zT tcells
  go_enter Try.func49, Try.ntmps49
  go_wp2_with fail
  refine (HOn.out _ (HN.out _ _ _ _ _ _ _ _ _ _ _ _ _ _ _ _).bel).mono ?_
  rintro e w0 ⟨rfl, hb⟩
  have HR := (HN.out _ _ _ _ _ _ _ _ _ _ _ _ _ _ _ _).call hb
  have HR : Hid _ := HR
  clear hb HN
  obtain ⟨A0, B0, C0, D0, E0, k1, k2, k3, k4, k5, ⟨c0, y0⟩, ⟨c1, y1⟩, ⟨c2, y2⟩, ⟨c3, y3⟩, ⟨c4, y4⟩, hE⟩ := chain5 HR.out.box (.slice a xs.length cap) (.int .i64 ((at' : Int) + 1)) (.int .i64 ((p : Int) + 1)) (.int .i64 0) (.int .i64 0)
  have HS := HR.out.put (.slice a xs.length cap) (.int .i64 ((at' : Int) + 1)) (.int .i64 ((p : Int) + 1)) (.int .i64 0) (.int .i64 0)
  rw [← hE] at HS
  have HS : Hid _ := HS
  clear hE
  obtain ⟨⟨e0, e1, e2, e3, e4⟩, _⟩ := own5 HS.out.box
  go_wp2_with fail
  refine (HBd.out _).mono ?_
  rintro e w1 ⟨rfl, hb⟩
  have HT := HS.out.call hb
  have HT : Hid _ := HT
  clear hb HS HR e0 e1 e2 e3 e4 c0 c1 c2 c3 c4 y0 y1 y2 y3 y4 k1 k2 k3 k4 k5
  obtain ⟨V1, V2, V3, V4, V5, l1, l2, l3, l4, l5, ⟨d0, x0⟩, ⟨d1, x1⟩, ⟨d2, x2⟩, ⟨d3, x3⟩, ⟨d4, x4⟩, hV⟩ := chain5 HT.out.res (.slice a xs.length cap) (.int .i64 ((at' : Int) + 1)) (.int .i64 ((p : Int) + 1)) (.int .i64 (at' : Int)) (.int .i64 30)
  have HV := HT.out.putR (.slice a xs.length cap) (.int .i64 ((at' : Int) + 1)) (.int .i64 ((p : Int) + 1)) (.int .i64 (at' : Int)) (.int .i64 30)
  rw [← hV] at HV
  have HV : Hid _ := HV
  clear hV
  obtain ⟨U1, U2, U3, U4, U5, U6, U7, U8, U9, U10, U11, m0, m1, m2, m3, m4, m5, m6, m7, m8, m9, m10, ⟨b0, g0⟩, ⟨b1, g1⟩, ⟨b2, g2⟩, ⟨b3, g3⟩, ⟨b4, g4⟩, ⟨b5, g5⟩, ⟨b6, g6⟩, ⟨b7, g7⟩, ⟨b8, g8⟩, ⟨b9, g9⟩, ⟨b10, g10⟩, hU⟩ := chain11 HV.out.ter (.int .i64 0) (.bool false) (.int .i64 0) (.float .f64 0) (.string ⟨#[]⟩) (.slice none 0 0) (.int .u64 0) (.slice none 0 0) (.slice none 0 0) (.string ⟨#[]⟩) (.int .i64 0)
  have HU := HV.out.putT (.int .i64 0) (.bool false) (.int .i64 0) (.float .f64 0) (.string ⟨#[]⟩) (.slice none 0 0) (.int .u64 0) (.slice none 0 0) (.slice none 0 0) (.string ⟨#[]⟩) (.int .i64 0)
  rw [← hU] at HU
  have HU : Hid _ := HU
  clear hU
  go_wp2_with fail
  obtain ⟨⟨r0, r1, r2, r3, r4⟩, _⟩ := own5 HU.out.res
  obtain ⟨s0, s1, s2, s3, s4, s5, s6, s7, s8, s9, s10⟩ := own11 HU.out.ter
  exact bodyPost_ret (v := .tuple #[.agg #[.slice a xs.length cap, .int .i64 ((at' : Int) + 1), .int .i64 ((p : Int) + 1), .int .i64 (at' : Int), .int .i64 30], .agg #[.int .i64 0, .bool false, .int .i64 0, .float .f64 0, .string ⟨#[]⟩, .slice none 0 0, .int .u64 0, .slice none 0 0, .slice none 0 0, .string ⟨#[]⟩, .int .i64 0]]) (by simp [results, Try.results49, go_sem, r0, r1, r2, r3, r4, s0, s1, s2, s3, s4, s5, s6, s7, s8, s9, s10] <;> rfl) rfl ⟨rfl, HU.out.bel⟩
set_option maxRecDepth 100000 in
set_option maxHeartbeats 4000000 in
theorem rgterm_tag1 (xs : List Int) (a : Option Addr) (cap at' p : Nat) (k deep : Int) (w : World) (hx : xs[at']? = some k) (hrd : RdB w (Lo w.heap.size) a xs) (hln : xs.length ≤ 281474976710656) (hp : p < 16384) (hd : deep ≤ 64) (hk : 10 < k) :
    Calls Try.prog 49 #[.agg (rdg a xs.length cap at' p 0 0), .int .i64 deep] w fun e w' => e = .returned (.tuple #[.agg (rdg a xs.length cap (at' + 1) (p + 1) at' 30), .agg zT]) ∧ Below w.heap.size w w' := by
  have hl : at' < xs.length := (List.getElem?_eq_some_iff.1 hx).1
  have he : ((at' : Int) == (xs.length : Int)) = false := by simp; omega
  have HOn : Hid (∀ W, Below w.heap.size w W → Calls Try.prog 92 #[.agg #[.slice a xs.length cap, .int .i64 (at' : Int), .int .i64 ((p : Int) + 1), .int .i64 0, .int .i64 0]] W fun e w' => e = .returned (.tuple #[.agg #[.slice a xs.length cap, .int .i64 ((at' : Int) + 1), .int .i64 ((p : Int) + 1), .int .i64 0, .int .i64 0], .int .u8 k]) ∧ Below W.heap.size W w') := fun W hW => rgone_ok xs a cap at' (p + 1) W k hx (hrd.same (Same.of_below hW (Nat.le_refl _)) (Lo.le hW.size)) hln
  have hp' : ¬ (16384 : Int) ≤ (p : Int) := by omega
  have hq : decide ((16384 : Int) ≤ (p : Int)) = false := decide_eq_false hp'
  have hd' : decide ((64 : Int) < deep) = false := decide_eq_false (by omega)
  have hw1 : wrap64 ((p : Int) + 1) = (p : Int) + 1 := by unfold wrap64; omega
  have hw2 : IntKind.i64.wrap ((p : Int) + 1) = (p : Int) + 1 := by rw [IntKind.wrap_i64]; omega
  have hk0 : decide (k < 1) = false := decide_eq_false (by omega)
  have hk1 : decide (10 < k) = true := decide_eq_true hk
  have HBd : Hid (∀ W, Calls Try.prog 91 #[.agg #[.slice a xs.length cap, .int .i64 ((at' : Int) + 1), .int .i64 ((p : Int) + 1), .int .i64 0, .int .i64 0], .int .i64 (at' : Int), .int .i64 30] W fun e w' => e = .returned (.agg #[.slice a xs.length cap, .int .i64 ((at' : Int) + 1), .int .i64 ((p : Int) + 1), .int .i64 (at' : Int), .int .i64 30]) ∧ Below W.heap.size W w') := fun W => rgbad_ok ((at' : Int) + 1) ((p : Int) + 1) a xs.length cap W at' 30
  clear hx hrd hl hp hd hln
  have HN : Hid (∀ y0 y1 y2 y3 y4 z0 z1 z2 z3 z4 z5 z6 z7 z8 z9 z10, R3 w (((w.alloc (.cells #[.slice a xs.length cap, .int .i64 (at' : Int), .int .i64 ((p : Int) + 1), .int .i64 0, .int .i64 0] 94)).alloc (.cells #[y0, y1, y2, y3, y4] 94)).alloc (.cells #[z0, z1, z2, z3, z4, z5, z6, z7, z8, z9, z10] 29)) #[.slice a xs.length cap, .int .i64 (at' : Int), .int .i64 ((p : Int) + 1), .int .i64 0, .int .i64 0] #[y0, y1, y2, y3, y4] #[z0, z1, z2, z3, z4, z5, z6, z7, z8, z9, z10]) := fun _ _ _ _ _ _ _ _ _ _ _ _ _ _ _ _ => R3.new _ _ _ _
  unfold rdg zT tcells
  go_enter Try.func49, Try.ntmps49
  go_wp2_with fail
  refine (HOn.out _ (HN.out _ _ _ _ _ _ _ _ _ _ _ _ _ _ _ _).bel).mono ?_
  rintro e w0 ⟨rfl, hb⟩
  have HR := (HN.out _ _ _ _ _ _ _ _ _ _ _ _ _ _ _ _).call hb
  have HR : Hid _ := HR
  clear hb HN
  obtain ⟨A0, B0, C0, D0, E0, k1, k2, k3, k4, k5, ⟨c0, y0⟩, ⟨c1, y1⟩, ⟨c2, y2⟩, ⟨c3, y3⟩, ⟨c4, y4⟩, hE⟩ := chain5 HR.out.box (.slice a xs.length cap) (.int .i64 ((at' : Int) + 1)) (.int .i64 ((p : Int) + 1)) (.int .i64 0) (.int .i64 0)
  have HS := HR.out.put (.slice a xs.length cap) (.int .i64 ((at' : Int) + 1)) (.int .i64 ((p : Int) + 1)) (.int .i64 0) (.int .i64 0)
  rw [← hE] at HS
  have HS : Hid _ := HS
  clear hE
  obtain ⟨⟨e0, e1, e2, e3, e4⟩, _⟩ := own5 HS.out.box
  go_wp2_with fail
  refine (HBd.out _).mono ?_
  rintro e w1 ⟨rfl, hb⟩
  have HT := HS.out.call hb
  have HT : Hid _ := HT
  clear hb HS HR e0 e1 e2 e3 e4 c0 c1 c2 c3 c4 y0 y1 y2 y3 y4 k1 k2 k3 k4 k5
  obtain ⟨V1, V2, V3, V4, V5, l1, l2, l3, l4, l5, ⟨d0, x0⟩, ⟨d1, x1⟩, ⟨d2, x2⟩, ⟨d3, x3⟩, ⟨d4, x4⟩, hV⟩ := chain5 HT.out.res (.slice a xs.length cap) (.int .i64 ((at' : Int) + 1)) (.int .i64 ((p : Int) + 1)) (.int .i64 (at' : Int)) (.int .i64 30)
  have HV := HT.out.putR (.slice a xs.length cap) (.int .i64 ((at' : Int) + 1)) (.int .i64 ((p : Int) + 1)) (.int .i64 (at' : Int)) (.int .i64 30)
  rw [← hV] at HV
  have HV : Hid _ := HV
  clear hV
  obtain ⟨U1, U2, U3, U4, U5, U6, U7, U8, U9, U10, U11, m0, m1, m2, m3, m4, m5, m6, m7, m8, m9, m10, ⟨b0, g0⟩, ⟨b1, g1⟩, ⟨b2, g2⟩, ⟨b3, g3⟩, ⟨b4, g4⟩, ⟨b5, g5⟩, ⟨b6, g6⟩, ⟨b7, g7⟩, ⟨b8, g8⟩, ⟨b9, g9⟩, ⟨b10, g10⟩, hU⟩ := chain11 HV.out.ter (.int .i64 0) (.bool false) (.int .i64 0) (.float .f64 0) (.string ⟨#[]⟩) (.slice none 0 0) (.int .u64 0) (.slice none 0 0) (.slice none 0 0) (.string ⟨#[]⟩) (.int .i64 0)
  have HU := HV.out.putT (.int .i64 0) (.bool false) (.int .i64 0) (.float .f64 0) (.string ⟨#[]⟩) (.slice none 0 0) (.int .u64 0) (.slice none 0 0) (.slice none 0 0) (.string ⟨#[]⟩) (.int .i64 0)
  rw [← hU] at HU
  have HU : Hid _ := HU
  clear hU
  go_wp2_with fail
  obtain ⟨⟨r0, r1, r2, r3, r4⟩, _⟩ := own5 HU.out.res
  obtain ⟨s0, s1, s2, s3, s4, s5, s6, s7, s8, s9, s10⟩ := own11 HU.out.ter
  exact bodyPost_ret (v := .tuple #[.agg #[.slice a xs.length cap, .int .i64 ((at' : Int) + 1), .int .i64 ((p : Int) + 1), .int .i64 (at' : Int), .int .i64 30], .agg #[.int .i64 0, .bool false, .int .i64 0, .float .f64 0, .string ⟨#[]⟩, .slice none 0 0, .int .u64 0, .slice none 0 0, .slice none 0 0, .string ⟨#[]⟩, .int .i64 0]]) (by simp [results, Try.results49, go_sem, r0, r1, r2, r3, r4, s0, s1, s2, s3, s4, s5, s6, s7, s8, s9, s10] <;> rfl) rfl ⟨rfl, HU.out.bel⟩
set_option maxRecDepth 100000 in
set_option maxHeartbeats 4000000 in
theorem rgterm_go (xs : List Int) (a : Option Addr) (cap at' p : Nat) (k deep : Int) (w : World) (hx : xs[at']? = some k) (hrd : RdB w (Lo w.heap.size) a xs) (hln : xs.length ≤ 281474976710656) (hp : p < 16384) (hd : deep ≤ 64) (hk : 1 ≤ k ∧ k ≤ 10) (R : World → World → Nat → Nat → Nat → Int → Array Value → Prop)
    (HB : Hid (∀ W, Below w.heap.size w W → Calls Try.prog 93 #[.agg #[.slice a xs.length cap, .int .i64 ((at' : Int) + 1), .int .i64 ((p : Int) + 1), .int .i64 0, .int .i64 0], .agg #[.int .i64 k, .bool false, .int .i64 0, .float .f64 0, .string ⟨#[]⟩, .slice none 0 0, .int .u64 0, .slice none 0 0, .slice none 0 0, .string ⟨#[]⟩, .int .i64 0], .int .i64 (at' : Int), .int .i64 deep] W fun e w' => ∃ (a2 p2 q : Nat) (er : Int) (u : Int) (b : Bool) (i : Int) (f : Nat) (tx : ByteArray) (ab : Option Addr) (nb cb : Nat) (rf : Int) (al : Option Addr) (nl cl : Nat) (af : Option Addr) (nf cf : Nat) (c : ByteArray) (vr : Int), e = .returned (.tuple #[.agg #[.slice a xs.length cap, .int .i64 (a2 : Int), .int .i64 (p2 : Int), .int .i64 (q : Int), .int .i64 er], .agg #[.int .i64 u, .bool b, .int .i64 i, .float .f64 f, .string tx, .slice ab nb cb, .int .u64 rf, .slice al nl cl, .slice af nf cf, .string c, .int .i64 vr]]) ∧ Below W.heap.size W w' ∧ R W w' a2 p2 q er #[.int .i64 u, .bool b, .int .i64 i, .float .f64 f, .string tx, .slice ab nb cb, .int .u64 rf, .slice al nl cl, .slice af nf cf, .string c, .int .i64 vr])) :
    Calls Try.prog 49 #[.agg (rdg a xs.length cap at' p 0 0), .int .i64 deep] w fun e w' => ∃ (a2 p2 q : Nat) (er : Int) (u : Int) (b : Bool) (i : Int) (f : Nat) (tx : ByteArray) (ab : Option Addr) (nb cb : Nat) (rf : Int) (al : Option Addr) (nl cl : Nat) (af : Option Addr) (nf cf : Nat) (c : ByteArray) (vr : Int), e = .returned (.tuple #[.agg #[.slice a xs.length cap, .int .i64 (a2 : Int), .int .i64 (p2 : Int), .int .i64 (q : Int), .int .i64 er], .agg #[.int .i64 u, .bool b, .int .i64 i, .float .f64 f, .string tx, .slice ab nb cb, .int .u64 rf, .slice al nl cl, .slice af nf cf, .string c, .int .i64 vr]]) ∧ Below w.heap.size w w' ∧ ∃ W W', Below w.heap.size w W ∧ Same (Fr W W') W' w' ∧ W'.heap.size ≤ w'.heap.size ∧ R W W' a2 p2 q er #[.int .i64 u, .bool b, .int .i64 i, .float .f64 f, .string tx, .slice ab nb cb, .int .u64 rf, .slice al nl cl, .slice af nf cf, .string c, .int .i64 vr] := by
  have hl : at' < xs.length := (List.getElem?_eq_some_iff.1 hx).1
  have he : ((at' : Int) == (xs.length : Int)) = false := by simp; omega
  have HOn : Hid (∀ W, Below w.heap.size w W → Calls Try.prog 92 #[.agg #[.slice a xs.length cap, .int .i64 (at' : Int), .int .i64 ((p : Int) + 1), .int .i64 0, .int .i64 0]] W fun e w' => e = .returned (.tuple #[.agg #[.slice a xs.length cap, .int .i64 ((at' : Int) + 1), .int .i64 ((p : Int) + 1), .int .i64 0, .int .i64 0], .int .u8 k]) ∧ Below W.heap.size W w') := fun W hW => rgone_ok xs a cap at' (p + 1) W k hx (hrd.same (Same.of_below hW (Nat.le_refl _)) (Lo.le hW.size)) hln
  have hp' : ¬ (16384 : Int) ≤ (p : Int) := by omega
  have hq : decide ((16384 : Int) ≤ (p : Int)) = false := decide_eq_false hp'
  have hd' : decide ((64 : Int) < deep) = false := decide_eq_false (by omega)
  have hw1 : wrap64 ((p : Int) + 1) = (p : Int) + 1 := by unfold wrap64; omega
  have hw2 : IntKind.i64.wrap ((p : Int) + 1) = (p : Int) + 1 := by rw [IntKind.wrap_i64]; omega
  have hk0 : decide (k < 1) = false := decide_eq_false (by omega)
  have hk1 : decide (10 < k) = false := decide_eq_false (by omega)
  have hkw : IntKind.i64.wrap k = k := by rw [IntKind.wrap_i64]; omega
  have hkv : wrap64 k = k := by unfold wrap64; omega
  clear hx hrd hl hp hd hln
  have HN : Hid (∀ y0 y1 y2 y3 y4 z0 z1 z2 z3 z4 z5 z6 z7 z8 z9 z10, R3 w (((w.alloc (.cells #[.slice a xs.length cap, .int .i64 (at' : Int), .int .i64 ((p : Int) + 1), .int .i64 0, .int .i64 0] 94)).alloc (.cells #[y0, y1, y2, y3, y4] 94)).alloc (.cells #[z0, z1, z2, z3, z4, z5, z6, z7, z8, z9, z10] 29)) #[.slice a xs.length cap, .int .i64 (at' : Int), .int .i64 ((p : Int) + 1), .int .i64 0, .int .i64 0] #[y0, y1, y2, y3, y4] #[z0, z1, z2, z3, z4, z5, z6, z7, z8, z9, z10]) := fun _ _ _ _ _ _ _ _ _ _ _ _ _ _ _ _ => R3.new _ _ _ _
  clear hk
  unfold rdg
  go_enter Try.func49, Try.ntmps49
  go_wp2_with fail
  refine (HOn.out _ (HN.out _ _ _ _ _ _ _ _ _ _ _ _ _ _ _ _).bel).mono ?_
  rintro e w0 ⟨rfl, hb⟩
  have HR := (HN.out _ _ _ _ _ _ _ _ _ _ _ _ _ _ _ _).call hb
  have HR : Hid _ := HR
  clear hb HN
  obtain ⟨A0, B0, C0, D0, E0, k1, k2, k3, k4, k5, ⟨c0, y0⟩, ⟨c1, y1⟩, ⟨c2, y2⟩, ⟨c3, y3⟩, ⟨c4, y4⟩, hE⟩ := chain5 HR.out.box (.slice a xs.length cap) (.int .i64 ((at' : Int) + 1)) (.int .i64 ((p : Int) + 1)) (.int .i64 0) (.int .i64 0)
  have HS := HR.out.put (.slice a xs.length cap) (.int .i64 ((at' : Int) + 1)) (.int .i64 ((p : Int) + 1)) (.int .i64 0) (.int .i64 0)
  rw [← hE] at HS
  have HS : Hid _ := HS
  clear hE
  obtain ⟨⟨e0, e1, e2, e3, e4⟩, _⟩ := own5 HS.out.box
  go_wp2_with fail
  refine (HB.out _ HS.out.bel).mono ?_
  rintro e w1 ⟨a2, p2, q, er, u, b, i, f, tx, ab, nb, cb, rf, al, nl, cl, af, nf, cf, c, vr, rfl, hb, hR⟩
  have HT := HS.out.call hb
  have HT : Hid _ := HT
  have hl1 := lt_row HS.out.ter
  have HRR : Hid (Below w.heap.size w E0 ∧ w.heap.size + 1 + 1 < E0.heap.size ∧ R E0 w1 a2 p2 q er #[.int .i64 u, .bool b, .int .i64 i, .float .f64 f, .string tx, .slice ab nb cb, .int .u64 rf, .slice al nl cl, .slice af nf cf, .string c, .int .i64 vr]) := ⟨HS.out.bel, hl1, hR⟩
  clear hb HS HR e0 e1 e2 e3 e4 c0 c1 c2 c3 c4 y0 y1 y2 y3 y4 k1 k2 k3 k4 k5 hR hl1
  obtain ⟨V1, V2, V3, V4, V5, l1, l2, l3, l4, l5, ⟨d0, x0⟩, ⟨d1, x1⟩, ⟨d2, x2⟩, ⟨d3, x3⟩, ⟨d4, x4⟩, hV⟩ := chain5 HT.out.res (.slice a xs.length cap) (.int .i64 (a2 : Int)) (.int .i64 (p2 : Int)) (.int .i64 (q : Int)) (.int .i64 er)
  have HV := HT.out.putR (.slice a xs.length cap) (.int .i64 (a2 : Int)) (.int .i64 (p2 : Int)) (.int .i64 (q : Int)) (.int .i64 er)
  rw [← hV] at HV
  have HV : Hid _ := HV
  have HV2 : Hid _ := hV
  clear hV
  obtain ⟨U1, U2, U3, U4, U5, U6, U7, U8, U9, U10, U11, m0, m1, m2, m3, m4, m5, m6, m7, m8, m9, m10, ⟨b0, g0⟩, ⟨b1, g1⟩, ⟨b2, g2⟩, ⟨b3, g3⟩, ⟨b4, g4⟩, ⟨b5, g5⟩, ⟨b6, g6⟩, ⟨b7, g7⟩, ⟨b8, g8⟩, ⟨b9, g9⟩, ⟨b10, g10⟩, hU⟩ := chain11 HV.out.ter (.int .i64 u) (.bool b) (.int .i64 i) (.float .f64 f) (.string tx) (.slice ab nb cb) (.int .u64 rf) (.slice al nl cl) (.slice af nf cf) (.string c) (.int .i64 vr)
  have HU := HV.out.putT (.int .i64 u) (.bool b) (.int .i64 i) (.float .f64 f) (.string tx) (.slice ab nb cb) (.int .u64 rf) (.slice al nl cl) (.slice af nf cf) (.string c) (.int .i64 vr)
  rw [← hU] at HU
  have HU : Hid _ := HU
  have HU2 : Hid _ := hU
  clear hU
  go_wp2_with fail
  obtain ⟨⟨r0, r1, r2, r3, r4⟩, _⟩ := own5 HU.out.res
  obtain ⟨s0, s1, s2, s3, s4, s5, s6, s7, s8, s9, s10⟩ := own11 HU.out.ter
  refine bodyPost_ret (v := .tuple #[.agg #[.slice a xs.length cap, .int .i64 (a2 : Int), .int .i64 (p2 : Int), .int .i64 (q : Int), .int .i64 er], .agg #[.int .i64 u, .bool b, .int .i64 i, .float .f64 f, .string tx, .slice ab nb cb, .int .u64 rf, .slice al nl cl, .slice af nf cf, .string c, .int .i64 vr]]) (by simp [results, Try.results49, go_sem, r0, r1, r2, r3, r4, s0, s1, s2, s3, s4, s5, s6, s7, s8, s9, s10] <;> rfl) rfl ⟨a2, p2, q, er, u, b, i, f, tx, ab, nb, cb, rf, al, nl, cl, af, nf, cf, c, vr, rfl, HU.out.bel, E0, w1, HRR.out.1, ?_, ?_, HRR.out.2.2⟩
  · intro g hg
    have hg1 := hg.1
    have hlt := HRR.out.2.1
    rw [HU2.out, setN_other (by omega), HV2.out, setN_other (by omega)]
  · rw [HU2.out, setN_size, HV2.out, setN_size]; exact Nat.le_refl _
end Go.Proofs.Ytmmiiapfefmcjaa

/- The document's reading of a value's body: its four boxes. -/
namespace Go.Proofs.Ytmmiiapfefmcjaa
open Go.RowKit

/-- the reading and the term that the body was handed, the reading and the term that it tells: each in a box of its own -/
structure R4 (w wr : World) (X T Y Z : Array Value) : Prop where
  bel : Below w.heap.size w wr
  box : wr.heap[w.heap.size]? = some (.cells X 94 (0, 0))
  tbx : wr.heap[w.heap.size + 1]? = some (.cells T 29 (0, 0))
  res : wr.heap[w.heap.size + 1 + 1]? = some (.cells Y 94 (0, 0))
  ter : wr.heap[w.heap.size + 1 + 1 + 1]? = some (.cells Z 29 (0, 0))
theorem R4.call {w wr w1 : World} {X T Y Z : Array Value} (h : R4 w wr X T Y Z) (hb : Below wr.heap.size wr w1) : R4 w w1 X T Y Z :=
  ⟨below_to h.bel hb, by rw [hb.block _ (lt_row h.box)]; exact h.box, by rw [hb.block _ (lt_row h.tbx)]; exact h.tbx, by rw [hb.block _ (lt_row h.res)]; exact h.res, by rw [hb.block _ (lt_row h.ter)]; exact h.ter⟩
theorem R4.put {w wr : World} {x0 x1 x2 x3 x4 : Value} {T Y Z : Array Value} (h : R4 w wr #[x0, x1, x2, x3, x4] T Y Z) (a b c d e : Value) : R4 w (setN wr w.heap.size 0 [a, b, c, d, e]) #[a, b, c, d, e] T Y Z :=
  ⟨setN_below (Nat.le_refl _) _ _ _ _ h.bel, row5 h.box _ _ _ _ _, by rw [setN_other (by omega)]; exact h.tbx, by rw [setN_other (by omega)]; exact h.res, by rw [setN_other (by omega)]; exact h.ter⟩
theorem R4.putR {w wr : World} {x0 x1 x2 x3 x4 : Value} {X T Z : Array Value} (h : R4 w wr X T #[x0, x1, x2, x3, x4] Z) (a b c d e : Value) : R4 w (setN wr (w.heap.size + 1 + 1) 0 [a, b, c, d, e]) X T #[a, b, c, d, e] Z :=
  ⟨setN_below (by omega) _ _ _ _ h.bel, by rw [setN_other (by omega)]; exact h.box, by rw [setN_other (by omega)]; exact h.tbx, row5 h.res _ _ _ _ _, by rw [setN_other (by omega)]; exact h.ter⟩
theorem R4.putT {w wr : World} {z0 z1 z2 z3 z4 z5 z6 z7 z8 z9 z10 : Value} {X T Y : Array Value} (h : R4 w wr X T Y #[z0, z1, z2, z3, z4, z5, z6, z7, z8, z9, z10]) (t0 t1 t2 t3 t4 t5 t6 t7 t8 t9 t10 : Value) : R4 w (setN wr (w.heap.size + 1 + 1 + 1) 0 [t0, t1, t2, t3, t4, t5, t6, t7, t8, t9, t10]) X T Y #[t0, t1, t2, t3, t4, t5, t6, t7, t8, t9, t10] :=
  ⟨setN_below (by omega) _ _ _ _ h.bel, by rw [setN_other (by omega)]; exact h.box, by rw [setN_other (by omega)]; exact h.tbx, by rw [setN_other (by omega)]; exact h.res, row11 h.ter _ _ _ _ _ _ _ _ _ _ _⟩
/-- a cell of the term is written -/
theorem R4.set {w wr : World} {X T Y Z : Array Value} (h : R4 w wr X T Y Z) (i : Nat) (v : Value) : R4 w (wr.setCell ⟨w.heap.size + 1, i, none⟩ v) X (T.setIfInBounds i v) Y Z :=
  ⟨h.bel.setCell (by simp) _, by rw [Below.heap_setCell _ _ _ _ (by simp <;> omega)]; exact h.box, heap_setCell_same _ _ _ _ _ _ h.tbx, by rw [Below.heap_setCell _ _ _ _ (by simp <;> omega)]; exact h.res, by rw [Below.heap_setCell _ _ _ _ (by simp <;> omega)]; exact h.ter⟩
theorem R4.new (w : World) (X T Y Z : Array Value) : R4 w ((((w.alloc (.cells X 94)).alloc (.cells T 29)).alloc (.cells Y 94)).alloc (.cells Z 29)) X T Y Z := by
  have h3 : Below w.heap.size w ((((w.alloc (.cells X 94)).alloc (.cells T 29)).alloc (.cells Y 94)).alloc (.cells Z 29)) := ((((Below.refl _ _).alloc (Nat.le_refl _) _).alloc (by simp) _).alloc (by simp <;> omega) _).alloc (by simp <;> omega) _
  obtain ⟨h1, h2, _⟩ := boxes (Below.refl _ ((w.alloc (.cells X 94)).alloc (.cells T 29)))
  have h4 := heap_alloc_new ((w.alloc (.cells X 94)).alloc (.cells T 29)) (.cells Y 94)
  refine ⟨h3, ?_, ?_, ?_, ?_⟩
  · rw [Below.heap_alloc _ _ _ (by simp <;> omega), Below.heap_alloc _ _ _ (lt_row h1)]; exact h1
  · rw [Below.heap_alloc _ _ _ (by simp <;> omega), Below.heap_alloc _ _ _ (lt_row h2)]; exact h2
  · rw [Below.heap_alloc _ _ _ (by simp)]; simpa using h4
  · have := heap_alloc_new (((w.alloc (.cells X 94)).alloc (.cells T 29)).alloc (.cells Y 94)) (.cells Z 29)
    simpa using this
theorem R4.drew {w wr : World} {X T Y Z : Array Value} (h : R4 w wr X T Y Z) : R4 w wr.drew X T Y Z := ⟨h.bel.drew, h.box, h.tbx, h.res, h.ter⟩
theorem R4.S {w W : World} {c0 c1 c2 c3 c4 t0 t1 t2 t3 t4 t5 t6 t7 t8 t9 t10 : Value} {Y Z : Array Value} (h : R4 w W #[c0, c1, c2, c3, c4] #[t0, t1, t2, t3, t4, t5, t6, t7, t8, t9, t10] Y Z) : (W.cell? ⟨w.heap.size, 0, none⟩ = some c0 ∧ W.cell? ⟨w.heap.size, 1, none⟩ = some c1 ∧ W.cell? ⟨w.heap.size, 2, none⟩ = some c2 ∧ W.cell? ⟨w.heap.size, 3, none⟩ = some c3 ∧ W.cell? ⟨w.heap.size, 4, none⟩ = some c4) ∧ (W.cell? ⟨w.heap.size + 1, 0, none⟩ = some t0 ∧ W.cell? ⟨w.heap.size + 1, 1, none⟩ = some t1 ∧ W.cell? ⟨w.heap.size + 1, 2, none⟩ = some t2 ∧ W.cell? ⟨w.heap.size + 1, 3, none⟩ = some t3 ∧ W.cell? ⟨w.heap.size + 1, 4, none⟩ = some t4 ∧ W.cell? ⟨w.heap.size + 1, 5, none⟩ = some t5 ∧ W.cell? ⟨w.heap.size + 1, 6, none⟩ = some t6 ∧ W.cell? ⟨w.heap.size + 1, 7, none⟩ = some t7 ∧ W.cell? ⟨w.heap.size + 1, 8, none⟩ = some t8 ∧ W.cell? ⟨w.heap.size + 1, 9, none⟩ = some t9 ∧ W.cell? ⟨w.heap.size + 1, 10, none⟩ = some t10) := ⟨(own5 h.box).1, own11 h.tbx⟩
set_option maxRecDepth 100000 in
set_option maxHeartbeats 4000000 in
theorem rgbody_nil (a : Option Addr) (n cap at' p : Nat) (s deep : Int) (w : World) :
    Calls Try.prog 93 #[.agg #[.slice a n cap, .int .i64 (at' : Int), .int .i64 (p : Int), .int .i64 0, .int .i64 0], .agg #[.int .i64 1, .bool false, .int .i64 0, .float .f64 0, .string ⟨#[]⟩, .slice none 0 0, .int .u64 0, .slice none 0 0, .slice none 0 0, .string ⟨#[]⟩, .int .i64 0], .int .i64 s, .int .i64 deep] w fun e w' => e = .returned (.tuple #[.agg #[.slice a n cap, .int .i64 (at' : Int), .int .i64 (p : Int), .int .i64 0, .int .i64 0], .agg #[.int .i64 1, .bool false, .int .i64 0, .float .f64 0, .string ⟨#[]⟩, .slice none 0 0, .int .u64 0, .slice none 0 0, .slice none 0 0, .string ⟨#[]⟩, .int .i64 0]]) ∧ Below w.heap.size w w' := by
  obtain ⟨W0, HE, HN⟩ : ∃ W0, Hid (((((w.alloc (.cells #[.slice a n cap, .int .i64 (at' : Int), .int .i64 (p : Int), .int .i64 0, .int .i64 0] 94)).alloc (.cells #[.int .i64 1, .bool false, .int .i64 0, .float .f64 0, .string ⟨#[]⟩, .slice none 0 0, .int .u64 0, .slice none 0 0, .slice none 0 0, .string ⟨#[]⟩, .int .i64 0] 29)).alloc (.cells #[.slice none 0 0, .int .i64 0, .int .i64 0, .int .i64 0, .int .i64 0] 94)).alloc (.cells #[.int .i64 0, .bool false, .int .i64 0, .float .f64 0, .string ⟨#[]⟩, .slice none 0 0, .int .u64 0, .slice none 0 0, .slice none 0 0, .string ⟨#[]⟩, .int .i64 0] 29)) = W0) ∧ Hid (R4 w W0 #[.slice a n cap, .int .i64 (at' : Int), .int .i64 (p : Int), .int .i64 0, .int .i64 0] #[.int .i64 1, .bool false, .int .i64 0, .float .f64 0, .string ⟨#[]⟩, .slice none 0 0, .int .u64 0, .slice none 0 0, .slice none 0 0, .string ⟨#[]⟩, .int .i64 0] #[.slice none 0 0, .int .i64 0, .int .i64 0, .int .i64 0, .int .i64 0] #[.int .i64 0, .bool false, .int .i64 0, .float .f64 0, .string ⟨#[]⟩, .slice none 0 0, .int .u64 0, .slice none 0 0, .slice none 0 0, .string ⟨#[]⟩, .int .i64 0]) := ⟨_, rfl, R4.new _ _ _ _ _⟩
  go_enter Try.func93, Try.ntmps93
  go_wp2_with fail
  rw [HE.out]
  have HD := HN.out.drew
  have HD : Hid _ := HD
  obtain ⟨V1, V2, V3, V4, V5, l1, l2, l3, l4, l5, ⟨d0, x0⟩, ⟨d1, x1⟩, ⟨d2, x2⟩, ⟨d3, x3⟩, ⟨d4, x4⟩, hV⟩ := chain5 HD.out.res (.slice a n cap) (.int .i64 (at' : Int)) (.int .i64 (p : Int)) (.int .i64 0) (.int .i64 0)
  have HV := HD.out.putR (.slice a n cap) (.int .i64 (at' : Int)) (.int .i64 (p : Int)) (.int .i64 0) (.int .i64 0)
  rw [← hV] at HV
  have HV : Hid _ := HV
  clear hV
  obtain ⟨U1, U2, U3, U4, U5, U6, U7, U8, U9, U10, U11, m0, m1, m2, m3, m4, m5, m6, m7, m8, m9, m10, ⟨b0, g0⟩, ⟨b1, g1⟩, ⟨b2, g2⟩, ⟨b3, g3⟩, ⟨b4, g4⟩, ⟨b5, g5⟩, ⟨b6, g6⟩, ⟨b7, g7⟩, ⟨b8, g8⟩, ⟨b9, g9⟩, ⟨b10, g10⟩, hU⟩ := chain11 HV.out.ter (.int .i64 1) (.bool false) (.int .i64 0) (.float .f64 0) (.string ⟨#[]⟩) (.slice none 0 0) (.int .u64 0) (.slice none 0 0) (.slice none 0 0) (.string ⟨#[]⟩) (.int .i64 0)
  have HU := HV.out.putT (.int .i64 1) (.bool false) (.int .i64 0) (.float .f64 0) (.string ⟨#[]⟩) (.slice none 0 0) (.int .u64 0) (.slice none 0 0) (.slice none 0 0) (.string ⟨#[]⟩) (.int .i64 0)
  rw [← hU] at HU
  have HU : Hid _ := HU
  clear hU
  have HS0 : Hid _ := HD.out.S
  have HS1 : Hid _ := HV.out.S
  have HS2 : Hid _ := HU.out.S
  go_region_held3 (fun W => (W.cell? ⟨w.heap.size, 0, none⟩ = some (.slice a n cap) ∧ W.cell? ⟨w.heap.size, 1, none⟩ = some (.int .i64 (at' : Int)) ∧ W.cell? ⟨w.heap.size, 2, none⟩ = some (.int .i64 (p : Int)) ∧ W.cell? ⟨w.heap.size, 3, none⟩ = some (.int .i64 0) ∧ W.cell? ⟨w.heap.size, 4, none⟩ = some (.int .i64 0)) ∧ (W.cell? ⟨w.heap.size + 1, 0, none⟩ = some (.int .i64 1) ∧ W.cell? ⟨w.heap.size + 1, 1, none⟩ = some (.bool false) ∧ W.cell? ⟨w.heap.size + 1, 2, none⟩ = some (.int .i64 0) ∧ W.cell? ⟨w.heap.size + 1, 3, none⟩ = some (.float .f64 0) ∧ W.cell? ⟨w.heap.size + 1, 4, none⟩ = some (.string ⟨#[]⟩) ∧ W.cell? ⟨w.heap.size + 1, 5, none⟩ = some (.slice none 0 0) ∧ W.cell? ⟨w.heap.size + 1, 6, none⟩ = some (.int .u64 0) ∧ W.cell? ⟨w.heap.size + 1, 7, none⟩ = some (.slice none 0 0) ∧ W.cell? ⟨w.heap.size + 1, 8, none⟩ = some (.slice none 0 0) ∧ W.cell? ⟨w.heap.size + 1, 9, none⟩ = some (.string ⟨#[]⟩) ∧ W.cell? ⟨w.heap.size + 1, 10, none⟩ = some (.int .i64 0)))
    (first | with_reducible exact HS0.out | with_reducible exact HS1.out | with_reducible exact HS2.out)
    (fail)
  go_wp2_with fail
  obtain ⟨⟨r0, r1, r2, r3, r4⟩, _⟩ := own5 HU.out.res
  obtain ⟨s0, s1, s2, s3, s4, s5, s6, s7, s8, s9, s10⟩ := own11 HU.out.ter
  exact bodyPost_ret (v := .tuple #[.agg #[.slice a n cap, .int .i64 (at' : Int), .int .i64 (p : Int), .int .i64 0, .int .i64 0], .agg #[.int .i64 1, .bool false, .int .i64 0, .float .f64 0, .string ⟨#[]⟩, .slice none 0 0, .int .u64 0, .slice none 0 0, .slice none 0 0, .string ⟨#[]⟩, .int .i64 0]]) (by simp [results, Try.results93, go_sem, r0, r1, r2, r3, r4, s0, s1, s2, s3, s4, s5, s6, s7, s8, s9, s10] <;> rfl) rfl ⟨rfl, HU.out.bel⟩
end Go.Proofs.Ytmmiiapfefmcjaa


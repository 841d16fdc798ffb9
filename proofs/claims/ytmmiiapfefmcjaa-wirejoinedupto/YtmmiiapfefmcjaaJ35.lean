/- tenonmake.Plain and Is at a value that can be. -/
import Derived.Test.YtmmiiapfefmcjaaJ33
import Derived.Test.YtmmiiapfefmcjaaJ34
import Derived.Test.YtmmiiapfefmcjaaJ8
namespace Go.Proofs.Ytmmiiapfefmcjaa
open Go.RowKit

set_option maxRecDepth 100000 in
set_option maxHeartbeats 1000000 in
theorem mPlain_any (t : Tm) (v : Value) (w : World) (S : Nat → Prop) (h : t.V w S v) (hS : Sub S w) (he : t.all.e = 0) (hb : t.Bdd) :
    Calls Try.prog 40 #[v] w fun e w' => ∃ k b i f tx ab nb cb rf al nl cl af nf cf c vr, e = .returned (.agg (tcells k b i f tx (.slice ab nb cb) rf (.slice al nl cl) (.slice af nf cf) c vr)) ∧ Below w.heap.size w w' ∧ t.clean.In w' (Fr w w') (tcells k b i f tx (.slice ab nb cb) rf (.slice al nl cl) (.slice af nf cf) c vr) := by
  have HT := (plain_any t.sz).at (deep := 0) (n := 1) (Nat.le_refl _) h hS ⟨0, 0, he⟩ hb (by decide) (by decide)
  have HT : Hid _ := HT
  unfold tcells at HT
  clear h he hb
  unfold tcells
  go_enter Try.func40, Try.ntmps40
  go_wp2_with fail
  refine (HT.out _ ((Below.refl _ _).alloc (Nat.le_refl _) _)).mono ?_
  rintro e w1 ⟨k1, b1, i1, f1, tx1, ab1, nb1, cb1, rf1, al1, nl1, cl1, af1, nf1, cf1, cc1, vr1, rfl, hb1, hv1⟩
  obtain ⟨hR, hbw, hsz⟩ := box_at1 hb1
  obtain ⟨r0, r1, r2, r3, r4, r5, r6, r7, r8, r9, r10⟩ := tbox hR
  have hf := box_writes hR
  have z0 := hf 0; have z1 := hf 1; have z2 := hf 2; have z3 := hf 3; have z4 := hf 4; have z5 := hf 5; have z6 := hf 6; have z7 := hf 7; have z8 := hf 8; have z9 := hf 9; have z10 := hf 10
  have HE : Hid (Below w.heap.size w (setN w1 w.heap.size 0 [.int .i64 k1, .bool b1, .int .i64 i1, .float .f64 f1, .string tx1, .slice ab1 nb1 cb1, .int .u64 rf1, .slice al1 nl1 cl1, .slice af1 nf1 cf1, .string cc1, .int .i64 vr1]) ∧ t.clean.In (setN w1 w.heap.size 0 [.int .i64 k1, .bool b1, .int .i64 i1, .float .f64 f1, .string tx1, .slice ab1 nb1 cb1, .int .u64 rf1, .slice al1 nl1 cl1, .slice af1 nf1 cf1, .string cc1, .int .i64 vr1]) (Fr w (setN w1 w.heap.size 0 [.int .i64 k1, .bool b1, .int .i64 i1, .float .f64 f1, .string tx1, .slice ab1 nb1 cb1, .int .u64 rf1, .slice al1 nl1 cl1, .slice af1 nf1 cf1, .string cc1, .int .i64 vr1])) #[.int .i64 k1, .bool b1, .int .i64 i1, .float .f64 f1, .string tx1, .slice ab1 nb1 cb1, .int .u64 rf1, .slice al1 nl1 cl1, .slice af1 nf1 cf1, .string cc1, .int .i64 vr1]) := by
    refine ⟨setN_below (Nat.le_refl _) _ _ _ _ hbw, t.clean.In_same (fun k hk => setN_other (by have := hk.1; simp at this; omega) _ _ _) (fun k hk => ⟨by have := hk.1; simp at this; omega, by rw [setN_size]; exact hk.2⟩) _ hv1⟩
  clear hb1 hv1 hR hbw hf
  go_wp2_with fail
  refine bodyPost_ret (v := .agg #[.int .i64 k1, .bool b1, .int .i64 i1, .float .f64 f1, .string tx1, .slice ab1 nb1 cb1, .int .u64 rf1, .slice al1 nl1 cl1, .slice af1 nf1 cf1, .string cc1, .int .i64 vr1]) (by simp [results, Try.results40, go_sem, r0, r1, r2, r3, r4, r5, r6, r7, r8, r9, r10]) rfl ⟨k1, b1, i1, f1, tx1, ab1, nb1, cb1, rf1, al1, nl1, cl1, af1, nf1, cf1, cc1, vr1, rfl, HE.out.1, HE.out.2⟩

set_option maxRecDepth 100000 in
set_option maxHeartbeats 1000000 in
theorem Is_any (t : Tm) (v : Value) (ct : Array Value) (w : World) (S : Nat → Prop) (h : t.V w S v) (hi : t.In w S ct) (hS : Sub S w) (he : t.all.e = 0) :
    Calls Try.prog 14 #[v, .agg ct] w fun e w' => e = .returned (.bool true) ∧ Below w.heap.size w w' := by
  have hb := Tm.In_bdd t ct hi
  have HP : Hid (∀ W, Below w.heap.size w W → Calls Try.prog 40 #[v] W fun e w' => ∃ k b i f tx ab nb cb rf al nl cl af nf cf c vr, e = .returned (.agg (tcells k b i f tx (.slice ab nb cb) rf (.slice al nl cl) (.slice af nf cf) c vr)) ∧ Below W.heap.size W w' ∧ t.clean.In w' (Fr W w') (tcells k b i f tx (.slice ab nb cb) rf (.slice al nl cl) (.slice af nf cf) c vr)) := fun W hW =>
    mPlain_any t v W S (t.V_same (hS.same hW) (fun _ h => h) v h) (hS.later hW) he hb
  have HM : Hid (∀ W W' cs, Below w.heap.size w W → Below W.heap.size W W' → t.clean.In W' (Fr W W') cs → Calls Try.prog 22 #[.agg cs, .agg ct] W' fun e w' => e = .returned (.bool true) ∧ Below W'.heap.size W' w') := fun W W' cs hW hW' hc => by
    have hz := hW'.size
    exact msame_any t.clean.sz t.clean t (Nat.le_refl _) (Tm.clean_eqv t (Tm.ok_all he)) cs ct (Lo W'.heap.size) W' (t.clean.In_same (Same.refl _ _) (fun k hk => hk.2) cs hc) (t.In_same (hS.same (below_to hW hW')) (fun k hk => Nat.lt_of_lt_of_le (hS k hk) (Nat.le_trans hW.size hz)) ct hi) (Sub.lo (Nat.le_refl _))
  obtain ⟨b2, i2, f2, tx2, vb2, rf2, vl2, vf2, c2, vr2, rfl⟩ := Tm.In_box hi
  clear h hi he hb
  unfold tcells at HP HM ⊢
  go_enter Try.func14, Try.ntmps14
  have HX : Hid (∀ W, Below (w.alloc (.cells #[.int .i64 t.kind, .bool b2, .int .i64 i2, .float .f64 f2, .string tx2, vb2, .int .u64 rf2, vl2, vf2, .string c2, .int .i64 vr2] 29)).heap.size (w.alloc (.cells #[.int .i64 t.kind, .bool b2, .int .i64 i2, .float .f64 f2, .string tx2, vb2, .int .u64 rf2, vl2, vf2, .string c2, .int .i64 vr2] 29)) W → (W.cell? ⟨w.heap.size, 0, none⟩ = some (.int .i64 t.kind) ∧ W.cell? ⟨w.heap.size, 1, none⟩ = some (.bool b2) ∧ W.cell? ⟨w.heap.size, 2, none⟩ = some (.int .i64 i2) ∧ W.cell? ⟨w.heap.size, 3, none⟩ = some (.float .f64 f2) ∧ W.cell? ⟨w.heap.size, 4, none⟩ = some (.string tx2) ∧ W.cell? ⟨w.heap.size, 5, none⟩ = some (vb2) ∧ W.cell? ⟨w.heap.size, 6, none⟩ = some (.int .u64 rf2) ∧ W.cell? ⟨w.heap.size, 7, none⟩ = some (vl2) ∧ W.cell? ⟨w.heap.size, 8, none⟩ = some (vf2) ∧ W.cell? ⟨w.heap.size, 9, none⟩ = some (.string c2) ∧ W.cell? ⟨w.heap.size, 10, none⟩ = some (.int .i64 vr2)) ∧ Below w.heap.size w W) := fun W hW => ⟨tbox (box_at1 hW).1, (box_at1 hW).2.1⟩
  go_wp2_with fail
  go_region_held3 (fun W => W.cell? ⟨w.heap.size, 0, none⟩ = some (.int .i64 t.kind) ∧ W.cell? ⟨w.heap.size, 1, none⟩ = some (.bool b2) ∧ W.cell? ⟨w.heap.size, 2, none⟩ = some (.int .i64 i2) ∧ W.cell? ⟨w.heap.size, 3, none⟩ = some (.float .f64 f2) ∧ W.cell? ⟨w.heap.size, 4, none⟩ = some (.string tx2) ∧ W.cell? ⟨w.heap.size, 5, none⟩ = some (vb2) ∧ W.cell? ⟨w.heap.size, 6, none⟩ = some (.int .u64 rf2) ∧ W.cell? ⟨w.heap.size, 7, none⟩ = some (vl2) ∧ W.cell? ⟨w.heap.size, 8, none⟩ = some (vf2) ∧ W.cell? ⟨w.heap.size, 9, none⟩ = some (.string c2) ∧ W.cell? ⟨w.heap.size, 10, none⟩ = some (.int .i64 vr2))
    (first | with_reducible exact (HX.out w2 HB2.out).1 | with_reducible exact (HX.out w1 HB1.out).1 | exact (HX.out _ (Below.refl _ _)).1 | exact (HX.out _ (Below.refl _ _).drew).1)
    ((first
      | (go_at_call 40; refine (HP.out _ ?_).mono ?_; exact (HX.out _ (Below.refl _ _).drew).2; rintro e w1 ⟨k1, b1, i1, f1, tx1, ab1, nb1, cb1, rf1, al1, nl1, cl1, af1, nf1, cf1, cc1, vr1, rfl, hb1, hv1⟩; have HB1 : Hid (Below (w.alloc (.cells #[.int .i64 t.kind, .bool b2, .int .i64 i2, .float .f64 f2, .string tx2, vb2, .int .u64 rf2, vl2, vf2, .string c2, .int .i64 vr2] 29)).heap.size (w.alloc (.cells #[.int .i64 t.kind, .bool b2, .int .i64 i2, .float .f64 f2, .string tx2, vb2, .int .u64 rf2, vl2, vf2, .string c2, .int .i64 vr2] 29)) w1) := below_to (Below.refl _ _).drew hb1; have HBd : Hid _ := hb1; have HV1 : Hid _ := hv1; clear hb1 hv1)
      | (go_at_call 22; refine (HM.out _ w1 _ (HX.out _ (Below.refl _ _).drew).2 HBd.out HV1.out).mono ?_; rintro e w2 ⟨rfl, hb2⟩; have HB2 : Hid (Below (w.alloc (.cells #[.int .i64 t.kind, .bool b2, .int .i64 i2, .float .f64 f2, .string tx2, vb2, .int .u64 rf2, vl2, vf2, .string c2, .int .i64 vr2] 29)).heap.size (w.alloc (.cells #[.int .i64 t.kind, .bool b2, .int .i64 i2, .float .f64 f2, .string tx2, vb2, .int .u64 rf2, vl2, vf2, .string c2, .int .i64 vr2] 29)) w2) := below_to HB1.out hb2; clear hb2)))
  go_wp2_with fail
  go_ret
  exact ⟨rfl, (HX.out w2 HB2.out).2⟩
end Go.Proofs.Ytmmiiapfefmcjaa

/- The reader where something is wrong: it gives up with the place and the reason. -/
namespace Go.Proofs.Ytmmiiapfefmcjaa
open Go.RowKit

/-- a reader gave up: at that place, for that reason -/
abbrev Flt (q : Nat) (e : Int) : Ending := .panicked [{ v := .iface 135 (.agg #[.int .i64 (q : Int), .int .i64 e]), recovered := false }]

set_option maxRecDepth 100000 in
set_option maxHeartbeats 1000000 in
theorem endRule_bad (n : Nat) (b : Nat) (a : Option Addr) (xs : List Int) (cap at' p : Nat) (w : World) (h : Rdr w b a xs cap at' p) (hn : ¬ at' + n ≤ xs.length) :
    Calls Try.prog 126 #[.pointer (some ⟨b, 0, none⟩), .int .i64 (n : Int)] w fun e w' => e = Flt xs.length 4 ∧ Below w.heap.size w w' := by
  obtain ⟨c0, c1, c2, f1, f2, _, _, ln, le, _⟩ := h
  have hlt : (xs.length : Int) - (at' : Int) < (n : Int) := by omega
  go_enter Try.func126, Try.ntmps126
  go_wp2_with fail
  go_quiet (fail)
  go_wp2_with fail
  exact ⟨rfl, rfl, below_drewN' _ _ _⟩

set_option maxRecDepth 100000 in
set_option maxHeartbeats 1000000 in
theorem take_bad (n : Nat) (b : Nat) (a : Option Addr) (xs : List Int) (cap at' p : Nat) (w : World) (h : Rdr w b a xs cap at' p) (hn : ¬ at' + n ≤ xs.length) :
    Calls Try.prog 112 #[.pointer (some ⟨b, 0, none⟩), .int .i64 (n : Int)] w fun e w' => e = Flt xs.length 4 ∧ But b w w' := by
  have HE : Hid (Calls Try.prog 126 #[.pointer (some ⟨b, 0, none⟩), .int .i64 (n : Int)] w fun e w' => e = Flt xs.length 4 ∧ Below w.heap.size w w') := endRule_bad n b a xs cap at' p w h hn
  have hlt := h.lt
  clear h
  go_enter Try.func112, Try.ntmps112
  go_wp2_with fail
  refine HE.out.mono ?_
  rintro e w1 ⟨rfl, hb1⟩
  exact ⟨rfl, rfl, But.of hlt hb1⟩

set_option maxRecDepth 100000 in
set_option maxHeartbeats 1000000 in
theorem rbyte_bad (b : Nat) (a : Option Addr) (xs : List Int) (cap at' p : Nat) (w : World) (h : Rdr w b a xs cap at' p) (hx : xs[at']? = none) :
    Calls Try.prog 84 #[.pointer (some ⟨b, 0, none⟩)] w fun e w' => e = Flt xs.length 4 ∧ But b w w' := by
  have hl := List.getElem?_eq_none_iff.1 hx
  have HT : Hid (Calls Try.prog 112 #[.pointer (some ⟨b, 0, none⟩), .int .i64 1] w fun e w' => e = Flt xs.length 4 ∧ But b w w') := take_bad 1 b a xs cap at' p w h (by omega)
  clear h hx
  go_enter Try.func84, Try.ntmps84
  go_wp2_with fail
  refine HT.out.mono ?_
  rintro e w1 ⟨rfl, hb1⟩
  exact ⟨rfl, rfl, hb1⟩

set_option maxRecDepth 100000 in
set_option maxHeartbeats 4000000 in
theorem rnumber_bad (q : Nat) (er : Int) (b : Nat) (a : Option Addr) (xs : List Int) (cap at' p : Nat) (w : World) (h : Rdr w b a xs cap at' p) (hby : By xs) (hr : Sp.rn xs at' 10 0 0 = .bad q er) :
    Calls Try.prog 86 #[.pointer (some ⟨b, 0, none⟩)] w fun e w' => e = Flt q er ∧ But b w w' := by
  have HBY : Hid (By xs) := hby
  have H0 : Hid (Sp.rn xs at' 10 0 0 = .bad q er ∧ Rdr w b a xs cap (at' + 0) p ∧ But b w w) := ⟨hr, h, But.refl h.lt⟩
  obtain ⟨c0, c1, c2, f1, f2, rd, cp, ln, le, np⟩ := h
  clear hby hr rd
  go_enter Try.func86, Try.ntmps86
  go_wp2_with fail
  go_loopw [4, 11] (fun u x wr => ∃ (k i n : Nat), u = .int .u64 (n : Int) ∧ x = .int .i64 (i : Int) ∧ i + k = 10 ∧ Hid (n < 128 ^ i ∧ Sp.rn xs at' k i n = .bad q er ∧ Rdr wr b a xs cap (at' + i) p ∧ But b w wr)) (fun _ x _ => 10 - (intOf x).toNat)
  case atStart => exact ⟨10, 0, 0, rfl, rfl, rfl, by decide, H0.out⟩
  case round =>
    obtain ⟨k, i, n, rfl, rfl, hik, HR⟩ := hrel
    clear H0 c0 c1 c2 f1 f2
    cases k with
    | zero =>
      have hi10 : ¬ ((i : Int) < 10) := by omega
      obtain ⟨hn, hrn, hrd, hbl⟩ := HR.out
      rw [Sp.rn] at hrn
      injection hrn with e1 e2
      subst e1
      subst e2
      have HF : Hid (But b w wr) := hbl
      clear hn hrd hbl HR
      go_wp2_with fail
      exact ⟨rfl, rfl, HF.out⟩
    | succ k =>
      have hi10 : (i : Int) < 10 := by omega
      obtain ⟨hn, hrn, hrd, hbl⟩ := HR.out
      cases hx : xs[at' + i]? with
      | none =>
        rw [Sp.rn, hx] at hrn
        injection hrn with e1 e2
        subst e1
        subst e2
        have HBT : Hid (Calls Try.prog 84 #[.pointer (some ⟨b, 0, none⟩)] wr fun e w' => e = Flt xs.length 4 ∧ But b wr w') := rbyte_bad b a xs cap (at' + i) p wr hrd hx
        have HBL : Hid (But b w wr) := hbl
        clear hn hrd hbl HR hx
        go_wp2_with fail
        refine HBT.out.mono ?_
        rintro e w1 ⟨rfl, hb1⟩
        exact ⟨rfl, rfl, HBL.out.trans hb1⟩
      | some c =>
        have hcb := HBY.out.get hx
        rw [Sp.rn, hx] at hrn
        simp only at hrn
        have HBT : Hid (Calls Try.prog 84 #[.pointer (some ⟨b, 0, none⟩)] wr fun e w' => e = .returned (.int .u8 c) ∧ Rdr w' b a xs cap (at' + i + 1) p ∧ But b wr w') := rbyte_ok c b a xs cap (at' + i) p wr hrd hx
        have HBL : Hid (But b w wr) := hbl
        by_cases hbad : (i = 9 ∧ 1 < c) ∨ (0 < i ∧ c = 0)
        · rw [if_pos hbad] at hrn
          injection hrn with e1 e2
          subst e1
          subst e2
          clear hn hrd hbl HR hx
          rcases hbad with ⟨hi9, hc1⟩ | ⟨hi0, hc0⟩
          · have b9 : ((i : Int) == 9) = true := by simp; omega
            clear hi9
            go_wp2_with (go_at_call 84; refine HBT.out.mono ?_; rintro e w1 ⟨rfl, hr1, hb1⟩; have HR1 : Hid (But b wr w1) := hb1; clear hr1 hb1)
            exact ⟨rfl, rfl, HBL.out.trans HR1.out⟩
          · have b0 : (0 : Int) < (i : Int) := by omega
            subst hc0
            by_cases hi9 : i = 9
            · have b9 : ((i : Int) == 9) = true := by simp; omega
              clear hi9
              go_wp2_with (go_at_call 84; refine HBT.out.mono ?_; rintro e w1 ⟨rfl, hr1, hb1⟩; have HR1 : Hid (But b wr w1) := hb1; clear hr1 hb1)
              exact ⟨rfl, rfl, HBL.out.trans HR1.out⟩
            · have b9 : ((i : Int) == 9) = false := by simp; omega
              clear hi9
              go_wp2_with (go_at_call 84; refine HBT.out.mono ?_; rintro e w1 ⟨rfl, hr1, hb1⟩; have HR1 : Hid (But b wr w1) := hb1; clear hr1 hb1)
              exact ⟨rfl, rfl, HBL.out.trans HR1.out⟩
        · rw [if_neg hbad] at hrn
          have hc : ¬ c < 128 := by
            intro hc; rw [if_pos hc] at hrn; simp at hrn
          have hi9 : i < 9 := by omega
          have hm : c.toNat % 128 * 128 ^ i < 18446744073709551616 := by
            have h8 : 128 ^ i ≤ 128 ^ 8 := Nat.pow_le_pow_right (by decide) (by omega)
            have h2 : c.toNat % 128 * 128 ^ i ≤ 127 * 128 ^ 8 := Nat.mul_le_mul (by omega) h8
            omega
          have han := andNot_128 c hcb.1 hcb.2
          have hor := or_join n (c.toNat % 128) i (by omega) hn hm
          have HHN : Hid (n < 128 ^ i) := hn
          clear hn hrd hbl HR hx
          have HOR : Hid (bits BinOp.or IntKind.u64 (n : Int) (IntKind.u64.wrap (c % 128 * 2 ^ (7 * i))) = ((n + c.toNat % 128 * 128 ^ i : Nat) : Int)) := by
            show _ = _
            have e1 : (c % 128 * 2 ^ (7 * i) : Int) = ((c.toNat % 128 * 128 ^ i : Nat) : Int) := by
              have e2 : (128 : Nat) ^ i = 2 ^ (7 * i) := by rw [Nat.pow_mul]
              rw [e2]
              push_cast
              rw [Int.toNat_of_nonneg hcb.1]
            rw [e1, IntKind.wrap_u64, Int.emod_eq_of_lt (by omega) (by omega)]
            exact hor
          have HNX : Hid (n + c.toNat % 128 * 128 ^ i < 128 ^ (i + 1)) := by
            show _ < _
            have h2 : c.toNat % 128 * 128 ^ i ≤ 127 * 128 ^ i := Nat.mul_le_mul_right _ (by omega)
            have h3 := HHN.out
            rw [Nat.pow_succ]; omega
          clear hor hm
          have b9 : ((i : Int) == 9) = false := by simp; omega
          have HRN : Hid (Sp.rn xs at' k (i + 1) (n + c.toNat % 128 * 128 ^ i) = .bad q er) := by
            show _ = _; rw [if_neg hc] at hrn; rw [show c.toNat % 128 = c.toNat - 128 by omega]; exact hrn
          clear hrn
          by_cases hi0 : 0 < i
          · have b0 : (0 : Int) < (i : Int) := by omega
            have bc : (c == 0) = false := by simp; omega
            go_wp2_with (go_at_call 84; refine HBT.out.mono ?_; rintro e w1 ⟨rfl, hr1, hb1⟩; have HR1 : Hid (Rdr w1 b a xs cap (at' + i + 1) p ∧ But b wr w1) := ⟨hr1, hb1⟩; clear hr1 hb1)
            go_roundw
            case rel => exact ⟨k, i + 1, n + c.toNat % 128 * 128 ^ i, by rw [HOR.out], by go_num, by omega, HNX.out, HRN.out, HR1.out.1, HBL.out.trans HR1.out.2⟩
            case measure => simp [intOf]; omega
          · have b0 : ¬ ((0 : Int) < (i : Int)) := by omega
            clear hi0
            go_wp2_with (go_at_call 84; refine HBT.out.mono ?_; rintro e w1 ⟨rfl, hr1, hb1⟩; have HR1 : Hid (Rdr w1 b a xs cap (at' + i + 1) p ∧ But b wr w1) := ⟨hr1, hb1⟩; clear hr1 hb1)
            go_roundw
            case rel => exact ⟨k, i + 1, n + c.toNat % 128 * 128 ^ i, by rw [HOR.out], by go_num, by omega, HNX.out, HRN.out, HR1.out.1, HBL.out.trans HR1.out.2⟩
            case measure => simp [intOf]; omega
end Go.Proofs.Ytmmiiapfefmcjaa


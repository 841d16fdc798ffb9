/- tenonlaw01.ValueTerms answers true at every term that lies in memory. -/
import Derived.Test.YtdklpdclbedceaaTermsM
namespace Go.Proofs.Ytdklpdclbedceaa
open Go.RowKit

set_option maxRecDepth 100000 in
set_option maxHeartbeats 8000000 in
theorem ValueTerms_any (t : Tm) (cs : Array Value) (B : Nat → Prop) (w : World) (h : t.In w B cs) (hB : Sub B w) :
    Calls Try.prog 3 #[.agg cs] w fun e w' => e = .returned (.bool true) ∧ Below w.heap.size w w' := by
  have HIn : Hid (∀ W, Same (Lo w.heap.size) w W → t.In W (Lo w.heap.size) cs) := fun W hW => t.In_same (fun k hk => hW k (hB k hk)) (fun k hk => hB k hk) cs h
  have hbdd := Tm.In_bdd t cs h
  have HBD : Hid t.Bdd := hbdd
  clear h hB hbdd
  obtain ⟨b2, i2, f2, tx2, vb2, rf2, vl2, vf2, c2, vr2, rfl⟩ := Tm.In_box (HIn.out w (Same.refl _ _))
  have HBu : Hid (∀ W, Below w.heap.size w W → Calls Try.prog 11 #[.agg (tcells t.kind b2 i2 f2 tx2 vb2 rf2 vl2 vf2 c2 vr2)] W fun e w' => ∃ v, e = .returned v ∧ Below W.heap.size W w' ∧ t.V w' (Fr W w') v) := fun W hW =>
    built_any t.sz t (Nat.le_refl _) _ (Lo w.heap.size) W (HIn.out W (Same.of_below hW (Nat.le_refl _))) (Sub.lo hW.size)
  have HRC : Hid (∀ W, Below w.heap.size w W → Calls Try.prog 12 #[.agg (tcells t.kind b2 i2 f2 tx2 vb2 rf2 vl2 vf2 c2 vr2)] W fun e w' => e = .returned (.tuple #[.int .i64 t.cAt, .int .i64 t.all.e]) ∧ Below W.heap.size W w') := fun W hW =>
    refCheck_any t _ (Lo w.heap.size) W (HIn.out W (Same.of_below hW (Nat.le_refl _))) (Sub.lo hW.size)
  have HX : Hid (∀ W, Below (w.alloc (.cells #[.int .i64 t.kind, .bool b2, .int .i64 i2, .float .f64 f2, .string tx2, vb2, .int .u64 rf2, vl2, vf2, .string c2, .int .i64 vr2] 29)).heap.size (w.alloc (.cells #[.int .i64 t.kind, .bool b2, .int .i64 i2, .float .f64 f2, .string tx2, vb2, .int .u64 rf2, vl2, vf2, .string c2, .int .i64 vr2] 29)) W → (W.cell? ⟨w.heap.size, 0, none⟩ = some (.int .i64 t.kind) ∧ W.cell? ⟨w.heap.size, 1, none⟩ = some (.bool b2) ∧ W.cell? ⟨w.heap.size, 2, none⟩ = some (.int .i64 i2) ∧ W.cell? ⟨w.heap.size, 3, none⟩ = some (.float .f64 f2) ∧ W.cell? ⟨w.heap.size, 4, none⟩ = some (.string tx2) ∧ W.cell? ⟨w.heap.size, 5, none⟩ = some (vb2) ∧ W.cell? ⟨w.heap.size, 6, none⟩ = some (.int .u64 rf2) ∧ W.cell? ⟨w.heap.size, 7, none⟩ = some (vl2) ∧ W.cell? ⟨w.heap.size, 8, none⟩ = some (vf2) ∧ W.cell? ⟨w.heap.size, 9, none⟩ = some (.string c2) ∧ W.cell? ⟨w.heap.size, 10, none⟩ = some (.int .i64 vr2)) ∧ Below w.heap.size w W) := fun W hW => ⟨tbox (box_at1 hW).1, (box_at1 hW).2.1⟩
  by_cases he : t.all.e = 0
  · have HOf : Hid (∀ W, Below w.heap.size w W → Calls Try.prog 9 #[.agg (tcells t.kind b2 i2 f2 tx2 vb2 rf2 vl2 vf2 c2 vr2)] W fun e w' => ∃ v, e = .returned (.tuple #[v, .int .i64 0]) ∧ Below W.heap.size W w' ∧ t.V w' (Fr W w') v) := fun W hW =>
      Of_ok t _ (Lo w.heap.size) W (HIn.out W (Same.of_below hW (Nat.le_refl _))) (Sub.lo hW.size) he
    have HCl : Hid (∀ W, Below w.heap.size w W → Calls Try.prog 13 #[.agg (tcells t.kind b2 i2 f2 tx2 vb2 rf2 vl2 vf2 c2 vr2)] W fun e w' => ∃ cs', e = .returned (.agg cs') ∧ Below W.heap.size W w' ∧ t.clean.In w' (Fr W w') cs') := fun W hW =>
      clean_any t.sz t (Nat.le_refl _) _ (Lo w.heap.size) W (HIn.out W (Same.of_below hW (Nat.le_refl _))) (Sub.lo hW.size) ⟨1, 0, 0, he⟩
    unfold tcells at HBu HRC HOf HCl ⊢
    go_enter Try.func3, Try.ntmps3
    go_wp2_with fail
    refine (HOf.out _ (HX.out _ (Below.refl _ _)).2).mono ?_
    rintro e w1 ⟨v, rfl, hb1, hv1⟩
    have HB1 : Hid (Below (w.alloc (.cells #[.int .i64 t.kind, .bool b2, .int .i64 i2, .float .f64 f2, .string tx2, vb2, .int .u64 rf2, vl2, vf2, .string c2, .int .i64 vr2] 29)).heap.size (w.alloc (.cells #[.int .i64 t.kind, .bool b2, .int .i64 i2, .float .f64 f2, .string tx2, vb2, .int .u64 rf2, vl2, vf2, .string c2, .int .i64 vr2] 29)) w1) := hb1
    have HV1 : Hid (t.V w1 (Fr (w.alloc (.cells #[.int .i64 t.kind, .bool b2, .int .i64 i2, .float .f64 f2, .string tx2, vb2, .int .u64 rf2, vl2, vf2, .string c2, .int .i64 vr2] 29)) w1) v) := hv1
    clear hb1 hv1
    obtain ⟨⟨z0, z1, z2, z3, z4, z5, z6, z7, z8, z9, z10⟩, _⟩ := HX.out w1 HB1.out
    go_wp2_with fail
    refine (HOf.out _ (HX.out w1 HB1.out).2).mono ?_
    rintro e w2 ⟨v2, rfl, hb2, hv2⟩
    have HC2 : Hid (Below w1.heap.size w1 w2) := hb2
    have HB2 : Hid (Below (w.alloc (.cells #[.int .i64 t.kind, .bool b2, .int .i64 i2, .float .f64 f2, .string tx2, vb2, .int .u64 rf2, vl2, vf2, .string c2, .int .i64 vr2] 29)).heap.size (w.alloc (.cells #[.int .i64 t.kind, .bool b2, .int .i64 i2, .float .f64 f2, .string tx2, vb2, .int .u64 rf2, vl2, vf2, .string c2, .int .i64 vr2] 29)) w2) := below_to HB1.out hb2
    have HV2 : Hid (t.V w2 (Fr w1 w2) v2) := hv2
    clear hb2 hv2 z0 z1 z2 z3 z4 z5 z6 z7 z8 z9 z10
    obtain ⟨⟨z0, z1, z2, z3, z4, z5, z6, z7, z8, z9, z10⟩, _⟩ := HX.out w2 HB2.out
    go_wp2_with fail
    refine (HBu.out _ (HX.out w2 HB2.out).2).mono ?_
    rintro e w3 ⟨u3, rfl, hb3, hv3⟩
    have HC3 : Hid (Below w2.heap.size w2 w3) := hb3
    have HB3 : Hid (Below (w.alloc (.cells #[.int .i64 t.kind, .bool b2, .int .i64 i2, .float .f64 f2, .string tx2, vb2, .int .u64 rf2, vl2, vf2, .string c2, .int .i64 vr2] 29)).heap.size (w.alloc (.cells #[.int .i64 t.kind, .bool b2, .int .i64 i2, .float .f64 f2, .string tx2, vb2, .int .u64 rf2, vl2, vf2, .string c2, .int .i64 vr2] 29)) w3) := below_to HB2.out hb3
    have HP3 : Hid (Calls Try.prog 10 #[u3] w3 fun e w' => ∃ cs, e = .returned (.tuple #[.agg cs, .int .i64 0]) ∧ Below w3.heap.size w3 w' ∧ t.clean.In w' (FrS w3 w') cs) := Plain_okS t u3 w3 (t.V_same (Same.refl _ _) (fun k hk => hk.2) u3 hv3) he HBD.out
    clear hb3 hv3 z0 z1 z2 z3 z4 z5 z6 z7 z8 z9 z10
    go_wp2_with fail
    refine HP3.out.mono ?_
    rintro e w4 ⟨cp0, rfl, hb4, hp4⟩
    have HC4 : Hid (Below w3.heap.size w3 w4) := hb4
    have HB4 : Hid (Below (w.alloc (.cells #[.int .i64 t.kind, .bool b2, .int .i64 i2, .float .f64 f2, .string tx2, vb2, .int .u64 rf2, vl2, vf2, .string c2, .int .i64 vr2] 29)).heap.size (w.alloc (.cells #[.int .i64 t.kind, .bool b2, .int .i64 i2, .float .f64 f2, .string tx2, vb2, .int .u64 rf2, vl2, vf2, .string c2, .int .i64 vr2] 29)) w4) := below_to HB3.out hb4
    obtain ⟨kp, bp, ip, fp, txp, abp, nbp, cbp, rfp, alp, nlp, clp, afp, nfp, cfp, ccp, vrp, rfl⟩ := Tm.In_tc' hp4
    unfold tcells at hp4 ⊢
    have HP4 : Hid (t.clean.In w4 (FrS w3 w4) #[.int .i64 kp, .bool bp, .int .i64 ip, .float .f64 fp, .string txp, .slice abp nbp cbp, .int .u64 rfp, .slice alp nlp clp, .slice afp nfp cfp, .string ccp, .int .i64 vrp]) := hp4
    clear hb4 hp4 HP3
    obtain ⟨⟨z0, z1, z2, z3, z4, z5, z6, z7, z8, z9, z10⟩, _⟩ := HX.out (w4.alloc (.cells #[.int .i64 kp, .bool bp, .int .i64 ip, .float .f64 fp, .string txp, .slice abp nbp cbp, .int .u64 rfp, .slice alp nlp clp, .slice afp nfp cfp, .string ccp, .int .i64 vrp] 29)) (HB4.out.alloc HB4.out.size _)
    go_wp2_with fail
    refine (HBu.out _ (HX.out (w4.alloc (.cells #[.int .i64 kp, .bool bp, .int .i64 ip, .float .f64 fp, .string txp, .slice abp nbp cbp, .int .u64 rfp, .slice alp nlp clp, .slice afp nfp cfp, .string ccp, .int .i64 vrp] 29)) (HB4.out.alloc HB4.out.size _)).2).mono ?_
    rintro e w5 ⟨u5, rfl, hb5, hv5⟩
    have HC5 : Hid (Below (w4.alloc (.cells #[.int .i64 kp, .bool bp, .int .i64 ip, .float .f64 fp, .string txp, .slice abp nbp cbp, .int .u64 rfp, .slice alp nlp clp, .slice afp nfp cfp, .string ccp, .int .i64 vrp] 29)).heap.size (w4.alloc (.cells #[.int .i64 kp, .bool bp, .int .i64 ip, .float .f64 fp, .string txp, .slice abp nbp cbp, .int .u64 rfp, .slice alp nlp clp, .slice afp nfp cfp, .string ccp, .int .i64 vrp] 29)) w5) := hb5
    have HB5 : Hid (Below (w.alloc (.cells #[.int .i64 t.kind, .bool b2, .int .i64 i2, .float .f64 f2, .string tx2, vb2, .int .u64 rf2, vl2, vf2, .string c2, .int .i64 vr2] 29)).heap.size (w.alloc (.cells #[.int .i64 t.kind, .bool b2, .int .i64 i2, .float .f64 f2, .string tx2, vb2, .int .u64 rf2, vl2, vf2, .string c2, .int .i64 vr2] 29)) w5) := below_to (HB4.out.alloc HB4.out.size _) hb5
    have HP5 : Hid (Calls Try.prog 10 #[u5] w5 fun e w' => ∃ cs, e = .returned (.tuple #[.agg cs, .int .i64 0]) ∧ Below w5.heap.size w5 w' ∧ t.clean.In w' (FrS w5 w') cs) := Plain_okS t u5 w5 (t.V_same (Same.refl _ _) (fun k hk => hk.2) u5 hv5) he HBD.out
    clear hb5 hv5 z0 z1 z2 z3 z4 z5 z6 z7 z8 z9 z10
    go_wp2_with fail
    refine HP5.out.mono ?_
    rintro e w6 ⟨cq0, rfl, hb6, hp6⟩
    have HC6 : Hid (Below w5.heap.size w5 w6) := hb6
    have HB6 : Hid (Below (w.alloc (.cells #[.int .i64 t.kind, .bool b2, .int .i64 i2, .float .f64 f2, .string tx2, vb2, .int .u64 rf2, vl2, vf2, .string c2, .int .i64 vr2] 29)).heap.size (w.alloc (.cells #[.int .i64 t.kind, .bool b2, .int .i64 i2, .float .f64 f2, .string tx2, vb2, .int .u64 rf2, vl2, vf2, .string c2, .int .i64 vr2] 29)) w6) := below_to HB5.out hb6
    obtain ⟨kq, bq, iq, fq, txq, abq, nbq, cbq, rfq, alq, nlq, clq, afq, nfq, cfq, ccq, vrq, rfl⟩ := Tm.In_tc' hp6
    unfold tcells at hp6 ⊢
    have HP6 : Hid (t.clean.In w6 (FrS w5 w6) #[.int .i64 kq, .bool bq, .int .i64 iq, .float .f64 fq, .string txq, .slice abq nbq cbq, .int .u64 rfq, .slice alq nlq clq, .slice afq nfq cfq, .string ccq, .int .i64 vrq]) := hp6
    clear hb6 hp6 HP5
    obtain ⟨⟨z0, z1, z2, z3, z4, z5, z6, z7, z8, z9, z10⟩, _⟩ := HX.out (w6.alloc (.cells #[.int .i64 kq, .bool bq, .int .i64 iq, .float .f64 fq, .string txq, .slice abq nbq cbq, .int .u64 rfq, .slice alq nlq clq, .slice afq nfq cfq, .string ccq, .int .i64 vrq] 29)) (HB6.out.alloc HB6.out.size _)
    go_wp2_with fail
    refine (HRC.out _ (HX.out (w6.alloc (.cells #[.int .i64 kq, .bool bq, .int .i64 iq, .float .f64 fq, .string txq, .slice abq nbq cbq, .int .u64 rfq, .slice alq nlq clq, .slice afq nfq cfq, .string ccq, .int .i64 vrq] 29)) (HB6.out.alloc HB6.out.size _)).2).mono ?_
    rintro e w7 ⟨rfl, hb7⟩
    rw [he]
    have HC7 : Hid (Below (w6.alloc (.cells #[.int .i64 kq, .bool bq, .int .i64 iq, .float .f64 fq, .string txq, .slice abq nbq cbq, .int .u64 rfq, .slice alq nlq clq, .slice afq nfq cfq, .string ccq, .int .i64 vrq] 29)).heap.size (w6.alloc (.cells #[.int .i64 kq, .bool bq, .int .i64 iq, .float .f64 fq, .string txq, .slice abq nbq cbq, .int .u64 rfq, .slice alq nlq clq, .slice afq nfq cfq, .string ccq, .int .i64 vrq] 29)) w7) := hb7
    have HB7 : Hid (Below (w.alloc (.cells #[.int .i64 t.kind, .bool b2, .int .i64 i2, .float .f64 f2, .string tx2, vb2, .int .u64 rf2, vl2, vf2, .string c2, .int .i64 vr2] 29)).heap.size (w.alloc (.cells #[.int .i64 t.kind, .bool b2, .int .i64 i2, .float .f64 f2, .string tx2, vb2, .int .u64 rf2, vl2, vf2, .string c2, .int .i64 vr2] 29)) w7) := below_to (HB6.out.alloc HB6.out.size _) hb7
    clear hb7 z0 z1 z2 z3 z4 z5 z6 z7 z8 z9 z10
    obtain ⟨⟨z0, z1, z2, z3, z4, z5, z6, z7, z8, z9, z10⟩, _⟩ := HX.out w7 HB7.out
    go_wp2_with fail
    refine (HCl.out _ (HX.out w7 HB7.out).2).mono ?_
    rintro e w8 ⟨cc0, rfl, hb8, hp8⟩
    have HC8 : Hid (Below w7.heap.size w7 w8) := hb8
    have HB8 : Hid (Below (w.alloc (.cells #[.int .i64 t.kind, .bool b2, .int .i64 i2, .float .f64 f2, .string tx2, vb2, .int .u64 rf2, vl2, vf2, .string c2, .int .i64 vr2] 29)).heap.size (w.alloc (.cells #[.int .i64 t.kind, .bool b2, .int .i64 i2, .float .f64 f2, .string tx2, vb2, .int .u64 rf2, vl2, vf2, .string c2, .int .i64 vr2] 29)) w8) := below_to HB7.out hb8
    obtain ⟨kc, bc, ic, fc, txc, abc, nbc, cbc, rfc, alc, nlc, clc, afc, nfc, cfc, ccc, vrc, rfl⟩ := Tm.In_tc' hp8
    unfold tcells at hp8 ⊢
    have HP8 : Hid (t.clean.In w8 (Fr w7 w8) #[.int .i64 kc, .bool bc, .int .i64 ic, .float .f64 fc, .string txc, .slice abc nbc cbc, .int .u64 rfc, .slice alc nlc clc, .slice afc nfc cfc, .string ccc, .int .i64 vrc]) := hp8
    clear hb8 hp8 z0 z1 z2 z3 z4 z5 z6 z7 z8 z9 z10
    have HZ : Hid (w.heap.size + 1 ≤ w1.heap.size ∧ w1.heap.size ≤ w2.heap.size ∧ w2.heap.size ≤ w3.heap.size ∧ w3.heap.size ≤ w4.heap.size ∧ w4.heap.size + 1 ≤ w5.heap.size ∧ w5.heap.size ≤ w6.heap.size ∧ w6.heap.size + 1 ≤ w7.heap.size ∧ w7.heap.size ≤ w8.heap.size) :=
      ⟨by have := HB1.out.size; simpa using this, HC2.out.size, HC3.out.size, HC4.out.size, by have := HC5.out.size; simpa using this, HC6.out.size, by have := HC7.out.size; simpa using this, HC8.out.size⟩
    have HE8 : Hid (Below w8.heap.size w8 (w8.alloc (.cells #[.int .i64 kc, .bool bc, .int .i64 ic, .float .f64 fc, .string txc, .slice abc nbc cbc, .int .u64 rfc, .slice alc nlc clc, .slice afc nfc cfc, .string ccc, .int .i64 vrc] 29))) := (Below.refl _ _).alloc (Nat.le_refl _) _
    have HE7 : Hid (Below w7.heap.size w7 (w8.alloc (.cells #[.int .i64 kc, .bool bc, .int .i64 ic, .float .f64 fc, .string txc, .slice abc nbc cbc, .int .u64 rfc, .slice alc nlc clc, .slice afc nfc cfc, .string ccc, .int .i64 vrc] 29))) := below_to HC8.out HE8.out
    have HE6 : Hid (Below (w6.alloc (.cells #[.int .i64 kq, .bool bq, .int .i64 iq, .float .f64 fq, .string txq, .slice abq nbq cbq, .int .u64 rfq, .slice alq nlq clq, .slice afq nfq cfq, .string ccq, .int .i64 vrq] 29)).heap.size (w6.alloc (.cells #[.int .i64 kq, .bool bq, .int .i64 iq, .float .f64 fq, .string txq, .slice abq nbq cbq, .int .u64 rfq, .slice alq nlq clq, .slice afq nfq cfq, .string ccq, .int .i64 vrq] 29)) (w8.alloc (.cells #[.int .i64 kc, .bool bc, .int .i64 ic, .float .f64 fc, .string txc, .slice abc nbc cbc, .int .u64 rfc, .slice alc nlc clc, .slice afc nfc cfc, .string ccc, .int .i64 vrc] 29))) := below_to HC7.out HE7.out
    have HE6' : Hid (Below w6.heap.size w6 (w8.alloc (.cells #[.int .i64 kc, .bool bc, .int .i64 ic, .float .f64 fc, .string txc, .slice abc nbc cbc, .int .u64 rfc, .slice alc nlc clc, .slice afc nfc cfc, .string ccc, .int .i64 vrc] 29))) := below_to ((Below.refl _ _).alloc (Nat.le_refl _) _) HE6.out
    have HE5 : Hid (Below w5.heap.size w5 (w8.alloc (.cells #[.int .i64 kc, .bool bc, .int .i64 ic, .float .f64 fc, .string txc, .slice abc nbc cbc, .int .u64 rfc, .slice alc nlc clc, .slice afc nfc cfc, .string ccc, .int .i64 vrc] 29))) := below_to HC6.out HE6'.out
    have HE4 : Hid (Below (w4.alloc (.cells #[.int .i64 kp, .bool bp, .int .i64 ip, .float .f64 fp, .string txp, .slice abp nbp cbp, .int .u64 rfp, .slice alp nlp clp, .slice afp nfp cfp, .string ccp, .int .i64 vrp] 29)).heap.size (w4.alloc (.cells #[.int .i64 kp, .bool bp, .int .i64 ip, .float .f64 fp, .string txp, .slice abp nbp cbp, .int .u64 rfp, .slice alp nlp clp, .slice afp nfp cfp, .string ccp, .int .i64 vrp] 29)) (w8.alloc (.cells #[.int .i64 kc, .bool bc, .int .i64 ic, .float .f64 fc, .string txc, .slice abc nbc cbc, .int .u64 rfc, .slice alc nlc clc, .slice afc nfc cfc, .string ccc, .int .i64 vrc] 29))) := below_to HC5.out HE5.out
    have HE4' : Hid (Below w4.heap.size w4 (w8.alloc (.cells #[.int .i64 kc, .bool bc, .int .i64 ic, .float .f64 fc, .string txc, .slice abc nbc cbc, .int .u64 rfc, .slice alc nlc clc, .slice afc nfc cfc, .string ccc, .int .i64 vrc] 29))) := below_to ((Below.refl _ _).alloc (Nat.le_refl _) _) HE4.out
    have HE2 : Hid (Below w2.heap.size w2 (w8.alloc (.cells #[.int .i64 kc, .bool bc, .int .i64 ic, .float .f64 fc, .string txc, .slice abc nbc cbc, .int .u64 rfc, .slice alc nlc clc, .slice afc nfc cfc, .string ccc, .int .i64 vrc] 29))) := below_to HC3.out (below_to HC4.out HE4'.out)
    have HE1 : Hid (Below w1.heap.size w1 (w8.alloc (.cells #[.int .i64 kc, .bool bc, .int .i64 ic, .float .f64 fc, .string txc, .slice abc nbc cbc, .int .u64 rfc, .slice alc nlc clc, .slice afc nfc cfc, .string ccc, .int .i64 vrc] 29))) := below_to HC2.out HE2.out
    have HE0 : Hid (Below w.heap.size w (w8.alloc (.cells #[.int .i64 kc, .bool bc, .int .i64 ic, .float .f64 fc, .string txc, .slice abc nbc cbc, .int .u64 rfc, .slice alc nlc clc, .slice afc nfc cfc, .string ccc, .int .i64 vrc] 29))) := (HX.out _ (below_to HB1.out HE1.out)).2
    have HK : Hid (∀ X, Far (fun k => Fr (w.alloc (.cells #[.int .i64 t.kind, .bool b2, .int .i64 i2, .float .f64 f2, .string tx2, vb2, .int .u64 rf2, vl2, vf2, .string c2, .int .i64 vr2] 29)) w1 k ∨ FrS w3 w4 k) (w8.alloc (.cells #[.int .i64 kc, .bool bc, .int .i64 ic, .float .f64 fc, .string txc, .slice abc nbc cbc, .int .u64 rfc, .slice alc nlc clc, .slice afc nfc cfc, .string ccc, .int .i64 vrc] 29)) X → (X.cell? ⟨w4.heap.size, 0, none⟩ = some (.int .i64 kp) ∧ X.cell? ⟨w4.heap.size, 1, none⟩ = some (.bool bp) ∧ X.cell? ⟨w4.heap.size, 2, none⟩ = some (.int .i64 ip) ∧ X.cell? ⟨w4.heap.size, 3, none⟩ = some (.float .f64 fp) ∧ X.cell? ⟨w4.heap.size, 4, none⟩ = some (.string txp) ∧ X.cell? ⟨w4.heap.size, 5, none⟩ = some (.slice abp nbp cbp) ∧ X.cell? ⟨w4.heap.size, 6, none⟩ = some (.int .u64 rfp) ∧ X.cell? ⟨w4.heap.size, 7, none⟩ = some (.slice alp nlp clp) ∧ X.cell? ⟨w4.heap.size, 8, none⟩ = some (.slice afp nfp cfp) ∧ X.cell? ⟨w4.heap.size, 9, none⟩ = some (.string ccp) ∧ X.cell? ⟨w4.heap.size, 10, none⟩ = some (.int .i64 vrp)) ∧ (X.cell? ⟨w6.heap.size, 0, none⟩ = some (.int .i64 kq) ∧ X.cell? ⟨w6.heap.size, 1, none⟩ = some (.bool bq) ∧ X.cell? ⟨w6.heap.size, 2, none⟩ = some (.int .i64 iq) ∧ X.cell? ⟨w6.heap.size, 3, none⟩ = some (.float .f64 fq) ∧ X.cell? ⟨w6.heap.size, 4, none⟩ = some (.string txq) ∧ X.cell? ⟨w6.heap.size, 5, none⟩ = some (.slice abq nbq cbq) ∧ X.cell? ⟨w6.heap.size, 6, none⟩ = some (.int .u64 rfq) ∧ X.cell? ⟨w6.heap.size, 7, none⟩ = some (.slice alq nlq clq) ∧ X.cell? ⟨w6.heap.size, 8, none⟩ = some (.slice afq nfq cfq) ∧ X.cell? ⟨w6.heap.size, 9, none⟩ = some (.string ccq) ∧ X.cell? ⟨w6.heap.size, 10, none⟩ = some (.int .i64 vrq)) ∧ (X.cell? ⟨w8.heap.size, 0, none⟩ = some (.int .i64 kc) ∧ X.cell? ⟨w8.heap.size, 1, none⟩ = some (.bool bc) ∧ X.cell? ⟨w8.heap.size, 2, none⟩ = some (.int .i64 ic) ∧ X.cell? ⟨w8.heap.size, 3, none⟩ = some (.float .f64 fc) ∧ X.cell? ⟨w8.heap.size, 4, none⟩ = some (.string txc) ∧ X.cell? ⟨w8.heap.size, 5, none⟩ = some (.slice abc nbc cbc) ∧ X.cell? ⟨w8.heap.size, 6, none⟩ = some (.int .u64 rfc) ∧ X.cell? ⟨w8.heap.size, 7, none⟩ = some (.slice alc nlc clc) ∧ X.cell? ⟨w8.heap.size, 8, none⟩ = some (.slice afc nfc cfc) ∧ X.cell? ⟨w8.heap.size, 9, none⟩ = some (.string ccc) ∧ X.cell? ⟨w8.heap.size, 10, none⟩ = some (.int .i64 vrc)) ∧ Below w.heap.size w X) := fun X hX => by
      have hz := HZ.out
      have hn : ∀ k, (fun k => Fr (w.alloc (.cells #[.int .i64 t.kind, .bool b2, .int .i64 i2, .float .f64 f2, .string tx2, vb2, .int .u64 rf2, vl2, vf2, .string c2, .int .i64 vr2] 29)) w1 k ∨ FrS w3 w4 k) k → k < w1.heap.size ∨ (w3.heap.size ≤ k ∧ k < w4.heap.size) := fun k hk => hk.elim (fun h => .inl h.2) (fun h => .inr ⟨h.1, h.2.1⟩)
      have hs : (w8.alloc (.cells #[.int .i64 kc, .bool bc, .int .i64 ic, .float .f64 fc, .string txc, .slice abc nbc cbc, .int .u64 rfc, .slice alc nlc clc, .slice afc nfc cfc, .string ccc, .int .i64 vrc] 29)).heap.size = w8.heap.size + 1 := by simp
      refine ⟨tbox ?_, tbox ?_, tbox ?_, hX.below HE0.out (fun k hk => ?_)⟩
      · rw [hX.block _ (by omega) (fun e => by have := hn _ e; omega), HE4.out.block w4.heap.size (by simp)]; exact heap_alloc_new w4 _
      · rw [hX.block _ (by omega) (fun e => by have := hn _ e; omega), HE6.out.block w6.heap.size (by simp)]; exact heap_alloc_new w6 _
      · rw [hX.block _ (by omega) (fun e => by have := hn _ e; omega)]; exact heap_alloc_new w8 _
      · rcases hk with h | h
        · have := h.1; simp at this; omega
        · have := h.1; omega
    have HVv : Hid (∀ X, Below (w8.alloc (.cells #[.int .i64 kc, .bool bc, .int .i64 ic, .float .f64 fc, .string txc, .slice abc nbc cbc, .int .u64 rfc, .slice alc nlc clc, .slice afc nfc cfc, .string ccc, .int .i64 vrc] 29)).heap.size (w8.alloc (.cells #[.int .i64 kc, .bool bc, .int .i64 ic, .float .f64 fc, .string txc, .slice abc nbc cbc, .int .u64 rfc, .slice alc nlc clc, .slice afc nfc cfc, .string ccc, .int .i64 vrc] 29)) X → t.V X (Fr (w.alloc (.cells #[.int .i64 t.kind, .bool b2, .int .i64 i2, .float .f64 f2, .string tx2, vb2, .int .u64 rf2, vl2, vf2, .string c2, .int .i64 vr2] 29)) w1) v ∧ Sub (Fr (w.alloc (.cells #[.int .i64 t.kind, .bool b2, .int .i64 i2, .float .f64 f2, .string tx2, vb2, .int .u64 rf2, vl2, vf2, .string c2, .int .i64 vr2] 29)) w1) X) := fun X hX => by
      have h := below_to HE1.out hX
      exact ⟨t.V_same (fun k hk => h.block k hk.2) (fun _ h => h) v HV1.out, fun k hk => Nat.lt_of_lt_of_le hk.2 h.size⟩
    have HVw : Hid (∀ X, Far (fun k => Fr (w.alloc (.cells #[.int .i64 t.kind, .bool b2, .int .i64 i2, .float .f64 f2, .string tx2, vb2, .int .u64 rf2, vl2, vf2, .string c2, .int .i64 vr2] 29)) w1 k ∨ FrS w3 w4 k) (w8.alloc (.cells #[.int .i64 kc, .bool bc, .int .i64 ic, .float .f64 fc, .string txc, .slice abc nbc cbc, .int .u64 rfc, .slice alc nlc clc, .slice afc nfc cfc, .string ccc, .int .i64 vrc] 29)) X → t.V X (Fr w1 w2) v2 ∧ Sub (Fr w1 w2) X) := fun X hX => by
      have hz := HZ.out
      have hs : (w8.alloc (.cells #[.int .i64 kc, .bool bc, .int .i64 ic, .float .f64 fc, .string txc, .slice abc nbc cbc, .int .u64 rfc, .slice alc nlc clc, .slice afc nfc cfc, .string ccc, .int .i64 vrc] 29)).heap.size = w8.heap.size + 1 := by simp
      refine ⟨t.V_same (w := (w8.alloc (.cells #[.int .i64 kc, .bool bc, .int .i64 ic, .float .f64 fc, .string txc, .slice abc nbc cbc, .int .u64 rfc, .slice alc nlc clc, .slice afc nfc cfc, .string ccc, .int .i64 vrc] 29))) (hX.same fun k hk => ⟨by have := hk.2; omega, fun e => ?_⟩) (fun _ h => h) v2 (t.V_same (fun k hk => HE2.out.block k hk.2) (fun _ h => h) v2 HV2.out), fun k hk => by have := hk.2; have := hX.size; omega⟩
      rcases e with e | e
      · have := e.2; have := hk.1; omega
      · have := e.1; have := hk.2; omega
    have HPp : Hid (∀ X, Far (Fr (w.alloc (.cells #[.int .i64 t.kind, .bool b2, .int .i64 i2, .float .f64 f2, .string tx2, vb2, .int .u64 rf2, vl2, vf2, .string c2, .int .i64 vr2] 29)) w1) (w8.alloc (.cells #[.int .i64 kc, .bool bc, .int .i64 ic, .float .f64 fc, .string txc, .slice abc nbc cbc, .int .u64 rfc, .slice alc nlc clc, .slice afc nfc cfc, .string ccc, .int .i64 vrc] 29)) X → t.clean.In X (FrS w3 w4) #[.int .i64 kp, .bool bp, .int .i64 ip, .float .f64 fp, .string txp, .slice abp nbp cbp, .int .u64 rfp, .slice alp nlp clp, .slice afp nfp cfp, .string ccp, .int .i64 vrp] ∧ Sub (FrS w3 w4) X ∧ ∀ k, (FrS w3 w4) k → Soft X k) := fun X hX => by
      have hz := HZ.out
      have hs : (w8.alloc (.cells #[.int .i64 kc, .bool bc, .int .i64 ic, .float .f64 fc, .string txc, .slice abc nbc cbc, .int .u64 rfc, .slice alc nlc clc, .slice afc nfc cfc, .string ccc, .int .i64 vrc] 29)).heap.size = w8.heap.size + 1 := by simp
      have hk' : ∀ k, (FrS w3 w4) k → X.heap[k]? = w4.heap[k]? := fun k hk => by
        rw [hX.block k (by have := hk.2.1; omega) (fun e => by have := e.2; have := hk.1; omega)]; exact HE4'.out.block k hk.2.1
      exact ⟨t.clean.In_same hk' (fun _ h => h) _ HP4.out, fun k hk => by have := hk.2.1; have := hX.size; omega, fun k hk => hk.2.2.same (hk' k hk)⟩
    have HPq : Hid (∀ X, Far (fun k => Fr (w.alloc (.cells #[.int .i64 t.kind, .bool b2, .int .i64 i2, .float .f64 f2, .string tx2, vb2, .int .u64 rf2, vl2, vf2, .string c2, .int .i64 vr2] 29)) w1 k ∨ FrS w3 w4 k) (w8.alloc (.cells #[.int .i64 kc, .bool bc, .int .i64 ic, .float .f64 fc, .string txc, .slice abc nbc cbc, .int .u64 rfc, .slice alc nlc clc, .slice afc nfc cfc, .string ccc, .int .i64 vrc] 29)) X → t.clean.In X (FrS w5 w6) #[.int .i64 kq, .bool bq, .int .i64 iq, .float .f64 fq, .string txq, .slice abq nbq cbq, .int .u64 rfq, .slice alq nlq clq, .slice afq nfq cfq, .string ccq, .int .i64 vrq] ∧ Sub (FrS w5 w6) X) := fun X hX => by
      have hz := HZ.out
      have hs : (w8.alloc (.cells #[.int .i64 kc, .bool bc, .int .i64 ic, .float .f64 fc, .string txc, .slice abc nbc cbc, .int .u64 rfc, .slice alc nlc clc, .slice afc nfc cfc, .string ccc, .int .i64 vrc] 29)).heap.size = w8.heap.size + 1 := by simp
      refine ⟨t.clean.In_same (fun k hk => ?_) (fun _ h => h) _ HP6.out, fun k hk => by have := hk.2.1; have := hX.size; omega⟩
      rw [hX.block k (by have := hk.2.1; omega) (fun e => by
        rcases e with e | e
        · have := e.2; have := hk.1; omega
        · have := e.2.1; have := hk.1; omega)]
      exact HE6'.out.block k hk.2.1
    have HPc : Hid (∀ X, Far (fun k => Fr (w.alloc (.cells #[.int .i64 t.kind, .bool b2, .int .i64 i2, .float .f64 f2, .string tx2, vb2, .int .u64 rf2, vl2, vf2, .string c2, .int .i64 vr2] 29)) w1 k ∨ FrS w3 w4 k) (w8.alloc (.cells #[.int .i64 kc, .bool bc, .int .i64 ic, .float .f64 fc, .string txc, .slice abc nbc cbc, .int .u64 rfc, .slice alc nlc clc, .slice afc nfc cfc, .string ccc, .int .i64 vrc] 29)) X → t.clean.In X (Fr w7 w8) #[.int .i64 kc, .bool bc, .int .i64 ic, .float .f64 fc, .string txc, .slice abc nbc cbc, .int .u64 rfc, .slice alc nlc clc, .slice afc nfc cfc, .string ccc, .int .i64 vrc] ∧ Sub (Fr w7 w8) X) := fun X hX => by
      have hz := HZ.out
      have hs : (w8.alloc (.cells #[.int .i64 kc, .bool bc, .int .i64 ic, .float .f64 fc, .string txc, .slice abc nbc cbc, .int .u64 rfc, .slice alc nlc clc, .slice afc nfc cfc, .string ccc, .int .i64 vrc] 29)).heap.size = w8.heap.size + 1 := by simp
      refine ⟨t.clean.In_same (fun k hk => ?_) (fun _ h => h) _ HP8.out, fun k hk => by have := hk.2; have := hX.size; omega⟩
      rw [hX.block k (by have := hk.2; omega) (fun e => by
        rcases e with e | e
        · have := e.2; have := hk.1; omega
        · have := e.2.1; have := hk.1; omega)]
      exact HE8.out.block k hk.2
    clear HV1 HV2 HP4 HP6 HP8 HBu HRC HOf HCl HX HIn HB1 HB2 HB3 HB4 HB5 HB6 HB7 HB8 HC2 HC3 HC4 HC5 HC6 HC7 HC8 HE8 HE7 HE6 HE6' HE5 HE4 HE4' HE2 HE1
    have HF8 : Hid (Below (w8.alloc (.cells #[.int .i64 kc, .bool bc, .int .i64 ic, .float .f64 fc, .string txc, .slice abc nbc cbc, .int .u64 rfc, .slice alc nlc clc, .slice afc nfc cfc, .string ccc, .int .i64 vrc] 29)).heap.size (w8.alloc (.cells #[.int .i64 kc, .bool bc, .int .i64 ic, .float .f64 fc, .string txc, .slice abc nbc cbc, .int .u64 rfc, .slice alc nlc clc, .slice afc nfc cfc, .string ccc, .int .i64 vrc] 29)) (w8.alloc (.cells #[.int .i64 kc, .bool bc, .int .i64 ic, .float .f64 fc, .string txc, .slice abc nbc cbc, .int .u64 rfc, .slice alc nlc clc, .slice afc nfc cfc, .string ccc, .int .i64 vrc] 29))) := Below.refl _ _
    obtain ⟨⟨x0, x1, x2, x3, x4, x5, x6, x7, x8, x9, x10⟩, ⟨y0, y1, y2, y3, y4, y5, y6, y7, y8, y9, y10⟩, ⟨z0, z1, z2, z3, z4, z5, z6, z7, z8, z9, z10⟩, _⟩ := HK.out _ (Far.of HF8.out)
    go_wp2_with fail
    refine (is_two t v _ (Fr (w.alloc (.cells #[.int .i64 t.kind, .bool b2, .int .i64 i2, .float .f64 f2, .string tx2, vb2, .int .u64 rf2, vl2, vf2, .string c2, .int .i64 vr2] 29)) w1) (Fr w7 w8) _ (HVv.out _ HF8.out).1 (HPc.out _ (Far.of HF8.out)).1 (HVv.out _ HF8.out).2 (HPc.out _ (Far.of HF8.out)).2 he).mono ?_
    rintro e w9 ⟨rfl, hb9⟩
    have HF9 : Hid (Below (w8.alloc (.cells #[.int .i64 kc, .bool bc, .int .i64 ic, .float .f64 fc, .string txc, .slice abc nbc cbc, .int .u64 rfc, .slice alc nlc clc, .slice afc nfc cfc, .string ccc, .int .i64 vrc] 29)).heap.size (w8.alloc (.cells #[.int .i64 kc, .bool bc, .int .i64 ic, .float .f64 fc, .string txc, .slice abc nbc cbc, .int .u64 rfc, .slice alc nlc clc, .slice afc nfc cfc, .string ccc, .int .i64 vrc] 29)) w9) := hb9
    clear hb9 x0 x1 x2 x3 x4 x5 x6 x7 x8 x9 x10 y0 y1 y2 y3 y4 y5 y6 y7 y8 y9 y10 z0 z1 z2 z3 z4 z5 z6 z7 z8 z9 z10
    obtain ⟨⟨x0, x1, x2, x3, x4, x5, x6, x7, x8, x9, x10⟩, ⟨y0, y1, y2, y3, y4, y5, y6, y7, y8, y9, y10⟩, ⟨z0, z1, z2, z3, z4, z5, z6, z7, z8, z9, z10⟩, _⟩ := HK.out _ (Far.of HF9.out)
    go_wp2_with fail
    refine (same_two t _ _ (FrS w3 w4) (Fr w7 w8) _ (HPp.out _ (Far.of HF9.out)).1 (HPc.out _ (Far.of HF9.out)).1 (HPp.out _ (Far.of HF9.out)).2.1 (HPc.out _ (Far.of HF9.out)).2 he).mono ?_
    rintro e w10 ⟨rfl, hb10⟩
    have HF10 : Hid (Below (w8.alloc (.cells #[.int .i64 kc, .bool bc, .int .i64 ic, .float .f64 fc, .string txc, .slice abc nbc cbc, .int .u64 rfc, .slice alc nlc clc, .slice afc nfc cfc, .string ccc, .int .i64 vrc] 29)).heap.size (w8.alloc (.cells #[.int .i64 kc, .bool bc, .int .i64 ic, .float .f64 fc, .string txc, .slice abc nbc cbc, .int .u64 rfc, .slice alc nlc clc, .slice afc nfc cfc, .string ccc, .int .i64 vrc] 29)) w10) := below_to HF9.out hb10
    clear hb10 x0 x1 x2 x3 x4 x5 x6 x7 x8 x9 x10 y0 y1 y2 y3 y4 y5 y6 y7 y8 y9 y10 z0 z1 z2 z3 z4 z5 z6 z7 z8 z9 z10
    obtain ⟨⟨x0, x1, x2, x3, x4, x5, x6, x7, x8, x9, x10⟩, ⟨y0, y1, y2, y3, y4, y5, y6, y7, y8, y9, y10⟩, ⟨z0, z1, z2, z3, z4, z5, z6, z7, z8, z9, z10⟩, _⟩ := HK.out _ (Far.of HF10.out)
    go_wp2_with fail
    refine (same_two t _ _ (FrS w5 w6) (Fr w7 w8) _ (HPq.out _ (Far.of HF10.out)).1 (HPc.out _ (Far.of HF10.out)).1 (HPq.out _ (Far.of HF10.out)).2 (HPc.out _ (Far.of HF10.out)).2 he).mono ?_
    rintro e w11 ⟨rfl, hb11⟩
    have HF11 : Hid (Below (w8.alloc (.cells #[.int .i64 kc, .bool bc, .int .i64 ic, .float .f64 fc, .string txc, .slice abc nbc cbc, .int .u64 rfc, .slice alc nlc clc, .slice afc nfc cfc, .string ccc, .int .i64 vrc] 29)).heap.size (w8.alloc (.cells #[.int .i64 kc, .bool bc, .int .i64 ic, .float .f64 fc, .string txc, .slice abc nbc cbc, .int .u64 rfc, .slice alc nlc clc, .slice afc nfc cfc, .string ccc, .int .i64 vrc] 29)) w11) := below_to HF10.out hb11
    clear hb11 x0 x1 x2 x3 x4 x5 x6 x7 x8 x9 x10 y0 y1 y2 y3 y4 y5 y6 y7 y8 y9 y10 z0 z1 z2 z3 z4 z5 z6 z7 z8 z9 z10
    go_wp2_with fail
    refine (Spoil_any t v (Fr (w.alloc (.cells #[.int .i64 t.kind, .bool b2, .int .i64 i2, .float .f64 f2, .string tx2, vb2, .int .u64 rf2, vl2, vf2, .string c2, .int .i64 vr2] 29)) w1) w11 (HVv.out _ HF11.out).1 (HVv.out _ HF11.out).2 he).mono ?_
    rintro e w12 ⟨rfl, hd12⟩
    have HF12 : Hid (Far (Fr (w.alloc (.cells #[.int .i64 t.kind, .bool b2, .int .i64 i2, .float .f64 f2, .string tx2, vb2, .int .u64 rf2, vl2, vf2, .string c2, .int .i64 vr2] 29)) w1) (w8.alloc (.cells #[.int .i64 kc, .bool bc, .int .i64 ic, .float .f64 fc, .string txc, .slice abc nbc cbc, .int .u64 rfc, .slice alc nlc clc, .slice afc nfc cfc, .string ccc, .int .i64 vrc] 29)) w12) := (Far.of HF11.out).dg hd12 (fun _ h => h)
    clear hd12
    obtain ⟨⟨x0, x1, x2, x3, x4, x5, x6, x7, x8, x9, x10⟩, _⟩ := HK.out w12 (HF12.out.mono fun _ h => .inl h)
    go_wp2_with fail
    refine (spoil_term t.clean _ (FrS w3 w4) w12 (HPp.out _ HF12.out).1 (HPp.out _ HF12.out).2.1 (HPp.out _ HF12.out).2.2).mono ?_
    rintro e w13 ⟨rfl, hd13⟩
    have HF13 : Hid (Far (fun k => Fr (w.alloc (.cells #[.int .i64 t.kind, .bool b2, .int .i64 i2, .float .f64 f2, .string tx2, vb2, .int .u64 rf2, vl2, vf2, .string c2, .int .i64 vr2] 29)) w1 k ∨ FrS w3 w4 k) (w8.alloc (.cells #[.int .i64 kc, .bool bc, .int .i64 ic, .float .f64 fc, .string txc, .slice abc nbc cbc, .int .u64 rfc, .slice alc nlc clc, .slice afc nfc cfc, .string ccc, .int .i64 vrc] 29)) w13) := (HF12.out.mono fun _ h => .inl h).dc hd13 (fun _ h => .inr h)
    clear hd13 x0 x1 x2 x3 x4 x5 x6 x7 x8 x9 x10
    obtain ⟨⟨x0, x1, x2, x3, x4, x5, x6, x7, x8, x9, x10⟩, ⟨y0, y1, y2, y3, y4, y5, y6, y7, y8, y9, y10⟩, ⟨z0, z1, z2, z3, z4, z5, z6, z7, z8, z9, z10⟩, _⟩ := HK.out w13 HF13.out
    go_wp2_with fail
    refine (is_two t v2 _ (Fr w1 w2) (Fr w7 w8) _ (HVw.out _ HF13.out).1 (HPc.out _ HF13.out).1 (HVw.out _ HF13.out).2 (HPc.out _ HF13.out).2 he).mono ?_
    rintro e w14 ⟨rfl, hb14⟩
    have HF14 : Hid (Far (fun k => Fr (w.alloc (.cells #[.int .i64 t.kind, .bool b2, .int .i64 i2, .float .f64 f2, .string tx2, vb2, .int .u64 rf2, vl2, vf2, .string c2, .int .i64 vr2] 29)) w1 k ∨ FrS w3 w4 k) (w8.alloc (.cells #[.int .i64 kc, .bool bc, .int .i64 ic, .float .f64 fc, .string txc, .slice abc nbc cbc, .int .u64 rfc, .slice alc nlc clc, .slice afc nfc cfc, .string ccc, .int .i64 vrc] 29)) w14) := HF13.out.call hb14
    clear hb14 x0 x1 x2 x3 x4 x5 x6 x7 x8 x9 x10 y0 y1 y2 y3 y4 y5 y6 y7 y8 y9 y10 z0 z1 z2 z3 z4 z5 z6 z7 z8 z9 z10
    obtain ⟨⟨x0, x1, x2, x3, x4, x5, x6, x7, x8, x9, x10⟩, ⟨y0, y1, y2, y3, y4, y5, y6, y7, y8, y9, y10⟩, ⟨z0, z1, z2, z3, z4, z5, z6, z7, z8, z9, z10⟩, _⟩ := HK.out w14 HF14.out
    go_wp2_with fail
    refine (same_two t _ _ (FrS w5 w6) (Fr w7 w8) _ (HPq.out _ HF14.out).1 (HPc.out _ HF14.out).1 (HPq.out _ HF14.out).2 (HPc.out _ HF14.out).2 he).mono ?_
    rintro e w15 ⟨rfl, hb15⟩
    have HF15 : Hid (Far (fun k => Fr (w.alloc (.cells #[.int .i64 t.kind, .bool b2, .int .i64 i2, .float .f64 f2, .string tx2, vb2, .int .u64 rf2, vl2, vf2, .string c2, .int .i64 vr2] 29)) w1 k ∨ FrS w3 w4 k) (w8.alloc (.cells #[.int .i64 kc, .bool bc, .int .i64 ic, .float .f64 fc, .string txc, .slice abc nbc cbc, .int .u64 rfc, .slice alc nlc clc, .slice afc nfc cfc, .string ccc, .int .i64 vrc] 29)) w15) := HF14.out.call hb15
    clear hb15
    go_wp2_with fail
    go_ret
    exact ⟨rfl, (HK.out w15 HF15.out).2.2.2⟩
  · have HOf : Hid (∀ W, Below w.heap.size w W → Calls Try.prog 9 #[.agg (tcells t.kind b2 i2 f2 tx2 vb2 rf2 vl2 vf2 c2 vr2)] W fun e w' => e = .returned (.tuple #[.nilIface, .int .i64 t.all.e]) ∧ Below W.heap.size W w') := fun W hW =>
      Of_err t _ (Lo w.heap.size) W (HIn.out W (Same.of_below hW (Nat.le_refl _))) (Sub.lo hW.size) he
    have HPb : Hid (∀ (W : World) (u : Value), t.V W (Lo W.heap.size) u → Calls Try.prog 10 #[u] W fun x w' => x = .returned (.tuple #[.agg #[.int .i64 0, .bool false, .int .i64 0, .float .f64 0, .string ByteArray.empty, .slice none 0 0, .int .u64 0, .slice none 0 0, .slice none 0 0, .string ByteArray.empty, .int .i64 0], .int .i64 t.all.e]) ∧ Below W.heap.size W w') := fun W u hu =>
      Plain_badT u t.all.e W ⟨he, fun Y hY => (Check_any t u W.heap.size Y hY.size (t.V_same (Same.of_below hY (Nat.le_refl _)) (fun _ h => h) u hu)).mono fun r w' h => ⟨_, h.1, h.2⟩⟩
    have he' := ne_bool he
    unfold tcells at HBu HRC HOf ⊢
    clear HIn
    go_enter Try.func3, Try.ntmps3
    go_wp2_with fail
    refine (HOf.out _ (HX.out _ (Below.refl _ _)).2).mono ?_
    rintro e w1 ⟨rfl, hb1⟩
    have HB1 : Hid (Below (w.alloc (.cells #[.int .i64 t.kind, .bool b2, .int .i64 i2, .float .f64 f2, .string tx2, vb2, .int .u64 rf2, vl2, vf2, .string c2, .int .i64 vr2] 29)).heap.size (w.alloc (.cells #[.int .i64 t.kind, .bool b2, .int .i64 i2, .float .f64 f2, .string tx2, vb2, .int .u64 rf2, vl2, vf2, .string c2, .int .i64 vr2] 29)) w1) := hb1
    clear hb1
    obtain ⟨⟨z0, z1, z2, z3, z4, z5, z6, z7, z8, z9, z10⟩, _⟩ := HX.out w1 HB1.out
    go_wp2_with fail
    refine (HOf.out _ (HX.out w1 HB1.out).2).mono ?_
    rintro e w2 ⟨rfl, hb2⟩
    have HB2 : Hid (Below (w.alloc (.cells #[.int .i64 t.kind, .bool b2, .int .i64 i2, .float .f64 f2, .string tx2, vb2, .int .u64 rf2, vl2, vf2, .string c2, .int .i64 vr2] 29)).heap.size (w.alloc (.cells #[.int .i64 t.kind, .bool b2, .int .i64 i2, .float .f64 f2, .string tx2, vb2, .int .u64 rf2, vl2, vf2, .string c2, .int .i64 vr2] 29)) w2) := below_to HB1.out hb2
    clear hb2 z0 z1 z2 z3 z4 z5 z6 z7 z8 z9 z10
    obtain ⟨⟨z0, z1, z2, z3, z4, z5, z6, z7, z8, z9, z10⟩, _⟩ := HX.out w2 HB2.out
    go_wp2_with fail
    refine (HBu.out _ (HX.out w2 HB2.out).2).mono ?_
    rintro e w3 ⟨u3, rfl, hb3, hv3⟩
    have HB3 : Hid (Below (w.alloc (.cells #[.int .i64 t.kind, .bool b2, .int .i64 i2, .float .f64 f2, .string tx2, vb2, .int .u64 rf2, vl2, vf2, .string c2, .int .i64 vr2] 29)).heap.size (w.alloc (.cells #[.int .i64 t.kind, .bool b2, .int .i64 i2, .float .f64 f2, .string tx2, vb2, .int .u64 rf2, vl2, vf2, .string c2, .int .i64 vr2] 29)) w3) := below_to HB2.out hb3
    have HV3 : Hid (t.V w3 (Lo w3.heap.size) u3) := t.V_same (Same.refl _ _) (fun k hk => hk.2) u3 hv3
    clear hb3 hv3 z0 z1 z2 z3 z4 z5 z6 z7 z8 z9 z10
    go_wp2_with fail
    refine (HPb.out w3 u3 HV3.out).mono ?_
    rintro e w4 ⟨rfl, hb4⟩
    have HB4 : Hid (Below (w.alloc (.cells #[.int .i64 t.kind, .bool b2, .int .i64 i2, .float .f64 f2, .string tx2, vb2, .int .u64 rf2, vl2, vf2, .string c2, .int .i64 vr2] 29)).heap.size (w.alloc (.cells #[.int .i64 t.kind, .bool b2, .int .i64 i2, .float .f64 f2, .string tx2, vb2, .int .u64 rf2, vl2, vf2, .string c2, .int .i64 vr2] 29)) w4) := below_to HB3.out hb4
    clear hb4
    obtain ⟨⟨z0, z1, z2, z3, z4, z5, z6, z7, z8, z9, z10⟩, _⟩ := HX.out (w4.alloc (.cells #[.int .i64 0, .bool false, .int .i64 0, .float .f64 0, .string ByteArray.empty, .slice none 0 0, .int .u64 0, .slice none 0 0, .slice none 0 0, .string ByteArray.empty, .int .i64 0] 29)) (HB4.out.alloc HB4.out.size _)
    go_wp2_with fail
    refine (HBu.out _ (HX.out (w4.alloc (.cells #[.int .i64 0, .bool false, .int .i64 0, .float .f64 0, .string ByteArray.empty, .slice none 0 0, .int .u64 0, .slice none 0 0, .slice none 0 0, .string ByteArray.empty, .int .i64 0] 29)) (HB4.out.alloc HB4.out.size _)).2).mono ?_
    rintro e w5 ⟨u5, rfl, hb5, hv5⟩
    have HC5 : Hid (Below (w4.alloc (.cells #[.int .i64 0, .bool false, .int .i64 0, .float .f64 0, .string ByteArray.empty, .slice none 0 0, .int .u64 0, .slice none 0 0, .slice none 0 0, .string ByteArray.empty, .int .i64 0] 29)).heap.size (w4.alloc (.cells #[.int .i64 0, .bool false, .int .i64 0, .float .f64 0, .string ByteArray.empty, .slice none 0 0, .int .u64 0, .slice none 0 0, .slice none 0 0, .string ByteArray.empty, .int .i64 0] 29)) w5) := hb5
    have HB5 : Hid (Below (w.alloc (.cells #[.int .i64 t.kind, .bool b2, .int .i64 i2, .float .f64 f2, .string tx2, vb2, .int .u64 rf2, vl2, vf2, .string c2, .int .i64 vr2] 29)).heap.size (w.alloc (.cells #[.int .i64 t.kind, .bool b2, .int .i64 i2, .float .f64 f2, .string tx2, vb2, .int .u64 rf2, vl2, vf2, .string c2, .int .i64 vr2] 29)) w5) := below_to (HB4.out.alloc HB4.out.size _) hb5
    have HV5 : Hid (t.V w5 (Lo w5.heap.size) u5) := t.V_same (Same.refl _ _) (fun k hk => hk.2) u5 hv5
    clear hb5 hv5 z0 z1 z2 z3 z4 z5 z6 z7 z8 z9 z10
    go_wp2_with fail
    refine (HPb.out w5 u5 HV5.out).mono ?_
    rintro e w6 ⟨rfl, hb6⟩
    have HC6 : Hid (Below (w4.alloc (.cells #[.int .i64 0, .bool false, .int .i64 0, .float .f64 0, .string ByteArray.empty, .slice none 0 0, .int .u64 0, .slice none 0 0, .slice none 0 0, .string ByteArray.empty, .int .i64 0] 29)).heap.size (w4.alloc (.cells #[.int .i64 0, .bool false, .int .i64 0, .float .f64 0, .string ByteArray.empty, .slice none 0 0, .int .u64 0, .slice none 0 0, .slice none 0 0, .string ByteArray.empty, .int .i64 0] 29)) w6) := below_to HC5.out hb6
    have HB6 : Hid (Below (w.alloc (.cells #[.int .i64 t.kind, .bool b2, .int .i64 i2, .float .f64 f2, .string tx2, vb2, .int .u64 rf2, vl2, vf2, .string c2, .int .i64 vr2] 29)).heap.size (w.alloc (.cells #[.int .i64 t.kind, .bool b2, .int .i64 i2, .float .f64 f2, .string tx2, vb2, .int .u64 rf2, vl2, vf2, .string c2, .int .i64 vr2] 29)) w6) := below_to HB5.out hb6
    clear hb6
    obtain ⟨⟨z0, z1, z2, z3, z4, z5, z6, z7, z8, z9, z10⟩, _⟩ := HX.out (w6.alloc (.cells #[.int .i64 0, .bool false, .int .i64 0, .float .f64 0, .string ByteArray.empty, .slice none 0 0, .int .u64 0, .slice none 0 0, .slice none 0 0, .string ByteArray.empty, .int .i64 0] 29)) (HB6.out.alloc HB6.out.size _)
    go_wp2_with fail
    refine (HRC.out _ (HX.out (w6.alloc (.cells #[.int .i64 0, .bool false, .int .i64 0, .float .f64 0, .string ByteArray.empty, .slice none 0 0, .int .u64 0, .slice none 0 0, .slice none 0 0, .string ByteArray.empty, .int .i64 0] 29)) (HB6.out.alloc HB6.out.size _)).2).mono ?_
    rintro e w7 ⟨rfl, hb7⟩
    have HC7 : Hid (Below (w4.alloc (.cells #[.int .i64 0, .bool false, .int .i64 0, .float .f64 0, .string ByteArray.empty, .slice none 0 0, .int .u64 0, .slice none 0 0, .slice none 0 0, .string ByteArray.empty, .int .i64 0] 29)).heap.size (w4.alloc (.cells #[.int .i64 0, .bool false, .int .i64 0, .float .f64 0, .string ByteArray.empty, .slice none 0 0, .int .u64 0, .slice none 0 0, .slice none 0 0, .string ByteArray.empty, .int .i64 0] 29)) w7) := below_to (HC6.out.alloc HC6.out.size _) hb7
    have HB7 : Hid (Below (w.alloc (.cells #[.int .i64 t.kind, .bool b2, .int .i64 i2, .float .f64 f2, .string tx2, vb2, .int .u64 rf2, vl2, vf2, .string c2, .int .i64 vr2] 29)).heap.size (w.alloc (.cells #[.int .i64 t.kind, .bool b2, .int .i64 i2, .float .f64 f2, .string tx2, vb2, .int .u64 rf2, vl2, vf2, .string c2, .int .i64 vr2] 29)) w7) := below_to (HB6.out.alloc HB6.out.size _) hb7
    clear hb7 z0 z1 z2 z3 z4 z5 z6 z7 z8 z9 z10
    obtain ⟨z0, z1, z2, z3, z4, z5, z6, z7, z8, z9, z10⟩ := tbox (w := w7) (g := w4.heap.size) ((HC7.out.block w4.heap.size (by simp)).trans (heap_alloc_new w4 _))
    go_wp2_with fail
    go_ret
    exact ⟨by simp, (HX.out w7 HB7.out).2⟩
end Go.Proofs.Ytdklpdclbedceaa

/- The walk of the statement TextPrints. -/
import Derived.Test.YtnndlffidifddaaGreatDoorK37
import Derived.Test.YtnndlffidifddaaGreatDoorK44
import Derived.Test.YtnndlffidifddaaGreatDoorK47
import Derived.Test.YtnndlffidifddaaGreatDoorK43
import Derived.Test.YtnndlffidifddaaGreatDoorK10
namespace Go.Proofs.YtnndlffidifddaaGreatDoor
open Go.RowKit

theorem Tm.In_kind {w : World} {B : Nat → Prop} {t : Tm} {cs : Array Value} (h : t.In w B cs) : ∃ b i f x ab nb cb r al nl cl af nf cf c v, cs = tcells t.kind b i f x (.slice ab nb cb) r (.slice al nl cl) (.slice af nf cf) c v := by
  cases t with
  | mk k b i f tx by' rf l fs c vr =>
    simp only [Tm.In] at h
    obtain ⟨_, _, _, _, _, _, rfl, _⟩ := h
    exact ⟨_, _, _, _, _, _, _, _, _, _, _, _, _, _, _, _, rfl⟩

set_option maxRecDepth 100000 in
set_option maxHeartbeats 4000000 in
theorem prints_ok (t : Tm) (cs : Array Value) (s : ByteArray) (f : Nat) (w : World) (h : t.In w (Lo w.heap.size) cs) (hs : s.size ≤ 1099511627776) (hf : f < 18446744073709551616) (he : EnvT w.heap.size w) (h0 : t.all.e = 0) :
    Calls Tryz.prog 3 #[.agg cs, .string s, .float .f64 f] w fun e w' => e = .returned (.bool true) ∧ Below w.heap.size w w' := by
  have hsub : ∀ W, Below w.heap.size w W → t.In W (Lo w.heap.size) cs := fun W hW => t.In_same (Same.of_below hW (Nat.le_refl _)) (fun _ hk => hk) cs h
  have HBd : Hid t.Bdd := Tm.In_bdd t cs h
  have HEn : Hid (∀ w1 W : World, Below w.heap.size w w1 → Below w1.heap.size w1 W → EnvT w1.heap.size W) := fun w1 W h1 hW => ((he.on h1).up h1.size).on hW
  have HEw : Hid (∀ W : World, Below w.heap.size w W → Tz W) := fun W hW => (he.on hW).2.2
  have HBu : Hid (∀ W, Below w.heap.size w W → Calls Tryz.prog 4 #[.agg cs] W fun e w' => ∃ v, e = .returned v ∧ Below W.heap.size W w' ∧ t.V w' (Fr W w') v) := fun W hW => (built_any t.sz) t (Nat.le_refl _) cs (Lo w.heap.size) W (hsub W hW) (fun k hk => Nat.lt_of_lt_of_le hk hW.size)
  have HRp : Hid (∀ ln W, Below w.heap.size w W → Calls Tryz.prog 6 #[.agg cs, .bool ln] W fun e w' => e = .returned (.tuple #[.string ⟨(t.told ln).toArray⟩, .int .i64 t.all.e]) ∧ Below W.heap.size W w') := fun ln W hW => trPrint_any t cs ln w.heap.size W hW.size (hsub W hW)
  have HCl : Hid (t.all.e = 0 → ∀ W, Below w.heap.size w W → Calls Tryz.prog 9 #[.agg cs] W fun e w' => ∃ k b i f tx ab nb cb rf al nl cl af nf cf c vr, e = .returned (.agg (tcells k b i f tx (.slice ab nb cb) rf (.slice al nl cl) (.slice af nf cf) c vr)) ∧ Below W.heap.size W w' ∧ t.clean.In w' (Fr W w') (tcells k b i f tx (.slice ab nb cb) rf (.slice al nl cl) (.slice af nf cf) c vr)) := fun h0 W hW => (clean_any t.sz).at (Nat.le_refl _) h (fun _ hk => hk) (Tm.ok_all h0) W hW
  have HQ : Hid (∀ W, Calls Tryz.prog 10 #[.string s] W fun e w' => e = .returned (.string ⟨(Sp.quote s).toArray⟩) ∧ Below W.heap.size W w') := fun W => Quote_any s W hs
  have HRQ : Hid (∀ W, Calls Tryz.prog 11 #[.string s] W fun e w' => e = .returned (.string ⟨(Sp.quote s).toArray⟩) ∧ Below W.heap.size W w') := fun W => rQuote_any s W hs
  have HF : Hid (∀ W, Below w.heap.size w W → Calls Tryz.prog 12 #[.float .f64 f] W fun e w' => e = .returned (.string ⟨(Sp.floatT f).toArray⟩) ∧ Below W.heap.size W w') := fun W hW => Float_any f W hf (HEw.out W hW)
  have HRF : Hid (∀ W, Calls Tryz.prog 13 #[.float .f64 f] W fun e w' => e = .returned (.string ⟨(Sp.floatT f).toArray⟩) ∧ Below W.heap.size W w') := fun W => rFloat_any f W hf
  obtain ⟨b, i, f0, tx, ab, nb, cb, rf, al, nl, cl, af, nf, cf, c, vr, rfl⟩ := Tm.In_kind h
  have HX : Hid (∀ W, Below (w.alloc (.cells (tcells t.kind b i f0 tx (.slice ab nb cb) rf (.slice al nl cl) (.slice af nf cf) c vr) 29)).heap.size (w.alloc (.cells (tcells t.kind b i f0 tx (.slice ab nb cb) rf (.slice al nl cl) (.slice af nf cf) c vr) 29)) W → W.heap[w.heap.size]? = some (.cells (tcells t.kind b i f0 tx (.slice ab nb cb) rf (.slice al nl cl) (.slice af nf cf) c vr) 29 (0, 0)) ∧ Below w.heap.size w W) := fun W hW => ⟨by rw [hW.block w.heap.size (by simp)]; exact heap_alloc_new w _, below_to ((Below.refl _ _).alloc (Nat.le_refl _) _) hW⟩
  clear h hsub he hs hf
  have HHB : Hid (∀ w1, Below (w.alloc (.cells (tcells t.kind b i f0 tx (.slice ab nb cb) rf (.slice al nl cl) (.slice af nf cf) c vr) 29)).heap.size (w.alloc (.cells (tcells t.kind b i f0 tx (.slice ab nb cb) rf (.slice al nl cl) (.slice af nf cf) c vr) 29)) w1 → ∀ W, Below w1.heap.size w1 W → (W.heap[w.heap.size]? = some (.cells (tcells t.kind b i f0 tx (.slice ab nb cb) rf (.slice al nl cl) (.slice af nf cf) c vr) 29 (0, 0)) ∧ Below w.heap.size w W)) := fun w1 hb1 W hW => HX.out W (hb1.trans (hW.mono hb1.size))
  have hkn : (t.kind != 0) = true := by
    have := Sp.ent_zero (Tm.own_ent t 0 1 (by
      cases t with
      | mk k b i f tx by' rf l fs c vr =>
        have h1 : ((Tm.mk k b i f tx by' rf l fs c vr).wk 1 0 0).e = 0 := h0
        by_cases e : (Tm.mk k b i f tx by' rf l fs c vr).own 0 1 ≠ 0
        · rw [Tm.wk, if_pos e] at h1; exact absurd h1 e
        · exact Decidable.not_not.1 e))
    simp only [bne_iff_ne, ne_eq]; omega
  have HCl' := HCl.out h0
  have HCl' : Hid _ := HCl'
  have HE0 : Hid (t.all.e = 0) := h0
  rw [h0] at HRp
  clear h0 HCl
  unfold tcells at HRp HX HHB HBu ⊢
  unfold tcells at HCl'
  go_enter Tryz.func3, Tryz.ntmps3
  go_wp2_with fail
  refine (HBu.out _ (HX.out _ (Below.refl _ _)).2).mono ?_
  rintro e w1 ⟨v, rfl, hb1, hv1⟩
  have HBX := HHB.out w1 hb1
  have HBX : Hid _ := HBX
  have HB1 : Hid (Below w.heap.size w w1) := (HX.out _ hb1).2
  have HV : Hid (∀ W, Below w1.heap.size w1 W → t.V W (Lo w1.heap.size) v) := fun W hW => t.V_same (fun k hk => hW.block k hk.2) (fun k hk => hk.2) v hv1
  have HPr : Hid (∀ W, Below w1.heap.size w1 W → Calls Tryz.prog 5 #[v] W fun e w' => e = .returned (.tuple #[.string ⟨(t.told false).toArray⟩, .int .i64 0]) ∧ Below W.heap.size W w') := fun W hW => by
    have := tPrint_any t v w1.heap.size W hW.size (HV.out W hW) HBd.out (HEn.out w1 W HB1.out hW)
    rw [HE0.out] at this
    exact this
  have HLi : Hid (∀ W, Below w1.heap.size w1 W → Calls Tryz.prog 7 #[v] W fun e w' => e = .returned (.tuple #[.string ⟨(t.told true).toArray⟩, .int .i64 0]) ∧ Below W.heap.size W w') := fun W hW => by
    have := tLines_any t v w1.heap.size W hW.size (HV.out W hW) HBd.out (HEn.out w1 W HB1.out hW)
    rw [HE0.out] at this
    exact this
  have HIs : Hid (∀ W ct, Below w1.heap.size w1 W → t.clean.In W (Lo W.heap.size) ct → t.all.e = 0 → Calls Tryz.prog 8 #[v, .agg ct] W fun e w' => e = .returned (.bool true) ∧ Below W.heap.size W w') := fun W ct hW hi he0 => Is_any t.clean v ct W (Lo W.heap.size) (t.clean.V_same (Same.refl _ _) (Lo.le hW.size) v (Tm.V_clean t v (HV.out W hW))) hi (fun _ hk => hk) (by rw [Tm.clean_all]; exact he0)
  clear hv1 hb1
  go_wp2_with fail
  refine (HPr.out w1 (Below.refl _ _)).mono ?_
  rintro e w2 ⟨rfl, hb2⟩
  have HB12 : Hid (Below w1.heap.size w1 w2) := hb2
  obtain ⟨r0, r1, r2, r3, r4, r5, r6, r7, r8, r9, r10⟩ := tbox (HBX.out _ hb2).1
  clear hb2
  go_wp2_with fail
  refine (HRp.out false w2 (below_to HB1.out HB12.out)).mono ?_
  rintro e w3 ⟨rfl, hb3⟩
  have HB13 : Hid (Below w1.heap.size w1 w3) := below_to HB12.out hb3
  clear hb3 r0 r1 r2 r3 r4 r5 r6 r7 r8 r9 r10
  go_wp2_with fail
  refine (HLi.out w3 HB13.out).mono ?_
  rintro e w4 ⟨rfl, hb4⟩
  have HB14 : Hid (Below w1.heap.size w1 w4) := below_to HB13.out hb4
  obtain ⟨r0, r1, r2, r3, r4, r5, r6, r7, r8, r9, r10⟩ := tbox (HBX.out _ HB14.out).1
  clear hb4
  go_wp2_with fail
  refine (HRp.out true w4 (below_to HB1.out HB14.out)).mono ?_
  rintro e w5 ⟨rfl, hb5⟩
  have HB15 : Hid (Below w1.heap.size w1 w5) := below_to HB14.out hb5
  have HB5 : Hid (Below w.heap.size w w5) := below_to HB1.out HB15.out
  clear hb5 r0 r1 r2 r3 r4 r5 r6 r7 r8 r9 r10
  obtain ⟨r0, r1, r2, r3, r4, r5, r6, r7, r8, r9, r10⟩ := tbox (HBX.out _ HB15.out).1
  go_wp2_with fail
  refine (HCl'.out w5 HB5.out).mono ?_
  rintro e w6 ⟨kc, bc, ic, fc, txc, abc, nbc, cbc, rfc, alc, nlc, clc, afc, nfc, cfc, cc, vrc, rfl, hb6, hc6⟩
  have HB6 : Hid (Below w.heap.size w w6) := below_to HB5.out hb6
  have HI6 : Hid (Calls Tryz.prog 8 #[v, .agg (tcells kc bc ic fc txc (.slice abc nbc cbc) rfc (.slice alc nlc clc) (.slice afc nfc cfc) cc vrc)] w6 fun e w' => e = .returned (.bool true) ∧ Below w6.heap.size w6 w') := HIs.out w6 _ (below_to HB15.out hb6) (t.clean.In_same (Same.refl _ _) (fun k hk => hk.2) _ hc6) HE0.out
  unfold tcells at HI6
  clear hb6 hc6
  go_wp2_with fail
  refine HI6.out.mono ?_
  rintro e w7 ⟨rfl, hb7⟩
  have HB7 : Hid (Below w.heap.size w w7) := below_to HB6.out hb7
  clear hb7
  go_wp2_with fail
  refine (HQ.out w7).mono ?_
  rintro e wa ⟨rfl, hba⟩
  have HBa : Hid (Below w.heap.size w wa) := below_to HB7.out hba
  clear hba
  go_wp2_with fail
  refine (HRQ.out wa).mono ?_
  rintro e wb ⟨rfl, hbb⟩
  have HBb : Hid (Below w.heap.size w wb) := below_to HBa.out hbb
  clear hbb
  go_wp2_with fail
  refine (HF.out wb HBb.out).mono ?_
  rintro e wc ⟨rfl, hbc⟩
  have HBc : Hid (Below w.heap.size w wc) := below_to HBb.out hbc
  clear hbc
  go_wp2_with fail
  refine (HRF.out wc).mono ?_
  rintro e wd ⟨rfl, hbd⟩
  have HBd2 : Hid (Below w.heap.size w wd) := below_to HBc.out hbd
  clear hbd
  go_wp2_with fail
  go_ret
  exact ⟨rfl, HBd2.out⟩

set_option maxRecDepth 100000 in
set_option maxHeartbeats 4000000 in
theorem prints_bad0 (t : Tm) (cs : Array Value) (s : ByteArray) (f : Nat) (w : World) (h : t.In w (Lo w.heap.size) cs) (hs : s.size ≤ 1099511627776) (hf : f < 18446744073709551616) (he : EnvT w.heap.size w) (h0 : t.all.e ≠ 0) (hk : t.kind = 0) :
    Calls Tryz.prog 3 #[.agg cs, .string s, .float .f64 f] w fun e w' => e = .returned (.bool true) ∧ Below w.heap.size w w' := by
  have hsub : ∀ W, Below w.heap.size w W → t.In W (Lo w.heap.size) cs := fun W hW => t.In_same (Same.of_below hW (Nat.le_refl _)) (fun _ hk => hk) cs h
  have HBd : Hid t.Bdd := Tm.In_bdd t cs h
  have HEn : Hid (∀ w1 W : World, Below w.heap.size w w1 → Below w1.heap.size w1 W → EnvT w1.heap.size W) := fun w1 W h1 hW => ((he.on h1).up h1.size).on hW
  have HEw : Hid (∀ W : World, Below w.heap.size w W → Tz W) := fun W hW => (he.on hW).2.2
  have HBu : Hid (∀ W, Below w.heap.size w W → Calls Tryz.prog 4 #[.agg cs] W fun e w' => ∃ v, e = .returned v ∧ Below W.heap.size W w' ∧ t.V w' (Fr W w') v) := fun W hW => (built_any t.sz) t (Nat.le_refl _) cs (Lo w.heap.size) W (hsub W hW) (fun k hk => Nat.lt_of_lt_of_le hk hW.size)
  have HRp : Hid (∀ ln W, Below w.heap.size w W → Calls Tryz.prog 6 #[.agg cs, .bool ln] W fun e w' => e = .returned (.tuple #[.string ⟨(t.told ln).toArray⟩, .int .i64 t.all.e]) ∧ Below W.heap.size W w') := fun ln W hW => trPrint_any t cs ln w.heap.size W hW.size (hsub W hW)
  have HCl : Hid (t.all.e = 0 → ∀ W, Below w.heap.size w W → Calls Tryz.prog 9 #[.agg cs] W fun e w' => ∃ k b i f tx ab nb cb rf al nl cl af nf cf c vr, e = .returned (.agg (tcells k b i f tx (.slice ab nb cb) rf (.slice al nl cl) (.slice af nf cf) c vr)) ∧ Below W.heap.size W w' ∧ t.clean.In w' (Fr W w') (tcells k b i f tx (.slice ab nb cb) rf (.slice al nl cl) (.slice af nf cf) c vr)) := fun h0 W hW => (clean_any t.sz).at (Nat.le_refl _) h (fun _ hk => hk) (Tm.ok_all h0) W hW
  have HQ : Hid (∀ W, Calls Tryz.prog 10 #[.string s] W fun e w' => e = .returned (.string ⟨(Sp.quote s).toArray⟩) ∧ Below W.heap.size W w') := fun W => Quote_any s W hs
  have HRQ : Hid (∀ W, Calls Tryz.prog 11 #[.string s] W fun e w' => e = .returned (.string ⟨(Sp.quote s).toArray⟩) ∧ Below W.heap.size W w') := fun W => rQuote_any s W hs
  have HF : Hid (∀ W, Below w.heap.size w W → Calls Tryz.prog 12 #[.float .f64 f] W fun e w' => e = .returned (.string ⟨(Sp.floatT f).toArray⟩) ∧ Below W.heap.size W w') := fun W hW => Float_any f W hf (HEw.out W hW)
  have HRF : Hid (∀ W, Calls Tryz.prog 13 #[.float .f64 f] W fun e w' => e = .returned (.string ⟨(Sp.floatT f).toArray⟩) ∧ Below W.heap.size W w') := fun W => rFloat_any f W hf
  obtain ⟨b, i, f0, tx, ab, nb, cb, rf, al, nl, cl, af, nf, cf, c, vr, rfl⟩ := Tm.In_kind h
  have HX : Hid (∀ W, Below (w.alloc (.cells (tcells t.kind b i f0 tx (.slice ab nb cb) rf (.slice al nl cl) (.slice af nf cf) c vr) 29)).heap.size (w.alloc (.cells (tcells t.kind b i f0 tx (.slice ab nb cb) rf (.slice al nl cl) (.slice af nf cf) c vr) 29)) W → W.heap[w.heap.size]? = some (.cells (tcells t.kind b i f0 tx (.slice ab nb cb) rf (.slice al nl cl) (.slice af nf cf) c vr) 29 (0, 0)) ∧ Below w.heap.size w W) := fun W hW => ⟨by rw [hW.block w.heap.size (by simp)]; exact heap_alloc_new w _, below_to ((Below.refl _ _).alloc (Nat.le_refl _) _) hW⟩
  clear h hsub he hs hf
  have HHB : Hid (∀ w1, Below (w.alloc (.cells (tcells t.kind b i f0 tx (.slice ab nb cb) rf (.slice al nl cl) (.slice af nf cf) c vr) 29)).heap.size (w.alloc (.cells (tcells t.kind b i f0 tx (.slice ab nb cb) rf (.slice al nl cl) (.slice af nf cf) c vr) 29)) w1 → ∀ W, Below w1.heap.size w1 W → (W.heap[w.heap.size]? = some (.cells (tcells t.kind b i f0 tx (.slice ab nb cb) rf (.slice al nl cl) (.slice af nf cf) c vr) 29 (0, 0)) ∧ Below w.heap.size w W)) := fun w1 hb1 W hW => HX.out W (hb1.trans (hW.mono hb1.size))
  have h0' := ne_bool h0
  have h0e : (t.all.e == 0) = false := by simpa using h0
  have hkn : (t.kind != 0) = false := by simp [hk]
  clear h0 HCl hk
  unfold tcells at HRp HX HHB HBu ⊢
  go_enter Tryz.func3, Tryz.ntmps3
  go_wp2_with fail
  refine (HBu.out _ (HX.out _ (Below.refl _ _)).2).mono ?_
  rintro e w1 ⟨v, rfl, hb1, hv1⟩
  have HBX := HHB.out w1 hb1
  have HBX : Hid _ := HBX
  have HB1 : Hid (Below w.heap.size w w1) := (HX.out _ hb1).2
  have HV : Hid (∀ W, Below w1.heap.size w1 W → t.V W (Lo w1.heap.size) v) := fun W hW => t.V_same (fun k hk => hW.block k hk.2) (fun k hk => hk.2) v hv1
  have HPr : Hid (∀ W, Below w1.heap.size w1 W → Calls Tryz.prog 5 #[v] W fun e w' => e = .returned (.tuple #[.string ⟨(t.told false).toArray⟩, .int .i64 t.all.e]) ∧ Below W.heap.size W w') := fun W hW => by
    have := tPrint_any t v w1.heap.size W hW.size (HV.out W hW) HBd.out (HEn.out w1 W HB1.out hW)
    skip
    exact this
  have HLi : Hid (∀ W, Below w1.heap.size w1 W → Calls Tryz.prog 7 #[v] W fun e w' => e = .returned (.tuple #[.string ⟨(t.told true).toArray⟩, .int .i64 t.all.e]) ∧ Below W.heap.size W w') := fun W hW => by
    have := tLines_any t v w1.heap.size W hW.size (HV.out W hW) HBd.out (HEn.out w1 W HB1.out hW)
    skip
    exact this
  have HIs : Hid (∀ W ct, Below w1.heap.size w1 W → t.clean.In W (Lo W.heap.size) ct → t.all.e = 0 → Calls Tryz.prog 8 #[v, .agg ct] W fun e w' => e = .returned (.bool true) ∧ Below W.heap.size W w') := fun W ct hW hi he0 => Is_any t.clean v ct W (Lo W.heap.size) (t.clean.V_same (Same.refl _ _) (Lo.le hW.size) v (Tm.V_clean t v (HV.out W hW))) hi (fun _ hk => hk) (by rw [Tm.clean_all]; exact he0)
  clear hv1 hb1
  go_wp2_with fail
  refine (HPr.out w1 (Below.refl _ _)).mono ?_
  rintro e w2 ⟨rfl, hb2⟩
  have HB12 : Hid (Below w1.heap.size w1 w2) := hb2
  obtain ⟨r0, r1, r2, r3, r4, r5, r6, r7, r8, r9, r10⟩ := tbox (HBX.out _ hb2).1
  clear hb2
  go_wp2_with fail
  refine (HRp.out false w2 (below_to HB1.out HB12.out)).mono ?_
  rintro e w3 ⟨rfl, hb3⟩
  have HB13 : Hid (Below w1.heap.size w1 w3) := below_to HB12.out hb3
  clear hb3 r0 r1 r2 r3 r4 r5 r6 r7 r8 r9 r10
  go_wp2_with fail
  refine (HLi.out w3 HB13.out).mono ?_
  rintro e w4 ⟨rfl, hb4⟩
  have HB14 : Hid (Below w1.heap.size w1 w4) := below_to HB13.out hb4
  obtain ⟨r0, r1, r2, r3, r4, r5, r6, r7, r8, r9, r10⟩ := tbox (HBX.out _ HB14.out).1
  clear hb4
  go_wp2_with fail
  refine (HRp.out true w4 (below_to HB1.out HB14.out)).mono ?_
  rintro e w5 ⟨rfl, hb5⟩
  have HB15 : Hid (Below w1.heap.size w1 w5) := below_to HB14.out hb5
  have HB5 : Hid (Below w.heap.size w w5) := below_to HB1.out HB15.out
  clear hb5 r0 r1 r2 r3 r4 r5 r6 r7 r8 r9 r10
  obtain ⟨r0, r1, r2, r3, r4, r5, r6, r7, r8, r9, r10⟩ := tbox (HBX.out _ HB15.out).1
  go_wp2_with fail
  refine (HQ.out w5).mono ?_
  rintro e wa ⟨rfl, hba⟩
  have HBa : Hid (Below w.heap.size w wa) := below_to HB5.out hba
  clear hba
  go_wp2_with fail
  refine (HRQ.out wa).mono ?_
  rintro e wb ⟨rfl, hbb⟩
  have HBb : Hid (Below w.heap.size w wb) := below_to HBa.out hbb
  clear hbb
  go_wp2_with fail
  refine (HF.out wb HBb.out).mono ?_
  rintro e wc ⟨rfl, hbc⟩
  have HBc : Hid (Below w.heap.size w wc) := below_to HBb.out hbc
  clear hbc
  go_wp2_with fail
  refine (HRF.out wc).mono ?_
  rintro e wd ⟨rfl, hbd⟩
  have HBd2 : Hid (Below w.heap.size w wd) := below_to HBc.out hbd
  clear hbd
  go_wp2_with fail
  go_ret
  exact ⟨rfl, HBd2.out⟩

set_option maxRecDepth 100000 in
set_option maxHeartbeats 4000000 in
theorem prints_bad1 (t : Tm) (cs : Array Value) (s : ByteArray) (f : Nat) (w : World) (h : t.In w (Lo w.heap.size) cs) (hs : s.size ≤ 1099511627776) (hf : f < 18446744073709551616) (he : EnvT w.heap.size w) (h0 : t.all.e ≠ 0) (hk : t.kind ≠ 0) :
    Calls Tryz.prog 3 #[.agg cs, .string s, .float .f64 f] w fun e w' => e = .returned (.bool true) ∧ Below w.heap.size w w' := by
  have hsub : ∀ W, Below w.heap.size w W → t.In W (Lo w.heap.size) cs := fun W hW => t.In_same (Same.of_below hW (Nat.le_refl _)) (fun _ hk => hk) cs h
  have HBd : Hid t.Bdd := Tm.In_bdd t cs h
  have HEn : Hid (∀ w1 W : World, Below w.heap.size w w1 → Below w1.heap.size w1 W → EnvT w1.heap.size W) := fun w1 W h1 hW => ((he.on h1).up h1.size).on hW
  have HEw : Hid (∀ W : World, Below w.heap.size w W → Tz W) := fun W hW => (he.on hW).2.2
  have HBu : Hid (∀ W, Below w.heap.size w W → Calls Tryz.prog 4 #[.agg cs] W fun e w' => ∃ v, e = .returned v ∧ Below W.heap.size W w' ∧ t.V w' (Fr W w') v) := fun W hW => (built_any t.sz) t (Nat.le_refl _) cs (Lo w.heap.size) W (hsub W hW) (fun k hk => Nat.lt_of_lt_of_le hk hW.size)
  have HRp : Hid (∀ ln W, Below w.heap.size w W → Calls Tryz.prog 6 #[.agg cs, .bool ln] W fun e w' => e = .returned (.tuple #[.string ⟨(t.told ln).toArray⟩, .int .i64 t.all.e]) ∧ Below W.heap.size W w') := fun ln W hW => trPrint_any t cs ln w.heap.size W hW.size (hsub W hW)
  have HCl : Hid (t.all.e = 0 → ∀ W, Below w.heap.size w W → Calls Tryz.prog 9 #[.agg cs] W fun e w' => ∃ k b i f tx ab nb cb rf al nl cl af nf cf c vr, e = .returned (.agg (tcells k b i f tx (.slice ab nb cb) rf (.slice al nl cl) (.slice af nf cf) c vr)) ∧ Below W.heap.size W w' ∧ t.clean.In w' (Fr W w') (tcells k b i f tx (.slice ab nb cb) rf (.slice al nl cl) (.slice af nf cf) c vr)) := fun h0 W hW => (clean_any t.sz).at (Nat.le_refl _) h (fun _ hk => hk) (Tm.ok_all h0) W hW
  have HQ : Hid (∀ W, Calls Tryz.prog 10 #[.string s] W fun e w' => e = .returned (.string ⟨(Sp.quote s).toArray⟩) ∧ Below W.heap.size W w') := fun W => Quote_any s W hs
  have HRQ : Hid (∀ W, Calls Tryz.prog 11 #[.string s] W fun e w' => e = .returned (.string ⟨(Sp.quote s).toArray⟩) ∧ Below W.heap.size W w') := fun W => rQuote_any s W hs
  have HF : Hid (∀ W, Below w.heap.size w W → Calls Tryz.prog 12 #[.float .f64 f] W fun e w' => e = .returned (.string ⟨(Sp.floatT f).toArray⟩) ∧ Below W.heap.size W w') := fun W hW => Float_any f W hf (HEw.out W hW)
  have HRF : Hid (∀ W, Calls Tryz.prog 13 #[.float .f64 f] W fun e w' => e = .returned (.string ⟨(Sp.floatT f).toArray⟩) ∧ Below W.heap.size W w') := fun W => rFloat_any f W hf
  obtain ⟨b, i, f0, tx, ab, nb, cb, rf, al, nl, cl, af, nf, cf, c, vr, rfl⟩ := Tm.In_kind h
  have HX : Hid (∀ W, Below (w.alloc (.cells (tcells t.kind b i f0 tx (.slice ab nb cb) rf (.slice al nl cl) (.slice af nf cf) c vr) 29)).heap.size (w.alloc (.cells (tcells t.kind b i f0 tx (.slice ab nb cb) rf (.slice al nl cl) (.slice af nf cf) c vr) 29)) W → W.heap[w.heap.size]? = some (.cells (tcells t.kind b i f0 tx (.slice ab nb cb) rf (.slice al nl cl) (.slice af nf cf) c vr) 29 (0, 0)) ∧ Below w.heap.size w W) := fun W hW => ⟨by rw [hW.block w.heap.size (by simp)]; exact heap_alloc_new w _, below_to ((Below.refl _ _).alloc (Nat.le_refl _) _) hW⟩
  clear h hsub he hs hf
  have HHB : Hid (∀ w1, Below (w.alloc (.cells (tcells t.kind b i f0 tx (.slice ab nb cb) rf (.slice al nl cl) (.slice af nf cf) c vr) 29)).heap.size (w.alloc (.cells (tcells t.kind b i f0 tx (.slice ab nb cb) rf (.slice al nl cl) (.slice af nf cf) c vr) 29)) w1 → ∀ W, Below w1.heap.size w1 W → (W.heap[w.heap.size]? = some (.cells (tcells t.kind b i f0 tx (.slice ab nb cb) rf (.slice al nl cl) (.slice af nf cf) c vr) 29 (0, 0)) ∧ Below w.heap.size w W)) := fun w1 hb1 W hW => HX.out W (hb1.trans (hW.mono hb1.size))
  have h0' := ne_bool h0
  have h0e : (t.all.e == 0) = false := by simpa using h0
  have hkn : (t.kind != 0) = true := by simp [hk]
  clear h0 HCl hk
  unfold tcells at HRp HX HHB HBu ⊢
  go_enter Tryz.func3, Tryz.ntmps3
  go_wp2_with fail
  refine (HBu.out _ (HX.out _ (Below.refl _ _)).2).mono ?_
  rintro e w1 ⟨v, rfl, hb1, hv1⟩
  have HBX := HHB.out w1 hb1
  have HBX : Hid _ := HBX
  have HB1 : Hid (Below w.heap.size w w1) := (HX.out _ hb1).2
  have HV : Hid (∀ W, Below w1.heap.size w1 W → t.V W (Lo w1.heap.size) v) := fun W hW => t.V_same (fun k hk => hW.block k hk.2) (fun k hk => hk.2) v hv1
  have HPr : Hid (∀ W, Below w1.heap.size w1 W → Calls Tryz.prog 5 #[v] W fun e w' => e = .returned (.tuple #[.string ⟨(t.told false).toArray⟩, .int .i64 t.all.e]) ∧ Below W.heap.size W w') := fun W hW => by
    have := tPrint_any t v w1.heap.size W hW.size (HV.out W hW) HBd.out (HEn.out w1 W HB1.out hW)
    skip
    exact this
  have HLi : Hid (∀ W, Below w1.heap.size w1 W → Calls Tryz.prog 7 #[v] W fun e w' => e = .returned (.tuple #[.string ⟨(t.told true).toArray⟩, .int .i64 t.all.e]) ∧ Below W.heap.size W w') := fun W hW => by
    have := tLines_any t v w1.heap.size W hW.size (HV.out W hW) HBd.out (HEn.out w1 W HB1.out hW)
    skip
    exact this
  have HIs : Hid (∀ W ct, Below w1.heap.size w1 W → t.clean.In W (Lo W.heap.size) ct → t.all.e = 0 → Calls Tryz.prog 8 #[v, .agg ct] W fun e w' => e = .returned (.bool true) ∧ Below W.heap.size W w') := fun W ct hW hi he0 => Is_any t.clean v ct W (Lo W.heap.size) (t.clean.V_same (Same.refl _ _) (Lo.le hW.size) v (Tm.V_clean t v (HV.out W hW))) hi (fun _ hk => hk) (by rw [Tm.clean_all]; exact he0)
  clear hv1 hb1
  go_wp2_with fail
  refine (HPr.out w1 (Below.refl _ _)).mono ?_
  rintro e w2 ⟨rfl, hb2⟩
  have HB12 : Hid (Below w1.heap.size w1 w2) := hb2
  obtain ⟨r0, r1, r2, r3, r4, r5, r6, r7, r8, r9, r10⟩ := tbox (HBX.out _ hb2).1
  clear hb2
  go_wp2_with fail
  refine (HRp.out false w2 (below_to HB1.out HB12.out)).mono ?_
  rintro e w3 ⟨rfl, hb3⟩
  have HB13 : Hid (Below w1.heap.size w1 w3) := below_to HB12.out hb3
  clear hb3 r0 r1 r2 r3 r4 r5 r6 r7 r8 r9 r10
  go_wp2_with fail
  refine (HLi.out w3 HB13.out).mono ?_
  rintro e w4 ⟨rfl, hb4⟩
  have HB14 : Hid (Below w1.heap.size w1 w4) := below_to HB13.out hb4
  obtain ⟨r0, r1, r2, r3, r4, r5, r6, r7, r8, r9, r10⟩ := tbox (HBX.out _ HB14.out).1
  clear hb4
  go_wp2_with fail
  refine (HRp.out true w4 (below_to HB1.out HB14.out)).mono ?_
  rintro e w5 ⟨rfl, hb5⟩
  have HB15 : Hid (Below w1.heap.size w1 w5) := below_to HB14.out hb5
  have HB5 : Hid (Below w.heap.size w w5) := below_to HB1.out HB15.out
  clear hb5 r0 r1 r2 r3 r4 r5 r6 r7 r8 r9 r10
  obtain ⟨r0, r1, r2, r3, r4, r5, r6, r7, r8, r9, r10⟩ := tbox (HBX.out _ HB15.out).1
  go_wp2_with fail
  refine (HQ.out w5).mono ?_
  rintro e wa ⟨rfl, hba⟩
  have HBa : Hid (Below w.heap.size w wa) := below_to HB5.out hba
  clear hba
  go_wp2_with fail
  refine (HRQ.out wa).mono ?_
  rintro e wb ⟨rfl, hbb⟩
  have HBb : Hid (Below w.heap.size w wb) := below_to HBa.out hbb
  clear hbb
  go_wp2_with fail
  refine (HF.out wb HBb.out).mono ?_
  rintro e wc ⟨rfl, hbc⟩
  have HBc : Hid (Below w.heap.size w wc) := below_to HBb.out hbc
  clear hbc
  go_wp2_with fail
  refine (HRF.out wc).mono ?_
  rintro e wd ⟨rfl, hbd⟩
  have HBd2 : Hid (Below w.heap.size w wd) := below_to HBc.out hbd
  clear hbd
  go_wp2_with fail
  go_ret
  exact ⟨rfl, HBd2.out⟩

theorem prints_any (t : Tm) (cs : Array Value) (s : ByteArray) (f : Nat) (w : World) (h : t.In w (Lo w.heap.size) cs) (hs : s.size ≤ 1099511627776) (hf : f < 18446744073709551616) (he : EnvT w.heap.size w) :
    Calls Tryz.prog 3 #[.agg cs, .string s, .float .f64 f] w fun e w' => e = .returned (.bool true) ∧ Below w.heap.size w w' := by
  by_cases h0 : t.all.e = 0
  · exact prints_ok t cs s f w h hs hf he h0
  · by_cases hk : t.kind = 0
    · exact prints_bad0 t cs s f w h hs hf he h0 hk
    · exact prints_bad1 t cs s f w h hs hf he h0 hk
end Go.Proofs.YtnndlffidifddaaGreatDoor


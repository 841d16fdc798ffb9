/- The reader's fields where something is wrong. -/
import Derived.Test.YtmmiiapfefmcjaaA36
namespace Go.Proofs.Ytmmiiapfefmcjaa
open Go.RowKit

/-- the contract of the reader's value where it can't be read, so deep -/
def VB (xs : List Int) (f : Nat) : Prop := ∀ (b : Nat) (a : Option Addr) (cap at' p : Nat) (q : Nat) (er : Int) (w : World) (d : Int), d = 65 - (f : Int) → Rdr w b a xs cap at' p → Sp.rdV xs f at' p = .bad q er →
  Calls Try.prog 83 #[.pointer (some ⟨b, 0, none⟩), .int .i64 d] w fun x w' => x = Flt q er ∧ But b w w'

theorem rdF_rest {xs : List Int} {start j : Nat} {s0 : List Int} {step : Nat → Nat → Rs (Tm × Nat)} {a0 pp q : Nat} {er : Int} (h : (match step a0 pp with
    | .bad q e => Rs.bad q e
    | .ok (t, p1) a1 => match Sp.rdF xs start step j s0 a1 p1 with
      | .bad q e => .bad q e
      | .ok (l, p2) a2 => .ok (TmF.cons (Sp.txt s0) t l, p2) a2) = .bad q er) : step a0 pp = .bad q er ∨ ∃ t p1 a1, step a0 pp = .ok (t, p1) a1 ∧ Sp.rdF xs start step j s0 a1 p1 = .bad q er := by
  cases hv : step a0 pp with
  | bad q1 e1 => rw [hv] at h; injection h with e1 e2; subst e1; subst e2; exact .inl rfl
  | ok tp a1 =>
    obtain ⟨t, p1⟩ := tp
    rw [hv] at h
    simp only at h
    refine .inr ⟨t, p1, a1, rfl, ?_⟩
    cases hq : Sp.rdF xs start step j s0 a1 p1 with
    | bad q e => rw [hq] at h; exact h
    | ok lp a3 => rw [hq] at h; simp at h

set_option maxRecDepth 100000 in
set_option maxHeartbeats 4000000 in
theorem dfields_bad (f : Nat) (xs : List Int) (hby : By xs) (HC : VC xs f) (HV : VB xs f) (start : Nat) (depth : Int) (hd : depth + 1 = 65 - (f : Int)) (hf : f ≤ 64) (b : Nat) (a : Option Addr) (cap at' p : Nat) (q : Nat) (er : Int) (w : World) (h : Rdr w b a xs cap at' p) (hr : Sp.rdD xs start (Sp.rdV xs f) at' p = .bad q er) :
    Calls Try.prog 114 #[.pointer (some ⟨b, 0, none⟩), .int .i64 (start : Int), .int .i64 depth] w fun x w' => x = Flt q er ∧ But b w w' := by
  unfold Sp.rdD at hr
  cases hc : Sp.cnt xs at' start 4096 with
  | bad q1 e1 =>
    rw [hc] at hr
    injection hr with e1 e2; subst e1; subst e2
    have HCT : Hid (Calls Try.prog 113 #[.pointer (some ⟨b, 0, none⟩), .int .i64 (start : Int), .int .i64 4096] w fun x w' => x = Flt q1 e1 ∧ But b w w') := count_bad _ _ start 4096 (by decide) b a xs cap at' p w h hby hc
    clear h hc HC HV hby
    go_enter Try.func114, Try.ntmps114
    go_wp2_with fail
    refine HCT.out.mono ?_
    rintro e w1 ⟨rfl, hb1⟩
    exact ⟨rfl, rfl, hb1⟩
  | ok n a1 =>
    rw [hc] at hr
    simp only at hr
    obtain ⟨hrn, hn4⟩ := cnt_ok hc
    have HCT : Hid (Calls Try.prog 113 #[.pointer (some ⟨b, 0, none⟩), .int .i64 (start : Int), .int .i64 4096] w fun e w' => e = .returned (.int .i64 (n : Int)) ∧ Rdr w' b a xs cap a1 p ∧ But b w w') := count_ok n a1 start 4096 b a xs cap at' p w h hby hrn hn4 (by decide)
    have HR : Hid (Sp.rdF xs start (Sp.rdV xs f) n [] a1 p = .bad q er) := hr
    have HCH : Hid (VC xs f ∧ By xs ∧ VB xs f) := ⟨HC, hby, HV⟩
    have hwd : IntKind.i64.wrap (depth + 1) = depth + 1 := Go.wrap_small _ (by omega) (by omega)
    clear h hr hc hrn HC hby HV
    go_enter Try.func114, Try.ntmps114
    go_wp2_with fail
    refine HCT.out.mono ?_
    rintro e w1 ⟨rfl, hr1, hb1⟩
    have HR1 : Hid (Rdr w1 b a xs cap a1 p ∧ But b w w1) := ⟨hr1, hb1⟩
    clear hr1 hb1 HCT
    go_wp2_with fail
    go_loopw [6, 11] (fun u x wr => ∃ (k j pp aa : Nat) (ahd : List Int) (a9 : Option Addr) (m9 cap9 : Nat), u = .slice a9 m9 cap9 ∧ x = .int .i64 (k : Int) ∧ k + j = n ∧ Hid (m9 = ahd.length ∧ RdB wr (Lo b) a9 ahd ∧ Sp.rdF xs start (Sp.rdV xs f) j ahd aa pp = .bad q er ∧ Rdr wr b a xs cap aa pp ∧ But b w wr)) (fun _ x _ => n - (intOf x).toNat)
    case atStart => exact ⟨0, n, p, a1, [], none, 0, 0, rfl, rfl, by omega, rfl, fun j u hu => by simp at hu, HR.out, HR1.out⟩
    case round =>
      obtain ⟨k, j, pp, aa, ahd, a9, m9, cap9, rfl, rfl, hkj, HI⟩ := hrel
      clear HR HR1
      cases j with
      | zero =>
        obtain ⟨_, _, hrf, hrd, hbl⟩ := HI.out
        rw [Sp.rdF] at hrf
        simp at hrf
      | succ j =>
        have h1 : (k : Int) < (n : Int) := by omega
        obtain ⟨hm9, hrb, hrf, hrd, hbl⟩ := HI.out
        rw [Sp.rdF] at hrf
        have HBL : Hid (But b w wr) := hbl
        cases hn : Sp.rdN xs aa start with
        | bad q1 e1 =>
          rw [hn] at hrf
          injection hrf with e1 e2; subst e1; subst e2
          have HNM : Hid (Calls Try.prog 115 #[.pointer (some ⟨b, 0, none⟩), .int .i64 (start : Int)] wr fun x w' => x = Flt q1 e1 ∧ But b wr w') := rname_bad _ _ start b a xs cap aa pp wr hrd HCH.out.2.1 hn
          clear hm9 hrb hrd hbl HI hn
          go_wp2_with fail
          refine HNM.out.mono ?_
          rintro e w2 ⟨rfl, hb2⟩
          exact ⟨rfl, rfl, HBL.out.trans hb2⟩
        | ok nm a0 =>
          rw [hn] at hrf
          simp only at hrf
          obtain ⟨nn, an, hrn, hn32, hle, rfl, rfl, hnm⟩ := rdN_ok hn
          have HNM : Hid (Calls Try.prog 115 #[.pointer (some ⟨b, 0, none⟩), .int .i64 (start : Int)] wr fun e w' => ∃ a' cap', e = .returned (.slice a' nn cap') ∧ RdB w' (Lo b) a' ((xs.drop an).take nn) ∧ Rdr w' b a xs cap (an + nn) pp ∧ But b wr w') := rname_ok nn an start b a xs cap aa pp wr hrd HCH.out.2.1 hrn hn32 hle hnm
          have HLN : Hid (nn = ((xs.drop an).take nn).length) := by show _ = _; rw [List.length_take, List.length_drop]; omega
          have HM9 : Hid (m9 = ahd.length ∧ RdB wr (Lo b) a9 ahd) := ⟨hm9, hrb⟩
          clear hm9 hrb hrd hbl HI hn hrn hnm hle
          by_cases hc : Sp.cmpS (Sp.txt ((xs.drop an).take nn)) (Sp.txt ahd) ≤ 0
          · rw [if_pos hc] at hrf
            injection hrf with e1 e2; subst e1; subst e2
            have HCM : Hid (Sp.cmpS (Sp.txt ((xs.drop an).take nn)) (Sp.txt ahd) ≤ 0) := hc
            clear hc
            go_wp2_with fail
            refine HNM.out.mono ?_
            rintro e w2 ⟨a7, cap7, rfl, hrd2, hr2, hb2⟩
            have HB2 : Hid (But b wr w2) := hb2
            have HCP : Hid (Calls Try.prog 72 #[.slice a7 nn cap7, .slice a9 m9 cap9] w2 fun e w' => e = .returned (.int .i64 (Sp.cmpS (Sp.txt ((xs.drop an).take nn)) (Sp.txt ahd))) ∧ w2 = w') := bytesCmp_rd _ ahd a7 a9 cap7 cap9 nn m9 HLN.out HM9.out.1 (Lo b) w2 hrd2 (HM9.out.2.same hb2.same (fun _ h => h))
            clear hrd2 hr2 hb2 HNM
            generalize Sp.cmpS (Sp.txt ((xs.drop an).take nn)) (Sp.txt ahd) = cm at HCP HCM
            have hcm : cm ≤ 0 := HCM.out
            clear HCM
            go_wp2_with fail
            refine HCP.out.mono ?_
            rintro e w3 ⟨rfl, rfl⟩
            clear HCP
            go_wp2_with fail
            exact ⟨rfl, rfl, HBL.out.trans HB2.out⟩
          · rw [if_neg hc] at hrf
            have HCM : Hid (¬ Sp.cmpS (Sp.txt ((xs.drop an).take nn)) (Sp.txt ahd) ≤ 0) := hc
            clear hc
            have HRF : Hid (Sp.rdV xs f (an + nn) pp = .bad q er ∨ ∃ t p1 a1, Sp.rdV xs f (an + nn) pp = .ok (t, p1) a1 ∧ Sp.rdF xs start (Sp.rdV xs f) j ((xs.drop an).take nn) a1 p1 = .bad q er) := rdF_rest hrf
            clear hrf
            go_wp2_with fail
            refine HNM.out.mono ?_
            rintro e w2 ⟨a7, cap7, rfl, hrd2, hr2, hb2⟩
            have HR2 : Hid (RdB w2 (Lo b) a7 ((xs.drop an).take nn) ∧ Rdr w2 b a xs cap (an + nn) pp ∧ But b wr w2) := ⟨hrd2, hr2, hb2⟩
            have HCP : Hid (Calls Try.prog 72 #[.slice a7 nn cap7, .slice a9 m9 cap9] w2 fun e w' => e = .returned (.int .i64 (Sp.cmpS (Sp.txt ((xs.drop an).take nn)) (Sp.txt ahd))) ∧ w2 = w') := bytesCmp_rd _ ahd a7 a9 cap7 cap9 nn m9 HLN.out HM9.out.1 (Lo b) w2 hrd2 (HM9.out.2.same hb2.same (fun _ h => h))
            clear hrd2 hr2 hb2 HNM
            generalize Sp.cmpS (Sp.txt ((xs.drop an).take nn)) (Sp.txt ahd) = cm at HCP HCM
            have hcm : ¬ cm ≤ 0 := by have := HCM.out; omega
            clear HCM
            go_wp2_with fail
            refine HCP.out.mono ?_
            rintro e w3 ⟨rfl, rfl⟩
            clear HCP
            go_wp2_with fail
            rcases HRF.out with hv | ⟨t, p1, av, hv, hq⟩
            · refine (HCH.out.2.2 b a cap (an + nn) pp _ _ w2 _ (by omega) HR2.out.2.1 hv).mono ?_
              rintro e w4 ⟨rfl, hb4⟩
              exact ⟨rfl, rfl, HBL.out.trans (HR2.out.2.2.trans hb4)⟩
            · refine (HCH.out.1 b a cap (an + nn) pp t p1 av w2 _ (by omega) HR2.out.2.1 hv).mono ?_
              have HQ : Hid (Sp.rdF xs start (Sp.rdV xs f) j ((xs.drop an).take nn) av p1 = .bad q er) := hq
              clear hv hq
              rintro e w4 ⟨rfl, hr4, hb4⟩
              have HR4 : Hid (Rdr w4 b a xs cap av p1 ∧ But b w2 w4) := ⟨hr4, hb4⟩
              clear hr4 hb4
              go_wp2_with fail
              go_roundw
              case rel => exact ⟨k + 1, j, p1, av, (xs.drop an).take nn, a7, nn, cap7, rfl, by go_num, by omega, HLN.out, HR2.out.1.same HR4.out.2.same (fun _ h => h), HQ.out, HR4.out.1, HBL.out.trans (HR2.out.2.2.trans HR4.out.2)⟩
              case measure => simp [intOf]; omega
end Go.Proofs.Ytmmiiapfefmcjaa


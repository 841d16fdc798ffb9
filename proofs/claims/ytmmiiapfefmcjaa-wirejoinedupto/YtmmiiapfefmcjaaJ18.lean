/- Making the fields of a dict or a record. -/
import Derived.Test.YtmmiiapfefmcjaaJ17
namespace Go.Proofs.Ytmmiiapfefmcjaa
open Go.RowKit

theorem rdF_len {xs : List Int} {start : Nat} {step : Nat → Nat → Rs (Tm × Nat)} : ∀ (n : Nat) (ahead : List Int) (at' p : Nat) (L : TmF) (p2 a2 : Nat), Sp.rdF xs start step n ahead at' p = .ok (L, p2) a2 → L.len = n
  | 0, ahead, at', p, L, p2, a2, h => by
    rw [Sp.rdF] at h
    injection h with e1 e2; injection e1 with e3 e4; subst e3; rfl
  | n + 1, ahead, at', p, L, p2, a2, h => by
    rw [Sp.rdF] at h
    split at h
    · simp at h
    · split at h
      · simp at h
      · split at h
        · simp at h
        · split at h
          · simp at h
          · rename_i hq
            injection h with e1 e2; injection e1 with e3 e4; subst e3
            rw [TmF.len, rdF_len n _ _ _ _ _ _ hq]
theorem rdF_cons {xs : List Int} {start : Nat} {step : Nat → Nat → Rs (Tm × Nat)} {n : Nat} {ahead : List Int} {at' p : Nat} {nm : ByteArray} {t : Tm} {l : TmF} {p2 a2 : Nat} (h : Sp.rdF xs start step (n + 1) ahead at' p = .ok (.cons nm t l, p2) a2) : ∃ l0 a0 p1 a1, Sp.rdN xs at' start = .ok l0 a0 ∧ Sp.txt l0 = nm ∧ step a0 p = .ok (t, p1) a1 ∧ Sp.rdF xs start step n l0 a1 p1 = .ok (l, p2) a2 := by
  rw [Sp.rdF] at h
  cases hN : Sp.rdN xs at' start with
  | bad q e => rw [hN] at h; simp at h
  | ok l0 a0 =>
    rw [hN] at h
    simp only at h
    split at h
    · simp at h
    · cases hs : step a0 p with
      | bad q e => rw [hs] at h; simp at h
      | ok tp a1 =>
        obtain ⟨t1, p1⟩ := tp
        rw [hs] at h
        simp only at h
        cases hq : Sp.rdF xs start step n l0 a1 p1 with
        | bad q e => rw [hq] at h; simp at h
        | ok lp a3 =>
          obtain ⟨l3, p3⟩ := lp
          rw [hq] at h
          injection h with e1 e2; injection e1 with e3 e4; injection e3 with e5 e6 e7
          subst e2; subst e4; subst e5; subst e6; subst e7
          exact ⟨l0, a0, p1, a1, rfl, rfl, hs, hq⟩

set_option maxRecDepth 100000 in
set_option maxHeartbeats 2000000 in
theorem madeFields_ok (b : Nat) (a : Option Addr) (xs : List Int) (cap at' p : Nat) (w : World) (h : Rdr w b a xs cap at' p) (hby : By xs) (f : Nat) (HC : MC xs f) (start p0 p2 a2 : Nat) (L : TmF) (hr : Sp.rdD xs start (Sp.rdV xs f) at' p0 = .ok (L, p2) a2) :
    Calls Try.prog 90 #[.pointer (some ⟨b, 0, none⟩)] w fun e w' => ∃ a' cap', e = .returned (.slice a' L.len cap') ∧ Rdr w' b a xs cap a2 p ∧ But b w w' ∧ L.LV w' (Fr w w') a' cap' := by
  unfold Sp.rdD at hr
  cases hc : Sp.cnt xs at' start 4096 with
  | bad q e => rw [hc] at hr; simp at hr
  | ok n a1 =>
    rw [hc] at hr
    simp only at hr
    obtain ⟨hn, hn4⟩ := cnt_ok hc
    obtain rfl := rdF_len n _ a1 p0 L p2 a2 hr
    obtain ⟨i0, hi, hz0, hz1, hz2⟩ := info_parts Try.infoFd
    have HX : Hid (By xs ∧ MC xs f) := ⟨hby, HC⟩
    have HRD : Hid (Sp.rdF xs start (Sp.rdV xs f) L.len [] a1 p0 = .ok (L, p2) a2) := hr
    have HB : Hid (Calls Try.prog 86 #[.pointer (some ⟨b, 0, none⟩)] w fun e w' => e = .returned (.int .u64 (L.len : Int)) ∧ Rdr w' b a xs cap a1 p ∧ But b w w') := rnumber_ok L.len a1 b a xs cap at' p w h hby hn
    obtain ⟨M, hM⟩ : ∃ M, M = madeCells (Value.agg #[.string ByteArray.empty, .nilIface]).cells (((L.len : Nat) : Int).toNat * i0.size) := ⟨_, rfl⟩
    have hMs : M.size = L.len * 2 := by rw [hM, size_madeCells, hz1]; simp
    have hmake : ∀ W : World, (Instr.makeSlice 72 (.int .u64 (L.len : Int)) (.int .u64 (L.len : Int))).run Try.prog W = .ok (.slice (some ⟨W.heap.size, 0, none⟩) L.len L.len) (W.alloc (.cells M 109)) := fun W => by
      have h := run_make (P := Try.prog) W 72 109 i0 _ Try.undD hi hz0 .u64 .u64 (L.len : Int) (L.len : Int) (by omega) (by omega) (by rw [hz2]; omega) (by omega)
      rw [← hM] at h; simpa using h
    have HM : Hid (M.size = L.len * 2) := hMs
    clear hM hi hz0 hz1 hz2 h hby hn hr HC hMs hc
    go_enter Try.func90, Try.ntmps90
    go_wp2_with fail
    refine HB.out.mono ?_
    rintro e w2 ⟨rfl, hr2, hb2⟩
    have H0 : Hid (RWB b 109 w (w2.alloc (.cells M 109)) w2.heap.size (L.len * 2) [] ∧ FPre (w2.alloc (.cells M 109)) (Own w.heap.size (w2.alloc (.cells M 109)) w2.heap.size) L [] L ∧ Rdr (w2.alloc (.cells M 109)) b a xs cap a1 p) := by
      have hrw := RWB.made hb2 M 109
      rw [HM.out] at hrw
      exact ⟨hrw, (FPre_nil _ _).2 rfl, hr2.call ((Below.refl _ _).alloc (Nat.le_refl _) _)⟩
    clear hr2 hb2 HB
    go_wp2_with fail
    go_loopw [10] (fun x wr => ∃ (k aa pp : Nat) (ahd : List Int) (l : TmF) (vs : List Value), x = .int .i64 k ∧ l.len + k = L.len ∧ vs.length = k * 2 ∧ Hid (RWB b 109 w wr w2.heap.size (L.len * 2) vs ∧ FPre wr (Own w.heap.size wr w2.heap.size) L vs l ∧ Sp.rdF xs start (Sp.rdV xs f) l.len ahd aa pp = .ok (l, p2) a2 ∧ Rdr wr b a xs cap aa p)) (fun x _ => L.len - (intOf x).toNat)
    case atStart => exact ⟨0, a1, p0, [], L, [], rfl, rfl, rfl, H0.out.1, H0.out.2.1, HRD.out, H0.out.2.2⟩
    case round =>
      obtain ⟨k, aa, pp, ahd, l, vs, rfl, hl, hvs, HR⟩ := hrel
      clear HRD
      cases l with
      | nil =>
        have h1 : L.len ≤ k := by simp [TmF.len] at hl; omega
        obtain ⟨hrw, hpre, hrd, hrr⟩ := HR.out
        rw [TmF.len, Sp.rdF] at hrd
        injection hrd with e1 e2
        have HF : Hid (Rdr wr b a xs cap a2 p) := by rw [← e2]; exact hrr
        clear hl hrw hpre hrr e1 e2
        go_wp2_with fail
        go_ret
        exact ⟨_, _, rfl, HF.out, HR.out.1.bel, HR.out.2.1.finB HR.out.1 (by unfold maxLen; omega)⟩
      | cons nm t l =>
        obtain ⟨hrw, hpre, hrd, hrr⟩ := HR.out
        obtain ⟨l0, a0, p1, a3, hN, rfl, hst, hrd'⟩ := rdF_cons hrd
        obtain ⟨nn, an, hrn, hn32, hle, rfl, rfl, hnm⟩ := rdN_ok hN
        have hk1 : k < L.len := by simp only [TmF.len] at hl; omega
        have HL : Hid (l.len + (k + 1) = L.len) := by show _ = _; simp only [TmF.len] at hl; omega
        have HT : Hid (Calls Try.prog 89 #[.pointer (some ⟨b, 0, none⟩)] wr fun e w' => ∃ a' cap', e = .returned (.slice a' nn cap') ∧ RdB w' (Lo b) a' ((xs.drop an).take nn) ∧ Rdr w' b a xs cap (an + nn) p ∧ But b wr w') := rtext_ok nn an b a xs cap aa p wr hrr HX.out.1 hrn hle
        have HLN : Hid (((xs.drop an).take nn).length = nn) := part_len hle
        have HN : Hid (Sp.rdV xs f (an + nn) pp = .ok (t, p1) a3 ∧ Sp.rdF xs start (Sp.rdV xs f) l.len ((xs.drop an).take nn) a3 p1 = .ok (l, p2) a2) := ⟨hst, hrd'⟩
        have HS : Hid (∀ w1, But b wr w1 → (∃ u, w1.cell? ⟨w2.heap.size, k * 2, none⟩ = some u) ∧ w1.frozen? ⟨w2.heap.size, k * 2, none⟩ = false) := fun w1 h => (hrw.call h).own (k * 2) (by omega)
        have hi0 : (0 : Int) ≤ (k : Int) := Int.natCast_nonneg _
        have hi1 : (k : Int) < (L.len : Int) := by omega
        clear hl hrw hpre hrd hrr hst hrd' hN hrn hle hnm
        generalize hs0 : (xs.drop an).take nn = s0 at *
        clear hs0
        go_wp2_with fail
        refine HT.out.mono ?_
        rintro e w3 ⟨a7, cap7, rfl, hrd3, hr3, hb3⟩
        have hcv : (convert 23 9 (.slice a7 nn cap7)).run Try.prog w3 = .ok (.string (Sp.txt s0)) w3 := by
          have := conv_rd _ a7 cap7 (Lo b) w3 hrd3
          rw [HLN.out] at this; exact this
        obtain ⟨⟨u, hu⟩, hf⟩ := HS.out w3 hb3
        have HW3 : Hid (But b wr w3 ∧ RWB b 109 w (w3.setCell ⟨w2.heap.size, k * 2, none⟩ (.string (Sp.txt s0))) w2.heap.size (L.len * 2) (vs ++ [.string (Sp.txt s0)]) ∧ Rdr (w3.setCell ⟨w2.heap.size, k * 2, none⟩ (.string (Sp.txt s0))) b a xs cap (an + nn) p) := by
          have hrw := HR.out.1
          have h1 := (hrw.call hb3).set [.string (Sp.txt s0)] (by simp; omega)
          rw [hvs] at h1
          exact ⟨hb3, h1, hr3.setN (by have := hrw.lt; have := hrw.bel.lt; omega) [.string (Sp.txt s0)]⟩
        clear hrd3 hr3 hb3 HT HS
        go_wp2_with fail
        refine (HX.out.2 b a cap (an + nn) p pp t p1 a3 _ HW3.out.2.2 HN.out.1).mono ?_
        rintro e w4 ⟨v, rfl, hr4, hb4, hv⟩
        have hsh := t.V_shape v hv
        obtain ⟨⟨u4, hu4⟩, hf4⟩ := (HW3.out.2.1.call hb4).own (k * 2 + 1) (by omega)
        have HNew : Hid (RWB b 109 w (w4.setCell ⟨w2.heap.size, k * 2 + 1, none⟩ v) w2.heap.size (L.len * 2) (vs ++ [.string (Sp.txt s0)] ++ [v]) ∧ FPre (w4.setCell ⟨w2.heap.size, k * 2 + 1, none⟩ v) (Own w.heap.size (w4.setCell ⟨w2.heap.size, k * 2 + 1, none⟩ v) w2.heap.size) L (vs ++ [.string (Sp.txt s0)] ++ [v]) l ∧ Rdr (w4.setCell ⟨w2.heap.size, k * 2 + 1, none⟩ v) b a xs cap a3 p) := by
          have hrw := HR.out.1
          have h1 := (HW3.out.2.1.call hb4).set [v] (by simp; omega)
          rw [show (vs ++ [Value.string (Sp.txt s0)]).length = k * 2 + 1 by simp [hvs]] at h1
          have hb3' : Bu2 b w2.heap.size wr (setN w3 w2.heap.size (k * 2) [.string (Sp.txt s0)]) := (Bu2.of HW3.out.1).set [.string (Sp.txt s0)]
          have hbu : Bu2 b w2.heap.size wr (setN w4 w2.heap.size (k * 2 + 1) [v]) := (hb3'.trans (Bu2.of hb4)).set [v]
          have hg3 : w2.heap.size < (w3.setCell ⟨w2.heap.size, k * 2, none⟩ (.string (Sp.txt s0))).heap.size := HW3.out.2.1.lt.2
          have hpre := FPre.snoc (w := setN w4 w2.heap.size (k * 2 + 1) [v]) L vs (Sp.txt s0) t l v (FPre.same (hbu.kept hrw.bel.lt) hbu.up L vs _ HR.out.2.1) (by rw [txt_size, HLN.out]; unfold maxLen; omega) (t.V_same (fr_kept (wr := w3.setCell ⟨w2.heap.size, k * 2, none⟩ (.string (Sp.txt s0))) (w1 := w4) (o := k * 2 + 1) hg3 [v]) (fr_up (wr := w3.setCell ⟨w2.heap.size, k * 2, none⟩ (.string (Sp.txt s0))) (w1 := w4) (o := k * 2 + 1) ⟨hrw.lt.1, hg3⟩ [v]) v hv)
          exact ⟨h1, by rw [List.append_assoc]; exact hpre, hr4.setN (by have := hrw.lt; have := hrw.bel.lt; omega) [v]⟩
        clear hb4 hv hr4 HW3
        rcases hsh with rfl | ⟨T, x, rfl⟩
        all_goals
          go_wp2_with fail
          go_roundw
          case rel => exact ⟨k + 1, a3, p1, s0, l, _, by go_num, HL.out, by simp [hvs]; omega, HNew.out.1, HNew.out.2.1, HN.out.2, HNew.out.2.2⟩
          case measure => simp [intOf]; omega
end Go.Proofs.Ytmmiiapfefmcjaa

/- Making dicts, records, and whatever value. -/
namespace Go.Proofs.Ytmmiiapfefmcjaa
open Go.RowKit

theorem rn_lt {xs : List Int} {s : Nat} (hby : By xs) : ∀ (k i n v a : Nat), i + k = 10 → n < 128 ^ i → Sp.rn xs s k i n = .ok v a → v < 18446744073709551616
  | 0, i, n, v, a, _, _, h => by simp [Sp.rn] at h
  | k + 1, i, n, v, a, hk, hn, h => by
    rw [Sp.rn] at h
    cases hx : xs[s + i]? with
    | none => rw [hx] at h; simp at h
    | some c =>
      rw [hx] at h
      simp only at h
      have hc := hby.get hx
      split at h
      · simp at h
      · rename_i hbad
        split at h
        · injection h with e1 e2
          subst e1
          by_cases h9 : i = 9
          · subst h9
            have h1 : c.toNat * 128 ^ 9 ≤ 1 * 128 ^ 9 := Nat.mul_le_mul_right _ (by omega)
            omega
          · have h8 : 128 ^ i ≤ 128 ^ 8 := Nat.pow_le_pow_right (by decide) (by omega)
            have h1 : c.toNat * 128 ^ i ≤ 127 * 128 ^ 8 := Nat.mul_le_mul (by omega) h8
            omega
        · refine rn_lt hby k (i + 1) _ v a (by omega) ?_ h
          have h1 : (c.toNat - 128) * 128 ^ i ≤ 127 * 128 ^ i := Nat.mul_le_mul_right _ (by omega)
          rw [Nat.pow_succ]; omega

section
variable (b : Nat) (a : Option Addr) (xs : List Int) (cap at' p : Nat) (w : World) (h : Rdr w b a xs cap at' p)
include h
set_option maxRecDepth 100000 in
set_option maxHeartbeats 2000000 in
theorem made_9 (hx : xs[at']? = some 9) (hby : By xs) (f : Nat) (HC : MC xs f) (start p0 p2 a2 : Nat) (L : TmF) (hr : Sp.rdD xs start (Sp.rdV xs f) (at' + 1) p0 = .ok (L, p2) a2) :
    Calls Try.prog 48 #[.pointer (some ⟨b, 0, none⟩)] w fun e w' => ∃ a' cap', e = .returned (.iface 72 (.slice a' L.len cap')) ∧ Rdr w' b a xs cap a2 p ∧ But b w w' ∧ L.LV w' (Fr w w') a' cap' := by
  have HX : Hid (By xs ∧ MC xs f ∧ Sp.rdD xs start (Sp.rdV xs f) (at' + 1) p0 = .ok (L, p2) a2) := ⟨hby, HC, hr⟩
  have HB : Hid (Calls Try.prog 84 #[.pointer (some ⟨b, 0, none⟩)] w fun e w' => e = .returned (.int .u8 9) ∧ Rdr w' b a xs cap (at' + 1) p ∧ But b w w') := rbyte_ok 9 b a xs cap at' p w h hx
  clear h hx hby HC hr
  go_enter Try.func48, Try.ntmps48
  go_wp2_with fail
  refine HB.out.mono ?_
  rintro e w1 ⟨rfl, hr1, hb1⟩
  have HR1 : Hid (Rdr w1 b a xs cap (at' + 1) p ∧ But b w w1) := ⟨hr1, hb1⟩
  clear hr1 hb1 HB
  go_wp2_with fail
  refine (madeFields_ok b a xs cap (at' + 1) p w1 HR1.out.1 HX.out.1 f HX.out.2.1 start p0 p2 a2 L HX.out.2.2).mono ?_
  rintro e w2 ⟨a8, cap8, rfl, hr2, hb2, hlv⟩
  have HR2 : Hid (Rdr w2 b a xs cap a2 p ∧ But b w1 w2 ∧ L.LV w2 (Fr w1 w2) a8 cap8) := ⟨hr2, hb2, hlv⟩
  clear hr2 hb2 hlv
  go_wp2_with fail
  go_ret
  have hz := HR1.out.2.size
  exact ⟨a8, cap8, rfl, HR2.out.1, HR1.out.2.trans HR2.out.2.1, L.LV_same (Same.refl _ _) (fun k hk => ⟨Nat.le_trans hz hk.1, hk.2⟩) a8 cap8 HR2.out.2.2⟩
set_option maxRecDepth 100000 in
set_option maxHeartbeats 2000000 in
theorem made_10 (hx : xs[at']? = some 10) (hby : By xs) (f : Nat) (HC : MC xs f) (start p0 p2 a2 : Nat) (L : TmF) (n a3 v a4 : Nat) (hn : Sp.rn xs (at' + 1) 10 0 0 = .ok n a3) (hl : a3 + n ≤ xs.length) (hv : Sp.rn xs (a3 + n) 10 0 0 = .ok v a4) (hv1 : v ≤ 1000) (hr : Sp.rdD xs start (Sp.rdV xs f) a4 p0 = .ok (L, p2) a2) :
    Calls Try.prog 48 #[.pointer (some ⟨b, 0, none⟩)] w fun e w' => ∃ g a' cap', e = .returned (.iface 74 (.pointer (some ⟨g, 0, none⟩))) ∧ Rdr w' b a xs cap a2 p ∧ But b w w' ∧ Fr w w' g ∧ w'.cell? ⟨g, 0, none⟩ = some (.string (Sp.txt ((xs.drop a3).take n))) ∧ w'.cell? ⟨g, 1, none⟩ = some (.int .i64 (v : Int)) ∧ w'.cell? ⟨g, 2, none⟩ = some (.slice a' L.len cap') ∧ L.RV w' (Fr w w') g a' cap' := by
  have HX : Hid (By xs ∧ MC xs f ∧ Sp.rdD xs start (Sp.rdV xs f) a4 p0 = .ok (L, p2) a2) := ⟨hby, HC, hr⟩
  have HY : Hid (Sp.rn xs (at' + 1) 10 0 0 = .ok n a3 ∧ a3 + n ≤ xs.length ∧ Sp.rn xs (a3 + n) 10 0 0 = .ok v a4) := ⟨hn, hl, hv⟩
  have HB : Hid (Calls Try.prog 84 #[.pointer (some ⟨b, 0, none⟩)] w fun e w' => e = .returned (.int .u8 10) ∧ Rdr w' b a xs cap (at' + 1) p ∧ But b w w') := rbyte_ok 10 b a xs cap at' p w h hx
  have hwv : IntKind.i64.wrap (v : Int) = (v : Int) := Go.wrap_small _ (by omega) (by omega)
  clear h hx hby HC hr hn hl hv
  go_enter Try.func48, Try.ntmps48
  go_wp2_with fail
  refine HB.out.mono ?_
  rintro e w1 ⟨rfl, hr1, hb1⟩
  have HR1 : Hid (Rdr w1 b a xs cap (at' + 1) p ∧ But b w w1) := ⟨hr1, hb1⟩
  clear hr1 hb1 HB
  go_wp2_with fail
  refine (rtext_ok n a3 b a xs cap (at' + 1) p w1 HR1.out.1 HX.out.1 HY.out.1 HY.out.2.1).mono ?_
  rintro e w2 ⟨a7, cap7, rfl, hrd2, hr2, hb2⟩
  have hcv : (convert 23 9 (.slice a7 n cap7)).run Try.prog w2 = .ok (.string (Sp.txt ((xs.drop a3).take n))) w2 := by
    have := conv_rd _ a7 cap7 (Lo b) w2 hrd2
    rw [part_len HY.out.2.1] at this; exact this
  have HR2 : Hid (Rdr w2 b a xs cap (a3 + n) p ∧ But b w w2) := ⟨hr2, HR1.out.2.trans hb2⟩
  clear hrd2 hr2 hb2 HR1
  go_wp2_with fail
  refine (rnumber_ok v a4 b a xs cap (a3 + n) p w2 HR2.out.1 HX.out.1 HY.out.2.2).mono ?_
  rintro e w3 ⟨rfl, hr3, hb3⟩
  have HR3 : Hid (Rdr w3 b a xs cap a4 p ∧ But b w w3) := ⟨hr3, HR2.out.2.trans hb3⟩
  clear hr3 hb3 HR2 hcv
  go_wp2_with fail
  refine (madeFields_ok b a xs cap a4 p w3 HR3.out.1 HX.out.1 f HX.out.2.1 start p0 p2 a2 L HX.out.2.2).mono ?_
  rintro e w4 ⟨a8, cap8, rfl, hr4, hb4, hlv⟩
  have HR4 : Hid (Rdr w4 b a xs cap a2 p ∧ But b w w4 ∧ L.LV w4 (Fr w w4) a8 cap8) := ⟨hr4, HR3.out.2.trans hb4, L.LV_same (Same.refl _ _) (fun k hk => ⟨Nat.le_trans HR3.out.2.size hk.1, hk.2⟩) a8 cap8 hlv⟩
  clear hr4 hb4 hlv HR3
  go_wp2_with fail
  go_ret
  have hz := HR4.out.2.1.size
  refine ⟨w4.heap.size, a8, cap8, rfl, HR4.out.1.call ((Below.refl _ _).alloc (Nat.le_refl _) _), HR4.out.2.1.alloc _, ⟨hz, by simp⟩, by simp, by simp, by simp, ⟨_, heap_alloc_new _ _⟩, L.LV_same (B' := Fr w (w4.alloc _)) (fun k hk => Below.heap_alloc _ _ _ hk.2) (fun k hk => ⟨hk.1, by have := hk.2; simp; omega⟩) a8 cap8 HR4.out.2.2⟩
end

theorem made_ok (xs : List Int) (hby : By xs) : ∀ f, MC xs f
  | 0 => fun b a cap at' p p0 t p2 a2 w h hr => by
    rw [Sp.rdV] at hr
    split at hr <;> simp at hr
  | f + 1 => fun b a cap at' p p0 t p2 a2 w h hr => by
    have HC := made_ok xs hby f
    have hln := h.ln
    rw [Sp.rdV] at hr
    cases hx : xs[at']? with
    | none => rw [hx] at hr; simp at hr
    | some k =>
      rw [hx] at hr
      simp only at hr
      by_cases hp : 16384 ≤ p0
      · rw [if_pos hp] at hr; simp at hr
      · rw [if_neg hp] at hr
        unfold Sp.rdB at hr
        split at hr
        · rename_i hk; subst hk
          injection hr with e1 e2; injection e1 with e3 e4; subst e2; subst e3
          refine (made_1 b a xs cap at' p w h hx).mono ?_
          rintro e w' ⟨rfl, hr, hb⟩; exact ⟨_, rfl, hr, hb, by simp [lfT, Tm.V]⟩
        split at hr
        · rename_i hk; subst hk
          cases hc : xs[at' + 1]? with
          | none => rw [hc] at hr; simp at hr
          | some c =>
            rw [hc] at hr
            simp only at hr
            split at hr
            · simp at hr
            · rename_i hc1
              injection hr with e1 e2; injection e1 with e3 e4; subst e2; subst e3
              refine (made_2 b a xs cap at' p w h hx c hc).mono ?_
              rintro e w' ⟨rfl, hr, hb⟩; exact ⟨_, rfl, hr, hb, by simp [lfT, Tm.V]⟩
        split at hr
        · rename_i hk; subst hk
          cases hn : Sp.rn xs (at' + 1) 10 0 0 with
          | bad q e => rw [hn] at hr; simp at hr
          | ok n a' =>
            rw [hn] at hr
            injection hr with e1 e2; injection e1 with e3 e4; subst e2; subst e3
            refine (made_3 b a xs cap at' p w h hx hby n _ hn (rn_lt hby 10 0 0 n _ rfl (by decide) hn)).mono ?_
            rintro e w' ⟨rfl, hr, hb⟩; exact ⟨_, rfl, hr, hb, by simp [lfT, Tm.V]⟩
        split at hr
        · rename_i hk; subst hk
          unfold Sp.tk at hr
          by_cases hl : at' + 1 + 8 ≤ xs.length
          · rw [if_pos hl] at hr
            injection hr with e1 e2; injection e1 with e3 e4; subst e2; subst e3
            refine (made_4 b a xs cap at' p w h hx hby hl).mono ?_
            have hlt := cat_lt _ (hby.part (at' + 1) 8)
            rw [part_len hl] at hlt
            rintro e w' ⟨rfl, hr, hb⟩; exact ⟨_, rfl, hr, hb, by simp only [lfT, Tm.V]; simp; exact ⟨rfl, hlt⟩⟩
          · rw [if_neg hl] at hr; simp at hr
        split at hr
        · rename_i hk
          cases hn : Sp.cnt xs (at' + 1) at' 65536 with
          | bad q e => rw [hn] at hr; simp at hr
          | ok n a' =>
            obtain ⟨hrn, hn4⟩ := cnt_ok hn
            rw [hn] at hr
            simp only at hr
            unfold Sp.tk at hr
            by_cases hl : a' + n ≤ xs.length
            · rw [if_pos hl] at hr
              injection hr with e1 e2; injection e1 with e3 e4; subst e2; subst e3
              have hsz : (Sp.txt ((xs.drop a').take n)).size ≤ maxLen := by rw [txt_size, part_len hl]; unfold maxLen; omega
              rcases hk with rfl | rfl
              · refine (made_5 b a xs cap at' p w h hx hby n a' hrn hl).mono ?_
                rintro e w' ⟨rfl, hr, hb⟩; exact ⟨_, rfl, hr, hb, by simp [lfT, Tm.V, hsz]⟩
              · refine (made_6 b a xs cap at' p w h hx hby n a' hrn hl hn4).mono ?_
                rintro e w' ⟨a8, cap8, rfl, hr, hb, hlv⟩; exact ⟨_, rfl, hr, hb, by rw [if_pos rfl]; exact Tm.V_of6 hlv⟩
            · rw [if_neg hl] at hr; simp at hr
        split at hr
        · rename_i hk; subst hk
          cases hn : Sp.rn xs (at' + 1) 10 0 0 with
          | bad q e => rw [hn] at hr; simp at hr
          | ok n a' =>
            rw [hn] at hr
            injection hr with e1 e2; injection e1 with e3 e4; subst e2; subst e3
            refine (made_7 b a xs cap at' p w h hx hby n _ hn).mono ?_
            rintro e w' ⟨rfl, hr, hb⟩; exact ⟨_, rfl, hr, hb, by simp [lfT, Tm.V]⟩
        split at hr
        · rename_i hk; subst hk
          cases hn : Sp.cnt xs (at' + 1) at' 4096 with
          | bad q e => rw [hn] at hr; simp at hr
          | ok n a' =>
            obtain ⟨hrn, hn4⟩ := cnt_ok hn
            rw [hn] at hr
            simp only at hr
            cases hL : Sp.rdL (Sp.rdV xs f) n a' (p0 + 1) with
            | bad q e => rw [hL] at hr; simp at hr
            | ok lp a3 =>
              obtain ⟨l, p3⟩ := lp
              rw [hL] at hr
              injection hr with e1 e2; injection e1 with e3 e4; subst e2; subst e3
              refine (made_8 b a xs cap at' p w h hx hby f HC n a' (p0 + 1) p3 _ l hrn hn4 hL).mono ?_
              rintro e w' ⟨a8, cap8, rfl, hr, hb, hlv⟩; exact ⟨_, rfl, hr, hb, Tm.V_of8 hlv⟩
        split at hr
        · rename_i hk; subst hk
          cases hL : Sp.rdD xs at' (Sp.rdV xs f) (at' + 1) (p0 + 1) with
          | bad q e => rw [hL] at hr; simp at hr
          | ok lp a3 =>
            obtain ⟨l, p3⟩ := lp
            rw [hL] at hr
            injection hr with e1 e2; injection e1 with e3 e4; subst e2; subst e3
            refine (made_9 b a xs cap at' p w h hx hby f HC at' (p0 + 1) p3 _ l hL).mono ?_
            rintro e w' ⟨a8, cap8, rfl, hr, hb, hlv⟩; exact ⟨_, rfl, hr, hb, Tm.V_of9 hlv⟩
        split at hr
        · rename_i hk; subst hk
          cases hN : Sp.rdN xs (at' + 1) at' with
          | bad q e => rw [hN] at hr; simp at hr
          | ok c a' =>
            obtain ⟨nn, an, hrn, hn32, hle, rfl, rfl, hnm⟩ := rdN_ok hN
            rw [hN] at hr
            simp only at hr
            cases hv : Sp.rn xs (an + nn) 10 0 0 with
            | bad q e => rw [hv] at hr; simp at hr
            | ok v a4 =>
              rw [hv] at hr
              simp only at hr
              split at hr
              · simp at hr
              · rename_i hv1
                cases hL : Sp.rdD xs at' (Sp.rdV xs f) a4 (p0 + 1) with
                | bad q e => rw [hL] at hr; simp at hr
                | ok lp a3 =>
                  obtain ⟨l, p3⟩ := lp
                  rw [hL] at hr
                  injection hr with e1 e2; injection e1 with e3 e4; subst e2; subst e3
                  refine (made_10 b a xs cap at' p w h hx hby f HC at' (p0 + 1) p3 _ l nn an v a4 hrn hle hv (by omega) hL).mono ?_
                  rintro e w' ⟨g, a8, cap8, rfl, hr, hb, hg, c0, c1, c2, hrv⟩
                  exact ⟨_, rfl, hr, hb, Tm.V_of10 hg c0 c1 c2 (by rw [txt_size, part_len hle]; unfold maxLen; omega) hrv⟩
        · simp at hr
end Go.Proofs.Ytmmiiapfefmcjaa


/- Package value's order of dicts and records is the plain order of their terms' fields. -/
import Derived.Test.YtflcchemkbkinaaOrd
namespace Go.Proofs.Ytflcchemkbkinaa
open Go.RowKit

set_option maxRecDepth 100000 in
set_option maxHeartbeats 1000000 in
theorem orderDicts_any (N : Nat) (HC : OrderC N) (A B : TmF) (hN : A.sz ≤ N) (a b : Option Addr) (ca cb : Nat) (S : Nat → Prop) (w : World) (ha : A.V w S a 0) (hb : B.V w S b 0) (oa : A.Ok) (ob : B.Ok) (la : A.len ≤ maxLen) (lb : B.len ≤ maxLen) :
    Calls Try.prog 65 #[.slice a A.len ca, .slice b B.len cb] w fun e w' => e = .returned (.int .i64 (A.cmp B)) ∧ ∃ m, w' = w.drewN m := by
  unfold maxLen at la lb
  have HCH : Hid (OrderC N) := HC
  have H0 : Hid (A.V w S a 0 ∧ B.V w S b 0 ∧ A.Ok ∧ B.Ok) := ⟨ha, hb, oa, ob⟩
  clear HC ha hb oa ob
  by_cases hm : A.len ≤ B.len
  all_goals
    go_enter Try.func65, Try.ntmps65
    go_wp2_with fail
    go_loopw [13] (fun x wr => ∃ (k m : Nat) (l r : TmF), x = .int .i64 k ∧ l.len + k = A.len ∧ r.len + k = B.len ∧ l.sz ≤ N ∧ Hid (l.V w S a k ∧ r.V w S b k ∧ l.Ok ∧ r.Ok ∧ A.cmp B = l.cmp r) ∧ Hid (wr = w.drewN m)) (fun x _ => A.len - (intOf x).toNat)
    case atStart => exact ⟨0, 0, A, B, rfl, rfl, rfl, hN, ⟨H0.out.1, H0.out.2.1, H0.out.2.2.1, H0.out.2.2.2, rfl⟩, rfl⟩
    case round =>
      obtain ⟨k, m, l, r, rfl, hl, hr, hlN, HI, HW⟩ := hrel
      cases l with
      | nil =>
        have h1 : A.len ≤ k := by simp [TmF.len] at hl; omega
        have H : Hid (A.cmp B = Sp.cmpI A.len B.len) := by
          show _ = _
          rw [HI.out.2.2.2.2]
          cases r with
          | nil => simp only [TmF.len] at hl hr; simp only [TmF.cmp]; unfold Sp.cmpI; rw [if_neg (by omega), if_neg (by omega)]
          | cons n2 u r => simp only [TmF.len] at hl hr; simp only [TmF.cmp]; unfold Sp.cmpI; rw [if_pos (by omega)]
        have h2 : k ≤ B.len := by omega
        have h3 : A.len ≤ B.len := by simp only [TmF.len] at hl; omega
        clear hl hr
        first
        | (exfalso; omega)
        | (go_wp2_with (go_at_call 56; refine (cmpInt_any _ _ _).mono ?_; rintro e w' ⟨rfl, rfl⟩)
           go_ret
           exact ⟨ret_int H.out.symm, m, HW.out⟩)
      | cons n1 t l =>
        cases r with
        | nil =>
          have h1 : B.len ≤ k := by simp [TmF.len] at hr; omega
          have H : Hid (A.cmp B = Sp.cmpI A.len B.len) := by
            show _ = _
            rw [HI.out.2.2.2.2]
            simp only [TmF.len] at hl hr; simp only [TmF.cmp]; unfold Sp.cmpI; rw [if_neg (by omega), if_pos (by omega)]
          have h3 : B.len < A.len := by simp only [TmF.len] at hl hr; omega
          clear hl hr
          first
          | (exfalso; omega)
          | (go_wp2_with (go_at_call 56; refine (cmpInt_any _ _ _).mono ?_; rintro e w' ⟨rfl, rfl⟩)
             go_ret
             exact ⟨ret_int H.out.symm, m, HW.out⟩)
        | cons n2 u r =>
          obtain ⟨hv1, hv2, ho1, ho2, hc⟩ := HI.out
          simp only [TmF.V] at hv1 hv2
          obtain ⟨g1, o1, v1, rfl, _, a1, c1, _, ht, hl'⟩ := hv1
          obtain ⟨g2, o2, v2, rfl, _, a2, c2, _, hu, hr'⟩ := hv2
          have hk1 : k < A.len := by simp only [TmF.len] at hl; omega
          have hk2 : k < B.len := by simp only [TmF.len] at hr; omega
          have hi0 : (0 : Int) ≤ (k : Int) := Int.natCast_nonneg _
          have hi1 : (k : Int) < (A.len : Int) := by omega
          have hi2 : (k : Int) < (B.len : Int) := by omega
          have HL : Hid (l.len + (k + 1) = A.len ∧ r.len + (k + 1) = B.len) := by show _ ∧ _; simp only [TmF.len] at hl hr; omega
          have htN : t.sz ≤ N ∧ l.sz ≤ N := by simp [TmF.sz] at hlN; omega
          have HO : Hid (∀ n, Calls Try.prog 35 #[v1, v2] (wr.drewN n) fun e w' => e = .returned (.int .i64 (t.cmp u)) ∧ ∃ m, w' = (wr.drewN n).drewN m) := fun n => by
            have hs : Same S w (wr.drewN n) := fun k _ => by rw [HW.out]; rfl
            exact HCH.out t u htN.1 v1 v2 S (wr.drewN n) (t.V_same hs (fun _ h => h) v1 ht) (u.V_same hs (fun _ h => h) v2 hu) ho1.head.1 ho2.head.1
          have c1 : wr.cell? ⟨g1, o1 + k * 2 + 1, none⟩ = some v1 := by rw [HW.out]; exact c1
          have c2 : wr.cell? ⟨g2, o2 + k * 2 + 1, none⟩ = some v2 := by rw [HW.out]; exact c2
          have a1 : wr.cell? ⟨g1, o1 + k * 2, none⟩ = some (.string n1) := by rw [HW.out]; exact a1
          have a2 : wr.cell? ⟨g2, o2 + k * 2, none⟩ = some (.string n2) := by rw [HW.out]; exact a2
          have HWN : Hid (∀ q, ∃ m', wr.drewN q = w.drewN m') := fun q => ⟨m + q, by rw [HW.out]; simp⟩
          have HN : Hid (l.V w S (some ⟨g1, o1, none⟩) (k + 1) ∧ r.V w S (some ⟨g2, o2, none⟩) (k + 1) ∧ l.Ok ∧ r.Ok) := ⟨hl', hr', ho1.head.2, ho2.head.2⟩
          have HCC : Hid (A.cmp B = if Sp.cmpS n1 n2 ≠ 0 then Sp.cmpS n1 n2 else if t.cmp u ≠ 0 then t.cmp u else l.cmp r) := by show _ = _; rw [hc, TmF.cmp]
          clear hl hr hlN HI hl' hr' ho1 ho2 hc ht hu H0
          by_cases hn : Sp.cmpS n1 n2 ≠ 0
          · have hn' := ne_bool hn
            have H : Hid (A.cmp B = Sp.cmpS n1 n2) := by show _ = _; rw [HCC.out, if_pos hn]
            clear hn
            go_wp2_with fail
            go_quiet ((go_at_call 61; exact Calls.quiet_of_same ((cmpStr_any _ _ _).mono (fun e w' h => ⟨h.1, h.2.symm⟩))))
            go_wp2_with fail
            go_ret
            exact ⟨ret_int H.out.symm, HWN.out _⟩
          · have hn0 : Sp.cmpS n1 n2 = 0 := Decidable.not_not.1 hn
            have HC2 : Hid (A.cmp B = if t.cmp u ≠ 0 then t.cmp u else l.cmp r) := by show _ = _; rw [HCC.out, if_neg hn]
            clear hn
            go_wp2_with fail
            go_quiet ((go_at_call 61; exact Calls.quiet_of_same ((cmpStr_any _ _ _).mono (fun e w' h => ⟨h.1, h.2.symm⟩))))
            obtain ⟨m1, hm1⟩ := HWN.out nq
            have HO' : Hid (∀ q, Calls Try.prog 35 #[v1, v2] ((wr.drewN nq).drewN q) fun e w' => e = .returned (.int .i64 (t.cmp u)) ∧ ∃ m, w' = ((wr.drewN nq).drewN q).drewN m) := fun q => by
              rw [World.drewN_drewN]; exact HO.out _
            have HW' : Hid (∀ q, ∃ m', (wr.drewN nq).drewN q = w.drewN m') := fun q => ⟨m + (nq + q), by rw [HW.out]; simp [Nat.add_assoc]⟩
            have c1' : (wr.drewN nq).cell? ⟨g1, o1 + k * 2 + 1, none⟩ = some v1 := c1
            have c2' : (wr.drewN nq).cell? ⟨g2, o2 + k * 2 + 1, none⟩ = some v2 := c2
            clear c1 c2 a1 a2 hm1
            generalize wr.drewN nq = wq at *
            go_wp2_with fail
            go_quiet ((go_at_call 35; exact Calls.quiet_of (HO'.out _)))
            by_cases he : t.cmp u ≠ 0
            · have he' := ne_bool he
              have H : Hid (A.cmp B = t.cmp u) := by show _ = _; rw [HC2.out, if_pos he]
              clear he
              go_wp2_with fail
              go_ret
              exact ⟨ret_int H.out.symm, HW'.out _⟩
            · have he0 : t.cmp u = 0 := Decidable.not_not.1 he
              have H : Hid (A.cmp B = l.cmp r) := by show _ = _; rw [HC2.out, if_neg he]
              clear he
              go_wp2_with fail
              go_roundw
              case rel =>
                obtain ⟨m', hm'⟩ := HW'.out nq
                exact ⟨k + 1, m', l, r, by go_num, HL.out.1, HL.out.2, htN.2, ⟨HN.out.1, HN.out.2.1, HN.out.2.2.1, HN.out.2.2.2, H.out⟩, hm'⟩
              case measure => simp [intOf]; omega

set_option maxRecDepth 100000 in
set_option maxHeartbeats 1000000 in
theorem orderRecords_any (N : Nat) (HC : OrderC N) (A B : TmF) (hN : A.sz ≤ N) (g1 g2 : Nat) (a b : Option Addr) (ca cb : Nat) (n1 n2 : ByteArray) (x1 x2 : Int) (S : Nat → Prop) (w : World) (ha : A.V w S a 0) (hb : B.V w S b 0) (oa : A.Ok) (ob : B.Ok) (la : A.len ≤ maxLen) (lb : B.len ≤ maxLen)
    (c0 : w.cell? ⟨g1, 0, none⟩ = some (.string n1)) (c1 : w.cell? ⟨g1, 1, none⟩ = some (.int .i64 x1)) (c2 : w.cell? ⟨g1, 2, none⟩ = some (.slice a A.len ca))
    (d0 : w.cell? ⟨g2, 0, none⟩ = some (.string n2)) (d1 : w.cell? ⟨g2, 1, none⟩ = some (.int .i64 x2)) (d2 : w.cell? ⟨g2, 2, none⟩ = some (.slice b B.len cb)) :
    Calls Try.prog 66 #[.pointer (some ⟨g1, 0, none⟩), .pointer (some ⟨g2, 0, none⟩)] w fun e w' => e = .returned (.int .i64 (if Sp.cmpS n1 n2 ≠ 0 then Sp.cmpS n1 n2 else if Sp.cmpI x1 x2 ≠ 0 then Sp.cmpI x1 x2 else A.cmp B)) ∧ ∃ m, w' = w.drewN m := by
  have HD : Hid (∀ n, Calls Try.prog 65 #[.slice a A.len ca, .slice b B.len cb] (w.drewN n) fun e w' => e = .returned (.int .i64 (A.cmp B)) ∧ ∃ m, w' = (w.drewN n).drewN m) := fun n =>
    orderDicts_any N HC A B hN a b ca cb S (w.drewN n) (A.V_same (same_drewN _ _ _) (fun _ h => h) a 0 ha) (B.V_same (same_drewN _ _ _) (fun _ h => h) b 0 hb) oa ob la lb
  clear ha hb HC oa ob
  generalize hR : (if Sp.cmpS n1 n2 ≠ 0 then Sp.cmpS n1 n2 else if Sp.cmpI x1 x2 ≠ 0 then Sp.cmpI x1 x2 else A.cmp B) = R
  have HR : Hid ((if Sp.cmpS n1 n2 ≠ 0 then Sp.cmpS n1 n2 else if Sp.cmpI x1 x2 ≠ 0 then Sp.cmpI x1 x2 else A.cmp B) = R) := hR
  clear hR
  by_cases hn : Sp.cmpS n1 n2 ≠ 0
  · have hn' := ne_bool hn
    have H : Hid (R = Sp.cmpS n1 n2) := by show _ = _; rw [← HR.out, if_pos hn]
    clear hn
    go_enter Try.func66, Try.ntmps66
    go_wp2_with fail
    go_quiet ((go_at_call 61; exact Calls.quiet_of_same ((cmpStr_any _ _ _).mono (fun e w' h => ⟨h.1, h.2.symm⟩))))
    go_wp2_with fail
    go_ret
    exact ⟨ret_int H.out.symm, _, rfl⟩
  · have hn0 : Sp.cmpS n1 n2 = 0 := Decidable.not_not.1 hn
    by_cases hv : Sp.cmpI x1 x2 ≠ 0
    · have hv' := ne_bool hv
      have H : Hid (R = Sp.cmpI x1 x2) := by show _ = _; rw [← HR.out, if_neg hn, if_pos hv]
      clear hn hv
      go_enter Try.func66, Try.ntmps66
      go_wp2_with fail
      go_quiet ((go_at_call 61; exact Calls.quiet_of_same ((cmpStr_any _ _ _).mono (fun e w' h => ⟨h.1, h.2.symm⟩))))
      have HW' : Hid (∀ q, ∃ m, (w.drewN nq).drewN q = w.drewN m) := fun q => ⟨nq + q, by simp⟩
      have HD' : Hid (∀ n, Calls Try.prog 65 #[.slice a A.len ca, .slice b B.len cb] ((w.drewN nq).drewN n) fun e w' => e = .returned (.int .i64 (A.cmp B)) ∧ ∃ m, w' = ((w.drewN nq).drewN n).drewN m) := fun n => by rw [World.drewN_drewN]; exact HD.out _
      have c1' : (w.drewN nq).cell? ⟨g1, 1, none⟩ = some (.int .i64 x1) := c1
      have c2' : (w.drewN nq).cell? ⟨g1, 2, none⟩ = some (.slice a A.len ca) := c2
      have d1' : (w.drewN nq).cell? ⟨g2, 1, none⟩ = some (.int .i64 x2) := d1
      have d2' : (w.drewN nq).cell? ⟨g2, 2, none⟩ = some (.slice b B.len cb) := d2
      clear c0 c1 c2 d0 d1 d2 HD
      generalize w.drewN nq = wq at *
      go_wp2_with fail
      go_quiet ((go_at_call 56; exact Calls.quiet_of_same ((cmpInt_any _ _ _).mono (fun e w' h => ⟨h.1, h.2.symm⟩))))
      go_wp2_with fail
      go_ret
      exact ⟨ret_int H.out.symm, HW'.out _⟩
    · have hv0 : Sp.cmpI x1 x2 = 0 := Decidable.not_not.1 hv
      have H : Hid (R = A.cmp B) := by show _ = _; rw [← HR.out, if_neg hn, if_neg hv]
      clear hn hv
      go_enter Try.func66, Try.ntmps66
      go_wp2_with fail
      go_quiet ((go_at_call 61; exact Calls.quiet_of_same ((cmpStr_any _ _ _).mono (fun e w' h => ⟨h.1, h.2.symm⟩))))
      have HW' : Hid (∀ q, ∃ m, (w.drewN nq).drewN q = w.drewN m) := fun q => ⟨nq + q, by simp⟩
      have HD' : Hid (∀ n, Calls Try.prog 65 #[.slice a A.len ca, .slice b B.len cb] ((w.drewN nq).drewN n) fun e w' => e = .returned (.int .i64 (A.cmp B)) ∧ ∃ m, w' = ((w.drewN nq).drewN n).drewN m) := fun n => by rw [World.drewN_drewN]; exact HD.out _
      have c1' : (w.drewN nq).cell? ⟨g1, 1, none⟩ = some (.int .i64 x1) := c1
      have c2' : (w.drewN nq).cell? ⟨g1, 2, none⟩ = some (.slice a A.len ca) := c2
      have d1' : (w.drewN nq).cell? ⟨g2, 1, none⟩ = some (.int .i64 x2) := d1
      have d2' : (w.drewN nq).cell? ⟨g2, 2, none⟩ = some (.slice b B.len cb) := d2
      clear c0 c1 c2 d0 d1 d2 HD
      generalize w.drewN nq = wq at *
      go_wp2_with fail
      go_quiet ((go_at_call 56; exact Calls.quiet_of_same ((cmpInt_any _ _ _).mono (fun e w' h => ⟨h.1, h.2.symm⟩))))
      have HW2 : Hid (∀ q, ∃ m, (wq.drewN nq).drewN q = w.drewN m) := fun q => by rw [World.drewN_drewN]; exact HW'.out _
      have HD2 : Hid (∀ n, Calls Try.prog 65 #[.slice a A.len ca, .slice b B.len cb] ((wq.drewN nq).drewN n) fun e w' => e = .returned (.int .i64 (A.cmp B)) ∧ ∃ m, w' = ((wq.drewN nq).drewN n).drewN m) := fun n => by rw [World.drewN_drewN]; exact HD'.out _
      have c2'' : (wq.drewN nq).cell? ⟨g1, 2, none⟩ = some (.slice a A.len ca) := c2'
      have d2'' : (wq.drewN nq).cell? ⟨g2, 2, none⟩ = some (.slice b B.len cb) := d2'
      clear c1' c2' d1' d2' HD'
      generalize wq.drewN nq = wr at *
      go_wp2_with fail
      go_quiet ((go_at_call 65; exact Calls.quiet_of (HD2.out _)))
      go_wp2_with fail
      go_ret
      exact ⟨ret_int H.out.symm, HW2.out _⟩
end Go.Proofs.Ytflcchemkbkinaa

/- Package value's order of two values is the plain order of their terms. -/
import Derived.Test.YtflcchemkbkinaaOrdL
namespace Go.Proofs.Ytflcchemkbkinaa
open Go.RowKit

def OrderC (N : Nat) : Prop := ∀ (s t : Tm), s.sz ≤ N → ∀ (va vb : Value) (S : Nat → Prop) (w : World), s.V w S va → t.V w S vb → s.Ok → t.Ok →
  Calls Try.prog 35 #[va, vb] w fun e w' => e = .returned (.int .i64 (s.cmp t)) ∧ ∃ m, w' = w.drewN m

theorem same_drewN (S : Nat → Prop) (w : World) (n : Nat) : Same S w (w.drewN n) := fun _ _ => rfl

set_option maxRecDepth 100000 in
set_option maxHeartbeats 1000000 in
theorem orderLists_any (N : Nat) (HC : OrderC N) (A B : TmL) (hN : A.sz ≤ N) (a b : Option Addr) (ca cb : Nat) (S : Nat → Prop) (w : World) (ha : A.V w S a 0) (hb : B.V w S b 0) (oa : A.Ok) (ob : B.Ok) (la : A.len ≤ maxLen) (lb : B.len ≤ maxLen) :
    Calls Try.prog 64 #[.slice a A.len ca, .slice b B.len cb] w fun e w' => e = .returned (.int .i64 (A.cmp B)) ∧ ∃ m, w' = w.drewN m := by
  unfold maxLen at la lb
  have HCH : Hid (OrderC N) := HC
  have H0 : Hid (A.V w S a 0 ∧ B.V w S b 0 ∧ A.Ok ∧ B.Ok) := ⟨ha, hb, oa, ob⟩
  clear HC ha hb oa ob
  by_cases hm : A.len ≤ B.len
  all_goals
    go_enter Try.func64, Try.ntmps64
    go_wp2_with fail
    go_loopw [12] (fun x wr => ∃ (k m : Nat) (l r : TmL), x = .int .i64 k ∧ l.len + k = A.len ∧ r.len + k = B.len ∧ l.sz ≤ N ∧ Hid (l.V w S a k ∧ r.V w S b k ∧ l.Ok ∧ r.Ok ∧ A.cmp B = l.cmp r) ∧ Hid (wr = w.drewN m)) (fun x _ => A.len - (intOf x).toNat)
    case atStart => exact ⟨0, 0, A, B, rfl, rfl, rfl, hN, ⟨H0.out.1, H0.out.2.1, H0.out.2.2.1, H0.out.2.2.2, rfl⟩, rfl⟩
    case round =>
      obtain ⟨k, m, l, r, rfl, hl, hr, hlN, HI, HW⟩ := hrel
      cases l with
      | nil =>
        have h1 : A.len ≤ k := by simp [TmL.len] at hl; omega
        have H : Hid (A.cmp B = Sp.cmpI A.len B.len) := by
          show _ = _
          rw [HI.out.2.2.2.2]
          cases r with
          | nil => simp only [TmL.len] at hl hr; simp only [TmL.cmp]; unfold Sp.cmpI; rw [if_neg (by omega), if_neg (by omega)]
          | cons u r => simp only [TmL.len] at hl hr; simp only [TmL.cmp]; unfold Sp.cmpI; rw [if_pos (by omega)]
        have h2 : k ≤ B.len := by omega
        have h3 : A.len ≤ B.len := by simp only [TmL.len] at hl; omega
        clear hl hr
        first
        | (exfalso; omega)
        | (go_wp2_with (go_at_call 56; refine (cmpInt_any _ _ _).mono ?_; rintro e w' ⟨rfl, rfl⟩)
           go_ret
           exact ⟨ret_int H.out.symm, m, HW.out⟩)
      | cons t l =>
        cases r with
        | nil =>
          have h1 : B.len ≤ k := by simp [TmL.len] at hr; omega
          have H : Hid (A.cmp B = Sp.cmpI A.len B.len) := by
            show _ = _
            rw [HI.out.2.2.2.2]
            simp only [TmL.len] at hl hr; simp only [TmL.cmp]; unfold Sp.cmpI; rw [if_neg (by omega), if_pos (by omega)]
          have h3 : B.len < A.len := by simp only [TmL.len] at hl hr; omega
          clear hl hr
          first
          | (exfalso; omega)
          | (go_wp2_with (go_at_call 56; refine (cmpInt_any _ _ _).mono ?_; rintro e w' ⟨rfl, rfl⟩)
             go_ret
             exact ⟨ret_int H.out.symm, m, HW.out⟩)
        | cons u r =>
          obtain ⟨hv1, hv2, ho1, ho2, hc⟩ := HI.out
          simp only [TmL.V] at hv1 hv2
          obtain ⟨g1, o1, v1, rfl, _, c1, ht, hl'⟩ := hv1
          obtain ⟨g2, o2, v2, rfl, _, c2, hu, hr'⟩ := hv2
          have hk1 : k < A.len := by simp only [TmL.len] at hl; omega
          have hk2 : k < B.len := by simp only [TmL.len] at hr; omega
          have hi0 : (0 : Int) ≤ (k : Int) := Int.natCast_nonneg _
          have hi1 : (k : Int) < (A.len : Int) := by omega
          have hi2 : (k : Int) < (B.len : Int) := by omega
          have HL : Hid (l.len + (k + 1) = A.len ∧ r.len + (k + 1) = B.len) := by show _ ∧ _; simp only [TmL.len] at hl hr; omega
          have htN : t.sz ≤ N ∧ l.sz ≤ N := by simp [TmL.sz] at hlN; omega
          have HO : Hid (∀ n, Calls Try.prog 35 #[v1, v2] (wr.drewN n) fun e w' => e = .returned (.int .i64 (t.cmp u)) ∧ ∃ m, w' = (wr.drewN n).drewN m) := fun n => by
            have hs : Same S w (wr.drewN n) := fun k _ => by rw [HW.out]; rfl
            exact HCH.out t u htN.1 v1 v2 S (wr.drewN n) (t.V_same hs (fun _ h => h) v1 ht) (u.V_same hs (fun _ h => h) v2 hu) ho1.head.1 ho2.head.1
          have c1 : wr.cell? ⟨g1, o1 + k, none⟩ = some v1 := by rw [HW.out]; exact c1
          have c2 : wr.cell? ⟨g2, o2 + k, none⟩ = some v2 := by rw [HW.out]; exact c2
          have HWN : Hid (∀ q, ∃ m', wr.drewN q = w.drewN m') := fun q => ⟨m + q, by rw [HW.out]; simp⟩
          have HN : Hid (l.V w S (some ⟨g1, o1, none⟩) (k + 1) ∧ r.V w S (some ⟨g2, o2, none⟩) (k + 1) ∧ l.Ok ∧ r.Ok) := ⟨hl', hr', ho1.head.2, ho2.head.2⟩
          have HCC : Hid (A.cmp B = if t.cmp u ≠ 0 then t.cmp u else l.cmp r) := by show _ = _; rw [hc, TmL.cmp]
          clear hl hr hlN HI hl' hr' ho1 ho2 hc ht hu H0
          go_wp2_with fail
          go_quiet ((go_at_call 35; exact Calls.quiet_of (HO.out _)))
          by_cases he : t.cmp u ≠ 0
          · have he' := ne_bool he
            have H : Hid (A.cmp B = t.cmp u) := by show _ = _; rw [HCC.out, if_pos he]
            clear he
            go_wp2_with fail
            go_ret
            exact ⟨ret_int H.out.symm, HWN.out _⟩
          · have he0 : t.cmp u = 0 := Decidable.not_not.1 he
            have H : Hid (A.cmp B = l.cmp r) := by show _ = _; rw [HCC.out, if_neg he]
            clear he
            go_wp2_with fail
            go_roundw
            case rel =>
              obtain ⟨m', hm'⟩ := HWN.out nq
              exact ⟨k + 1, m', l, r, by go_num, HL.out.1, HL.out.2, htN.2, ⟨HN.out.1, HN.out.2.1, HN.out.2.2.1, HN.out.2.2.2, H.out⟩, hm'⟩
            case measure => simp [intOf]; omega
end Go.Proofs.Ytflcchemkbkinaa

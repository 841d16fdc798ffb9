/- Plain mathematics: how many parts a list of two has, and how deep it is. Nothing of the program stands here. -/
import Derived.Test.YtbaadndogikphaaShift
import Derived.Test.YtbaadndogikphaaSameV
namespace Go.Proofs.Ytbaadndogikphaa

def mkL (l : TmL) : Tm := .mk 8 false 0 0 ByteArray.empty ByteArray.empty 0 l .nil ByteArray.empty 0
def mkD (fs : TmF) : Tm := .mk 9 false 0 0 ByteArray.empty ByteArray.empty 0 .nil fs ByteArray.empty 0
def tt : Tm := .mk 2 true 0 0 ByteArray.empty ByteArray.empty 0 .nil .nil ByteArray.empty 0
def none1 : Tm := .mk 1 false 0 0 ByteArray.empty ByteArray.empty 0 .nil .nil ByteArray.empty 0
def nmA : ByteArray := ⟨#[97]⟩
def pairT (s t : Tm) : Tm := mkL (.cons s (.cons (mkD (.cons nmA t .nil)) .nil))
def ttT (t : Tm) : Tm := mkL (.cons tt (.cons t .nil))

theorem fieldsR_a (t : Tm) : Sp.fieldsR (TmF.cons nmA t .nil).names = 0 := by
  show Sp.fieldsR [nmA] = 0
  decide +kernel
theorem mkL_wk (l : TmL) (h : l.len ≤ 4096) (n p d : Int) (hp : p < 16384) (hn : n ≤ 64) : (mkL l).wk n p d = l.wk (n + 1) (p + 1) (max d n) := by
  have he : Sp.ent 8 p n = 0 := by unfold Sp.ent; rw [if_neg (by omega), if_neg (by omega), if_neg (by omega)]
  unfold mkL; rw [Tm.wk_8 he, TmL.wkR, if_neg (by omega)]
theorem mkD_wk (l : TmF) (h : Sp.fieldsR l.names = 0) (n p d : Int) (hp : p < 16384) (hn : n ≤ 64) : (mkD l).wk n p d = l.wk (n + 1) (p + 1) (max d n) := by
  have he : Sp.ent 9 p n = 0 := by unfold Sp.ent; rw [if_neg (by omega), if_neg (by omega), if_neg (by omega)]
  unfold mkD; rw [Tm.wk_9 he, TmF.wkR, if_neg (by rw [h]; decide)]
theorem mkD_wk2 (l : TmF) (n p d : Int) (h : 16384 ≤ p ∨ 64 < n) : ((mkD l).wk n p d).e = 2 := by
  have he : Sp.ent 9 p n = 2 := by unfold Sp.ent; rw [if_neg (by omega), if_neg (by omega), if_pos h]
  unfold mkD; rw [Tm.wk_ent (by rw [he]; decide)]; exact he

theorem Tm.fit_all {t : Tm} (h : t.all.e = 0) : ∃ N D, t.Fit N D ∧ N ≤ 16384 ∧ D ≤ 63 ∧ t.all = ⟨N, D + 1, 0⟩ := by
  obtain ⟨N, D, hF⟩ := Tm.fit t _ _ _ h
  refine ⟨N, D, hF, ?_⟩
  obtain ⟨h1, h2, h3⟩ := hF
  rcases h3 1 0 0 with ⟨a, b, c⟩ | ⟨_, c⟩
  · refine ⟨by omega, by omega, ?_⟩
    show t.wk 1 0 0 = _
    rw [c]; refine Wr.eq ?_ ?_ rfl <;> simp <;> omega
  · have : t.all.e = 2 := c
    omega
theorem Tm.all_of_wk {t : Tm} {n p d : Int} (hn : 1 ≤ n) (hp : 0 ≤ p) (h : (t.wk n p d).e = 0) : t.all.e = 0 := by
  obtain ⟨N, D, h1, h2, h3⟩ := Tm.fit t _ _ _ h
  have : p + N ≤ 16384 ∧ n + D ≤ 64 := by
    rcases h3 n p d with ⟨a, b, _⟩ | ⟨_, c⟩
    · exact ⟨a, b⟩
    · omega
  rcases h3 1 0 0 with ⟨_, _, c⟩ | ⟨c, _⟩
  · show (t.wk 1 0 0).e = 0; rw [c]
  · omega

theorem pair_all {s t : Tm} {N1 D1 N2 D2 : Int} (hs : s.Fit N1 D1) (ht : t.Fit N2 D2) :
    (N1 + N2 + 2 ≤ 16384 ∧ 2 + D1 ≤ 64 ∧ 3 + D2 ≤ 64 ∧ (pairT s t).all = ⟨N1 + N2 + 2, max (2 + D1) (3 + D2), 0⟩) ∨ ((16384 < N1 + N2 + 2 ∨ 64 < 2 + D1 ∨ 64 < 3 + D2) ∧ (pairT s t).all.e = 2) := by
  have e : (pairT s t).all = TmL.wk (.cons s (.cons (mkD (.cons nmA t .nil)) .nil)) 2 1 1 := by
    show (mkL _).wk 1 0 0 = _; rw [mkL_wk _ (by simp [TmL.len]) _ _ _ (by decide) (by decide)]; rfl
  rw [e]
  obtain ⟨a1, a2, a3⟩ := hs
  obtain ⟨b1, b2, b3⟩ := ht
  rw [TmL.wk]
  rcases a3 2 1 1 with ⟨c1, c2, c3⟩ | ⟨c1, c2⟩
  · rw [c3, if_neg (by simp)]
    simp only []
    by_cases hp : 16384 ≤ 1 + N1
    · right
      have := mkD_wk2 (.cons nmA t .nil) 2 (1 + N1) (max 1 (2 + D1)) (.inl hp)
      rw [TmL.wk, if_pos (by rw [this]; decide)]
      exact ⟨by omega, this⟩
    · have h0 : (mkD (.cons nmA t .nil)).wk 2 (1 + N1) (max 1 (2 + D1)) = TmF.wk (.cons nmA t .nil) 3 (1 + N1 + 1) (max (max 1 (2 + D1)) 2) := mkD_wk _ (fieldsR_a t) _ _ _ (by omega) (by decide)
      rw [TmL.wk, h0, TmF.wk]
      rcases b3 3 (1 + N1 + 1) (max (max 1 (2 + D1)) 2) with ⟨d1, d2, d3⟩ | ⟨d1, d2⟩
      · left
        refine ⟨by omega, by omega, by omega, ?_⟩
        rw [d3]; simp only [ne_eq, not_true_eq_false, if_false, TmF.wk, TmL.wk]
        refine Wr.eq ?_ ?_ rfl <;> simp <;> omega
      · right
        have h2 : (t.wk 3 (1 + N1 + 1) (max (max 1 (2 + D1)) 2)).e ≠ 0 := by rw [d2]; decide
        rw [if_pos h2, if_pos h2]
        exact ⟨by omega, d2⟩
  · right; rw [if_pos (by rw [c2]; decide)]; exact ⟨by omega, c2⟩

theorem pair_bad {s t : Tm} (h : s.all.e ≠ 0 ∨ t.all.e ≠ 0) : (pairT s t).all.e ≠ 0 := by
  intro he
  have e : (pairT s t).all = TmL.wk (.cons s (.cons (mkD (.cons nmA t .nil)) .nil)) 2 1 1 := by
    show (mkL _).wk 1 0 0 = _; rw [mkL_wk _ (by simp [TmL.len]) _ _ _ (by decide) (by decide)]; rfl
  rw [e, TmL.wk] at he
  by_cases h1 : (s.wk 2 1 1).e ≠ 0
  · rw [if_pos h1] at he; exact h1 he
  rw [if_neg h1] at he
  have h1 := Decidable.not_not.1 h1
  have hs : s.all.e = 0 := Tm.all_of_wk (by decide) (by decide) h1
  have hb := s.wk_bd 2 1 1 (by decide) (by decide)
  rw [TmL.wk] at he
  by_cases h2 : ((mkD (.cons nmA t .nil)).wk 2 (s.wk 2 1 1).p (s.wk 2 1 1).d).e ≠ 0
  · rw [if_pos h2] at he; exact h2 he
  have h2 := Decidable.not_not.1 h2
  by_cases hp : 16384 ≤ (s.wk 2 1 1).p
  · have := mkD_wk2 (.cons nmA t .nil) 2 (s.wk 2 1 1).p (s.wk 2 1 1).d (.inl hp)
    omega
  · rw [mkD_wk _ (fieldsR_a t) 2 (s.wk 2 1 1).p (s.wk 2 1 1).d (by omega) (by decide), TmF.wk] at h2
    by_cases h3 : (t.wk (2 + 1) ((s.wk 2 1 1).p + 1) (max (s.wk 2 1 1).d 2)).e ≠ 0
    · rw [if_pos h3] at h2; exact h3 h2
    · have ht : t.all.e = 0 := Tm.all_of_wk (by decide) (by omega) (Decidable.not_not.1 h3)
      rcases h with h | h
      · exact h hs
      · exact h ht

theorem tt_all {t : Tm} {N D : Int} (ht : t.Fit N D) (h1 : N + 2 ≤ 16384) (h2 : 2 + D ≤ 64) : (ttT t).all.e = 0 := by
  have e : (ttT t).all = TmL.wk (.cons tt (.cons t .nil)) 2 1 1 := by
    show (mkL _).wk 1 0 0 = _; rw [mkL_wk _ (by simp [TmL.len]) _ _ _ (by decide) (by decide)]; rfl
  have e2 : tt.wk 2 1 1 = ⟨2, 2, 0⟩ := by rfl
  rw [e, TmL.wk, e2, if_neg (by simp), TmL.wk]
  obtain ⟨_, _, h⟩ := ht
  rcases h 2 2 2 with ⟨_, _, c⟩ | ⟨c, _⟩
  · simp only [c, ne_eq, not_true_eq_false, if_false, TmL.wk]
  · omega
theorem tt_cmp (s t : Tm) : (ttT s).cmp (ttT t) = s.cmp t := by
  have e2 : tt.cmp tt = 0 := by rfl
  unfold ttT mkL
  rw [Tm.cmp_8, TmL.cmp, e2, if_neg (by decide), TmL.cmp]
  by_cases h : s.cmp t ≠ 0
  · rw [if_pos h]
  · rw [if_neg h, TmL.cmp]; exact (Decidable.not_not.1 h).symm
theorem nil_all : (mkL (.cons none1 .nil)).all = ⟨2, 2, 0⟩ := by rfl

/-- what the statement asks of the numbers -/
def SzGood (n deep e m far f all most g o h p i : Int) : Prop :=
  ((e ≠ 0 ∨ f ≠ 0) ∧ g ≠ 0 ∧ all = 0 ∧ most = 0) ∨
  (e = 0 ∧ f = 0 ∧ (1 ≤ n ∧ n ≤ 16384) ∧ (1 ≤ m ∧ m ≤ 16384) ∧ (1 ≤ deep ∧ deep ≤ 64) ∧ (1 ≤ far ∧ far ≤ 64) ∧ ((16384 < n + m + 2 ∨ 64 < max deep (far + 1) + 1) ∧ g = 2)) ∨
  (e = 0 ∧ f = 0 ∧ (1 ≤ n ∧ n ≤ 16384) ∧ (1 ≤ m ∧ m ≤ 16384) ∧ (1 ≤ deep ∧ deep ≤ 64) ∧ (1 ≤ far ∧ far ≤ 64) ∧ n + m + 2 ≤ 16384 ∧ max deep (far + 1) + 1 ≤ 64 ∧ g = 0 ∧ all = n + m + 2 ∧ most = max deep (far + 1) + 1 ∧ o = p ∧ h = 0 ∧ i = 0)
theorem sz_good (s t : Tm) : SzGood s.szN s.szD s.all.e t.szN t.szD t.all.e (pairT s t).szN (pairT s t).szD (pairT s t).all.e (s.ordN t) (s.ordE t) ((ttT s).ordN (ttT t)) ((ttT s).ordE (ttT t)) := by
  by_cases hb : s.all.e ≠ 0 ∨ t.all.e ≠ 0
  · left; have := pair_bad hb
    exact ⟨hb, this, by unfold Tm.szN; rw [if_pos this], by unfold Tm.szD; rw [if_pos this]⟩
  have hs : s.all.e = 0 := Decidable.not_not.1 fun h => hb (.inl h)
  have ht : t.all.e = 0 := Decidable.not_not.1 fun h => hb (.inr h)
  obtain ⟨N1, D1, f1, n1, d1, a1⟩ := Tm.fit_all hs
  obtain ⟨N2, D2, f2, n2, d2, a2⟩ := Tm.fit_all ht
  have hN1 : s.szN = N1 := by unfold Tm.szN; rw [if_neg (by omega), a1]
  have hD1 : s.szD = D1 + 1 := by unfold Tm.szD; rw [if_neg (by omega), a1]
  have hN2 : t.szN = N2 := by unfold Tm.szN; rw [if_neg (by omega), a2]
  have hD2 : t.szD = D2 + 1 := by unfold Tm.szD; rw [if_neg (by omega), a2]
  have g1 := f1.1
  have g2 := f1.2.1
  have g3 := f2.1
  have g4 := f2.2.1
  rw [hN1, hD1, hN2, hD2, hs, ht]
  rcases pair_all f1 f2 with ⟨c1, c2, c3, c4⟩ | ⟨c1, c2⟩
  · right; right
    have he : (pairT s t).all.e = 0 := by rw [c4]
    have e1 : (ttT s).all.e = 0 := tt_all f1 (by omega) (by omega)
    have e2 : (ttT t).all.e = 0 := tt_all f2 (by omega) (by omega)
    have hN : (pairT s t).szN = N1 + N2 + 2 := by unfold Tm.szN; rw [if_neg (by omega), c4]
    have hD : (pairT s t).szD = max (2 + D1) (3 + D2) := by unfold Tm.szD; rw [if_neg (by omega), c4]
    rw [hN, hD, he, (same_ok ⟨hs, ht⟩).1, (same_ok ⟨hs, ht⟩).2, (same_ok ⟨e1, e2⟩).1, (same_ok ⟨e1, e2⟩).2, tt_cmp]
    refine ⟨rfl, rfl, by omega, by omega, by omega, by omega, by omega, by omega, rfl, rfl, by omega, rfl, rfl, rfl⟩
  · right; left
    exact ⟨rfl, rfl, by omega, by omega, by omega, by omega, by omega, c2⟩
end Go.Proofs.Ytbaadndogikphaa

/- Plain mathematics: a term that can be somewhere has a number of parts and a depth of its own; elsewhere it is wrong only by too many parts or too great a depth. Nothing of the program stands here. -/
import Derived.Test.YtbaadndogikphaaCmp
namespace Go.Proofs.Ytbaadndogikphaa

theorem Sp.ent_or {k p0 n0 : Int} (h : Sp.ent k p0 n0 = 0) (p n : Int) : (p < 16384 ∧ n ≤ 64 ∧ Sp.ent k p n = 0) ∨ ((16384 ≤ p ∨ 64 < n) ∧ Sp.ent k p n = 2) := by
  have := Sp.ent_zero h
  by_cases g : 16384 ≤ p ∨ 64 < n
  · right; refine ⟨g, ?_⟩; unfold Sp.ent; rw [if_neg (by omega), if_neg (by omega), if_pos g]
  · left; refine ⟨by omega, by omega, ?_⟩; unfold Sp.ent; rw [if_neg (by omega), if_neg (by omega), if_neg g]

theorem Tm.own_or {t : Tm} {p0 n0 : Int} (h : t.own p0 n0 = 0) (p n : Int) : (p < 16384 ∧ n ≤ 64 ∧ t.own p n = 0) ∨ ((16384 ≤ p ∨ 64 < n) ∧ t.own p n = 2) := by
  have he := Tm.own_ent _ _ _ h
  cases t with
  | mk k b i f tx by' rf l fs c v =>
    simp only [Tm.kind] at he
    rcases Sp.ent_or he p n with ⟨h1, h2, h3⟩ | ⟨h1, h2⟩
    · left; refine ⟨h1, h2, ?_⟩
      simp only [Tm.own, he, h3] at h ⊢; exact h
    · right; refine ⟨h1, ?_⟩
      simp only [Tm.own, h2]; rw [if_pos (by decide)]

/-- N parts, D deep below the place where it stands -/
def Tm.Fit (t : Tm) (N D : Int) : Prop := 1 ≤ N ∧ 0 ≤ D ∧ ∀ n p d, (p + N ≤ 16384 ∧ n + D ≤ 64 ∧ t.wk n p d = ⟨p + N, max d (n + D), 0⟩) ∨ ((16384 < p + N ∨ 64 < n + D) ∧ (t.wk n p d).e = 2)
def TmL.Fit (l : TmL) (N D : Int) : Prop := 0 ≤ N ∧ -1 ≤ D ∧ ∀ n p d, p ≤ 16384 → n ≤ 65 → n - 1 ≤ d → (p + N ≤ 16384 ∧ n + D ≤ 64 ∧ l.wk n p d = ⟨p + N, max d (n + D), 0⟩) ∨ ((16384 < p + N ∨ 64 < n + D) ∧ (l.wk n p d).e = 2)
def TmF.Fit (l : TmF) (N D : Int) : Prop := 0 ≤ N ∧ -1 ≤ D ∧ ∀ n p d, p ≤ 16384 → n ≤ 65 → n - 1 ≤ d → (p + N ≤ 16384 ∧ n + D ≤ 64 ∧ l.wk n p d = ⟨p + N, max d (n + D), 0⟩) ∨ ((16384 < p + N ∨ 64 < n + D) ∧ (l.wk n p d).e = 2)

theorem Wr.eq {a b : Wr} (h1 : a.p = b.p) (h2 : a.d = b.d) (h3 : a.e = b.e) : a = b := by cases a; cases b; simp_all

mutual
theorem Tm.fit : (t : Tm) → ∀ n0 p0 d0, (t.wk n0 p0 d0).e = 0 → ∃ N D, t.Fit N D
  | .mk k b i f tx by' rf l fs c v, n0, p0, d0, h => by
    rw [Tm.wk] at h
    by_cases h0 : (Tm.mk k b i f tx by' rf l fs c v).own p0 n0 ≠ 0
    · rw [if_pos h0] at h; exact absurd h h0
    rw [if_neg h0] at h
    have h0 := Decidable.not_not.1 h0
    by_cases h8 : k = 8
    · rw [if_pos h8] at h
      obtain ⟨N, D, hN, hD, hF⟩ := TmL.fit l _ _ _ h
      refine ⟨N + 1, D + 1, by omega, by omega, fun n p d => ?_⟩
      rcases Tm.own_or h0 p n with ⟨g1, g2, g3⟩ | ⟨g1, g2⟩
      · rw [Tm.wk, if_neg (by rw [g3]; decide), if_pos h8]
        rcases hF (n + 1) (p + 1) (max d n) (by omega) (by omega) (by omega) with ⟨f1, f2, f3⟩ | ⟨f1, f2⟩
        · left; refine ⟨by omega, by omega, ?_⟩; rw [f3]; refine Wr.eq ?_ ?_ rfl <;> simp <;> omega
        · right; refine ⟨by omega, f2⟩
      · right; rw [Tm.wk, if_pos (by rw [g2]; decide)]; exact ⟨by omega, g2⟩
    rw [if_neg h8] at h
    by_cases h9 : k = 9 ∨ k = 10
    · rw [if_pos h9] at h
      obtain ⟨N, D, hN, hD, hF⟩ := TmF.fit fs _ _ _ h
      refine ⟨N + 1, D + 1, by omega, by omega, fun n p d => ?_⟩
      rcases Tm.own_or h0 p n with ⟨g1, g2, g3⟩ | ⟨g1, g2⟩
      · rw [Tm.wk, if_neg (by rw [g3]; decide), if_neg h8, if_pos h9]
        rcases hF (n + 1) (p + 1) (max d n) (by omega) (by omega) (by omega) with ⟨f1, f2, f3⟩ | ⟨f1, f2⟩
        · left; refine ⟨by omega, by omega, ?_⟩; rw [f3]; refine Wr.eq ?_ ?_ rfl <;> simp <;> omega
        · right; refine ⟨by omega, f2⟩
      · right; rw [Tm.wk, if_pos (by rw [g2]; decide)]; exact ⟨by omega, g2⟩
    · refine ⟨1, 0, by omega, by omega, fun n p d => ?_⟩
      rcases Tm.own_or h0 p n with ⟨g1, g2, g3⟩ | ⟨g1, g2⟩
      · rw [Tm.wk, if_neg (by rw [g3]; decide), if_neg h8, if_neg h9]
        left; exact ⟨by omega, by omega, Wr.eq rfl (by simp) rfl⟩
      · right; rw [Tm.wk, if_pos (by rw [g2]; decide)]; exact ⟨by omega, g2⟩
theorem TmL.fit : (l : TmL) → ∀ n0 p0 d0, (l.wk n0 p0 d0).e = 0 → ∃ N D, l.Fit N D
  | .nil, n0, p0, d0, h => ⟨0, -1, by omega, by omega, fun n p d h1 h2 h3 => .inl ⟨by omega, by omega, by rw [TmL.wk]; exact Wr.eq (by simp) (by simp; omega) rfl⟩⟩
  | .cons t l, n0, p0, d0, h => by
    rw [TmL.wk] at h
    by_cases he : (t.wk n0 p0 d0).e ≠ 0
    · rw [if_pos he] at h; exact absurd h he
    rw [if_neg he] at h
    obtain ⟨N1, D1, a1, a2, hT⟩ := Tm.fit t _ _ _ (Decidable.not_not.1 he)
    obtain ⟨N2, D2, b1, b2, hL⟩ := TmL.fit l _ _ _ h
    refine ⟨N1 + N2, max D1 D2, by omega, by omega, fun n p d g1 g2 g3 => ?_⟩
    rw [TmL.wk]
    rcases hT n p d with ⟨e1, e2, e3⟩ | ⟨e1, e2⟩
    · rw [e3, if_neg (by simp)]
      rcases hL n (p + N1) (max d (n + D1)) (by omega) (by omega) (by omega) with ⟨f1, f2, f3⟩ | ⟨f1, f2⟩
      · left; refine ⟨by omega, by omega, ?_⟩; simp only [f3]; refine Wr.eq ?_ ?_ rfl <;> simp <;> omega
      · right; exact ⟨by omega, f2⟩
    · right; rw [if_pos (by rw [e2]; decide)]; exact ⟨by omega, e2⟩
theorem TmF.fit : (l : TmF) → ∀ n0 p0 d0, (l.wk n0 p0 d0).e = 0 → ∃ N D, l.Fit N D
  | .nil, n0, p0, d0, h => ⟨0, -1, by omega, by omega, fun n p d h1 h2 h3 => .inl ⟨by omega, by omega, by rw [TmF.wk]; exact Wr.eq (by simp) (by simp; omega) rfl⟩⟩
  | .cons m t l, n0, p0, d0, h => by
    rw [TmF.wk] at h
    by_cases he : (t.wk n0 p0 d0).e ≠ 0
    · rw [if_pos he] at h; exact absurd h he
    rw [if_neg he] at h
    obtain ⟨N1, D1, a1, a2, hT⟩ := Tm.fit t _ _ _ (Decidable.not_not.1 he)
    obtain ⟨N2, D2, b1, b2, hL⟩ := TmF.fit l _ _ _ h
    refine ⟨N1 + N2, max D1 D2, by omega, by omega, fun n p d g1 g2 g3 => ?_⟩
    rw [TmF.wk]
    rcases hT n p d with ⟨e1, e2, e3⟩ | ⟨e1, e2⟩
    · rw [e3, if_neg (by simp)]
      rcases hL n (p + N1) (max d (n + D1)) (by omega) (by omega) (by omega) with ⟨f1, f2, f3⟩ | ⟨f1, f2⟩
      · left; refine ⟨by omega, by omega, ?_⟩; simp only [f3]; refine Wr.eq ?_ ?_ rfl <;> simp <;> omega
      · right; exact ⟨by omega, f2⟩
    · right; rw [if_pos (by rw [e2]; decide)]; exact ⟨by omega, e2⟩
end
end Go.Proofs.Ytbaadndogikphaa

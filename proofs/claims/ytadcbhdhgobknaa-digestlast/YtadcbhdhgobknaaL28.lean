/- Plain mathematics: two terms that can be are told to be the same just if their bytes are. -/
import Derived.Test.YtadcbhdhgobknaaL23
import Derived.Test.YtadcbhdhgobknaaL27
namespace Go.Proofs.Ytadcbhdhgobknaa

mutual
theorem Tm.sm_enc : (s t : Tm) → s.Ok → s.sm t = true → s.enc = t.enc
  | .mk k b i f tx by' rf l fs c v, .mk k2 b2 i2 f2 tx2 by2 rf2 l2 fs2 c2 v2, ho, h => by
    obtain ⟨p1, p2, p3, p4⟩ := ho.parts
    rw [Tm.sm] at h
    simp only [Bool.and_eq_true, decide_eq_true_eq] at h
    obtain ⟨rfl, h⟩ := h
    have hk : k = 1 ∨ k = 2 ∨ k = 3 ∨ k = 4 ∨ k = 5 ∨ k = 6 ∨ k = 7 ∨ k = 8 ∨ k = 9 ∨ k = 10 := by omega
    rcases hk with rfl | rfl | rfl | rfl | rfl | rfl | rfl | rfl | rfl | rfl
    · rw [Tm.enc_1, Tm.enc_1]
    · simp at h; subst h; rw [Tm.enc_2, Tm.enc_2]
    · simp at h; subst h; rw [Tm.enc_3, Tm.enc_3]
    · simp at h; subst h; rw [Tm.enc_4, Tm.enc_4]
    · simp at h; subst h; rw [Tm.enc_5, Tm.enc_5]
    · simp at h; subst h; rw [Tm.enc_6, Tm.enc_6]
    · simp at h; subst h; rw [Tm.enc_7, Tm.enc_7]
    · simp at h
      obtain ⟨e1, e2⟩ := TmL.sm_enc l l2 (p3 rfl) h
      rw [Tm.enc_8, Tm.enc_8, TmL.encR, TmL.encR, e1, e2]
    · simp at h
      obtain ⟨e1, e2⟩ := TmF.sm_enc fs fs2 (p4 (Or.inl rfl)) h
      rw [Tm.enc_9, Tm.enc_9, TmF.encR, TmF.encR, e1, e2]
    · simp at h
      obtain ⟨⟨rfl, rfl⟩, h⟩ := h
      obtain ⟨e1, e2⟩ := TmF.sm_enc fs fs2 (p4 (Or.inr rfl)) h
      rw [Tm.enc_10, Tm.enc_10, TmF.encR, TmF.encR, e1, e2]
theorem TmL.sm_enc : (l r : TmL) → l.Ok → l.sm r = true → l.enc = r.enc ∧ l.len = r.len
  | .nil, .nil, _, _ => ⟨rfl, rfl⟩
  | .nil, .cons _ _, _, h => by simp [TmL.sm] at h
  | .cons _ _, .nil, _, h => by simp [TmL.sm] at h
  | .cons t l, .cons u r, ho, h => by
    rw [TmL.sm, Bool.and_eq_true] at h
    obtain ⟨e1, e2⟩ := TmL.sm_enc l r ho.head.2 h.2
    exact ⟨by rw [TmL.enc, TmL.enc, Tm.sm_enc t u ho.head.1 h.1, e1], by simp [TmL.len, e2]⟩
theorem TmF.sm_enc : (l r : TmF) → l.Ok → l.sm r = true → l.enc = r.enc ∧ l.len = r.len
  | .nil, .nil, _, _ => ⟨rfl, rfl⟩
  | .nil, .cons _ _ _, _, h => by simp [TmF.sm] at h
  | .cons _ _ _, .nil, _, h => by simp [TmF.sm] at h
  | .cons n t l, .cons m u r, ho, h => by
    rw [TmF.sm, Bool.and_eq_true, Bool.and_eq_true, decide_eq_true_eq] at h
    obtain ⟨rfl, h1, h2⟩ := h
    obtain ⟨e1, e2⟩ := TmF.sm_enc l r ho.head.2 h2
    exact ⟨by rw [TmF.enc, TmF.enc, Tm.sm_enc t u ho.head.1 h1, e1], by simp [TmF.len, e2]⟩
end
mutual
theorem Tm.clean_sm : (s t : Tm) → s.Ok → s.clean = t.clean → s.sm t = true
  | .mk k b i f tx by' rf l fs c v, .mk k2 b2 i2 f2 tx2 by2 rf2 l2 fs2 c2 v2, ho, h => by
    obtain ⟨p1, p2, p3, p4⟩ := ho.parts
    rw [Tm.clean, Tm.clean] at h
    injection h with hk h2 h3 h4 h5 h6 h7 h8 h9 h10 h11
    subst hk
    rw [Tm.sm, decide_eq_true rfl, Bool.true_and]
    have hk : k = 1 ∨ k = 2 ∨ k = 3 ∨ k = 4 ∨ k = 5 ∨ k = 6 ∨ k = 7 ∨ k = 8 ∨ k = 9 ∨ k = 10 := by omega
    rcases hk with rfl | rfl | rfl | rfl | rfl | rfl | rfl | rfl | rfl | rfl
    · simp
    · simp at h2 ⊢; exact h2
    · simp at h3 ⊢; exact h3
    · simp at h4 ⊢; exact h4
    · simp at h5 ⊢; exact h5
    · simp at h6 ⊢; exact h6
    · simp at h7 ⊢; exact h7
    · simp at h8 ⊢; exact TmL.clean_sm l l2 (p3 rfl) h8
    · simp at h9 ⊢; exact TmF.clean_sm fs fs2 (p4 (Or.inl rfl)) h9
    · simp at h9 h10 h11 ⊢; exact ⟨⟨h10, h11⟩, TmF.clean_sm fs fs2 (p4 (Or.inr rfl)) h9⟩
theorem TmL.clean_sm : (l r : TmL) → l.Ok → l.clean = r.clean → l.sm r = true
  | .nil, .nil, _, _ => by simp [TmL.sm]
  | .nil, .cons _ _, _, h => by simp [TmL.clean] at h
  | .cons _ _, .nil, _, h => by simp [TmL.clean] at h
  | .cons t l, .cons u r, ho, h => by
    rw [TmL.clean, TmL.clean] at h
    injection h with h1 h2
    rw [TmL.sm, Tm.clean_sm t u ho.head.1 h1, TmL.clean_sm l r ho.head.2 h2]; rfl
theorem TmF.clean_sm : (l r : TmF) → l.Ok → l.clean = r.clean → l.sm r = true
  | .nil, .nil, _, _ => by simp [TmF.sm]
  | .nil, .cons _ _ _, _, h => by simp [TmF.clean] at h
  | .cons _ _ _, .nil, _, h => by simp [TmF.clean] at h
  | .cons n t l, .cons m u r, ho, h => by
    rw [TmF.clean, TmF.clean] at h
    injection h with h0 h1 h2
    subst h0
    rw [TmF.sm, Tm.clean_sm t u ho.head.1 h1, TmF.clean_sm l r ho.head.2 h2]; simp
end
theorem sm_iff {x y : Tm} (hx : x.all.e = 0) (hy : y.all.e = 0) (bx : x.Bdd) (b_y : y.Bdd) : x.sm y = decide (x.enc = y.enc) := by
  by_cases h : x.enc = y.enc
  · rw [decide_eq_true h]
    obtain ⟨q1, h1⟩ := rd_enc x [] hx bx
    obtain ⟨q2, h2⟩ := rd_enc y [] hy b_y
    rw [h, h2] at h1
    injection h1 with e1 e2
    injection e1 with e3 e4
    exact Tm.clean_sm x y (Tm.ok_all hx) e3.symm
  · rw [decide_eq_false h]
    cases hs : x.sm y with
    | false => rfl
    | true => exact absurd (Tm.sm_enc x y (Tm.ok_all hx) hs) h
end Go.Proofs.Ytadcbhdhgobknaa


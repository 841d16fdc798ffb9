/- Plain mathematics: a term and its clean one: the same walk, the same value, told the same. -/
import Derived.Test.YtjdjpbdfchhcfaaGreatKE35
import Derived.Test.YtjdjpbdfchhcfaaGreatKE1
namespace Go.Proofs.YtjdjpbdfchhcfaaGreat

theorem TmF.clean_names : (l : TmF) → l.clean.names = l.names
  | .nil => rfl
  | .cons n t l => by simp only [TmF.clean, TmF.names, TmF.clean_names l]

mutual
theorem Tm.clean_wk : (t : Tm) → ∀ n p d, t.clean.wk n p d = t.wk n p d
  | .mk k b i f tx by' rf l fs c v, n, p, d => by
    by_cases he : Sp.ent k p n ≠ 0
    · rw [Tm.wk_ent he, Tm.clean, Tm.wk_ent he]
    have he := Decidable.not_not.1 he
    have hz := Sp.ent_zero he
    by_cases k5 : k = 5
    · subst k5; rw [Tm.clean_5, Tm.wk_5 he, Tm.wk_5 he]
    by_cases k6 : k = 6
    · subst k6; rw [Tm.clean_6, Tm.wk_6 he, Tm.wk_6 he]
    by_cases k8 : k = 8
    · subst k8; rw [Tm.clean_8, Tm.wk_8 he, Tm.wk_8 he, TmL.wkR, TmL.wkR, TmL.clean_len, TmL.clean_wk l]
    by_cases k9 : k = 9
    · subst k9; rw [Tm.clean_9, Tm.wk_9 he, Tm.wk_9 he, TmF.wkR, TmF.wkR, TmF.clean_names, TmF.clean_wk fs]
    by_cases k10 : k = 10
    · subst k10
      by_cases hh : Sp.headR c v = 0
      · rw [Tm.clean_10, Tm.wk_10 he hh, Tm.wk_10 he hh, TmF.wkR, TmF.wkR, TmF.clean_names, TmF.clean_wk fs]
      · rw [Tm.clean_10, Tm.wk_10' he hh, Tm.wk_10' he hh]
    rw [Tm.wk_else he k5 k6 k8 k9 k10, Tm.clean, Tm.wk_else he k5 k6 k8 k9 k10]
theorem TmL.clean_wk : (l : TmL) → ∀ n p d, l.clean.wk n p d = l.wk n p d
  | .nil, _, _, _ => rfl
  | .cons t l, n, p, d => by simp only [TmL.clean, TmL.wk, Tm.clean_wk t, TmL.clean_wk l]
theorem TmF.clean_wk : (l : TmF) → ∀ n p d, l.clean.wk n p d = l.wk n p d
  | .nil, _, _, _ => rfl
  | .cons m t l, n, p, d => by simp only [TmF.clean, TmF.wk, Tm.clean_wk t, TmF.clean_wk l]
end
theorem Tm.clean_all (t : Tm) : t.clean.all = t.all := Tm.clean_wk t 1 0 0


mutual
theorem Tm.clean_eqv : (t : Tm) → t.Ok → t.clean.eqv t
  | .mk k b i f tx by' rf l fs c v, h => by
    obtain ⟨p1, p2, p3, p4⟩ := h.parts
    rw [Tm.clean]
    simp only [Tm.eqv]
    refine ⟨trivial, ⟨p1, p2⟩, fun e => ?_, fun e => ?_, fun e => ?_, fun e => ?_, fun e => ?_, fun e => ?_, fun e => ?_, fun e => ?_, fun e => ?_⟩
    · rw [if_pos e]
    · rw [if_pos e]
    · rw [if_pos e]
    · rw [if_pos e]
    · rw [if_pos e]
    · rw [if_pos e]
    · rw [if_pos e]; exact TmL.clean_eqv l (p3 e)
    · rw [if_pos e]; exact TmF.clean_eqv fs (p4 e)
    · rw [if_pos e, if_pos e]; exact ⟨rfl, rfl⟩
theorem TmL.clean_eqv : (l : TmL) → l.Ok → l.clean.eqv l
  | .nil, _ => trivial
  | .cons t l, h => ⟨Tm.clean_eqv t h.head.1, TmL.clean_eqv l h.head.2⟩
theorem TmF.clean_eqv : (l : TmF) → l.Ok → l.clean.eqv l
  | .nil, _ => trivial
  | .cons _ t l, h => ⟨rfl, Tm.clean_eqv t h.head.1, TmF.clean_eqv l h.head.2⟩
end

end Go.Proofs.YtjdjpbdfchhcfaaGreat


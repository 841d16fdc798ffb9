/- Plain mathematics: which types can be, by their counts; what Is tells of unions, lists and dicts that are made of other types and values. -/
import Derived.Test.YtjdjpbdfchhcfaaGreatKE30
import Derived.Test.YtjdjpbdfchhcfaaGreatKE27
import Derived.Test.YtjdjpbdfchhcfaaGreatKE26
import Derived.Test.YtjdjpbdfchhcfaaGreatKE20
import Derived.Test.YtjdjpbdfchhcfaaGreatKE9
import Derived.Laws.ResultCell
import Derived.Test.YtjdjpbdfchhcfaaGreatKE2
namespace Go.Proofs.YtjdjpbdfchhcfaaGreat

mutual
theorem Ty.fit_of : (t : Ty) → ∀ d m, t.ok = true → m + t.cnt ≤ 16384 → d + t.dep - 1 ≤ 64 → t.fit d m = (true, m + t.cnt)
  | .mk k o t p n l op c, d, m, h, h1, h2 => by
    simp only [Ty.ok, Bool.and_eq_true] at h
    simp only [Ty.cnt, Ty.dep] at h1 h2 ⊢
    simp only [Ty.fit]
    have hp := TyL.cnt_pos p
    have hc : ¬ (m + 1 > 16384 ∨ d > 64 ∨ (Ty.mk k o t p n l op c).own = false) := by
      rw [h.1.1]
      split at h1 <;> simp_all <;> omega
    rw [if_neg hc]
    cases hk : Sp.parted k with
    | true =>
      simp only [hk, if_true] at h h1 h2 ⊢
      rw [TyL.fit_of p (d + 1) (m + 1) h.2 (by omega) (by omega)]
      simp; omega
    | false => simp
theorem TyL.fit_of : (l : TyL) → ∀ d m, l.ok = true → m + l.cnt ≤ 16384 → d + l.dep - 1 ≤ 64 → l.fit d m = (true, m + l.cnt)
  | .nil, d, m, h, h1, h2 => by simp [TyL.fit, TyL.cnt]
  | .cons t l, d, m, h, h1, h2 => by
    simp only [TyL.ok, Bool.and_eq_true] at h
    simp only [TyL.cnt, TyL.dep] at h1 h2 ⊢
    have ht := Ty.cnt_pos t
    have hl := TyL.cnt_pos l
    simp only [TyL.fit]
    rw [Ty.fit_of t d m h.1 (by omega) (by omega)]
    simp only [if_true]
    rw [TyL.fit_of l d (m + t.cnt) h.2 (by omega) (by omega)]
    simp; omega
end
mutual
theorem Ty.ok_terms : (t : Ty) → t.ok = true → t.terms = true
  | .mk k o t p n l op c, h => by
    simp only [Ty.ok, Bool.and_eq_true] at h
    simp only [Ty.terms]
    by_cases h4 : k = 4
    · simpa [h4] using h.1.2
    · rw [if_neg h4]
      cases hk : Sp.parted k with
      | true => simp only [hk, if_true] at h ⊢; exact TyL.ok_terms p h.2
      | false => simp
theorem TyL.ok_terms : (l : TyL) → l.ok = true → l.terms = true
  | .nil, _ => rfl
  | .cons t l, h => by
    simp only [TyL.ok, Bool.and_eq_true] at h
    simp only [TyL.terms, Ty.ok_terms t h.1, TyL.ok_terms l h.2, Bool.and_self]
end
theorem Ty.can_of {t : Ty} (h : t.ok = true) (h1 : t.cnt ≤ 16384) (h2 : t.dep ≤ 64) : t.can = true := by
  unfold Ty.can
  rw [Ty.fit_of t 1 0 h (by omega) (by omega), Ty.ok_terms t h]; rfl
def tm0 : Tm := .mk 0 false 0 0 ⟨#[]⟩ ByteArray.empty 0 .nil .nil ⟨#[]⟩ 0
def tyLs (a : Ty) : Ty := .mk 5 0 tm0 (.cons a .nil) [] [] false ⟨#[]⟩
def tyNo : Ty := .mk 2 0 tm0 .nil [] [] false ⟨#[]⟩
theorem Sp.isA_ok {v : Tm} {t : Ty} (h : v.all.e = 0) (hc : t.can = true) : Sp.isA v t = ((t.has v).1, (t.has v).2, 0) := by
  unfold Sp.isA; rw [if_neg (by rw [h]; decide), if_neg (by rw [hc]; decide)]
theorem Sp.isA_no {v : Tm} {t : Ty} (h : v.all.e = 0) (hc : t.can = false) : Sp.isA v t = (false, 0, 70) := by
  unfold Sp.isA; rw [if_neg (by rw [h]; decide), if_pos hc]
theorem Sp.isA_bad {v : Tm} {t : Ty} (h : v.all.e ≠ 0) : Sp.isA v t = (false, 0, v.all.e) := by
  unfold Sp.isA; rw [if_pos h]
theorem Sp.isA_zero {v : Tm} {t : Ty} (h : (Sp.isA v t).2.2 = 0) : v.all.e = 0 ∧ t.can = true := by
  by_cases he : v.all.e = 0
  · cases hc : t.can with
    | false => rw [Sp.isA_no he hc] at h; exact absurd h (by decide)
    | true => exact ⟨he, rfl⟩
  · rw [Sp.isA_bad he] at h; exact absurd h he

theorem TyL.dep_one (a : Ty) : (TyL.cons a .nil).dep = a.dep := by
  have := Ty.cnt_pos a
  simp only [TyL.dep]; omega
end Go.Proofs.YtjdjpbdfchhcfaaGreat

/- tenonref07.fits: too many, too deep; kinds without parts. -/
namespace Go.Proofs.YtjdjpbdfchhcfaaGreat
open Go.RowKit

end Go.Proofs.YtjdjpbdfchhcfaaGreat

/- tenonref07.fits: kinds 3 and 4, and no kind. -/
namespace Go.Proofs.YtjdjpbdfchhcfaaGreat
open Go.RowKit

end Go.Proofs.YtjdjpbdfchhcfaaGreat

/- tenonref07.fits: a type of one value. -/
namespace Go.Proofs.YtjdjpbdfchhcfaaGreat
open Go.RowKit

end Go.Proofs.YtjdjpbdfchhcfaaGreat

/- tenonref07.fits: a record's type. -/
namespace Go.Proofs.YtjdjpbdfchhcfaaGreat
open Go.RowKit

end Go.Proofs.YtjdjpbdfchhcfaaGreat


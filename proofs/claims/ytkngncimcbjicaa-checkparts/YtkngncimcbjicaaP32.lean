/- Plain mathematics: which types can be, by their counts; what Is tells of unions, lists and dicts that are made of other types and values. -/
import Derived.Test.YtkngncimcbjicaaP30
import Derived.Test.YtkngncimcbjicaaP31
import Derived.Test.YtkngncimcbjicaaP27
namespace Go.Proofs.Ytkngncimcbjicaa

mutual
theorem Ty.fit_of : (t : Ty) → ∀ d m, t.ok = true → m + t.cnt ≤ 16384 → d + t.dep - 1 ≤ 64 → t.fit d m = (true, m + t.cnt)
  | .mk k o t p n l op c, d, m, h, h1, h2 => by
    simp only [Ty.ok, Bool.and_eq_true] at h
    simp only [Ty.cnt, Ty.dep] at h1 h2 ⊢
    simp only [Ty.fit]
    have hp := TyL.cnt_pos p
    have hc : ¬ (m + 1 > 16384 ∨ d > 64 ∨ (Ty.mk k o t p n l op c).own = false) := by
      rw [h.1.1]
      split at h1 <;> simp_all <;> omega
    rw [if_neg hc]
    cases hk : Sp.parted k with
    | true =>
      simp only [hk, if_true] at h h1 h2 ⊢
      rw [TyL.fit_of p (d + 1) (m + 1) h.2 (by omega) (by omega)]
      simp; omega
    | false => simp
theorem TyL.fit_of : (l : TyL) → ∀ d m, l.ok = true → m + l.cnt ≤ 16384 → d + l.dep - 1 ≤ 64 → l.fit d m = (true, m + l.cnt)
  | .nil, d, m, h, h1, h2 => by simp [TyL.fit, TyL.cnt]
  | .cons t l, d, m, h, h1, h2 => by
    simp only [TyL.ok, Bool.and_eq_true] at h
    simp only [TyL.cnt, TyL.dep] at h1 h2 ⊢
    have ht := Ty.cnt_pos t
    have hl := TyL.cnt_pos l
    simp only [TyL.fit]
    rw [Ty.fit_of t d m h.1 (by omega) (by omega)]
    simp only [if_true]
    rw [TyL.fit_of l d (m + t.cnt) h.2 (by omega) (by omega)]
    simp; omega
end
mutual
theorem Ty.ok_terms : (t : Ty) → t.ok = true → t.terms = true
  | .mk k o t p n l op c, h => by
    simp only [Ty.ok, Bool.and_eq_true] at h
    simp only [Ty.terms]
    by_cases h4 : k = 4
    · simpa [h4] using h.1.2
    · rw [if_neg h4]
      cases hk : Sp.parted k with
      | true => simp only [hk, if_true] at h ⊢; exact TyL.ok_terms p h.2
      | false => simp
theorem TyL.ok_terms : (l : TyL) → l.ok = true → l.terms = true
  | .nil, _ => rfl
  | .cons t l, h => by
    simp only [TyL.ok, Bool.and_eq_true] at h
    simp only [TyL.terms, Ty.ok_terms t h.1, TyL.ok_terms l h.2, Bool.and_self]
end
theorem Ty.can_of {t : Ty} (h : t.ok = true) (h1 : t.cnt ≤ 16384) (h2 : t.dep ≤ 64) : t.can = true := by
  unfold Ty.can
  rw [Ty.fit_of t 1 0 h (by omega) (by omega), Ty.ok_terms t h]; rfl
/-- a part of a type that can be can be -/
theorem Ty.can_part {t : Ty} (h : t.ok = true) {T : Ty} (hT : T.can = true) (hc : t.cnt ≤ T.cnt) (hd : t.dep ≤ T.dep) : t.can = true := by
  obtain ⟨-, h1, h2⟩ := Ty.can_ok hT
  exact Ty.can_of h (by omega) (by omega)

def tm0 : Tm := .mk 0 false 0 0 ⟨#[]⟩ ByteArray.empty 0 .nil .nil ⟨#[]⟩ 0
def nmZ : ByteArray := ⟨#[122]⟩
def tyU (a b : Ty) : Ty := .mk 7 0 tm0 (.cons a (.cons b .nil)) [] [] false ⟨#[]⟩
def tyLs (a : Ty) : Ty := .mk 5 0 tm0 (.cons a .nil) [] [] false ⟨#[]⟩
def tyDc (a : Ty) (op : Bool) : Ty := .mk 6 0 tm0 (.cons a .nil) [nmA] [false] op ⟨#[]⟩
def tyNo : Ty := .mk 2 0 tm0 .nil [] [] false ⟨#[]⟩
def dT (v : Tm) : Tm := mkD (.cons nmA v (.cons nmZ tt .nil))

theorem Sp.isA_ok {v : Tm} {t : Ty} (h : v.all.e = 0) (hc : t.can = true) : Sp.isA v t = ((t.has v).1, (t.has v).2, 0) := by
  unfold Sp.isA; rw [if_neg (by rw [h]; decide), if_neg (by rw [hc]; decide)]
theorem Sp.isA_no {v : Tm} {t : Ty} (h : v.all.e = 0) (hc : t.can = false) : Sp.isA v t = (false, 0, 70) := by
  unfold Sp.isA; rw [if_neg (by rw [h]; decide), if_pos hc]
theorem Sp.isA_bad {v : Tm} {t : Ty} (h : v.all.e ≠ 0) : Sp.isA v t = (false, 0, v.all.e) := by
  unfold Sp.isA; rw [if_pos h]
theorem Sp.isA_zero {v : Tm} {t : Ty} (h : (Sp.isA v t).2.2 = 0) : v.all.e = 0 ∧ t.can = true := by
  by_cases he : v.all.e = 0
  · cases hc : t.can with
    | false => rw [Sp.isA_no he hc] at h; exact absurd h (by decide)
    | true => exact ⟨he, rfl⟩
  · rw [Sp.isA_bad he] at h; exact absurd h he

theorem tyU_has (a b : Ty) (v : Tm) : (tyU a b).has v = ((a.has v).1 || (b.has v).1, 0) := by
  simp [tyU, Ty.has, TyL.hasAny]
theorem tyDc_has (a : Ty) (op : Bool) (v : Tm) : ((tyDc a op).has (dT v)).1 = ((a.has v).1 && op) := by
  have e : Sp.cmpS nmA nmA = 0 := cmpS_self _
  simp only [tyDc, dT, mkD, Ty.has, Tm.knd, Tm.flds, TyL.fns, TmF.len, List.length_cons, List.length_nil]
  simp only [Sp.hasD, e]
  cases (a.has v).1 <;> cases op <;> simp
theorem dT_e {v : Tm} (h : v.all.e = 0) : (dT v).all.e = 0 ∨ (dT v).all.e = 2 := by
  obtain ⟨N, D, ⟨h1, h2, h3⟩, -⟩ := Tm.fit_all h
  obtain ⟨N', D', ⟨q1, q2, q3⟩, -⟩ := Tm.fit_all (t := tt) (by rfl)
  have e : (dT v).all = TmF.wk (.cons nmA v (.cons nmZ tt .nil)) 2 1 1 := by
    show (mkD _).wk 1 0 0 = _
    rw [mkD_wk _ (by show Sp.fieldsR [nmA, nmZ] = 0; decide +kernel) _ _ _ (by decide) (by decide)]; rfl
  rw [e, TmF.wk]
  rcases h3 2 1 1 with ⟨_, _, c⟩ | ⟨_, c⟩
  · rw [c]
    simp only [ne_eq, not_true_eq_false, if_false, TmF.wk]
    rcases q3 2 (1 + N) (max 1 (2 + D)) with ⟨_, _, c'⟩ | ⟨_, c'⟩
    · rw [c']; simp
    · rw [if_pos (by rw [c']; decide)]; exact .inr c'
  · rw [if_pos (by rw [c]; decide)]; exact .inr c

theorem tyLs_can {a : Ty} (h : (tyLs a).can = true) : a.can = true := by
  obtain ⟨h0, h1, h2⟩ := Ty.can_ok h
  have := Ty.cnt_pos a
  simp [tyLs, Ty.ok, TyL.ok, Sp.parted] at h0
  refine Ty.can_part h0.2 h ?_ ?_
  · simp [tyLs, Ty.cnt, TyL.cnt, Sp.parted]; omega
  · simp [tyLs, Ty.dep, TyL.dep, Sp.parted]; omega

/-- all values are of a type, and told to be -/
def TmL.inA (a : Ty) : TmL → Bool
  | .nil => true
  | .cons v l => (decide ((Sp.isA v a).2.2 = 0) && (Sp.isA v a).1) && l.inA a
theorem TmL.inA_has {a : Ty} (ha : a.can = true) : (l : TmL) → l.gd → ∀ n, (Sp.hasL a.has l n).1 = l.inA a
  | .nil, _, _ => rfl
  | .cons v l, h, n => by
    have ih := TmL.inA_has ha l h.2 (n + v.pn)
    simp only [Sp.hasL, TmL.inA, Sp.isA_ok h.1 ha]
    cases (a.has v).1 <;> simp [ih]
theorem tyLs_isA {a : Ty} {L : TmL} (h : (Sp.isA (mkL L) (tyLs a)).2.2 = 0) : (Sp.isA (mkL L) (tyLs a)).1 = L.inA a := by
  obtain ⟨h1, h2⟩ := Sp.isA_zero h
  have h3 := tyLs_can h2
  have hg : L.gd := ((Tm.good_parts h1).1 rfl).1
  rw [Sp.isA_ok h1 h2]
  show ((tyLs a).has (mkL L)).1 = _
  simp only [tyLs, mkL, Ty.has, Tm.knd, Tm.lst, TyL.hasHead]
  simp [TmL.inA_has h3 L hg]
theorem tyLs_none : Sp.isA (mkL .nil) (tyLs tyNo) = (true, 0, 0) := by
  rw [Sp.isA_ok (by rfl) (by decide +kernel)]
  simp [tyLs, mkL, Ty.has, Tm.knd, Tm.lst, TyL.hasHead, Sp.hasL]

/-- what Is tells of a value, of a union and of a dict: all that the statement asks -/
theorem parts_of (a b : Ty) (op : Bool) (v : Tm) :
    ((Sp.isA v a).2.2 ≠ 0) ∨
    (∃ p i, Sp.isA v a = (p, i, 0) ∧
      ((Sp.isA v b).2.2 ≠ 0 ∨ (∃ q j, Sp.isA v b = (q, j, 0) ∧ (Sp.isA v (tyU a b) = (false, 0, 70) ∨ Sp.isA v (tyU a b) = (p || q, 0, 0)))) ∧
      (Sp.isA (dT v) (tyDc a op) = (false, 0, 70) ∨ Sp.isA (dT v) (tyDc a op) = (false, 0, 2) ∨ ∃ m, Sp.isA (dT v) (tyDc a op) = (p && op, m, 0))) := by
  by_cases h : (Sp.isA v a).2.2 = 0
  · right
    obtain ⟨hv, ha⟩ := Sp.isA_zero h
    refine ⟨(a.has v).1, (a.has v).2, Sp.isA_ok hv ha, ?_, ?_⟩
    · by_cases h' : (Sp.isA v b).2.2 = 0
      · right
        obtain ⟨-, hb⟩ := Sp.isA_zero h'
        refine ⟨(b.has v).1, (b.has v).2, Sp.isA_ok hv hb, ?_⟩
        cases hu : (tyU a b).can with
        | false => exact .inl (Sp.isA_no hv hu)
        | true => right; rw [Sp.isA_ok hv hu, tyU_has]
      · exact .inl h'
    · rcases dT_e hv with hd | hd
      · cases hu : (tyDc a op).can with
        | false => exact .inl (Sp.isA_no hd hu)
        | true => right; right; exact ⟨_, by rw [Sp.isA_ok hd hu, tyDc_has]⟩
      · right; left
        rw [Sp.isA_bad (by rw [hd]; decide), hd]
  · exact .inl h
end Go.Proofs.Ytkngncimcbjicaa


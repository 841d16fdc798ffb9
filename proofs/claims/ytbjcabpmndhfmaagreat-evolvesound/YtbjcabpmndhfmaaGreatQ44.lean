/- Plain mathematics: which types can be, by their counts; what Is tells of unions, lists and dicts that are made of other types and values. -/
import Derived.Test.YtbjcabpmndhfmaaGreatQ30
import Derived.Test.YtbjcabpmndhfmaaGreatQ39
import Derived.Test.YtbjcabpmndhfmaaGreatQ27
namespace Go.Proofs.YtbjcabpmndhfmaaGreat

mutual
theorem Ty.fit_of : (t : Ty) → ∀ d m, t.ok = true → m + t.cnt ≤ 16384 → d + t.dep - 1 ≤ 64 → t.fit d m = (true, m + t.cnt)
  | .mk k o t p n l op c, d, m, h, h1, h2 => by
    simp only [Ty.ok, Bool.and_eq_true] at h
    simp only [Ty.cnt, Ty.dep] at h1 h2 ⊢
    simp only [Ty.fit]
    have hp := TyL.cnt_pos p
    have hc : ¬ (m + 1 > 16384 ∨ d > 64 ∨ (Ty.mk k o t p n l op c).own = false) := by
      rw [h.1.1]
      split at h1 <;> simp_all <;> omega
    rw [if_neg hc]
    cases hk : Sp.parted k with
    | true =>
      simp only [hk, if_true] at h h1 h2 ⊢
      rw [TyL.fit_of p (d + 1) (m + 1) h.2 (by omega) (by omega)]
      simp; omega
    | false => simp
theorem TyL.fit_of : (l : TyL) → ∀ d m, l.ok = true → m + l.cnt ≤ 16384 → d + l.dep - 1 ≤ 64 → l.fit d m = (true, m + l.cnt)
  | .nil, d, m, h, h1, h2 => by simp [TyL.fit, TyL.cnt]
  | .cons t l, d, m, h, h1, h2 => by
    simp only [TyL.ok, Bool.and_eq_true] at h
    simp only [TyL.cnt, TyL.dep] at h1 h2 ⊢
    have ht := Ty.cnt_pos t
    have hl := TyL.cnt_pos l
    simp only [TyL.fit]
    rw [Ty.fit_of t d m h.1 (by omega) (by omega)]
    simp only [if_true]
    rw [TyL.fit_of l d (m + t.cnt) h.2 (by omega) (by omega)]
    simp; omega
end
mutual
theorem Ty.ok_terms : (t : Ty) → t.ok = true → t.terms = true
  | .mk k o t p n l op c, h => by
    simp only [Ty.ok, Bool.and_eq_true] at h
    simp only [Ty.terms]
    by_cases h4 : k = 4
    · simpa [h4] using h.1.2
    · rw [if_neg h4]
      cases hk : Sp.parted k with
      | true => simp only [hk, if_true] at h ⊢; exact TyL.ok_terms p h.2
      | false => simp
theorem TyL.ok_terms : (l : TyL) → l.ok = true → l.terms = true
  | .nil, _ => rfl
  | .cons t l, h => by
    simp only [TyL.ok, Bool.and_eq_true] at h
    simp only [TyL.terms, Ty.ok_terms t h.1, TyL.ok_terms l h.2, Bool.and_self]
end
theorem Ty.can_of {t : Ty} (h : t.ok = true) (h1 : t.cnt ≤ 16384) (h2 : t.dep ≤ 64) : t.can = true := by
  unfold Ty.can
  rw [Ty.fit_of t 1 0 h (by omega) (by omega), Ty.ok_terms t h]; rfl
def tm0 : Tm := .mk 0 false 0 0 ⟨#[]⟩ ByteArray.empty 0 .nil .nil ⟨#[]⟩ 0
def nmZ : ByteArray := ⟨#[122]⟩
def tyU (a b : Ty) : Ty := .mk 7 0 tm0 (.cons a (.cons b .nil)) [] [] false ⟨#[]⟩
def tyLs (a : Ty) : Ty := .mk 5 0 tm0 (.cons a .nil) [] [] false ⟨#[]⟩
def tyDc (a : Ty) (op : Bool) : Ty := .mk 6 0 tm0 (.cons a .nil) [nmA] [false] op ⟨#[]⟩
def tyNo : Ty := .mk 2 0 tm0 .nil [] [] false ⟨#[]⟩
def dT (v : Tm) : Tm := mkD (.cons nmA v (.cons nmZ tt .nil))

/-- all values are of a type, and told to be -/
def TmL.inA (a : Ty) : TmL → Bool
  | .nil => true
  | .cons v l => (decide ((Sp.isA v a).2.2 = 0) && (Sp.isA v a).1) && l.inA a
end Go.Proofs.YtbjcabpmndhfmaaGreat

/- Plain mathematics: how many types are in a type, as the document of classes counts them. Nothing of the program stands here. -/
namespace Go.Proofs.YtbjcabpmndhfmaaGreat

mutual
def Ty.cntR : Ty → Int → Int
  | .mk k o t p n l op c, d =>
    if 64 < d then -1
    else if k = 4 then (if t.all.e = 0 then 1 else -1)
    else if (Ty.mk k o t p n l op c).own = false then -1
    else if Sp.parted k then p.cntR (d + 1) 1 else 1
def TyL.cntR : TyL → Int → Int → Int
  | .nil, _, m => m
  | .cons t l, d, m => if t.cntR d < 0 ∨ 16384 < m + t.cntR d then -1 else l.cntR d (m + t.cntR d)
end
mutual
theorem Ty.cntR_spec : (t : Ty) → ∀ d, 1 ≤ d → t.cntR d = (if t.ok = true ∧ t.cnt ≤ 16384 ∧ d + t.dep - 1 ≤ 64 then t.cnt else -1)
  | .mk k o t p n l op c, d, h1 => by
    have hp := TyL.cnt_pos p
    have ht := Ty.cnt_pos (.mk k o t p n l op c)
    simp only [Ty.cntR]
    by_cases hd : 64 < d
    · rw [if_pos hd, if_neg (by omega)]
    rw [if_neg hd]
    by_cases h4 : k = 4
    · subst h4
      rw [if_pos rfl]
      have e1 : (Ty.mk 4 o t p n l op c).cnt = 1 := by simp [Ty.cnt, Sp.parted]
      have e2 : (Ty.mk 4 o t p n l op c).dep = 1 := by simp [Ty.dep, Sp.parted]
      have e3 : (Ty.mk 4 o t p n l op c).ok = decide (t.all.e = 0) := by simp [Ty.ok, Ty.own, Sp.parted]
      rw [e1, e2, e3]
      by_cases he : t.all.e = 0
      · rw [if_pos he, if_pos (by simp [he]; omega)]
      · rw [if_neg he, if_neg (by simp [he])]
    rw [if_neg h4]
    cases ho : (Ty.mk k o t p n l op c).own with
    | false =>
      have e3 : (Ty.mk k o t p n l op c).ok = false := by simp [Ty.ok, ho]
      rw [if_pos rfl, if_neg (by simp [e3])]
    | true =>
      rw [if_neg (by decide)]
      cases hk : Sp.parted k with
      | true =>
        rw [if_pos rfl, TyL.cntR_spec p (d + 1) 1 (by decide) (by decide) (by omega) (by omega)]
        have e1 : (Ty.mk k o t p n l op c).cnt = 1 + p.cnt := by simp [Ty.cnt, hk]
        have e2 : (Ty.mk k o t p n l op c).dep = 1 + p.dep := by simp [Ty.dep, hk]
        have e3 : (Ty.mk k o t p n l op c).ok = p.ok := by simp [Ty.ok, ho, hk, h4]
        rw [e1, e2, e3]
        by_cases hq : p.ok = true ∧ 1 + p.cnt ≤ 16384 ∧ d + 1 + p.dep - 1 ≤ 64
        · rw [if_pos hq, if_pos ⟨hq.1, hq.2.1, by omega⟩]
        · rw [if_neg hq, if_neg (fun h => hq ⟨h.1, h.2.1, by omega⟩)]
      | false =>
        have e1 : (Ty.mk k o t p n l op c).cnt = 1 := by simp [Ty.cnt, hk]
        have e2 : (Ty.mk k o t p n l op c).dep = 1 := by simp [Ty.dep, hk]
        have e3 : (Ty.mk k o t p n l op c).ok = true := by simp [Ty.ok, ho, hk, h4]
        rw [e1, e2, e3, if_neg (by decide), if_pos ⟨by trivial, by decide, by omega⟩]
theorem TyL.cntR_spec : (l : TyL) → ∀ d m, 1 ≤ m → m ≤ 16384 → 1 ≤ d → d ≤ 65 → l.cntR d m = (if l.ok = true ∧ m + l.cnt ≤ 16384 ∧ d + l.dep - 1 ≤ 64 then m + l.cnt else -1)
  | .nil, d, m, h1, h2, h3, h4 => by
    simp only [TyL.cntR, TyL.ok, TyL.cnt, TyL.dep]
    rw [if_pos ⟨by trivial, by omega, by omega⟩]; omega
  | .cons t l, d, m, h1, h2, h3, h4 => by
    have ht := Ty.cnt_pos t
    have hl := TyL.cnt_pos l
    simp only [TyL.cntR, TyL.ok, TyL.cnt, TyL.dep, Bool.and_eq_true]
    rw [Ty.cntR_spec t d h3]
    by_cases hA : t.ok = true ∧ t.cnt ≤ 16384 ∧ d + t.dep - 1 ≤ 64
    · rw [if_pos hA]
      by_cases hB : 16384 < m + t.cnt
      · rw [if_pos (.inr hB), if_neg (fun h => by omega)]
      · rw [if_neg (fun h => by omega), TyL.cntR_spec l d (m + t.cnt) (by omega) (by omega) h3 h4]
        by_cases hC : l.ok = true ∧ m + t.cnt + l.cnt ≤ 16384 ∧ d + l.dep - 1 ≤ 64
        · rw [if_pos hC, if_pos ⟨⟨hA.1, hC.1⟩, by omega, by omega⟩]; omega
        · rw [if_neg hC, if_neg (fun h => hC ⟨h.1.2, by omega, by omega⟩)]
    · rw [if_neg hA, if_pos (.inl (by decide)), if_neg (fun h => hA ⟨h.1.1, by omega, by omega⟩)]
end
theorem Ty.cntR_bd (t : Ty) (d : Int) (h : 1 ≤ d) : -1 ≤ t.cntR d ∧ t.cntR d ≤ 16384 := by
  have := Ty.cnt_pos t
  rw [Ty.cntR_spec t d h]
  split <;> omega
theorem Ty.can_cnt (t : Ty) : decide (0 < t.cntR 1) = t.can := by
  have := Ty.cnt_pos t
  rw [Ty.cntR_spec t 1 (by decide)]
  cases hc : t.can with
  | true =>
    obtain ⟨h1, h2, h3⟩ := Ty.can_ok hc
    rw [if_pos ⟨h1, h2, by omega⟩]; simp; omega
  | false =>
    rw [if_neg (fun h => by rw [Ty.can_of h.1 h.2.1 (by omega)] at hc; cases hc)]; rfl
end Go.Proofs.YtbjcabpmndhfmaaGreat


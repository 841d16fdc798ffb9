/- Plain mathematics: the type of what is of one of two types, the type of a value; each value is of its type; types that are alike but for what their kinds do not use. -/
import Derived.Test.YtjdjpbdfchhcfaaGreatKE27
import Derived.Test.YtjdjpbdfchhcfaaGreatKE31
import Derived.Test.YtjdjpbdfchhcfaaGreatKE36
import Derived.Test.YtjdjpbdfchhcfaaGreatKE23
namespace Go.Proofs.YtjdjpbdfchhcfaaGreat

def TyL.app : TyL → TyL → TyL
  | .nil, m => m
  | .cons t l, m => .cons t (l.app m)
def Ty.chs (t : Ty) : TyL := if t.kind = 7 then t.parts else .cons t .nil
def tyUn (p : TyL) : Ty := .mk 7 0 tm0 p [] [] false ⟨#[]⟩
def Ty.ei (a b : Ty) : Ty := if a.sub b then b else if b.sub a then a else tyUn (a.chs.app b.chs)
def Ty.fitsB (t : Ty) : Bool := decide (t.cnt ≤ 16384 ∧ t.dep ≤ 64)
def tyAny : Ty := .mk 1 0 tm0 .nil [] [] false ⟨#[]⟩
def Ty.orA (t : Ty) : Ty := if t.fitsB then t else tyAny
def tyKd (k : Int) : Ty := .mk 3 k tm0 .nil [] [] false ⟨#[]⟩
def tyRc (c : ByteArray) : Ty := .mk 8 0 tm0 .nil [] [] false c
def tyFs (n : List ByteArray) (p : TyL) : Ty := .mk 6 0 tm0 p n (List.replicate n.length false) false ⟨#[]⟩
mutual
def Tm.typ : Tm → Ty
  | .mk k _ _ _ _ _ _ l fs c _ => if k = 8 then (tyLs (l.typs tyNo)).orA else if k = 9 then (tyFs fs.names fs.typF).orA else if k = 10 then tyRc c else tyKd k
def TmL.typs : TmL → Ty → Ty
  | .nil, p => p
  | .cons t l, p => l.typs ((p.ei t.typ).orA)
def TmF.typF : TmF → TyL
  | .nil => .nil
  | .cons _ t l => .cons t.typ l.typF
end

def TmL.toT : TmL → List Tm | .nil => [] | .cons t l => t :: l.toT
def TmF.toP : TmF → List (ByteArray × Tm) | .nil => [] | .cons n t l => (n, t) :: l.toP
mutual
theorem Tm.eqv_cmp : (a b : Tm) → a.eqv b → a.cmp b = 0
  | .mk k b i f tx by' rf l fs c v, .mk k2 b2 i2 f2 tx2 by2 rf2 l2 fs2 c2 v2, h => by
    simp only [Tm.eqv] at h
    obtain ⟨rfl, -, e2, e3, e4, e5, e6, e7, e8, e9, e10⟩ := h
    simp only [Tm.cmp, cmpI_self]
    rw [if_neg (by simp)]
    by_cases k2 : k = 2
    · rw [if_pos k2, e2 k2, cmpI_self]
    rw [if_neg k2]
    by_cases k3 : k = 3
    · rw [if_pos k3, e3 k3, cmpI_self]
    rw [if_neg k3]
    by_cases k4 : k = 4
    · rw [if_pos k4, e4 k4, cmpI_self]
    rw [if_neg k4]
    by_cases k5 : k = 5
    · rw [if_pos k5, e5 k5, cmpS_self]
    rw [if_neg k5]
    by_cases k6 : k = 6
    · rw [if_pos k6, e6 k6, cmpS_self]
    rw [if_neg k6]
    by_cases k7 : k = 7
    · rw [if_pos k7, e7 k7, cmpI_self]
    rw [if_neg k7]
    by_cases k8 : k = 8
    · rw [if_pos k8]; exact TmL.eqv_cmp l l2 (e8 k8)
    rw [if_neg k8]
    by_cases k9 : k = 9
    · rw [if_pos k9]; exact TmF.eqv_cmp fs fs2 (e9 (.inl k9))
    rw [if_neg k9]
    by_cases k10 : k = 10
    · rw [if_pos k10, (e10 k10).1, (e10 k10).2, cmpS_self, cmpI_self]
      rw [if_neg (by simp), if_neg (by simp)]
      exact TmF.eqv_cmp fs fs2 (e9 (.inr k10))
    rw [if_neg k10]
theorem TmL.eqv_cmp : (a b : TmL) → a.eqv b → a.cmp b = 0
  | .nil, .nil, _ => by simp [TmL.cmp]
  | .nil, .cons _ _, h => by simp [TmL.eqv] at h
  | .cons _ _, .nil, h => by simp [TmL.eqv] at h
  | .cons t l, .cons t2 l2, h => by
    simp only [TmL.eqv] at h
    simp only [TmL.cmp, Tm.eqv_cmp t t2 h.1, TmL.eqv_cmp l l2 h.2]
    simp
theorem TmF.eqv_cmp : (a b : TmF) → a.eqv b → a.cmp b = 0
  | .nil, .nil, _ => by simp [TmF.cmp]
  | .nil, .cons _ _ _, h => by simp [TmF.eqv] at h
  | .cons _ _ _, .nil, h => by simp [TmF.eqv] at h
  | .cons n t l, .cons n2 t2 l2, h => by
    simp only [TmF.eqv] at h
    obtain ⟨rfl, h1, h2⟩ := h
    simp only [TmF.cmp, cmpS_self, Tm.eqv_cmp t t2 h1, TmF.eqv_cmp l l2 h2]
    simp
end
theorem TyL.app_len : (a b : TyL) → (a.app b).len = a.len + b.len
  | .nil, b => by simp [TyL.app, TyL.len]
  | .cons t l, b => by simp only [TyL.app, TyL.len, TyL.app_len l b]; omega
theorem TyL.app_nil : (a : TyL) → a.app .nil = a
  | .nil => rfl
  | .cons t l => by simp only [TyL.app, TyL.app_nil l]
theorem TyL.app_assoc : (a b c : TyL) → (a.app b).app c = a.app (b.app c)
  | .nil, _, _ => rfl
  | .cons t l, b, c => by simp only [TyL.app, TyL.app_assoc l b c]
theorem TyL.app_ok : (a b : TyL) → (a.app b).ok = (a.ok && b.ok)
  | .nil, b => by simp [TyL.app, TyL.ok]
  | .cons t l, b => by simp only [TyL.app, TyL.ok, TyL.app_ok l b, Bool.and_assoc]
theorem TyL.app_cnt : (a b : TyL) → (a.app b).cnt = a.cnt + b.cnt
  | .nil, b => by simp [TyL.app, TyL.cnt]
  | .cons t l, b => by simp only [TyL.app, TyL.cnt, TyL.app_cnt l b]; omega
theorem TyL.app_dep : (a b : TyL) → (a.app b).dep = max a.dep b.dep
  | .nil, b => by have := TyL.cnt_pos b; simp [TyL.app, TyL.dep]; omega
  | .cons t l, b => by simp only [TyL.app, TyL.dep, TyL.app_dep l b]; omega
theorem TyL.app_any (v : Tm) : (a b : TyL) → (a.app b).hasAny v = (a.hasAny v || b.hasAny v)
  | .nil, b => by simp [TyL.app, TyL.hasAny]
  | .cons t l, b => by simp only [TyL.app, TyL.hasAny, TyL.app_any v l b, Bool.or_assoc]

theorem Ty.chs_any (t : Ty) (v : Tm) : t.chs.hasAny v = (t.has v).1 := by
  cases t with
  | mk k o t p n l op c =>
    unfold Ty.chs
    by_cases h : k = 7
    · subst h; simp [Ty.kind, Ty.parts, Ty.has]
    · rw [if_neg (by simpa [Ty.kind] using h)]; simp [TyL.hasAny]
theorem Ty.chs_ok {t : Ty} (h : t.ok = true) : t.chs.ok = true ∧ 1 ≤ t.chs.len := by
  cases t with
  | mk k o t p n l op c =>
    unfold Ty.chs
    by_cases hk : k = 7
    · subst hk
      rw [if_pos (show (Ty.mk 7 o t p n l op c).kind = 7 from rfl)]
      refine ⟨Ty.ok_parts h (by decide), ?_⟩
      simp only [Ty.ok, Bool.and_eq_true] at h
      have := h.1.1
      simp [Ty.own] at this
      show 1 ≤ p.len
      omega
    · rw [if_neg (by simpa [Ty.kind] using hk)]
      exact ⟨by simp [TyL.ok, h], by simp [TyL.len]⟩
theorem Ty.chs_cnt (t : Ty) : t.chs.cnt ≤ t.cnt ∧ t.chs.dep ≤ t.dep := by
  cases t with
  | mk k o t p n l op c =>
    unfold Ty.chs
    by_cases hk : k = 7
    · subst hk
      rw [if_pos (show (Ty.mk 7 o t p n l op c).kind = 7 from rfl)]
      simp only [Ty.parts, Ty.cnt, Ty.dep, Sp.parted]
      simp; omega
    · rw [if_neg (by simpa [Ty.kind] using hk)]
      have := Ty.cnt_pos (.mk k o t p n l op c)
      simp only [TyL.cnt, TyL.dep]; omega
theorem tyUn_ok {p : TyL} (h : p.ok = true) (h2 : 2 ≤ p.len) : (tyUn p).ok = true := by
  simp [tyUn, Ty.ok, Ty.own, Sp.parted, h, h2]
theorem Ty.ei_ok {a b : Ty} (ha : a.ok = true) (hb : b.ok = true) : (a.ei b).ok = true := by
  unfold Ty.ei
  split
  · exact hb
  · split
    · exact ha
    · have h1 := Ty.chs_ok ha; have h2 := Ty.chs_ok hb
      exact tyUn_ok (by rw [TyL.app_ok, h1.1, h2.1]; rfl) (by rw [TyL.app_len]; omega)
theorem Ty.fitsB_iff {t : Ty} : t.fitsB = true ↔ t.cnt ≤ 16384 ∧ t.dep ≤ 64 := by simp [Ty.fitsB]
theorem tyAny_ok : tyAny.ok = true := by simp [tyAny, Ty.ok, Ty.own, Sp.parted]
theorem tyAny_fits : tyAny.fitsB = true := by simp [tyAny, Ty.fitsB, Ty.cnt, Ty.dep, Sp.parted]
theorem tyNo_ok : tyNo.ok = true := by simp [tyNo, Ty.ok, Ty.own, Sp.parted]
theorem tyNo_fits : tyNo.fitsB = true := by simp [tyNo, Ty.fitsB, Ty.cnt, Ty.dep, Sp.parted]
theorem Ty.orA_ok {t : Ty} (h : t.ok = true) : t.orA.ok = true := by unfold Ty.orA; split; exact h; exact tyAny_ok
theorem Ty.orA_fits (t : Ty) : t.orA.fitsB = true := by unfold Ty.orA; split; assumption; exact tyAny_fits
theorem Ty.orA_has {t : Ty} {v : Tm} (h : (t.has v).1 = true) : (t.orA.has v).1 = true := by
  unfold Ty.orA; split
  · exact h
  · simp [tyAny, Ty.has]
theorem tyUn_has (p : TyL) (v : Tm) : ((tyUn p).has v).1 = p.hasAny v := by simp [tyUn, Ty.has]
theorem Ty.ei_has {a b : Ty} (ha : a.ok = true) (hb : b.ok = true) {v : Tm} (hv : v.all.e = 0) (h : (a.has v).1 = true ∨ (b.has v).1 = true) : ((a.ei b).has v).1 = true := by
  unfold Ty.ei
  split
  · rename_i hs
    rcases h with h | h
    · exact Ty.sub_snd a b ha hb hs v hv h
    · exact h
  · split
    · rename_i hs
      rcases h with h | h
      · exact h
      · exact Ty.sub_snd b a hb ha hs v hv h
    · rw [tyUn_has, TyL.app_any, Ty.chs_any, Ty.chs_any]
      rcases h with h | h <;> simp [h]

theorem Tm.good_named {b : Bool} {i : Int} {f : Nat} {tx by' : ByteArray} {rf : Int} {l : TmL} {fs : TmF} {c : ByteArray} {v : Int} (h : (Tm.mk 9 b i f tx by' rf l fs c v).all.e = 0) : Sp.namesFit fs.names = true := by
  unfold Tm.all at h
  rw [Tm.wk] at h
  by_cases h0 : (Tm.mk 9 b i f tx by' rf l fs c v).own 0 1 ≠ 0
  · rw [if_pos h0] at h; exact absurd h h0
  have h0 := Decidable.not_not.1 h0
  simp only [Tm.own] at h0
  by_cases he : Sp.ent 9 0 1 ≠ 0
  · rw [if_pos he] at h0; exact absurd h0 he
  rw [if_neg he] at h0
  simp at h0
  unfold Sp.fieldsR at h0
  split at h0
  · omega
  · split at h0
    · rename_i h1 h2
      unfold Sp.namesFit
      rw [h2]; simp; omega
    · omega
theorem Tm.good_kind {k : Int} {b : Bool} {i : Int} {f : Nat} {tx by' : ByteArray} {rf : Int} {l : TmL} {fs : TmF} {c : ByteArray} {v : Int} (h : (Tm.mk k b i f tx by' rf l fs c v).all.e = 0) : (1 ≤ k ∧ k ≤ 10) ∧ (k = 10 → Sp.isNm c = true) := by
  unfold Tm.all at h
  rw [Tm.wk] at h
  by_cases h0 : (Tm.mk k b i f tx by' rf l fs c v).own 0 1 ≠ 0
  · rw [if_pos h0] at h; exact absurd h h0
  have h0 := Decidable.not_not.1 h0
  simp only [Tm.own] at h0
  by_cases he : Sp.ent k 0 1 ≠ 0
  · rw [if_pos he] at h0; exact absurd h0 he
  rw [if_neg he] at h0
  have he := Decidable.not_not.1 he
  refine ⟨?_, fun hk => ?_⟩
  · unfold Sp.ent at he
    by_cases h2 : k = 11
    · subst h2; simp at he
    · rw [if_neg h2] at he
      by_cases h1 : k < 1 ∨ 10 < k
      · rw [if_pos h1] at he; omega
      · omega
  · subst hk
    simp at h0
    unfold Sp.headR at h0
    cases hn : Sp.isNm c with
    | true => rfl
    | false => simp [hn] at h0
mutual
theorem Tm.typ_ok : (t : Tm) → t.all.e = 0 → t.typ.ok = true ∧ t.typ.fitsB = true
  | .mk k b i f tx by' rf l fs c v, h => by
    have hg := Tm.good_parts h
    have hk := Tm.good_kind h
    simp only [Tm.typ]
    by_cases h8 : k = 8
    · rw [if_pos h8]
      have := TmL.typs_ok l tyNo (hg.1 h8).1 tyNo_ok tyNo_fits
      exact ⟨Ty.orA_ok (by simp [tyLs, Ty.ok, Ty.own, Sp.parted, TyL.ok, TyL.len, this.1]), Ty.orA_fits _⟩
    rw [if_neg h8]
    by_cases h9 : k = 9
    · rw [if_pos h9]
      subst h9
      have := TmF.typF_ok fs (hg.2 (.inl rfl)).1
      refine ⟨Ty.orA_ok ?_, Ty.orA_fits _⟩
      simp [tyFs, Ty.ok, Ty.own, Sp.parted, this.1, this.2.1, Tm.good_named h, TmF.names_len]
    rw [if_neg h9]
    by_cases h10 : k = 10
    · rw [if_pos h10]
      exact ⟨by simp [tyRc, Ty.ok, Ty.own, Sp.parted, hk.2 h10], by simp [tyRc, Ty.fitsB, Ty.cnt, Ty.dep, Sp.parted]⟩
    rw [if_neg h10]
    exact ⟨by simp [tyKd, Ty.ok, Ty.own, Sp.parted]; omega, by simp [tyKd, Ty.fitsB, Ty.cnt, Ty.dep, Sp.parted]⟩
theorem TmL.typs_ok : (l : TmL) → ∀ p : Ty, l.gd → p.ok = true → p.fitsB = true → (l.typs p).ok = true ∧ (l.typs p).fitsB = true
  | .nil, p, _, h1, h2 => by simp only [TmL.typs]; exact ⟨h1, h2⟩
  | .cons t l, p, hg, h1, h2 => by
    have ht := Tm.typ_ok t hg.1
    simp only [TmL.typs]
    exact TmL.typs_ok l _ hg.2 (Ty.orA_ok (Ty.ei_ok h1 ht.1)) (Ty.orA_fits _)
theorem TmF.typF_ok : (l : TmF) → l.gd → l.typF.ok = true ∧ l.typF.len = l.len ∧ l.typF.cnt ≤ 16384 * l.len ∧ l.typF.dep ≤ 64
  | .nil, _ => by simp [TmF.typF, TyL.ok, TyL.len, TmF.len, TyL.cnt, TyL.dep]
  | .cons n t l, hg => by
    have ht := Tm.typ_ok t hg.1
    have hf := Ty.fitsB_iff.1 ht.2
    have ih := TmF.typF_ok l hg.2
    simp only [TmF.typF, TyL.ok, TyL.len, TmF.len, TyL.cnt, TyL.dep, ht.1, ih.1, Bool.and_self]
    exact ⟨trivial, by omega, by omega, by omega⟩
end
theorem TmL.typs_keep : (l : TmL) → ∀ p : Ty, l.gd → p.ok = true → ∀ v : Tm, v.all.e = 0 → (p.has v).1 = true → ((l.typs p).has v).1 = true
  | .nil, p, _, _, v, _, h => by simp only [TmL.typs]; exact h
  | .cons t l, p, hg, h1, v, hv, h => by
    have ht := Tm.typ_ok t hg.1
    simp only [TmL.typs]
    exact TmL.typs_keep l _ hg.2 (Ty.orA_ok (Ty.ei_ok h1 ht.1)) v hv (Ty.orA_has (Ty.ei_has h1 ht.1 hv (.inl h)))
theorem hasL_of (f : Tm → Bool × Int) : (l : TmL) → ∀ n, (∀ x ∈ l.toT, (f x).1 = true) → (Sp.hasL f l n).1 = true
  | .nil, _, _ => rfl
  | .cons x l, n, h => by
    simp only [Sp.hasL]
    rw [if_pos (h x (List.mem_cons_self ..))]
    exact hasL_of f l _ (fun y hy => h y (List.mem_cons_of_mem _ hy))
theorem hasF_of : (F : TmF) → ∀ (N : Nat) (n : Int), 2 * F.len ≤ N → (∀ x ∈ F.toP, (x.2.typ.has x.2).1 = true) → (Sp.hasD false N F.names (List.replicate F.len false) F.typF.fns F n).1 = true
  | .nil, 0, _, _, _ => rfl
  | .nil, N + 1, _, _, _ => by simp [TmF.names, TmF.len, TmF.typF, TyL.fns, Sp.hasD]
  | .cons m x l, 0, _, h, _ => by simp [TmF.len] at h
  | .cons m x l, N + 1, n, h, hx => by
    have h1 := hx (m, x) (List.mem_cons_self ..)
    simp only [TmF.names, TmF.len, TmF.typF, TyL.fns, List.replicate_succ, Sp.hasD]
    rw [if_neg (by rw [cmpS_self]; omega), if_neg (by rw [cmpS_self]; omega), if_pos h1]
    exact hasF_of l N _ (by simp only [TmF.len] at h; omega) (fun y hy => hx y (List.mem_cons_of_mem _ hy))
mutual
theorem Tm.typ_has : (t : Tm) → t.all.e = 0 → (t.typ.has t).1 = true
  | .mk k b i f tx by' rf l fs c v, h => by
    have hg := Tm.good_parts h
    have hk := Tm.good_kind h
    simp only [Tm.typ]
    by_cases h8 : k = 8
    · rw [if_pos h8]
      refine Ty.orA_has ?_
      subst h8
      have ih := TmL.typs_has l tyNo (hg.1 rfl).1 tyNo_ok tyNo_fits
      simp only [tyLs, Ty.has, Tm.knd, Tm.lst, TyL.hasHead]
      simp only [if_true, show ¬ ((5 : Int) = 1) by decide, show ¬ ((5 : Int) = 3) by decide, show ¬ ((5 : Int) = 4) by decide, if_false]
      exact hasL_of _ l 1 ih
    rw [if_neg h8]
    by_cases h9 : k = 9
    · rw [if_pos h9]
      refine Ty.orA_has ?_
      subst h9
      have ih := TmF.typF_has fs (hg.2 (.inl rfl)).1
      have := hasF_of fs (fs.names.length + fs.len) 1 (by rw [TmF.names_len]; omega) ih
      simp only [tyFs, Ty.has, Tm.knd, Tm.flds]
      simp only [if_true, show ¬ ((6 : Int) = 1) by decide, show ¬ ((6 : Int) = 3) by decide, show ¬ ((6 : Int) = 4) by decide, show ¬ ((6 : Int) = 5) by decide, if_false]
      rw [TmF.names_len] at this ⊢
      exact this
    rw [if_neg h9]
    by_cases h10 : k = 10
    · rw [if_pos h10]; subst h10
      simp [tyRc, Ty.has, Tm.knd, Tm.cls, cmpS_self]
    rw [if_neg h10]
    simp [tyKd, Ty.has, Tm.knd]
theorem TmL.typs_has : (l : TmL) → ∀ p : Ty, l.gd → p.ok = true → p.fitsB = true → ∀ x ∈ l.toT, ((l.typs p).has x).1 = true
  | .nil, _, _, _, _, x, hx => by simp [TmL.toT] at hx
  | .cons t l, p, hg, h1, h2, x, hx => by
    have ht := Tm.typ_ok t hg.1
    have hh := Tm.typ_has t hg.1
    have hok := Ty.orA_ok (Ty.ei_ok h1 ht.1)
    simp only [TmL.typs]
    simp only [TmL.toT, List.mem_cons] at hx
    rcases hx with rfl | hx
    · exact TmL.typs_keep l _ hg.2 hok x hg.1 (Ty.orA_has (Ty.ei_has h1 ht.1 hg.1 (.inr hh)))
    · exact TmL.typs_has l _ hg.2 hok (Ty.orA_fits _) x hx
theorem TmF.typF_has : (l : TmF) → l.gd → ∀ x ∈ l.toP, (x.2.typ.has x.2).1 = true
  | .nil, _, x, hx => by simp [TmF.toP] at hx
  | .cons n t l, hg, x, hx => by
    simp only [TmF.toP, List.mem_cons] at hx
    rcases hx with rfl | hx
    · exact Tm.typ_has t hg.1
    · exact TmF.typF_has l hg.2 x hx
end
theorem Tm.typ_can {t : Tm} (h : t.all.e = 0) : t.typ.can = true := by
  have h1 := Tm.typ_ok t h
  have h2 := Ty.fitsB_iff.1 h1.2
  exact Ty.can_of h1.1 h2.1 h2.2
theorem Tm.typ_isA {t : Tm} (h : t.all.e = 0) : (Sp.isA t t.typ).1 = true ∧ (Sp.isA t t.typ).2.2 = 0 := by
  rw [Sp.isA_ok h (Tm.typ_can h)]; exact ⟨Tm.typ_has t h, rfl⟩

/-! types that are alike but for what their kinds do not use; a term in its plain form -/
mutual
def Ty.al : Ty → Ty → Prop
  | .mk k o t p n l op c, .mk k2 o2 t2 p2 n2 l2 op2 c2 => k = k2 ∧ (k = 3 → o = o2) ∧ (k = 4 → t2 = t.clean) ∧ (Sp.parted k = true → p.al p2) ∧ (k = 6 → n = n2 ∧ l = l2 ∧ op = op2) ∧ (k = 8 → c = c2)
def TyL.al : TyL → TyL → Prop
  | .nil, .nil => True
  | .cons t l, .cons t2 l2 => t.al t2 ∧ l.al l2
  | _, _ => False
end
theorem TyL.al_len : (a b : TyL) → a.al b → a.len = b.len
  | .nil, .nil, _ => rfl
  | .nil, .cons _ _, h => by simp [TyL.al] at h
  | .cons _ _, .nil, h => by simp [TyL.al] at h
  | .cons t l, .cons t2 l2, h => by simp only [TyL.al] at h; simp only [TyL.len, TyL.al_len l l2 h.2]
theorem Ty.al_own {k o : Int} {t : Tm} {p : TyL} {n : List ByteArray} {l : List Bool} {op : Bool} {c : ByteArray} {o2 : Int} {t2 : Tm} {p2 : TyL} {n2 : List ByteArray} {l2 : List Bool} {op2 : Bool} {c2 : ByteArray} (h : (Ty.mk k o t p n l op c).al (.mk k o2 t2 p2 n2 l2 op2 c2)) : (Ty.mk k o t p n l op c).own = (Ty.mk k o2 t2 p2 n2 l2 op2 c2).own := by
  simp only [Ty.al] at h
  obtain ⟨-, h3, h4, h5, h6, h8⟩ := h
  simp only [Ty.own]
  by_cases k1 : k = 1 ∨ k = 2 ∨ k = 4
  · simp [k1]
  by_cases k3 : k = 3
  · subst k3; simp [h3 rfl]
  by_cases k5 : k = 5
  · subst k5; have := TyL.al_len _ _ (h5 (by decide)); simp [this]
  by_cases k6 : k = 6
  · subst k6; have := TyL.al_len _ _ (h5 (by decide)); obtain ⟨rfl, rfl, rfl⟩ := h6 rfl; simp [this]
  by_cases k7 : k = 7
  · subst k7; have := TyL.al_len _ _ (h5 (by decide)); simp [this]
  by_cases k8 : k = 8
  · subst k8; simp [h8 rfl]
  simp [k1, k3, k5, k6, k7, k8]
mutual
theorem Ty.al_ok : (a b : Ty) → a.al b → a.ok = b.ok ∧ a.cnt = b.cnt ∧ a.dep = b.dep
  | .mk k o t p n l op c, .mk k2 o2 t2 p2 n2 l2 op2 c2, h => by
    have hk : k = k2 := by simp only [Ty.al] at h; exact h.1
    subst hk
    have ho := Ty.al_own h
    simp only [Ty.al] at h
    obtain ⟨-, h3, h4, h5, h6, h8⟩ := h
    simp only [Ty.ok, Ty.cnt, Ty.dep, ho]
    cases hp : Sp.parted k with
    | true =>
      obtain ⟨i1, i2, i3⟩ := TyL.al_ok p p2 (h5 hp)
      have hk4 : k ≠ 4 := by rintro rfl; simp [Sp.parted] at hp
      simp [hk4, i1, i2, i3]
    | false =>
      by_cases hk4 : k = 4
      · rw [h4 hk4, Tm.clean_all]; simp
      · simp [hk4]
theorem TyL.al_ok : (a b : TyL) → a.al b → a.ok = b.ok ∧ a.cnt = b.cnt ∧ a.dep = b.dep
  | .nil, .nil, _ => by simp
  | .nil, .cons _ _, h => by simp [TyL.al] at h
  | .cons _ _, .nil, h => by simp [TyL.al] at h
  | .cons t l, .cons t2 l2, h => by
    simp only [TyL.al] at h
    have i1 := Ty.al_ok t t2 h.1
    have i2 := TyL.al_ok l l2 h.2
    simp only [TyL.ok, TyL.cnt, TyL.dep, i1.1, i1.2.1, i1.2.2, i2.1, i2.2.1, i2.2.2]
    simp
end
theorem Tm.sameB_clean {t : Tm} (h : t.all.e = 0) (v : Tm) : v.sameB t.clean = v.sameB t := by
  have hc : t.clean.cmp t = 0 := Tm.eqv_cmp _ _ (t.clean_eqv (Tm.ok_all h))
  unfold Tm.sameB
  rw [Tm.clean_all]
  have h1 := (Tm.tri v t.clean t).1
  have h2 := (Tm.tri v t t.clean).1
  have h3 := (Tm.neg t.clean t).1
  have : (v.cmp t.clean = 0) ↔ (v.cmp t = 0) := ⟨fun e => h1 e hc, fun e => h2 e (by omega)⟩
  simp only [this]
mutual
theorem Ty.al_has : (a b : Ty) → a.al b → a.ok = true → ∀ v, b.has v = a.has v
  | .mk k o t p n l op c, .mk k2 o2 t2 p2 n2 l2 op2 c2, h, hok, v => by
    simp only [Ty.al] at h
    obtain ⟨rfl, h3, h4, h5, h6, h8⟩ := h
    simp only [Ty.has]
    by_cases k1 : k = 1
    · simp [k1]
    by_cases k3 : k = 3
    · subst k3; simp [h3 rfl]
    by_cases k4 : k = 4
    · subst k4
      simp only [Ty.ok, Bool.and_eq_true] at hok
      have := hok.1.2
      simp at this
      simp [h4 rfl, Tm.sameB_clean this]
    by_cases k5 : k = 5
    · subst k5
      have := TyL.al_has p p2 (h5 (by decide)) (Ty.ok_parts hok (by decide))
      simp [this.1]
    by_cases k6 : k = 6
    · subst k6
      have := TyL.al_has p p2 (h5 (by decide)) (Ty.ok_parts hok (by decide))
      obtain ⟨rfl, rfl, rfl⟩ := h6 rfl
      simp [this.2.2]
    by_cases k7 : k = 7
    · subst k7
      have := TyL.al_has p p2 (h5 (by decide)) (Ty.ok_parts hok (by decide))
      simp [this.2.1]
    by_cases k8 : k = 8
    · subst k8; simp [h8 rfl]
    simp [k1, k3, k4, k5, k6, k7, k8]
theorem TyL.al_has : (a b : TyL) → a.al b → a.ok = true → (∀ l, b.hasHead l = a.hasHead l) ∧ (∀ v, b.hasAny v = a.hasAny v) ∧ b.fns = a.fns
  | .nil, .nil, _, _ => ⟨fun _ => rfl, fun _ => rfl, rfl⟩
  | .nil, .cons _ _, h, _ => by simp [TyL.al] at h
  | .cons _ _, .nil, h, _ => by simp [TyL.al] at h
  | .cons t l, .cons t2 l2, h, hok => by
    simp only [TyL.al] at h
    simp only [TyL.ok, Bool.and_eq_true] at hok
    have i1 : t2.has = t.has := funext fun v => Ty.al_has t t2 h.1 hok.1 v
    have i2 := TyL.al_has l l2 h.2 hok.2
    exact ⟨fun x => by simp only [TyL.hasHead, i1], fun v => by simp only [TyL.hasAny, i1, i2.2.1], by simp only [TyL.fns, i1, i2.2.2]⟩
end
theorem Ty.al_can {a b : Ty} (h : a.al b) (hc : a.can = true) : b.can = true := by
  obtain ⟨h1, h2, h3⟩ := Ty.can_ok hc
  obtain ⟨e1, e2, e3⟩ := Ty.al_ok a b h
  exact Ty.can_of (by rw [← e1]; exact h1) (by rw [← e2]; exact h2) (by rw [← e3]; exact h3)
theorem Ty.al_isA {a b : Ty} (h : a.al b) (hc : a.can = true) (v : Tm) : Sp.isA v b = Sp.isA v a := by
  unfold Sp.isA
  rw [Ty.al_can h hc, hc, Ty.al_has a b h (Ty.can_ok hc).1 v]
end Go.Proofs.YtjdjpbdfchhcfaaGreat

/- check.can, orAny, choices: shapes that are too great, the parts of a union. -/
namespace Go.Proofs.YtjdjpbdfchhcfaaGreat
open Go.RowKit

set_option maxRecDepth 100000 in
set_option maxHeartbeats 2000000 in
theorem can_any (t : Ty) (b : Nat) (B : Nat → Prop) (w : World) (h : t.Sh w B b) : Calls Tryz.prog 28 #[.pointer (some ⟨b, 0, none⟩)] w fun e w' => e = .returned (.bool t.fitsB) ∧ w = w' := by
  obtain ⟨-, c9, c10⟩ := Ty.Sh_cnt h
  unfold Ty.fitsB
  generalize t.cnt = n at *
  generalize t.dep = d at *
  clear h
  by_cases h1 : n ≤ 16384
  · by_cases h2 : d ≤ 64
    · rw [show decide (n ≤ 16384 ∧ d ≤ 64) = true by simp [h1, h2]]
      go_enter Tryz.func28, Tryz.ntmps28
      go_wp2_with fail
      go_ret
      exact ⟨rfl, rfl⟩
    · rw [show decide (n ≤ 16384 ∧ d ≤ 64) = false by simp [h2]]
      go_enter Tryz.func28, Tryz.ntmps28
      go_wp2_with fail
      go_ret
      exact ⟨rfl, rfl⟩
  · rw [show decide (n ≤ 16384 ∧ d ≤ 64) = false by simp [h1]]
    go_enter Tryz.func28, Tryz.ntmps28
    go_wp2_with fail
    go_ret
    exact ⟨rfl, rfl⟩

theorem BF.sub {B : Nat → Prop} {w W : World} (h : Sub B w) (hW : Below w.heap.size w W) : Sub (BF B w W) W := fun k hk => by
  rcases hk with hk | hk
  · exact Nat.lt_of_lt_of_le (h k hk) hW.size
  · exact hk.2
theorem BF.next {B : Nat → Prop} {w W W' : World} (h : W.heap.size ≤ W'.heap.size) : ∀ k, BF B w W k → BF B w W' k := fun _ hk => hk.imp id fun h2 => ⟨h2.1, Nat.lt_of_lt_of_le h2.2 h⟩
theorem BF.join {B : Nat → Prop} {w W W' : World} (h1 : w.heap.size ≤ W.heap.size) (h2 : W.heap.size ≤ W'.heap.size) : ∀ k, BF (BF B w W) W W' k → BF B w W' k := fun k hk => by
  rcases hk with hk | hk
  · exact BF.next h2 k hk
  · exact .inr ⟨Nat.le_trans h1 hk.1, hk.2⟩
theorem TyL.Sh_on {t : TyL} {q : Option Addr} {j : Nat} {B : Nat → Prop} {w W W' : World} (hB : Sub B w) (h : t.Sh W (BF B w W) q j) (hW : Below w.heap.size w W) (hW' : Below W.heap.size W W') : t.Sh W' (BF B w W') q j :=
  t.Sh_same (fun k hk => hW'.block k (BF.sub hB hW k hk)) (BF.next hW'.size) q j h
theorem Ty.Sh_lo {t : Ty} {q : Nat} {B : Nat → Prop} {W : World} (h : t.Sh W B q) (hB : Sub B W) : t.Sh W (Lo W.heap.size) q := t.Sh_same (Same.refl _ _) hB q h
theorem Ty.Sh_bf {t : Ty} {q : Nat} {B : Nat → Prop} {w W : World} (h : t.Sh w B q) (hB : Sub B w) (hW : Below w.heap.size w W) : t.Sh W (BF B w W) q := t.Sh_same (hB.same hW) (fun _ h => .inl h) q h
theorem TyL.Sh_bf {t : TyL} {q : Option Addr} {j : Nat} {B : Nat → Prop} {w W : World} (h : t.Sh w B q j) (hB : Sub B w) (hW : Below w.heap.size w W) : t.Sh W (BF B w W) q j := t.Sh_same (hB.same hW) (fun _ h => .inl h) q j h

theorem sh_leaf {k o : Int} {c : ByteArray} {w : World} {B : Nat → Prop} {b : Nat} (hB : B b) (hk : k = 1 ∨ k = 2 ∨ k = 3 ∨ k = 8) (ho : k ≠ 3 → o = 0) (hc : k ≠ 8 → c = ByteArray.empty)
    (h : w.heap[b]? = some (.cells #[.int .i64 k, .int .i64 o, .nilIface, .int .i64 0, .slice none 0 0, .slice none 0 0, .slice none 0 0, .bool false, .string c, .int .i64 1, .int .i64 1] 102 (0, 0))) (o2 : Int) (ho2 : k = 3 → o2 = o) (c2 : ByteArray) (hc2 : k = 8 → c2 = c) :
    (Ty.mk k o2 tm0 .nil [] [] false c2).Sh w B b := by
  have hp : Sp.parted k = false := by rcases hk with rfl | rfl | rfl | rfl <;> rfl
  have h4 : k ≠ 4 := by omega
  have h6 : k ≠ 6 := by omega
  simp only [Ty.Sh, Ty.cnt, Ty.dep, hp]
  refine ⟨hB, o, _, _, _, _, _, _, _, _, _, _, _, _, c, h, fun e => (ho2 e).symm, fun e => absurd e h4, by simp, fun e => absurd e h6, fun e => (hc2 e).symm, ho, by simp, by simp, hc⟩

set_option maxRecDepth 100000 in
set_option maxHeartbeats 2000000 in
theorem orAny_any (t : Ty) (b : Nat) (B : Nat → Prop) (w : World) (hB : Sub B w) (h : t.Sh w B b) :
    Calls Tryz.prog 70 #[.pointer (some ⟨b, 0, none⟩)] w fun e w' => ∃ b', e = .returned (.pointer (some ⟨b', 0, none⟩)) ∧ Below w.heap.size w w' ∧ t.orA.Sh w' (BF B w w') b' := by
  have HC : Hid (∀ W, w = W → Calls Tryz.prog 28 #[.pointer (some ⟨b, 0, none⟩)] W fun e w' => e = .returned (.bool t.fitsB) ∧ W = w') := fun W hW => by subst hW; exact can_any t b _ w h
  have HS : Hid (t.Sh w (BF B w w) b) := Ty.Sh_bf h hB (Below.refl _ _)
  have HM : Hid (Calls Tryz.prog 55 #[.agg #[.int .i64 1, .int .i64 0, .nilIface, .int .i64 0, .slice none 0 0, .slice none 0 0, .slice none 0 0, .bool false, .string ByteArray.empty, .int .i64 0, .int .i64 0]] w _) :=
    made_any (.int .i64 1) (.int .i64 0) .nilIface (.int .i64 0) none .nil 0 (.slice none 0 0) (.slice none 0 0) (.bool false) (.string ByteArray.empty) (.int .i64 0) (.int .i64 0) (fun _ => False) w (fun _ h => h.elim) (by simp [TyL.Sh]) (by simp [TyL.len]) (by simp [TyL.cnt]) (by simp [TyL.dep])
  clear h hB
  cases hf : t.fitsB with
  | true =>
    have HR : Hid (t.orA = t) := by show _ = _; unfold Ty.orA; rw [hf]; rfl
    rw [hf] at HC
    clear hf HM
    go_enter Tryz.func70, Tryz.ntmps70
    go_wp2_with (first | (go_at_call 28; refine (HC.out _ rfl).mono ?_; rintro e w' ⟨rfl, rfl⟩))
    go_ret
    exact ⟨b, rfl, Below.refl _ _, by rw [HR.out]; exact HS.out⟩
  | false =>
    have HR : Hid (t.orA = tyAny) := by show _ = _; unfold Ty.orA; rw [hf]; rfl
    rw [hf] at HC
    clear hf HS
    go_enter Tryz.func70, Tryz.ntmps70
    go_wp2_with (first | (go_at_call 28; refine (HC.out _ rfl).mono ?_; rintro e w' ⟨rfl, rfl⟩) | (go_at_call 55; refine HM.out.mono ?_; rintro e w' ⟨rfl, hb', hz', hbx⟩))
    have H : Hid (Below w.heap.size w w' ∧ t.orA.Sh w' (BF B w w') w.heap.size) := ⟨hb', by rw [HR.out]; exact sh_leaf (k := 1) (o := 0) (c := ByteArray.empty) (.inr ⟨by omega, by omega⟩) (.inl rfl) (fun _ => rfl) (fun _ => rfl) (by simpa [TyL.cnt, TyL.dep, TyL.len] using hbx) _ (by simp) _ (by simp)⟩
    clear hb' hz' hbx
    go_wp2_with fail
    go_ret
    exact ⟨_, rfl, H.out⟩

theorem Tryz.infoP : (Tryz.prog.info? 60).map (fun i => (i.zero, i.size, i.bytes)) = some (some (.pointer none), 1, 8) := by kernel_rfl
theorem Tryz.undP : Tryz.prog.underlying 100 = some (.slice 60) := by kernel_rfl

set_option maxRecDepth 100000 in
set_option maxHeartbeats 2000000 in
theorem choices_any (t : Ty) (b : Nat) (B : Nat → Prop) (w : World) (hB : Sub B w) (h : t.Sh w B b) :
    Calls Tryz.prog 57 #[.pointer (some ⟨b, 0, none⟩)] w fun e w' => ∃ a cp, e = .returned (.slice a t.chs.len cp) ∧ Below w.heap.size w w' ∧ t.chs.Sh w' (BF B w w') a 0 := by
  have h' := h
  cases t with
  | mk k o t p n l op c =>
    simp only [Ty.Sh] at h
    obtain ⟨hb, o', v, s, ap, np, cp, an, nn, cn, ak, nk, ck, op', c', hh, h3, h4, h5, h6, h8, -⟩ := h
    have c0 : w.cell? ⟨b, 0, none⟩ = some (.int .i64 k) := by rw [cell_of_row _ _ _ _ _ _ hh]; rfl
    have c4 : w.cell? ⟨b, 4, none⟩ = some (.slice ap np cp) := by rw [cell_of_row _ _ _ _ _ _ hh]; rfl
    by_cases hk : k = 7
    · subst hk
      obtain ⟨rfl, -, hp⟩ := h5 rfl
      have HP : Hid (p.Sh w (BF B w w) ap 0) := TyL.Sh_bf hp hB (Below.refl _ _)
      have HE : Hid ((Ty.mk 7 o t p n l op c).chs = p) := by show _ = _; simp [Ty.chs, Ty.kind, Ty.parts]
      rw [HE.out]
      clear hb hh h3 h4 h5 h6 h8 h' hp hB
      go_enter Tryz.func57, Tryz.ntmps57
      go_wp2_with fail
      go_ret
      exact ⟨ap, cp, rfl, Below.refl _ _, HP.out⟩
    · have HE : Hid ((Ty.mk k o t p n l op c).chs = .cons (.mk k o t p n l op c) .nil) := by show _ = _; simp [Ty.chs, Ty.kind, hk]
      have HS : Hid ((Ty.mk k o t p n l op c).Sh w B b ∧ Sub B w) := ⟨h', hB⟩
      have hbl : b < w.heap.size := hB b hb
      rw [HE.out]
      clear hb hh h3 h4 h5 h6 h8 h' c4 hB
      go_enter Tryz.func57, Tryz.ntmps57
      go_wp2_with fail
      go_ret
      refine ⟨some ⟨w.heap.size, 0, none⟩, 1, rfl, (Below.refl _ _).alloc (Nat.le_refl _) _, ?_⟩
      simp only [TyL.Sh]
      exact ⟨w.heap.size, 0, b, rfl, .inr ⟨Nat.le_refl _, by simp⟩, by rw [cell_of_row _ _ _ _ _ _ (heap_alloc_new w _)]; rfl, Ty.Sh_bf HS.out.1 HS.out.2 ((Below.refl _ _).alloc (Nat.le_refl _) _), trivial⟩
end Go.Proofs.YtjdjpbdfchhcfaaGreat


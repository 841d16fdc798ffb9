/- Plain mathematics: the order of terms is turned about by turning about, lies in -1, 0, 1, and goes through a third. -/
import Derived.Test.YtkomcebknllaiaaK10
import Derived.Test.YtkomcebknllaiaaK34
import Derived.Test.YtkomcebknllaiaaK28
import Derived.Test.YtkomcebknllaiaaK20
import Derived.Test.YtkomcebknllaiaaK21
namespace Go.Proofs.Ytkomcebknllaiaa

def Tri (ab bc ac : Int) : Prop := (ab = 0 → bc = 0 → ac = 0) ∧ (ab < 0 → bc ≤ 0 → ac < 0) ∧ (ab ≤ 0 → bc < 0 → ac < 0)
def Lex (x y : Int) : Int := if x ≠ 0 then x else y
theorem lex_lt {x y : Int} : Lex x y < 0 ↔ x < 0 ∨ (x = 0 ∧ y < 0) := by unfold Lex; split <;> omega
theorem lex_le {x y : Int} : Lex x y ≤ 0 ↔ x < 0 ∨ (x = 0 ∧ y ≤ 0) := by unfold Lex; split <;> omega
theorem lex_zero {x y : Int} : Lex x y = 0 ↔ x = 0 ∧ y = 0 := by unfold Lex; split <;> omega
theorem tri_lex {x1 x2 x3 y1 y2 y3 : Int} (hx : Tri x1 x2 x3) (hy : Tri y1 y2 y3) : Tri (Lex x1 y1) (Lex x2 y2) (Lex x3 y3) := by
  obtain ⟨a1, a2, a3⟩ := hx
  obtain ⟨b1, b2, b3⟩ := hy
  refine ⟨fun h g => ?_, fun h g => ?_, fun h g => ?_⟩
  · rw [lex_zero] at *; exact ⟨a1 h.1 g.1, b1 h.2 g.2⟩
  · rw [lex_lt] at h ⊢; rw [lex_le] at g
    rcases h with h | ⟨h, h'⟩
    · exact .inl (a2 h (by omega))
    · rcases g with g | ⟨g, g'⟩
      · exact .inl (a3 (by omega) g)
      · exact .inr ⟨a1 h g, b2 h' g'⟩
  · rw [lex_lt] at g ⊢; rw [lex_le] at h
    rcases g with g | ⟨g, g'⟩
    · exact .inl (a3 (by omega) g)
    · rcases h with h | ⟨h, h'⟩
      · exact .inl (a2 h (by omega))
      · exact .inr ⟨a1 h g, b3 h' g'⟩
theorem tri_cmpI (a b c : Int) : Tri (Sp.cmpI a b) (Sp.cmpI b c) (Sp.cmpI a c) := by
  unfold Tri Sp.cmpI
  refine ⟨?_, ?_, ?_⟩ <;> (repeat' split) <;> omega
theorem tri_zero : Tri 0 0 0 := ⟨fun _ _ => rfl, fun h => absurd h (by decide), fun _ h => absurd h (by decide)⟩
theorem neg_cmpI (a b : Int) : Sp.cmpI a b = -Sp.cmpI b a := by unfold Sp.cmpI; (repeat' split) <;> omega
theorem vals_cmpI (a b : Int) : -1 ≤ Sp.cmpI a b ∧ Sp.cmpI a b ≤ 1 := by unfold Sp.cmpI; (repeat' split) <;> omega
theorem neg_lex {x x' y y' : Int} (h : x = -x') (g : y = -y') : Lex x y = -Lex x' y' := by unfold Lex; (repeat' split) <;> omega
theorem vals_lex {x y : Int} (h : -1 ≤ x ∧ x ≤ 1) (g : -1 ≤ y ∧ y ≤ 1) : -1 ≤ Lex x y ∧ Lex x y ≤ 1 := by unfold Lex; split <;> omega

theorem cb_cons (x y : UInt8) (a b : List UInt8) : Lib.compareBytes (x :: a) (y :: b) = Lex (Sp.cmpI x.toNat y.toNat) (Lib.compareBytes a b) := by
  simp only [Lib.compareBytes, Lex, Sp.cmpI, UInt8.lt_iff_toNat_lt]
  by_cases h1 : x.toNat < y.toNat
  · simp [h1]
  · by_cases h2 : y.toNat < x.toNat
    · simp [h1, h2]
    · simp [h1, h2]
theorem tri_cb : ∀ (a b c : List UInt8), Tri (Lib.compareBytes a b) (Lib.compareBytes b c) (Lib.compareBytes a c)
  | [], [], [] => tri_zero
  | [], [], _ :: _ => by simp [Lib.compareBytes, Tri]
  | [], _ :: _, [] => by simp [Lib.compareBytes, Tri]
  | [], _ :: _, _ :: _ => by simp [Lib.compareBytes, Tri]
  | _ :: _, [], [] => by simp [Lib.compareBytes, Tri]
  | _ :: _, [], _ :: _ => by simp [Lib.compareBytes, Tri]
  | x :: a, y :: b, [] => by simp [Lib.compareBytes, Tri]
  | x :: a, y :: b, z :: c => by
    rw [cb_cons, cb_cons, cb_cons]
    exact tri_lex (tri_cmpI _ _ _) (tri_cb a b c)
theorem neg_cb : ∀ (a b : List UInt8), Lib.compareBytes a b = -Lib.compareBytes b a
  | [], [] => by simp [Lib.compareBytes]
  | [], _ :: _ => by simp [Lib.compareBytes]
  | _ :: _, [] => by simp [Lib.compareBytes]
  | x :: a, y :: b => by rw [cb_cons, cb_cons]; exact neg_lex (neg_cmpI _ _) (neg_cb a b)
theorem vals_cb (a b : List UInt8) : -1 ≤ Lib.compareBytes a b ∧ Lib.compareBytes a b ≤ 1 := by
  rcases cmp_vals a b with h | h | h <;> omega

/-- the order of terms as one lexicographic row -/
def Tm.tail : Tm → Tm → Int
  | .mk k b i f tx by' rf l fs c v, .mk _ b2 i2 f2 tx2 by2 rf2 l2 fs2 c2 v2 =>
    if k = 2 then Sp.cmpI (Sp.rank b) (Sp.rank b2)
    else if k = 3 then Sp.cmpI i i2
    else if k = 4 then Sp.cmpI (Sp.frank f) (Sp.frank f2)
    else if k = 5 then Sp.cmpS tx tx2
    else if k = 6 then Sp.cmpS by' by2
    else if k = 7 then Sp.cmpI rf rf2
    else if k = 8 then l.cmp l2
    else if k = 9 then fs.cmp fs2
    else if k = 10 then Lex (Sp.cmpS c c2) (Lex (Sp.cmpI v v2) (fs.cmp fs2))
    else 0
theorem Tm.cmp_lex (s t : Tm) : s.cmp t = Lex (Sp.cmpI s.kind t.kind) (s.tail t) := by
  cases s; cases t; rw [Tm.cmp]; rfl
theorem TmL.cmp_lex (s t : Tm) (l r : TmL) : TmL.cmp (.cons s l) (.cons t r) = Lex (s.cmp t) (l.cmp r) := by rw [TmL.cmp]; rfl
theorem TmF.cmp_lex (n m : ByteArray) (s t : Tm) (l r : TmF) : TmF.cmp (.cons n s l) (.cons m t r) = Lex (Sp.cmpS n m) (Lex (s.cmp t) (l.cmp r)) := by rw [TmF.cmp]; rfl

/-- where the kinds are one, the rest is an order too; where not, it does not matter -/
theorem tri_lex' {x1 x2 x3 y1 y2 y3 : Int} (hx : Tri x1 x2 x3) (hy : x1 = 0 → x2 = 0 → Tri y1 y2 y3) : Tri (Lex x1 y1) (Lex x2 y2) (Lex x3 y3) := by
  by_cases h : x1 = 0 ∧ x2 = 0
  · exact tri_lex hx (hy h.1 h.2)
  · obtain ⟨a1, a2, a3⟩ := hx
    refine ⟨fun p q => ?_, fun p q => ?_, fun p q => ?_⟩
    · rw [lex_zero] at p q; exact absurd ⟨p.1, q.1⟩ h
    · rw [lex_lt] at p ⊢; rw [lex_le] at q
      by_cases e : x1 < 0
      · exact .inl (a2 e (by omega))
      · exact .inl (a3 (by omega) (by omega))
    · rw [lex_lt] at q ⊢; rw [lex_le] at p
      by_cases e : x1 < 0
      · exact .inl (a2 e (by omega))
      · exact .inl (a3 (by omega) (by omega))

mutual
theorem Tm.tri : (s t u : Tm) → Tri (s.cmp t) (t.cmp u) (s.cmp u)
  | .mk k b i f tx by' rf l fs c v, .mk k2 b2 i2 f2 tx2 by2 rf2 l2 fs2 c2 v2, .mk k3 b3 i3 f3 tx3 by3 rf3 l3 fs3 c3 v3 => by
    rw [Tm.cmp_lex, Tm.cmp_lex, Tm.cmp_lex]
    refine tri_lex' (tri_cmpI _ _ _) (fun h1 h2 => ?_)
    obtain rfl : k = k2 := cmpI_zero h1
    obtain rfl : k = k3 := cmpI_zero h2
    simp only [Tm.tail]
    by_cases k2 : k = 2
    · simp only [if_pos k2]; exact tri_cmpI _ _ _
    simp only [if_neg k2]
    by_cases k3 : k = 3
    · simp only [if_pos k3]; exact tri_cmpI _ _ _
    simp only [if_neg k3]
    by_cases k4 : k = 4
    · simp only [if_pos k4]; exact tri_cmpI _ _ _
    simp only [if_neg k4]
    by_cases k5 : k = 5
    · simp only [if_pos k5]; exact tri_cb _ _ _
    simp only [if_neg k5]
    by_cases k6 : k = 6
    · simp only [if_pos k6]; exact tri_cb _ _ _
    simp only [if_neg k6]
    by_cases k7 : k = 7
    · simp only [if_pos k7]; exact tri_cmpI _ _ _
    simp only [if_neg k7]
    by_cases k8 : k = 8
    · simp only [if_pos k8]; exact TmL.tri l l2 l3
    simp only [if_neg k8]
    by_cases k9 : k = 9
    · simp only [if_pos k9]; exact TmF.tri fs fs2 fs3
    simp only [if_neg k9]
    by_cases k10 : k = 10
    · simp only [if_pos k10]; exact tri_lex (tri_cb _ _ _) (tri_lex (tri_cmpI _ _ _) (TmF.tri fs fs2 fs3))
    simp only [if_neg k10]
    exact tri_zero
theorem TmL.tri : (s t u : TmL) → Tri (s.cmp t) (t.cmp u) (s.cmp u)
  | .nil, .nil, .nil => by simp [TmL.cmp, Tri]
  | .nil, .nil, .cons _ _ => by simp [TmL.cmp, Tri]
  | .nil, .cons _ _, .nil => by simp [TmL.cmp, Tri]
  | .nil, .cons _ _, .cons _ _ => by simp [TmL.cmp, Tri]
  | .cons _ _, .nil, .nil => by simp [TmL.cmp, Tri]
  | .cons _ _, .nil, .cons _ _ => by simp [TmL.cmp, Tri]
  | .cons _ _, .cons _ _, .nil => by simp [TmL.cmp, Tri]
  | .cons s l, .cons t r, .cons u q => by
    rw [TmL.cmp_lex, TmL.cmp_lex, TmL.cmp_lex]
    exact tri_lex (Tm.tri s t u) (TmL.tri l r q)
theorem TmF.tri : (s t u : TmF) → Tri (s.cmp t) (t.cmp u) (s.cmp u)
  | .nil, .nil, .nil => by simp [TmF.cmp, Tri]
  | .nil, .nil, .cons _ _ _ => by simp [TmF.cmp, Tri]
  | .nil, .cons _ _ _, .nil => by simp [TmF.cmp, Tri]
  | .nil, .cons _ _ _, .cons _ _ _ => by simp [TmF.cmp, Tri]
  | .cons _ _ _, .nil, .nil => by simp [TmF.cmp, Tri]
  | .cons _ _ _, .nil, .cons _ _ _ => by simp [TmF.cmp, Tri]
  | .cons _ _ _, .cons _ _ _, .nil => by simp [TmF.cmp, Tri]
  | .cons n s l, .cons m t r, .cons o u q => by
    rw [TmF.cmp_lex, TmF.cmp_lex, TmF.cmp_lex]
    exact tri_lex (tri_cb _ _ _) (tri_lex (Tm.tri s t u) (TmF.tri l r q))
end

mutual
theorem Tm.neg : (s t : Tm) → s.cmp t = -t.cmp s ∧ -1 ≤ s.cmp t ∧ s.cmp t ≤ 1
  | .mk k b i f tx by' rf l fs c v, .mk k2 b2 i2 f2 tx2 by2 rf2 l2 fs2 c2 v2 => by
    rw [Tm.cmp_lex, Tm.cmp_lex]
    by_cases hk : Sp.cmpI k k2 = 0
    · obtain rfl := cmpI_zero hk
      have key : Tm.tail (.mk k b i f tx by' rf l fs c v) (.mk k b2 i2 f2 tx2 by2 rf2 l2 fs2 c2 v2) = -Tm.tail (.mk k b2 i2 f2 tx2 by2 rf2 l2 fs2 c2 v2) (.mk k b i f tx by' rf l fs c v) ∧ -1 ≤ Tm.tail (.mk k b i f tx by' rf l fs c v) (.mk k b2 i2 f2 tx2 by2 rf2 l2 fs2 c2 v2) ∧ Tm.tail (.mk k b i f tx by' rf l fs c v) (.mk k b2 i2 f2 tx2 by2 rf2 l2 fs2 c2 v2) ≤ 1 := by
        simp only [Tm.tail]
        by_cases k2 : k = 2
        · simp only [if_pos k2]; exact ⟨neg_cmpI _ _, vals_cmpI _ _⟩
        simp only [if_neg k2]
        by_cases k3 : k = 3
        · simp only [if_pos k3]; exact ⟨neg_cmpI _ _, vals_cmpI _ _⟩
        simp only [if_neg k3]
        by_cases k4 : k = 4
        · simp only [if_pos k4]; exact ⟨neg_cmpI _ _, vals_cmpI _ _⟩
        simp only [if_neg k4]
        by_cases k5 : k = 5
        · simp only [if_pos k5]; exact ⟨neg_cb _ _, vals_cb _ _⟩
        simp only [if_neg k5]
        by_cases k6 : k = 6
        · simp only [if_pos k6]; exact ⟨neg_cb _ _, vals_cb _ _⟩
        simp only [if_neg k6]
        by_cases k7 : k = 7
        · simp only [if_pos k7]; exact ⟨neg_cmpI _ _, vals_cmpI _ _⟩
        simp only [if_neg k7]
        by_cases k8 : k = 8
        · simp only [if_pos k8]; exact TmL.neg l l2
        simp only [if_neg k8]
        by_cases k9 : k = 9
        · simp only [if_pos k9]; exact TmF.neg fs fs2
        simp only [if_neg k9]
        by_cases k10 : k = 10
        · simp only [if_pos k10]
          have hf := TmF.neg fs fs2
          exact ⟨neg_lex (neg_cb _ _) (neg_lex (neg_cmpI _ _) hf.1), vals_lex (vals_cb _ _) (vals_lex (vals_cmpI _ _) hf.2)⟩
        simp only [if_neg k10]
        decide
      exact ⟨neg_lex (neg_cmpI _ _) key.1, vals_lex (vals_cmpI _ _) key.2⟩
    · have hk' : Sp.cmpI k2 k ≠ 0 := by rw [neg_cmpI]; omega
      have e1 : ∀ y, Lex (Sp.cmpI k k2) y = Sp.cmpI k k2 := fun y => by unfold Lex; rw [if_pos hk]
      have e2 : ∀ y, Lex (Sp.cmpI k2 k) y = Sp.cmpI k2 k := fun y => by unfold Lex; rw [if_pos hk']
      simp only [Tm.kind, e1, e2]
      exact ⟨neg_cmpI _ _, vals_cmpI _ _⟩
theorem TmL.neg : (s t : TmL) → s.cmp t = -t.cmp s ∧ -1 ≤ s.cmp t ∧ s.cmp t ≤ 1
  | .nil, .nil => by simp [TmL.cmp]
  | .nil, .cons _ _ => by simp [TmL.cmp]
  | .cons _ _, .nil => by simp [TmL.cmp]
  | .cons s l, .cons t r => by
    rw [TmL.cmp_lex, TmL.cmp_lex]
    have h1 := Tm.neg s t
    have h2 := TmL.neg l r
    exact ⟨neg_lex h1.1 h2.1, vals_lex h1.2 h2.2⟩
theorem TmF.neg : (s t : TmF) → s.cmp t = -t.cmp s ∧ -1 ≤ s.cmp t ∧ s.cmp t ≤ 1
  | .nil, .nil => by simp [TmF.cmp]
  | .nil, .cons _ _ _ => by simp [TmF.cmp]
  | .cons _ _ _, .nil => by simp [TmF.cmp]
  | .cons n s l, .cons m t r => by
    rw [TmF.cmp_lex, TmF.cmp_lex]
    have h1 := Tm.neg s t
    have h2 := TmF.neg l r
    exact ⟨neg_lex (neg_cb _ _) (neg_lex h1.1 h2.1), vals_lex (vals_cb _ _) (vals_lex h1.2 h2.2)⟩
end
end Go.Proofs.Ytkomcebknllaiaa

/- Plain mathematics: a term and its clean one: the same walk, the same value, told the same. -/
namespace Go.Proofs.Ytkomcebknllaiaa

theorem TmF.clean_names : (l : TmF) → l.clean.names = l.names
  | .nil => rfl
  | .cons n t l => by simp only [TmF.clean, TmF.names, TmF.clean_names l]

mutual
theorem Tm.clean_wk : (t : Tm) → ∀ n p d, t.clean.wk n p d = t.wk n p d
  | .mk k b i f tx by' rf l fs c v, n, p, d => by
    by_cases he : Sp.ent k p n ≠ 0
    · rw [Tm.wk_ent he, Tm.clean, Tm.wk_ent he]
    have he := Decidable.not_not.1 he
    have hz := Sp.ent_zero he
    by_cases k5 : k = 5
    · subst k5; rw [Tm.clean_5, Tm.wk_5 he, Tm.wk_5 he]
    by_cases k6 : k = 6
    · subst k6; rw [Tm.clean_6, Tm.wk_6 he, Tm.wk_6 he]
    by_cases k8 : k = 8
    · subst k8; rw [Tm.clean_8, Tm.wk_8 he, Tm.wk_8 he, TmL.wkR, TmL.wkR, TmL.clean_len, TmL.clean_wk l]
    by_cases k9 : k = 9
    · subst k9; rw [Tm.clean_9, Tm.wk_9 he, Tm.wk_9 he, TmF.wkR, TmF.wkR, TmF.clean_names, TmF.clean_wk fs]
    by_cases k10 : k = 10
    · subst k10
      by_cases hh : Sp.headR c v = 0
      · rw [Tm.clean_10, Tm.wk_10 he hh, Tm.wk_10 he hh, TmF.wkR, TmF.wkR, TmF.clean_names, TmF.clean_wk fs]
      · rw [Tm.clean_10, Tm.wk_10' he hh, Tm.wk_10' he hh]
    rw [Tm.wk_else he k5 k6 k8 k9 k10, Tm.clean, Tm.wk_else he k5 k6 k8 k9 k10]
theorem TmL.clean_wk : (l : TmL) → ∀ n p d, l.clean.wk n p d = l.wk n p d
  | .nil, _, _, _ => rfl
  | .cons t l, n, p, d => by simp only [TmL.clean, TmL.wk, Tm.clean_wk t, TmL.clean_wk l]
theorem TmF.clean_wk : (l : TmF) → ∀ n p d, l.clean.wk n p d = l.wk n p d
  | .nil, _, _, _ => rfl
  | .cons m t l, n, p, d => by simp only [TmF.clean, TmF.wk, Tm.clean_wk t, TmF.clean_wk l]
end
theorem Tm.clean_all (t : Tm) : t.clean.all = t.all := Tm.clean_wk t 1 0 0

mutual
theorem Tm.clean_V {w : World} {B : Nat → Prop} : (t : Tm) → ∀ v, t.clean.V w B v → t.V w B v
  | .mk k b i f tx by' rf l fs c vr, v, h => by
    rw [Tm.clean] at h
    simp only [Tm.V] at h ⊢
    obtain ⟨h1, h2, h3, h4, h5, h6, h7, h8, h9, h10, h11, h12⟩ := h
    refine ⟨h1, fun e => ?_, fun e => ?_, fun e => ?_, fun e => ?_, fun e => ?_, fun e => ?_, fun e => ?_, fun e => ?_, fun e => ?_, h11, h12⟩
    · have := h2 e; subst e; simpa using this
    · have := h3 e; subst e; simpa using this
    · have := h4 e; subst e; simpa using this
    · have := h5 e; subst e; simpa using this
    · have := h6 e; subst e; simpa using this
    · have := h7 e; subst e; simpa using this
    · obtain ⟨a, cap, e1, e2, e3⟩ := h8 e
      subst e
      simp only [if_true, TmL.clean_len] at e1 e2 e3
      exact ⟨a, cap, e1, e2, TmL.clean_V l _ _ e3⟩
    · obtain ⟨a, cap, e1, e2, e3⟩ := h9 e
      subst e
      simp only [true_or, if_true, TmF.clean_len] at e1 e2 e3
      exact ⟨a, cap, e1, e2, TmF.clean_V fs _ _ e3⟩
    · obtain ⟨g, a, cap, e1, e2, e3, e4, e5, e6, e7, e8⟩ := h10 e
      subst e
      simp only [or_true, if_true, TmF.clean_len] at e1 e2 e3 e4 e5 e6 e7 e8
      exact ⟨g, a, cap, e1, e2, e3, e4, e5, e6, e7, TmF.clean_V fs _ _ e8⟩
theorem TmL.clean_V {w : World} {B : Nat → Prop} : (l : TmL) → ∀ a j, l.clean.V w B a j → l.V w B a j
  | .nil, _, _, _ => by simp [TmL.V]
  | .cons t l, a, j, h => by
    simp only [TmL.clean, TmL.V] at h ⊢
    obtain ⟨g, o, v, e, hg, hc, ht, hl⟩ := h
    exact ⟨g, o, v, e, hg, hc, Tm.clean_V t _ ht, TmL.clean_V l _ _ hl⟩
theorem TmF.clean_V {w : World} {B : Nat → Prop} : (l : TmF) → ∀ a j, l.clean.V w B a j → l.V w B a j
  | .nil, _, _, _ => by simp [TmF.V]
  | .cons n t l, a, j, h => by
    simp only [TmF.clean, TmF.V] at h ⊢
    obtain ⟨g, o, v, e, hg, hc, hd, hn, ht, hl⟩ := h
    exact ⟨g, o, v, e, hg, hc, hd, hn, Tm.clean_V t _ ht, TmF.clean_V l _ _ hl⟩
end

mutual
theorem Tm.clean_eqv : (t : Tm) → t.Ok → t.clean.eqv t
  | .mk k b i f tx by' rf l fs c v, h => by
    obtain ⟨p1, p2, p3, p4⟩ := h.parts
    rw [Tm.clean]
    simp only [Tm.eqv]
    refine ⟨trivial, ⟨p1, p2⟩, fun e => ?_, fun e => ?_, fun e => ?_, fun e => ?_, fun e => ?_, fun e => ?_, fun e => ?_, fun e => ?_, fun e => ?_⟩
    · rw [if_pos e]
    · rw [if_pos e]
    · rw [if_pos e]
    · rw [if_pos e]
    · rw [if_pos e]
    · rw [if_pos e]
    · rw [if_pos e]; exact TmL.clean_eqv l (p3 e)
    · rw [if_pos e]; exact TmF.clean_eqv fs (p4 e)
    · rw [if_pos e, if_pos e]; exact ⟨rfl, rfl⟩
theorem TmL.clean_eqv : (l : TmL) → l.Ok → l.clean.eqv l
  | .nil, _ => trivial
  | .cons t l, h => ⟨Tm.clean_eqv t h.head.1, TmL.clean_eqv l h.head.2⟩
theorem TmF.clean_eqv : (l : TmF) → l.Ok → l.clean.eqv l
  | .nil, _ => trivial
  | .cons _ t l, h => ⟨rfl, Tm.clean_eqv t h.head.1, TmF.clean_eqv l h.head.2⟩
end

theorem Tm.cmp_self (t : Tm) : t.cmp t = 0 := by have := (Tm.neg t t).1; omega
theorem Tm.same_self {t : Tm} (h : t.all.e = 0) : t.sameB t = true := by unfold Tm.sameB; simp [h, Tm.cmp_self]
end Go.Proofs.Ytkomcebknllaiaa

/- What WireBack wants of Decode and Skip: bytes that were written, whatever stands behind them. -/
namespace Go.Proofs.Ytkomcebknllaiaa
open Go.RowKit

theorem src_bytes (s : ByteArray) (ab : Option Addr) (cb : Nat) (S : Nat → Prop) (W : World) (hb : BytesAt W S ab s) : Src Try.prog 1 23 (.slice ab s.size cb) s.size (u8s (Sp.bts s)) W := by
  rw [← bcells_bts]
  by_cases h0 : s.size = 0
  · cases ab with
    | none => rw [show bcells s = [] by simp [bcells, h0], h0]; exact Src.ofNil _ Try.undB cb
    | some p => exact Src.ofSlice _ Try.undB p s.size cb _ (by simp [bcells]) (fun j u hu => by rw [show bcells s = [] by simp [bcells, h0]] at hu; simp at hu) (bcells_one s)
  · obtain ⟨g, o, rfl, hg, _⟩ := hb 0 (by omega)
    refine Src.ofSlice _ Try.undB ⟨g, o, none⟩ s.size cb _ (by simp [bcells]) (fun j u hu => ?_) (bcells_one s)
    obtain ⟨hj, rfl⟩ := bcells_at s j u hu
    obtain ⟨g', o', e, hg', hc⟩ := hb j hj
    simp only [Option.some.injEq, Addr.mk.injEq, and_true] at e
    obtain ⟨rfl, rfl⟩ := e
    rw [addr_add]; exact hc
theorem outs_rd {w : World} {base g cap : Nat} {xs : List Int} (h : Outs w base (some ⟨g, 0, none⟩) cap xs) : RdB w (Lo w.heap.size) (some ⟨g, 0, none⟩) xs ∧ xs.length ≤ cap := by
  refine ⟨fun j u hu => ⟨g, 0, rfl, (h.1.lt g rfl).2, ?_⟩, ?_⟩
  · have := h.1.cells (g := g) rfl j (.int .u8 u) (by simp [u8s, hu])
    rw [add_at] at this; exact this
  · rcases h.1.2 with ⟨e1, _⟩ | ⟨g1, cap1, cur, e1, _, _, hnc, _⟩
    · simp at e1
    · simp only [Value.slice.injEq, Option.some.injEq, Addr.mk.injEq, and_true, true_and] at e1
      obtain ⟨rfl, rfl⟩ := e1
      exact hnc

theorem By.nil : By [] := fun x hx => by simp at hx
theorem By.cons {x : Int} {l : List Int} (h : 0 ≤ x ∧ x ≤ 255) (hl : By l) : By (x :: l) := fun y hy => by
  simp only [List.mem_cons] at hy
  rcases hy with rfl | hy
  · exact h
  · exact hl y hy
theorem By.app {l m : List Int} (hl : By l) (hm : By m) : By (l ++ m) := fun y hy => by
  simp only [List.mem_append] at hy
  rcases hy with hy | hy
  · exact hl y hy
  · exact hm y hy
theorem numB_by : ∀ n, By (Sp.numB n) := fun n => by
  induction n using Nat.strongRecOn with
  | ind n ih =>
    by_cases h : n < 128
    · rw [Sp.numB_lt h]; exact By.cons ⟨by omega, by omega⟩ By.nil
    · rw [Sp.numB_ge h]; exact By.cons ⟨by omega, by omega⟩ (ih _ (by omega))
theorem bts_by (s : ByteArray) : By (Sp.bts s) := fun x hx => by
  simp only [Sp.bts, List.mem_map] at hx
  obtain ⟨j, _, rfl⟩ := hx
  unfold Sp.byte
  have := (s.data.getD j 0).toNat_lt
  omega
theorem txtB_by (s : ByteArray) : By (Sp.txtB s) := (numB_by _).app (bts_by s)
theorem bitsTo_by (f : Nat) : ∀ k, By (Sp.bitsTo f k)
  | 0 => By.nil
  | k + 1 => (bitsTo_by f k).app (By.cons ⟨by omega, by omega⟩ By.nil)
mutual
theorem Tm.enc_by : (t : Tm) → t.Ok → By t.enc
  | .mk k b i f tx by' rf l fs c vr, ho => by
    obtain ⟨p1, p2, p3, p4⟩ := ho.parts
    have hk : k = 1 ∨ k = 2 ∨ k = 3 ∨ k = 4 ∨ k = 5 ∨ k = 6 ∨ k = 7 ∨ k = 8 ∨ k = 9 ∨ k = 10 := by omega
    rcases hk with rfl | rfl | rfl | rfl | rfl | rfl | rfl | rfl | rfl | rfl
    · rw [Tm.enc_1]; exact By.cons (by decide) By.nil
    · rw [Tm.enc_2]; exact By.cons (by decide) (By.cons (by cases b <;> decide) By.nil)
    · rw [Tm.enc_3]; exact By.cons (by decide) (numB_by _)
    · rw [Tm.enc_4]; exact By.cons (by decide) (bitsTo_by _ _)
    · rw [Tm.enc_5]; exact By.cons (by decide) (txtB_by _)
    · rw [Tm.enc_6]; exact By.cons (by decide) (txtB_by _)
    · rw [Tm.enc_7]; exact By.cons (by decide) (numB_by _)
    · rw [Tm.enc_8]; exact By.cons (by decide) ((numB_by _).app (TmL.enc_by l (p3 rfl)))
    · rw [Tm.enc_9]; exact By.cons (by decide) ((numB_by _).app (TmF.enc_by fs (p4 (Or.inl rfl))))
    · rw [Tm.enc_10]; exact By.cons (by decide) ((txtB_by _).app ((numB_by _).app ((numB_by _).app (TmF.enc_by fs (p4 (Or.inr rfl))))))
theorem TmL.enc_by : (l : TmL) → l.Ok → By l.enc
  | .nil, _ => By.nil
  | .cons t l, h => (Tm.enc_by t h.head.1).app (TmL.enc_by l h.head.2)
theorem TmF.enc_by : (l : TmF) → l.Ok → By l.enc
  | .nil, _ => By.nil
  | .cons n t l, h => (txtB_by n).app ((Tm.enc_by t h.head.1).app (TmF.enc_by l h.head.2))
end
theorem Decode_back (t : Tm) (he : t.all.e = 0) (hb : t.Bdd) (rest : List Int) (hby : By rest) (hl : rest.length ≤ 140737488355328) (W : World) (base g cap m : Nat) (hm : m = (t.enc ++ rest).length) (ho : Outs W base (some ⟨g, 0, none⟩) cap (t.enc ++ rest)) :
    Calls Try.prog 29 #[.slice (some ⟨g, 0, none⟩) m cap] W fun e w' => ∃ v, e = .returned (.tuple #[v, .int .i64 (t.enc.length : Int), .int .i64 0]) ∧ Below W.heap.size W w' ∧ t.V w' (Lo w'.heap.size) v := by
  subst hm
  obtain ⟨q, hq⟩ := rd_enc t rest he hb
  obtain ⟨q2, hq2⟩ := rd_enc t [] he hb
  have hle := Tm.enc_le he hb
  obtain ⟨hrd, hcp⟩ := outs_rd ho
  refine (Decode_ok (t.enc ++ rest) ((Tm.enc_by t (Tm.ok_all he)).app hby) t.clean q q2 t.enc.length hq ?_ (by simp) g 0 cap W hrd hcp (by rw [List.length_append]; omega)).mono ?_
  · rw [List.take_left]; rw [List.append_nil] at hq2; exact hq2
  · rintro e w' ⟨v, rfl, hb', hv⟩
    exact ⟨v, rfl, hb', t.V_same (Same.refl _ _) (fun k hk => hk.2) v (Tm.clean_V t v hv)⟩
theorem Skip_back (t : Tm) (he : t.all.e = 0) (hb : t.Bdd) (rest : List Int) (hby : By rest) (hl : rest.length ≤ 140737488355328) (W : World) (base g cap m : Nat) (hm : m = (t.enc ++ rest).length) (ho : Outs W base (some ⟨g, 0, none⟩) cap (t.enc ++ rest)) :
    Calls Try.prog 30 #[.slice (some ⟨g, 0, none⟩) m cap] W fun e w' => e = .returned (.tuple #[.int .i64 (t.enc.length : Int), .int .i64 0]) ∧ Below W.heap.size W w' := by
  subst hm
  obtain ⟨q, hq⟩ := rd_enc t rest he hb
  have hle := Tm.enc_le he hb
  obtain ⟨hrd, hcp⟩ := outs_rd ho
  exact Skip_ok (t.enc ++ rest) ((Tm.enc_by t (Tm.ok_all he)).app hby) t.clean q t.enc.length hq _ cap W hrd hcp (by rw [List.length_append]; omega)
end Go.Proofs.Ytkomcebknllaiaa

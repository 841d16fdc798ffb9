/- Plain mathematics: the order of terms is turned about by turning about, lies in -1, 0, 1, and goes through a third. -/
import Derived.Test.YtkomcebknllaiaaL3
import Derived.Test.YtkomcebknllaiaaL32
import Derived.Test.YtkomcebknllaiaaL31
import Derived.Test.YtkomcebknllaiaaL26
import Derived.Laws.MakeOwn
namespace Go.Proofs.Ytkomcebknllaiaa

def Tri (ab bc ac : Int) : Prop := (ab = 0 → bc = 0 → ac = 0) ∧ (ab < 0 → bc ≤ 0 → ac < 0) ∧ (ab ≤ 0 → bc < 0 → ac < 0)
def Lex (x y : Int) : Int := if x ≠ 0 then x else y
theorem lex_lt {x y : Int} : Lex x y < 0 ↔ x < 0 ∨ (x = 0 ∧ y < 0) := by unfold Lex; split <;> omega
theorem lex_le {x y : Int} : Lex x y ≤ 0 ↔ x < 0 ∨ (x = 0 ∧ y ≤ 0) := by unfold Lex; split <;> omega
theorem lex_zero {x y : Int} : Lex x y = 0 ↔ x = 0 ∧ y = 0 := by unfold Lex; split <;> omega
theorem tri_lex {x1 x2 x3 y1 y2 y3 : Int} (hx : Tri x1 x2 x3) (hy : Tri y1 y2 y3) : Tri (Lex x1 y1) (Lex x2 y2) (Lex x3 y3) := by
  obtain ⟨a1, a2, a3⟩ := hx
  obtain ⟨b1, b2, b3⟩ := hy
  refine ⟨fun h g => ?_, fun h g => ?_, fun h g => ?_⟩
  · rw [lex_zero] at *; exact ⟨a1 h.1 g.1, b1 h.2 g.2⟩
  · rw [lex_lt] at h ⊢; rw [lex_le] at g
    rcases h with h | ⟨h, h'⟩
    · exact .inl (a2 h (by omega))
    · rcases g with g | ⟨g, g'⟩
      · exact .inl (a3 (by omega) g)
      · exact .inr ⟨a1 h g, b2 h' g'⟩
  · rw [lex_lt] at g ⊢; rw [lex_le] at h
    rcases g with g | ⟨g, g'⟩
    · exact .inl (a3 (by omega) g)
    · rcases h with h | ⟨h, h'⟩
      · exact .inl (a2 h (by omega))
      · exact .inr ⟨a1 h g, b3 h' g'⟩
theorem tri_cmpI (a b c : Int) : Tri (Sp.cmpI a b) (Sp.cmpI b c) (Sp.cmpI a c) := by
  unfold Tri Sp.cmpI
  refine ⟨?_, ?_, ?_⟩ <;> (repeat' split) <;> omega
theorem tri_zero : Tri 0 0 0 := ⟨fun _ _ => rfl, fun h => absurd h (by decide), fun _ h => absurd h (by decide)⟩
theorem neg_cmpI (a b : Int) : Sp.cmpI a b = -Sp.cmpI b a := by unfold Sp.cmpI; (repeat' split) <;> omega
theorem vals_cmpI (a b : Int) : -1 ≤ Sp.cmpI a b ∧ Sp.cmpI a b ≤ 1 := by unfold Sp.cmpI; (repeat' split) <;> omega
theorem neg_lex {x x' y y' : Int} (h : x = -x') (g : y = -y') : Lex x y = -Lex x' y' := by unfold Lex; (repeat' split) <;> omega
theorem vals_lex {x y : Int} (h : -1 ≤ x ∧ x ≤ 1) (g : -1 ≤ y ∧ y ≤ 1) : -1 ≤ Lex x y ∧ Lex x y ≤ 1 := by unfold Lex; split <;> omega

theorem cb_cons (x y : UInt8) (a b : List UInt8) : Lib.compareBytes (x :: a) (y :: b) = Lex (Sp.cmpI x.toNat y.toNat) (Lib.compareBytes a b) := by
  simp only [Lib.compareBytes, Lex, Sp.cmpI, UInt8.lt_iff_toNat_lt]
  by_cases h1 : x.toNat < y.toNat
  · simp [h1]
  · by_cases h2 : y.toNat < x.toNat
    · simp [h1, h2]
    · simp [h1, h2]
theorem tri_cb : ∀ (a b c : List UInt8), Tri (Lib.compareBytes a b) (Lib.compareBytes b c) (Lib.compareBytes a c)
  | [], [], [] => tri_zero
  | [], [], _ :: _ => by simp [Lib.compareBytes, Tri]
  | [], _ :: _, [] => by simp [Lib.compareBytes, Tri]
  | [], _ :: _, _ :: _ => by simp [Lib.compareBytes, Tri]
  | _ :: _, [], [] => by simp [Lib.compareBytes, Tri]
  | _ :: _, [], _ :: _ => by simp [Lib.compareBytes, Tri]
  | x :: a, y :: b, [] => by simp [Lib.compareBytes, Tri]
  | x :: a, y :: b, z :: c => by
    rw [cb_cons, cb_cons, cb_cons]
    exact tri_lex (tri_cmpI _ _ _) (tri_cb a b c)
theorem neg_cb : ∀ (a b : List UInt8), Lib.compareBytes a b = -Lib.compareBytes b a
  | [], [] => by simp [Lib.compareBytes]
  | [], _ :: _ => by simp [Lib.compareBytes]
  | _ :: _, [] => by simp [Lib.compareBytes]
  | x :: a, y :: b => by rw [cb_cons, cb_cons]; exact neg_lex (neg_cmpI _ _) (neg_cb a b)
theorem vals_cb (a b : List UInt8) : -1 ≤ Lib.compareBytes a b ∧ Lib.compareBytes a b ≤ 1 := by
  rcases cmp_vals a b with h | h | h <;> omega

/-- the order of terms as one lexicographic row -/
def Tm.tail : Tm → Tm → Int
  | .mk k b i f tx by' rf l fs c v, .mk _ b2 i2 f2 tx2 by2 rf2 l2 fs2 c2 v2 =>
    if k = 2 then Sp.cmpI (Sp.rank b) (Sp.rank b2)
    else if k = 3 then Sp.cmpI i i2
    else if k = 4 then Sp.cmpI (Sp.frank f) (Sp.frank f2)
    else if k = 5 then Sp.cmpS tx tx2
    else if k = 6 then Sp.cmpS by' by2
    else if k = 7 then Sp.cmpI rf rf2
    else if k = 8 then l.cmp l2
    else if k = 9 then fs.cmp fs2
    else if k = 10 then Lex (Sp.cmpS c c2) (Lex (Sp.cmpI v v2) (fs.cmp fs2))
    else 0
theorem Tm.cmp_lex (s t : Tm) : s.cmp t = Lex (Sp.cmpI s.kind t.kind) (s.tail t) := by
  cases s; cases t; rw [Tm.cmp]; rfl
theorem TmL.cmp_lex (s t : Tm) (l r : TmL) : TmL.cmp (.cons s l) (.cons t r) = Lex (s.cmp t) (l.cmp r) := by rw [TmL.cmp]; rfl
theorem TmF.cmp_lex (n m : ByteArray) (s t : Tm) (l r : TmF) : TmF.cmp (.cons n s l) (.cons m t r) = Lex (Sp.cmpS n m) (Lex (s.cmp t) (l.cmp r)) := by rw [TmF.cmp]; rfl

/-- where the kinds are one, the rest is an order too; where not, it does not matter -/
theorem tri_lex' {x1 x2 x3 y1 y2 y3 : Int} (hx : Tri x1 x2 x3) (hy : x1 = 0 → x2 = 0 → Tri y1 y2 y3) : Tri (Lex x1 y1) (Lex x2 y2) (Lex x3 y3) := by
  by_cases h : x1 = 0 ∧ x2 = 0
  · exact tri_lex hx (hy h.1 h.2)
  · obtain ⟨a1, a2, a3⟩ := hx
    refine ⟨fun p q => ?_, fun p q => ?_, fun p q => ?_⟩
    · rw [lex_zero] at p q; exact absurd ⟨p.1, q.1⟩ h
    · rw [lex_lt] at p ⊢; rw [lex_le] at q
      by_cases e : x1 < 0
      · exact .inl (a2 e (by omega))
      · exact .inl (a3 (by omega) (by omega))
    · rw [lex_lt] at q ⊢; rw [lex_le] at p
      by_cases e : x1 < 0
      · exact .inl (a2 e (by omega))
      · exact .inl (a3 (by omega) (by omega))

mutual
theorem Tm.tri : (s t u : Tm) → Tri (s.cmp t) (t.cmp u) (s.cmp u)
  | .mk k b i f tx by' rf l fs c v, .mk k2 b2 i2 f2 tx2 by2 rf2 l2 fs2 c2 v2, .mk k3 b3 i3 f3 tx3 by3 rf3 l3 fs3 c3 v3 => by
    rw [Tm.cmp_lex, Tm.cmp_lex, Tm.cmp_lex]
    refine tri_lex' (tri_cmpI _ _ _) (fun h1 h2 => ?_)
    obtain rfl : k = k2 := cmpI_zero h1
    obtain rfl : k = k3 := cmpI_zero h2
    simp only [Tm.tail]
    by_cases k2 : k = 2
    · simp only [if_pos k2]; exact tri_cmpI _ _ _
    simp only [if_neg k2]
    by_cases k3 : k = 3
    · simp only [if_pos k3]; exact tri_cmpI _ _ _
    simp only [if_neg k3]
    by_cases k4 : k = 4
    · simp only [if_pos k4]; exact tri_cmpI _ _ _
    simp only [if_neg k4]
    by_cases k5 : k = 5
    · simp only [if_pos k5]; exact tri_cb _ _ _
    simp only [if_neg k5]
    by_cases k6 : k = 6
    · simp only [if_pos k6]; exact tri_cb _ _ _
    simp only [if_neg k6]
    by_cases k7 : k = 7
    · simp only [if_pos k7]; exact tri_cmpI _ _ _
    simp only [if_neg k7]
    by_cases k8 : k = 8
    · simp only [if_pos k8]; exact TmL.tri l l2 l3
    simp only [if_neg k8]
    by_cases k9 : k = 9
    · simp only [if_pos k9]; exact TmF.tri fs fs2 fs3
    simp only [if_neg k9]
    by_cases k10 : k = 10
    · simp only [if_pos k10]; exact tri_lex (tri_cb _ _ _) (tri_lex (tri_cmpI _ _ _) (TmF.tri fs fs2 fs3))
    simp only [if_neg k10]
    exact tri_zero
theorem TmL.tri : (s t u : TmL) → Tri (s.cmp t) (t.cmp u) (s.cmp u)
  | .nil, .nil, .nil => by simp [TmL.cmp, Tri]
  | .nil, .nil, .cons _ _ => by simp [TmL.cmp, Tri]
  | .nil, .cons _ _, .nil => by simp [TmL.cmp, Tri]
  | .nil, .cons _ _, .cons _ _ => by simp [TmL.cmp, Tri]
  | .cons _ _, .nil, .nil => by simp [TmL.cmp, Tri]
  | .cons _ _, .nil, .cons _ _ => by simp [TmL.cmp, Tri]
  | .cons _ _, .cons _ _, .nil => by simp [TmL.cmp, Tri]
  | .cons s l, .cons t r, .cons u q => by
    rw [TmL.cmp_lex, TmL.cmp_lex, TmL.cmp_lex]
    exact tri_lex (Tm.tri s t u) (TmL.tri l r q)
theorem TmF.tri : (s t u : TmF) → Tri (s.cmp t) (t.cmp u) (s.cmp u)
  | .nil, .nil, .nil => by simp [TmF.cmp, Tri]
  | .nil, .nil, .cons _ _ _ => by simp [TmF.cmp, Tri]
  | .nil, .cons _ _ _, .nil => by simp [TmF.cmp, Tri]
  | .nil, .cons _ _ _, .cons _ _ _ => by simp [TmF.cmp, Tri]
  | .cons _ _ _, .nil, .nil => by simp [TmF.cmp, Tri]
  | .cons _ _ _, .nil, .cons _ _ _ => by simp [TmF.cmp, Tri]
  | .cons _ _ _, .cons _ _ _, .nil => by simp [TmF.cmp, Tri]
  | .cons n s l, .cons m t r, .cons o u q => by
    rw [TmF.cmp_lex, TmF.cmp_lex, TmF.cmp_lex]
    exact tri_lex (tri_cb _ _ _) (tri_lex (Tm.tri s t u) (TmF.tri l r q))
end

mutual
theorem Tm.neg : (s t : Tm) → s.cmp t = -t.cmp s ∧ -1 ≤ s.cmp t ∧ s.cmp t ≤ 1
  | .mk k b i f tx by' rf l fs c v, .mk k2 b2 i2 f2 tx2 by2 rf2 l2 fs2 c2 v2 => by
    rw [Tm.cmp_lex, Tm.cmp_lex]
    by_cases hk : Sp.cmpI k k2 = 0
    · obtain rfl := cmpI_zero hk
      have key : Tm.tail (.mk k b i f tx by' rf l fs c v) (.mk k b2 i2 f2 tx2 by2 rf2 l2 fs2 c2 v2) = -Tm.tail (.mk k b2 i2 f2 tx2 by2 rf2 l2 fs2 c2 v2) (.mk k b i f tx by' rf l fs c v) ∧ -1 ≤ Tm.tail (.mk k b i f tx by' rf l fs c v) (.mk k b2 i2 f2 tx2 by2 rf2 l2 fs2 c2 v2) ∧ Tm.tail (.mk k b i f tx by' rf l fs c v) (.mk k b2 i2 f2 tx2 by2 rf2 l2 fs2 c2 v2) ≤ 1 := by
        simp only [Tm.tail]
        by_cases k2 : k = 2
        · simp only [if_pos k2]; exact ⟨neg_cmpI _ _, vals_cmpI _ _⟩
        simp only [if_neg k2]
        by_cases k3 : k = 3
        · simp only [if_pos k3]; exact ⟨neg_cmpI _ _, vals_cmpI _ _⟩
        simp only [if_neg k3]
        by_cases k4 : k = 4
        · simp only [if_pos k4]; exact ⟨neg_cmpI _ _, vals_cmpI _ _⟩
        simp only [if_neg k4]
        by_cases k5 : k = 5
        · simp only [if_pos k5]; exact ⟨neg_cb _ _, vals_cb _ _⟩
        simp only [if_neg k5]
        by_cases k6 : k = 6
        · simp only [if_pos k6]; exact ⟨neg_cb _ _, vals_cb _ _⟩
        simp only [if_neg k6]
        by_cases k7 : k = 7
        · simp only [if_pos k7]; exact ⟨neg_cmpI _ _, vals_cmpI _ _⟩
        simp only [if_neg k7]
        by_cases k8 : k = 8
        · simp only [if_pos k8]; exact TmL.neg l l2
        simp only [if_neg k8]
        by_cases k9 : k = 9
        · simp only [if_pos k9]; exact TmF.neg fs fs2
        simp only [if_neg k9]
        by_cases k10 : k = 10
        · simp only [if_pos k10]
          have hf := TmF.neg fs fs2
          exact ⟨neg_lex (neg_cb _ _) (neg_lex (neg_cmpI _ _) hf.1), vals_lex (vals_cb _ _) (vals_lex (vals_cmpI _ _) hf.2)⟩
        simp only [if_neg k10]
        decide
      exact ⟨neg_lex (neg_cmpI _ _) key.1, vals_lex (vals_cmpI _ _) key.2⟩
    · have hk' : Sp.cmpI k2 k ≠ 0 := by rw [neg_cmpI]; omega
      have e1 : ∀ y, Lex (Sp.cmpI k k2) y = Sp.cmpI k k2 := fun y => by unfold Lex; rw [if_pos hk]
      have e2 : ∀ y, Lex (Sp.cmpI k2 k) y = Sp.cmpI k2 k := fun y => by unfold Lex; rw [if_pos hk']
      simp only [Tm.kind, e1, e2]
      exact ⟨neg_cmpI _ _, vals_cmpI _ _⟩
theorem TmL.neg : (s t : TmL) → s.cmp t = -t.cmp s ∧ -1 ≤ s.cmp t ∧ s.cmp t ≤ 1
  | .nil, .nil => by simp [TmL.cmp]
  | .nil, .cons _ _ => by simp [TmL.cmp]
  | .cons _ _, .nil => by simp [TmL.cmp]
  | .cons s l, .cons t r => by
    rw [TmL.cmp_lex, TmL.cmp_lex]
    have h1 := Tm.neg s t
    have h2 := TmL.neg l r
    exact ⟨neg_lex h1.1 h2.1, vals_lex h1.2 h2.2⟩
theorem TmF.neg : (s t : TmF) → s.cmp t = -t.cmp s ∧ -1 ≤ s.cmp t ∧ s.cmp t ≤ 1
  | .nil, .nil => by simp [TmF.cmp]
  | .nil, .cons _ _ _ => by simp [TmF.cmp]
  | .cons _ _ _, .nil => by simp [TmF.cmp]
  | .cons n s l, .cons m t r => by
    rw [TmF.cmp_lex, TmF.cmp_lex]
    have h1 := Tm.neg s t
    have h2 := TmF.neg l r
    exact ⟨neg_lex (neg_cb _ _) (neg_lex h1.1 h2.1), vals_lex (vals_cb _ _) (vals_lex h1.2 h2.2)⟩
end
end Go.Proofs.Ytkomcebknllaiaa

/- Plain mathematics: a term and its clean one: the same walk, the same value, told the same. -/
namespace Go.Proofs.Ytkomcebknllaiaa

theorem TmF.clean_names : (l : TmF) → l.clean.names = l.names
  | .nil => rfl
  | .cons n t l => by simp only [TmF.clean, TmF.names, TmF.clean_names l]

mutual
theorem Tm.clean_wk : (t : Tm) → ∀ n p d, t.clean.wk n p d = t.wk n p d
  | .mk k b i f tx by' rf l fs c v, n, p, d => by
    by_cases he : Sp.ent k p n ≠ 0
    · rw [Tm.wk_ent he, Tm.clean, Tm.wk_ent he]
    have he := Decidable.not_not.1 he
    have hz := Sp.ent_zero he
    by_cases k5 : k = 5
    · subst k5; rw [Tm.clean_5, Tm.wk_5 he, Tm.wk_5 he]
    by_cases k6 : k = 6
    · subst k6; rw [Tm.clean_6, Tm.wk_6 he, Tm.wk_6 he]
    by_cases k8 : k = 8
    · subst k8; rw [Tm.clean_8, Tm.wk_8 he, Tm.wk_8 he, TmL.wkR, TmL.wkR, TmL.clean_len, TmL.clean_wk l]
    by_cases k9 : k = 9
    · subst k9; rw [Tm.clean_9, Tm.wk_9 he, Tm.wk_9 he, TmF.wkR, TmF.wkR, TmF.clean_names, TmF.clean_wk fs]
    by_cases k10 : k = 10
    · subst k10
      by_cases hh : Sp.headR c v = 0
      · rw [Tm.clean_10, Tm.wk_10 he hh, Tm.wk_10 he hh, TmF.wkR, TmF.wkR, TmF.clean_names, TmF.clean_wk fs]
      · rw [Tm.clean_10, Tm.wk_10' he hh, Tm.wk_10' he hh]
    rw [Tm.wk_else he k5 k6 k8 k9 k10, Tm.clean, Tm.wk_else he k5 k6 k8 k9 k10]
theorem TmL.clean_wk : (l : TmL) → ∀ n p d, l.clean.wk n p d = l.wk n p d
  | .nil, _, _, _ => rfl
  | .cons t l, n, p, d => by simp only [TmL.clean, TmL.wk, Tm.clean_wk t, TmL.clean_wk l]
theorem TmF.clean_wk : (l : TmF) → ∀ n p d, l.clean.wk n p d = l.wk n p d
  | .nil, _, _, _ => rfl
  | .cons m t l, n, p, d => by simp only [TmF.clean, TmF.wk, Tm.clean_wk t, TmF.clean_wk l]
end
theorem Tm.clean_all (t : Tm) : t.clean.all = t.all := Tm.clean_wk t 1 0 0

mutual
theorem Tm.clean_V {w : World} {B : Nat → Prop} : (t : Tm) → ∀ v, t.clean.V w B v → t.V w B v
  | .mk k b i f tx by' rf l fs c vr, v, h => by
    rw [Tm.clean] at h
    simp only [Tm.V] at h ⊢
    obtain ⟨h1, h2, h3, h4, h5, h6, h7, h8, h9, h10, h11, h12⟩ := h
    refine ⟨h1, fun e => ?_, fun e => ?_, fun e => ?_, fun e => ?_, fun e => ?_, fun e => ?_, fun e => ?_, fun e => ?_, fun e => ?_, h11, h12⟩
    · have := h2 e; subst e; simpa using this
    · have := h3 e; subst e; simpa using this
    · have := h4 e; subst e; simpa using this
    · have := h5 e; subst e; simpa using this
    · have := h6 e; subst e; simpa using this
    · have := h7 e; subst e; simpa using this
    · obtain ⟨a, cap, e1, e2, e3⟩ := h8 e
      subst e
      simp only [if_true, TmL.clean_len] at e1 e2 e3
      exact ⟨a, cap, e1, e2, TmL.clean_V l _ _ e3⟩
    · obtain ⟨a, cap, e1, e2, e3⟩ := h9 e
      subst e
      simp only [true_or, if_true, TmF.clean_len] at e1 e2 e3
      exact ⟨a, cap, e1, e2, TmF.clean_V fs _ _ e3⟩
    · obtain ⟨g, a, cap, e1, e2, e3, e4, e5, e6, e7, e8⟩ := h10 e
      subst e
      simp only [or_true, if_true, TmF.clean_len] at e1 e2 e3 e4 e5 e6 e7 e8
      exact ⟨g, a, cap, e1, e2, e3, e4, e5, e6, e7, TmF.clean_V fs _ _ e8⟩
theorem TmL.clean_V {w : World} {B : Nat → Prop} : (l : TmL) → ∀ a j, l.clean.V w B a j → l.V w B a j
  | .nil, _, _, _ => by simp [TmL.V]
  | .cons t l, a, j, h => by
    simp only [TmL.clean, TmL.V] at h ⊢
    obtain ⟨g, o, v, e, hg, hc, ht, hl⟩ := h
    exact ⟨g, o, v, e, hg, hc, Tm.clean_V t _ ht, TmL.clean_V l _ _ hl⟩
theorem TmF.clean_V {w : World} {B : Nat → Prop} : (l : TmF) → ∀ a j, l.clean.V w B a j → l.V w B a j
  | .nil, _, _, _ => by simp [TmF.V]
  | .cons n t l, a, j, h => by
    simp only [TmF.clean, TmF.V] at h ⊢
    obtain ⟨g, o, v, e, hg, hc, hd, hn, ht, hl⟩ := h
    exact ⟨g, o, v, e, hg, hc, hd, hn, Tm.clean_V t _ ht, TmF.clean_V l _ _ hl⟩
end

mutual
theorem Tm.clean_eqv : (t : Tm) → t.Ok → t.clean.eqv t
  | .mk k b i f tx by' rf l fs c v, h => by
    obtain ⟨p1, p2, p3, p4⟩ := h.parts
    rw [Tm.clean]
    simp only [Tm.eqv]
    refine ⟨trivial, ⟨p1, p2⟩, fun e => ?_, fun e => ?_, fun e => ?_, fun e => ?_, fun e => ?_, fun e => ?_, fun e => ?_, fun e => ?_, fun e => ?_⟩
    · rw [if_pos e]
    · rw [if_pos e]
    · rw [if_pos e]
    · rw [if_pos e]
    · rw [if_pos e]
    · rw [if_pos e]
    · rw [if_pos e]; exact TmL.clean_eqv l (p3 e)
    · rw [if_pos e]; exact TmF.clean_eqv fs (p4 e)
    · rw [if_pos e, if_pos e]; exact ⟨rfl, rfl⟩
theorem TmL.clean_eqv : (l : TmL) → l.Ok → l.clean.eqv l
  | .nil, _ => trivial
  | .cons t l, h => ⟨Tm.clean_eqv t h.head.1, TmL.clean_eqv l h.head.2⟩
theorem TmF.clean_eqv : (l : TmF) → l.Ok → l.clean.eqv l
  | .nil, _ => trivial
  | .cons _ t l, h => ⟨rfl, Tm.clean_eqv t h.head.1, TmF.clean_eqv l h.head.2⟩
end

theorem Tm.cmp_self (t : Tm) : t.cmp t = 0 := by have := (Tm.neg t t).1; omega
theorem Tm.same_self {t : Tm} (h : t.all.e = 0) : t.sameB t = true := by unfold Tm.sameB; simp [h, Tm.cmp_self]
end Go.Proofs.Ytkomcebknllaiaa

/- What WireBack wants of Decode and Skip: bytes that were written, whatever stands behind them. -/
namespace Go.Proofs.Ytkomcebknllaiaa
open Go.RowKit

theorem src_bytes (s : ByteArray) (ab : Option Addr) (cb : Nat) (S : Nat → Prop) (W : World) (hb : BytesAt W S ab s) : Src Try.prog 1 23 (.slice ab s.size cb) s.size (u8s (Sp.bts s)) W := by
  rw [← bcells_bts]
  by_cases h0 : s.size = 0
  · cases ab with
    | none => rw [show bcells s = [] by simp [bcells, h0], h0]; exact Src.ofNil _ Try.undB cb
    | some p => exact Src.ofSlice _ Try.undB p s.size cb _ (by simp [bcells]) (fun j u hu => by rw [show bcells s = [] by simp [bcells, h0]] at hu; simp at hu) (bcells_one s)
  · obtain ⟨g, o, rfl, hg, _⟩ := hb 0 (by omega)
    refine Src.ofSlice _ Try.undB ⟨g, o, none⟩ s.size cb _ (by simp [bcells]) (fun j u hu => ?_) (bcells_one s)
    obtain ⟨hj, rfl⟩ := bcells_at s j u hu
    obtain ⟨g', o', e, hg', hc⟩ := hb j hj
    simp only [Option.some.injEq, Addr.mk.injEq, and_true] at e
    obtain ⟨rfl, rfl⟩ := e
    rw [addr_add]; exact hc
theorem outs_rd {w : World} {base g cap : Nat} {xs : List Int} (h : Outs w base (some ⟨g, 0, none⟩) cap xs) : RdB w (Lo w.heap.size) (some ⟨g, 0, none⟩) xs ∧ xs.length ≤ cap := by
  refine ⟨fun j u hu => ⟨g, 0, rfl, (h.1.lt g rfl).2, ?_⟩, ?_⟩
  · have := h.1.cells (g := g) rfl j (.int .u8 u) (by simp [u8s, hu])
    rw [add_at] at this; exact this
  · rcases h.1.2 with ⟨e1, _⟩ | ⟨g1, cap1, cur, e1, _, _, hnc, _⟩
    · simp at e1
    · simp only [Value.slice.injEq, Option.some.injEq, Addr.mk.injEq, and_true, true_and] at e1
      obtain ⟨rfl, rfl⟩ := e1
      exact hnc

theorem By.nil : By [] := fun x hx => by simp at hx
theorem By.cons {x : Int} {l : List Int} (h : 0 ≤ x ∧ x ≤ 255) (hl : By l) : By (x :: l) := fun y hy => by
  simp only [List.mem_cons] at hy
  rcases hy with rfl | hy
  · exact h
  · exact hl y hy
theorem By.app {l m : List Int} (hl : By l) (hm : By m) : By (l ++ m) := fun y hy => by
  simp only [List.mem_append] at hy
  rcases hy with hy | hy
  · exact hl y hy
  · exact hm y hy
theorem numB_by : ∀ n, By (Sp.numB n) := fun n => by
  induction n using Nat.strongRecOn with
  | ind n ih =>
    by_cases h : n < 128
    · rw [Sp.numB_lt h]; exact By.cons ⟨by omega, by omega⟩ By.nil
    · rw [Sp.numB_ge h]; exact By.cons ⟨by omega, by omega⟩ (ih _ (by omega))
theorem bts_by (s : ByteArray) : By (Sp.bts s) := fun x hx => by
  simp only [Sp.bts, List.mem_map] at hx
  obtain ⟨j, _, rfl⟩ := hx
  unfold Sp.byte
  have := (s.data.getD j 0).toNat_lt
  omega
theorem txtB_by (s : ByteArray) : By (Sp.txtB s) := (numB_by _).app (bts_by s)
theorem bitsTo_by (f : Nat) : ∀ k, By (Sp.bitsTo f k)
  | 0 => By.nil
  | k + 1 => (bitsTo_by f k).app (By.cons ⟨by omega, by omega⟩ By.nil)
mutual
theorem Tm.enc_by : (t : Tm) → t.Ok → By t.enc
  | .mk k b i f tx by' rf l fs c vr, ho => by
    obtain ⟨p1, p2, p3, p4⟩ := ho.parts
    have hk : k = 1 ∨ k = 2 ∨ k = 3 ∨ k = 4 ∨ k = 5 ∨ k = 6 ∨ k = 7 ∨ k = 8 ∨ k = 9 ∨ k = 10 := by omega
    rcases hk with rfl | rfl | rfl | rfl | rfl | rfl | rfl | rfl | rfl | rfl
    · rw [Tm.enc_1]; exact By.cons (by decide) By.nil
    · rw [Tm.enc_2]; exact By.cons (by decide) (By.cons (by cases b <;> decide) By.nil)
    · rw [Tm.enc_3]; exact By.cons (by decide) (numB_by _)
    · rw [Tm.enc_4]; exact By.cons (by decide) (bitsTo_by _ _)
    · rw [Tm.enc_5]; exact By.cons (by decide) (txtB_by _)
    · rw [Tm.enc_6]; exact By.cons (by decide) (txtB_by _)
    · rw [Tm.enc_7]; exact By.cons (by decide) (numB_by _)
    · rw [Tm.enc_8]; exact By.cons (by decide) ((numB_by _).app (TmL.enc_by l (p3 rfl)))
    · rw [Tm.enc_9]; exact By.cons (by decide) ((numB_by _).app (TmF.enc_by fs (p4 (Or.inl rfl))))
    · rw [Tm.enc_10]; exact By.cons (by decide) ((txtB_by _).app ((numB_by _).app ((numB_by _).app (TmF.enc_by fs (p4 (Or.inr rfl))))))
theorem TmL.enc_by : (l : TmL) → l.Ok → By l.enc
  | .nil, _ => By.nil
  | .cons t l, h => (Tm.enc_by t h.head.1).app (TmL.enc_by l h.head.2)
theorem TmF.enc_by : (l : TmF) → l.Ok → By l.enc
  | .nil, _ => By.nil
  | .cons n t l, h => (txtB_by n).app ((Tm.enc_by t h.head.1).app (TmF.enc_by l h.head.2))
end
theorem Decode_back (t : Tm) (he : t.all.e = 0) (hb : t.Bdd) (rest : List Int) (hby : By rest) (hl : rest.length ≤ 140737488355328) (W : World) (base g cap m : Nat) (hm : m = (t.enc ++ rest).length) (ho : Outs W base (some ⟨g, 0, none⟩) cap (t.enc ++ rest)) :
    Calls Try.prog 29 #[.slice (some ⟨g, 0, none⟩) m cap] W fun e w' => ∃ v, e = .returned (.tuple #[v, .int .i64 (t.enc.length : Int), .int .i64 0]) ∧ Below W.heap.size W w' ∧ t.V w' (Lo w'.heap.size) v := by
  subst hm
  obtain ⟨q, hq⟩ := rd_enc t rest he hb
  obtain ⟨q2, hq2⟩ := rd_enc t [] he hb
  have hle := Tm.enc_le he hb
  obtain ⟨hrd, hcp⟩ := outs_rd ho
  refine (Decode_ok (t.enc ++ rest) ((Tm.enc_by t (Tm.ok_all he)).app hby) t.clean q q2 t.enc.length hq ?_ (by simp) g 0 cap W hrd hcp (by rw [List.length_append]; omega)).mono ?_
  · rw [List.take_left]; rw [List.append_nil] at hq2; exact hq2
  · rintro e w' ⟨v, rfl, hb', hv⟩
    exact ⟨v, rfl, hb', t.V_same (Same.refl _ _) (fun k hk => hk.2) v (Tm.clean_V t v hv)⟩
theorem Skip_back (t : Tm) (he : t.all.e = 0) (hb : t.Bdd) (rest : List Int) (hby : By rest) (hl : rest.length ≤ 140737488355328) (W : World) (base g cap m : Nat) (hm : m = (t.enc ++ rest).length) (ho : Outs W base (some ⟨g, 0, none⟩) cap (t.enc ++ rest)) :
    Calls Try.prog 30 #[.slice (some ⟨g, 0, none⟩) m cap] W fun e w' => e = .returned (.tuple #[.int .i64 (t.enc.length : Int), .int .i64 0]) ∧ Below W.heap.size W w' := by
  subst hm
  obtain ⟨q, hq⟩ := rd_enc t rest he hb
  have hle := Tm.enc_le he hb
  obtain ⟨hrd, hcp⟩ := outs_rd ho
  exact Skip_ok (t.enc ++ rest) ((Tm.enc_by t (Tm.ok_all he)).app hby) t.clean q t.enc.length hq _ cap W hrd hcp (by rw [List.length_append]; omega)
end Go.Proofs.Ytkomcebknllaiaa

/- tenonlaw03.lent and kept. -/
namespace Go.Proofs.Ytkomcebknllaiaa
open Go.RowKit

/-- the first k marks that stand behind what is lent -/
def Sp.marks : Nat → List Int
  | 0 => []
  | k + 1 => Sp.marks k ++ [(171 + k : Int)]
theorem marks_len : ∀ k, (Sp.marks k).length = k
  | 0 => rfl
  | k + 1 => by simp [Sp.marks, marks_len k]
theorem marks_get : ∀ (k j : Nat), j < k → (Sp.marks k)[j]? = some (171 + j : Int)
  | 0, _, h => absurd h (by omega)
  | k + 1, j, h => by
    rw [Sp.marks]
    by_cases hj : j < k
    · rw [List.getElem?_append_left (by rw [marks_len]; exact hj)]; exact marks_get k j hj
    · have : j = k := by omega
      subst this
      rw [List.getElem?_append_right (by rw [marks_len]; omega), marks_len]; simp

set_option maxRecDepth 100000 in
set_option maxHeartbeats 1000000 in
theorem lent_any (l : ByteArray) (ab : Option Addr) (cb : Nat) (w : World) (hl : l.size ≤ 140737488351232) (hab : BytesAt w (Lo w.heap.size) ab l) :
    Calls Try.prog 28 #[.slice ab l.size cb] w fun e w' => ∃ g cap, e = .returned (.tuple #[.slice (some ⟨g, 0, none⟩) l.size cap, .slice (some ⟨g, 0, none⟩) (l.size + 32) cap]) ∧ Outs w' w.heap.size (some ⟨g, 0, none⟩) cap (Sp.bts l ++ Sp.marks 32) ∧ Below w.heap.size w w' := by
  obtain ⟨i0, hi, hz0, hz1, hz2⟩ := info_parts Try.infoB
  have HS : Hid (∀ W, Below w.heap.size w W → Src Try.prog 1 23 (.slice ab l.size cb) l.size (u8s (Sp.bts l)) W) := fun W hW =>
    src_bytes l ab cb (Lo w.heap.size) W (fun j hj => by
      obtain ⟨g, o, e, hg, hc⟩ := hab j hj
      exact ⟨g, o, e, hg, by rw [hW.cell (p := ⟨g, o + j, none⟩) hg]; exact hc⟩)
  obtain ⟨wm, hmk, hown, hgr⟩ := run_make_own (P := Try.prog) w w.heap.size 23 5 i0 (.int .u8 0) 1 Try.undB hi hz0 hz1 .i64 .i64 (l.size + 32) (by rw [hz2]; omega) (by unfold maxLen; omega) (Nat.le_refl _)
  have hmk2 : (Instr.makeSlice 23 (.int .i64 0) (.int .i64 ((l.size : Int) + 32))).run Try.prog w = .ok (.slice (some ⟨w.heap.size, 0, none⟩) 0 (l.size + 32)) wm := hmk
  have hw : IntKind.i64.wrap ((l.size : Int) + 32) = (l.size : Int) + 32 := by rw [IntKind.wrap_i64]; omega
  have HM : Hid (wm.ownsRow w.heap.size 5 1 (.slice (some ⟨w.heap.size, 0, none⟩) 0 (l.size + 32)) 0 [] ∧ w.grownBy wm none) := ⟨hown, hgr⟩
  have HB : Hid (Below w.heap.size w wm) := (Below.refl _ _).grown hgr (Nat.le_refl _) (fun k e => by cases e)
  clear hmk hown hgr hab
  go_enter Try.func28, Try.ntmps28
  go_wp2_with (at_builtin; refine wpList_app_src _ rfl _ _ 23 23 rfl w.heap.size 5 i0 (.int .u8 0) 1 1 Try.undB hi hz0 hz1 hz2 rfl _ _ _ _ rfl HM.out.1 _ _ _ rfl (HS.out _ HB.out) (by unfold maxLen; omega) (by omega) HB.out.size ?_; intro g0 cap0 w3 hown' hgrow hor)
  have H3 : Hid (Outs w3 w.heap.size (some ⟨g0, 0, none⟩) cap0 (Sp.bts l ++ Sp.marks 0) ∧ Below w.heap.size w w3) := by
    have hb3 : Below w.heap.size w w3 := HB.out.grown hgrow HB.out.size (fun k e => by injection e with e; omega)
    refine ⟨⟨?_, hb3.size⟩, hb3⟩
    have e1 : (Sp.bts l ++ Sp.marks 0).length = 0 + l.size := by simp [Sp.marks, Sp.bts_len]
    rw [e1]
    simpa [Sp.marks] using hown'
  clear hown' hgrow hor HM HB HS
  go_wp2_with fail
  go_loopw [4, 5] (fun u x wr => ∃ (k g cap : Nat), u = .slice (some ⟨g, 0, none⟩) (l.size + k) cap ∧ x = .int .i64 k ∧ k ≤ 32 ∧ Hid (Outs wr w.heap.size (some ⟨g, 0, none⟩) cap (Sp.bts l ++ Sp.marks k) ∧ Below w.heap.size w wr)) (fun _ x _ => 32 - (intOf x).toNat)
  case atStart => exact ⟨0, g0, cap0, by simp, rfl, by omega, H3.out⟩
  case round =>
    obtain ⟨k, g, cap, rfl, rfl, hk, HR⟩ := hrel
    clear H3
    by_cases hlt : k < 32
    · have hlt' : (k : Int) < 32 := by omega
      have hwk : IntKind.i64.wrap (171 + (k : Int)) = 171 + (k : Int) := by rw [IntKind.wrap_i64]; omega
      have hwb : IntKind.u8.wrap (171 + (k : Int)) = 171 + (k : Int) := by rw [IntKind.wrap_u8]; omega
      have HOW : Hid (wr.ownsRow w.heap.size 5 1 (.slice (some ⟨g, 0, none⟩) (l.size + k) cap) (l.size + k) (u8s (Sp.bts l ++ Sp.marks k))) := by
        have := HR.out.1.1
        rw [show (Sp.bts l ++ Sp.marks k).length = l.size + k by rw [List.length_append, Sp.bts_len, marks_len]] at this
        exact this
      have hsz := HR.out.1.2
      go_wp2_with (at_builtin; refine wpList_app _ rfl _ _ 23 rfl w.heap.size 5 i0 (.int .u8 0) 1 1 Try.undB hi hz0 hz1 hz2 rfl (by decide) _ _ _ rfl (HOW.out.alloc _) ⟨wr.heap.size, 0, none⟩ 1 1 [.int .u8 (171 + (k : Int))] rfl rfl (cell_one_new _ _ _) (fun u hu => by simp at hu; subst hu; rfl) (by decide) (by unfold maxLen; omega) (by omega) (by simp; omega) ?_; intro g' cap' w4 hown' hgrow hor)
      have HN := HR.out.1.step (ys := [171 + (k : Int)]) hown' (by rfl) (by rw [List.length_append, List.length_append, Sp.bts_len, marks_len]; rfl) (by rw [show (Sp.bts l ++ Sp.marks k).length = l.size + k by rw [List.length_append, Sp.bts_len, marks_len]]; exact hgrow) (by rw [show (Sp.bts l ++ Sp.marks k).length = l.size + k by rw [List.length_append, Sp.bts_len, marks_len]]; exact hor)
      go_roundw
      case rel => exact ⟨k + 1, g', cap', rfl, by go_num, by omega, show _ ∧ _ from ⟨by rw [Sp.marks, ← List.append_assoc]; exact HN.1, HR.out.2.trans HN.2.1⟩⟩
      case measure => simp [intOf]; omega
    · have hlt' : ¬ (k : Int) < 32 := by omega
      have h32 : 32 ≤ k := by omega
      have hcap : l.size ≤ cap := by
        have := (outs_rd HR.out.1).2
        rw [List.length_append, Sp.bts_len] at this; omega
      have q1 : (l.size : Int) ≤ (cap : Int) := by omega
      have q0 : (0 : Int) ≤ (l.size : Int) := Int.natCast_nonneg _
      have q2 : IntKind.i64.wrap (l.size : Int) = (l.size : Int) := by rw [IntKind.wrap_i64]; omega
      have hk32 : k = 32 := by omega
      have HK : Hid (k = 32) := hk32
      clear hk32
      go_wp2_with fail
      go_ret2
      have e := HK.out
      subst e
      exact ⟨g, cap, rfl, HR.out.1, HR.out.2⟩
end Go.Proofs.Ytkomcebknllaiaa

/- tenonref03.Number and tenonref03.text: new bytes. -/
namespace Go.Proofs.Ytkomcebknllaiaa
open Go.RowKit

set_option maxRecDepth 100000 in
set_option maxHeartbeats 1000000 in
theorem number_any (n : Nat) (w : World) (hn : n < 18446744073709551616) :
    Calls Try.prog 93 #[.int .u64 n] w (NewB w (Sp.numB n)) := by
  obtain ⟨i0, hi, hz0, hz1, hz2⟩ := info_parts Try.infoB
  have hlen := Sp.numB_64 hn
  have H0 : Hid (Outs (w.alloc (.cells #[] 5)) w.heap.size (some ⟨w.heap.size, 0, none⟩) 0 [] ∧ Below w.heap.size w (w.alloc (.cells #[] 5))) := ⟨outs_none w, (Below.refl _ _).alloc (Nat.le_refl _) _⟩
  go_enter Try.func93, Try.ntmps93
  go_wp2_with fail
  go_loopw [0, 3] (fun x u wr => ∃ (m g : Nat) (ys : List Int) (cap' : Nat), u = .slice (some ⟨g, 0, none⟩) ys.length cap' ∧ x = .int .u64 m ∧ m < 18446744073709551616 ∧ Hid (Sp.numB n = ys ++ Sp.numB m) ∧ Hid (Outs wr w.heap.size (some ⟨g, 0, none⟩) cap' ys ∧ Below w.heap.size w wr)) (fun x _ _ => (intOf x).toNat)
  case atStart => exact ⟨n, w.heap.size, [], 0, rfl, rfl, hn, rfl, H0.out⟩
  case round =>
    obtain ⟨m, g, ys, cap', rfl, rfl, hm, HE, HO⟩ := hrel
    have hl : ys.length + (Sp.numB m).length ≤ 10 := by rw [HE.out, List.length_append] at hlen; omega
    have hp := Sp.numB_pos m
    have HOW : Hid (wr.ownsRow w.heap.size 5 1 (.slice (some ⟨g, 0, none⟩) ys.length cap') ys.length (u8s ys)) := HO.out.1.1
    by_cases hm' : m < 128
    · have hi1 : ¬ ((128 : Int) ≤ (m : Int)) := by omega
      go_wp2_with (at_builtin; refine wpList_app _ rfl _ _ 23 rfl w.heap.size 5 i0 (.int .u8 0) 1 1 Try.undB hi hz0 hz1 hz2 rfl (by decide) _ _ _ rfl (HOW.out.alloc _) ⟨wr.heap.size, 0, none⟩ 1 1 [.int .u8 (m : Int)] rfl rfl (cell_one_new _ _ _) (fun u hu => by simp at hu; subst hu; rfl) (by decide) (by unfold maxLen; omega) (by omega) (by have := HO.out.1.2; simp; omega) ?_; intro g' cap2 w3 hown' hgrow hor)
      go_wp2_with fail
      go_ret
      obtain ⟨h1, h2⟩ := HO.out.1.step (ys := [(m : Int)]) hown' rfl (by simp) hgrow hor
      have e1 := Sp.numB_lt hm'
      refine ⟨g', cap2, by rw [HE.out, e1, List.length_append]; rfl, by rw [HE.out, e1]; exact h1, HO.out.2.trans h2.1⟩
    · have hi1 : (128 : Int) ≤ (m : Int) := by omega
      go_wp2_with (at_builtin; refine wpList_app _ rfl _ _ 23 rfl w.heap.size 5 i0 (.int .u8 0) 1 1 Try.undB hi hz0 hz1 hz2 rfl (by decide) _ _ _ rfl (HOW.out.alloc _) ⟨wr.heap.size, 0, none⟩ 1 1 [.int .u8 ((m % 128 + 128 : Nat) : Int)] rfl rfl (cell_one_new _ _ _) (fun u hu => by simp at hu; subst hu; rfl) (by decide) (by unfold maxLen; omega) (by omega) (by have := HO.out.1.2; simp; omega) ?_; intro g' cap2 w3 hown' hgrow hor')
      obtain ⟨h1, h2⟩ := HO.out.1.step (ys := [((m % 128 + 128 : Nat) : Int)]) hown' rfl (by simp) hgrow hor'
      refine ⟨⟨m / 128, g', ys ++ [((m % 128 + 128 : Nat) : Int)], cap2, by simp, by simp, by omega, ?_, h1, HO.out.2.trans h2.1⟩, by simp [intOf]; omega⟩
      show _ = _
      rw [HE.out, Sp.numB_ge hm', List.append_assoc]; rfl

set_option maxRecDepth 100000 in
set_option maxHeartbeats 1000000 in
theorem rtext_any (s : ByteArray) (w : World) (hs : s.size ≤ 70368744177664) :
    Calls Try.prog 94 #[.string s] w (NewB w (Sp.txtB s)) := by
  obtain ⟨i0, hi, hz0, hz1, hz2⟩ := info_parts Try.infoB
  have hl : (Sp.txtB s).length = (Sp.numB s.size).length + s.size := by simp [Sp.txtB, Sp.bts_len]
  have HN : Hid (∀ W, Calls Try.prog 93 #[.int .u64 (s.size : Int)] W (NewB W (Sp.numB s.size))) := fun W => number_any s.size W (by omega)
  have hp := Sp.numB_pos s.size
  have hp' := Sp.numB_64 (n := s.size) (by omega)
  go_enter Try.func94, Try.ntmps94
  go_wp2_with fail
  refine (HN.out _).mono ?_
  rintro e w1 ⟨g1, cap1, rfl, ho1, hb1⟩
  have HO : Hid (Outs w1 w.heap.size (some ⟨g1, 0, none⟩) cap1 (Sp.numB s.size) ∧ Below w.heap.size w w1) := ⟨ho1, hb1⟩
  clear ho1 hb1 HN
  go_wp2_with (at_builtin; refine wpList_app_src _ rfl _ _ 23 9 rfl w.heap.size 5 i0 (.int .u8 0) 1 1 Try.undB hi hz0 hz1 hz2 rfl _ _ _ _ rfl HO.out.1.1 _ _ _ rfl (Src.ofString _ Try.underlying9 s) (by unfold maxLen; omega) (by omega) HO.out.1.2 ?_; intro g' cap2 w3 hown' hgrow _)
  go_wp2_with fail
  go_ret
  rw [byteCells_bts] at hown'
  obtain ⟨h1, h2⟩ := outs_join HO.out.1 (ys := Sp.bts s) (Below.refl _ _) hown' (by simp [Sp.bts_len]) hgrow
  exact ⟨g', cap2, by rw [hl]; rfl, h1, HO.out.2.trans h2⟩
end Go.Proofs.Ytkomcebknllaiaa

/- tenonref03.fields and tenonref03.Bytes: the bytes of a term, new ones. -/
namespace Go.Proofs.Ytkomcebknllaiaa
open Go.RowKit

/-- the contract of Bytes at terms of at most N parts -/
def BytC (N : Nat) : Prop := ∀ (t : Tm), t.sz ≤ N → ∀ (cs : Array Value) (B : Nat → Prop) (w : World), t.In w B cs → Sub B w → t.Ok → t.enc.length ≤ 70368744177664 →
  Calls Try.prog 51 #[.agg cs] w (NewB w t.enc)
theorem outs_one (w : World) (k : Int) (o : Obj) : Outs ((w.alloc o).alloc (.cells #[.int .u8 k] 5)) (w.heap.size + 1) (some ⟨w.heap.size + 1, 0, none⟩) 1 [k] ∧ Below (w.heap.size + 1) (w.alloc o) ((w.alloc o).alloc (.cells #[.int .u8 k] 5)) :=
  ⟨⟨⟨rfl, .inr ⟨w.heap.size + 1, 1, #[.int .u8 k], rfl, Nat.le_refl _, by simpa using heap_alloc_new (w.alloc o) (.cells #[.int .u8 k] 5), Nat.le_refl _, by simp [maxLen], rfl, rfl⟩⟩, by simp⟩, (Below.refl _ _).alloc (by simp) _⟩
theorem cell_one_at (w : World) (x : Value) (t : TypeId) (h : Nat) (e : w.heap.size = h) : ∀ j u, [x][j]? = some u → (w.alloc (.cells #[x] t)).cell? ((⟨h, 0, none⟩ : Addr).add j) = some u := by subst e; exact cell_one_new w x t
theorem NewB.of {w W : World} {o : Obj} {g cap m : Nat} {ys : List Int} (h : Outs W (w.heap.size + 1) (some ⟨g, 0, none⟩) cap ys) (hb : Below (w.heap.size + 1) (w.alloc o) W) (hm : m = ys.length) : NewB w ys (.returned (.slice (some ⟨g, 0, none⟩) m cap)) W := by
  have hz := hb.size
  simp at hz
  refine ⟨g, cap, by rw [hm], ⟨?_, by omega⟩, ((Below.refl _ _).alloc (Nat.le_refl _) o).trans (hb.mono (by omega))⟩
  obtain ⟨⟨h1, h2⟩, h3⟩ := h
  refine ⟨h1, h2.imp id fun ⟨g, c, cur, e1, e2, r⟩ => ⟨g, c, cur, e1, by omega, r⟩⟩

set_option maxRecDepth 100000 in
set_option maxHeartbeats 1000000 in
theorem byt_1 (b : Bool) (i : Int) (f : Nat) (tx : ByteArray) (vb : Value) (rf : Int) (vl : Value) (vf : Value) (c : ByteArray) (vr : Int) (w : World) :
    Calls Try.prog 51 #[.agg (tcells 1 b i f tx (vb) (rf) (vl) (vf) c (vr))] w (NewB w ([1])) := by
  obtain ⟨i0, hi, hz0, hz1, hz2⟩ := info_parts Try.infoB
  have HOne : Hid (∀ o, Outs ((w.alloc o).alloc (.cells #[.int .u8 1] 5)) (w.heap.size + 1) (some ⟨w.heap.size + 1, 0, none⟩) 1 [1] ∧ Below (w.heap.size + 1) (w.alloc o) ((w.alloc o).alloc (.cells #[.int .u8 1] 5))) := outs_one w 1
  unfold tcells
  go_enter Try.func51, Try.ntmps51
  go_wp2_with fail
  go_ret
  exact NewB.of (HOne.out _).1 (HOne.out _).2 rfl

set_option maxRecDepth 100000 in
set_option maxHeartbeats 1000000 in
theorem byt_2f (i : Int) (f : Nat) (tx : ByteArray) (vb : Value) (rf : Int) (vl : Value) (vf : Value) (c : ByteArray) (vr : Int) (w : World) :
    Calls Try.prog 51 #[.agg (tcells 2 false i f tx (vb) (rf) (vl) (vf) c (vr))] w (NewB w ([2] ++ [0])) := by
  obtain ⟨i0, hi, hz0, hz1, hz2⟩ := info_parts Try.infoB
  have HOne : Hid (∀ o, Outs ((w.alloc o).alloc (.cells #[.int .u8 2] 5)) (w.heap.size + 1) (some ⟨w.heap.size + 1, 0, none⟩) 1 [2] ∧ Below (w.heap.size + 1) (w.alloc o) ((w.alloc o).alloc (.cells #[.int .u8 2] 5))) := outs_one w 2
  unfold tcells
  go_enter Try.func51, Try.ntmps51
  go_wp2_with (at_builtin; refine wpList_app _ rfl _ _ 23 rfl (w.heap.size + 1) 5 i0 (.int .u8 0) 1 1 Try.undB hi hz0 hz1 hz2 rfl (by decide) _ _ _ rfl ((HOne.out _).1.1.alloc _) ⟨w.heap.size + 2, 0, none⟩ 1 1 [.int .u8 0] rfl rfl (cell_one_at _ _ _ _ (by simp)) (fun u hu => by simp at hu; subst hu; rfl) (by decide) (by unfold maxLen; simp) (by simp) (by simp) ?_; intro g' cap2 w3 hown' hgrow hor')
  obtain ⟨h1, h2⟩ := (HOne.out _).1.step (ys := [0]) hown' rfl (by simp) hgrow hor'
  go_wp2_with fail
  go_ret
  exact NewB.of h1 ((HOne.out _).2.trans h2.1) rfl

set_option maxRecDepth 100000 in
set_option maxHeartbeats 1000000 in
theorem byt_2t (i : Int) (f : Nat) (tx : ByteArray) (vb : Value) (rf : Int) (vl : Value) (vf : Value) (c : ByteArray) (vr : Int) (w : World) :
    Calls Try.prog 51 #[.agg (tcells 2 true i f tx (vb) (rf) (vl) (vf) c (vr))] w (NewB w ([2] ++ [1])) := by
  obtain ⟨i0, hi, hz0, hz1, hz2⟩ := info_parts Try.infoB
  have HOne : Hid (∀ o, Outs ((w.alloc o).alloc (.cells #[.int .u8 2] 5)) (w.heap.size + 1) (some ⟨w.heap.size + 1, 0, none⟩) 1 [2] ∧ Below (w.heap.size + 1) (w.alloc o) ((w.alloc o).alloc (.cells #[.int .u8 2] 5))) := outs_one w 2
  unfold tcells
  go_enter Try.func51, Try.ntmps51
  go_wp2_with (at_builtin; refine wpList_app _ rfl _ _ 23 rfl (w.heap.size + 1) 5 i0 (.int .u8 0) 1 1 Try.undB hi hz0 hz1 hz2 rfl (by decide) _ _ _ rfl ((HOne.out _).1.1.alloc _) ⟨w.heap.size + 2, 0, none⟩ 1 1 [.int .u8 1] rfl rfl (cell_one_at _ _ _ _ (by simp)) (fun u hu => by simp at hu; subst hu; rfl) (by decide) (by unfold maxLen; simp) (by simp) (by simp) ?_; intro g' cap2 w3 hown' hgrow hor')
  obtain ⟨h1, h2⟩ := (HOne.out _).1.step (ys := [1]) hown' rfl (by simp) hgrow hor'
  go_wp2_with fail
  go_ret
  exact NewB.of h1 ((HOne.out _).2.trans h2.1) rfl

set_option maxRecDepth 100000 in
set_option maxHeartbeats 1000000 in
theorem byt_3n (b : Bool) (i : Int) (f : Nat) (tx : ByteArray) (vb : Value) (rf : Int) (vl : Value) (vf : Value) (c : ByteArray) (vr : Int) (w : World) (h0 : -9223372036854775808 ≤ i) (h1 : i ≤ 9223372036854775807) (hn : i < 0) :
    Calls Try.prog 51 #[.agg (tcells 3 b i f tx (vb) (rf) (vl) (vf) c (vr))] w (NewB w ([3] ++ Sp.numB (Sp.fold i))) := by
  obtain ⟨i0, hi, hz0, hz1, hz2⟩ := info_parts Try.infoB
  have HOne : Hid (∀ o, Outs ((w.alloc o).alloc (.cells #[.int .u8 3] 5)) (w.heap.size + 1) (some ⟨w.heap.size + 1, 0, none⟩) 1 [3] ∧ Below (w.heap.size + 1) (w.alloc o) ((w.alloc o).alloc (.cells #[.int .u8 3] 5))) := outs_one w 3
  have hnl := Sp.numB_64 (Sp.fold_lt h0 h1)
  have HN : Hid (∀ W, Calls Try.prog 93 #[.int .u64 (2 * -(i + 1) + 1)] W (NewB W (Sp.numB (Sp.fold i)))) := fun W => by
    have := number_any (Sp.fold i) W (Sp.fold_lt h0 h1)
    have e : ((Sp.fold i : Nat) : Int) = 2 * -(i + 1) + 1 := by unfold Sp.fold; rw [if_pos hn]; omega
    rw [e] at this; exact this
  unfold tcells
  go_enter Try.func51, Try.ntmps51
  go_wp2_with fail
  refine (HN.out _).mono ?_
  rintro e w2 ⟨g2, cap2, rfl, ho2, hb2⟩
  have HS2 : Hid (Outs w2 _ (some ⟨g2, 0, none⟩) cap2 (Sp.numB (Sp.fold i)) ∧ Outs w2 (w.heap.size + 1) _ _ ([3]) ∧ Below _ _ w2) := ⟨ho2, outs_call (HOne.out _).1 hb2, hb2⟩
  clear ho2 hb2
  go_wp2_with (at_builtin; refine wpList_app_src _ rfl _ _ 23 23 rfl (w.heap.size + 1) 5 i0 (.int .u8 0) 1 1 Try.undB hi hz0 hz1 hz2 rfl _ _ _ _ rfl HS2.out.2.1.1 _ _ _ rfl (outs_src HS2.out.1) (by unfold maxLen; simp; omega) (by simp; omega) HS2.out.2.1.2 ?_; intro gg2 cc2 v2 hown2 hgrow2 _)
  have hj2 := outs_join (HOne.out _).1 HS2.out.2.2 hown2 (by simp; omega) hgrow2
  have HJ2 : Hid (Outs v2 (w.heap.size + 1) (some ⟨gg2, 0, none⟩) cc2 ([3] ++ Sp.numB (Sp.fold i)) ∧ Below (w.heap.size + 1) (w.alloc _) v2) := ⟨hj2.1, Below.trans (HOne.out _).2 hj2.2⟩
  clear hj2 hown2 hgrow2
  go_wp2_with fail
  go_ret
  exact NewB.of HJ2.out.1 HJ2.out.2 (by simp; omega)

set_option maxRecDepth 100000 in
set_option maxHeartbeats 1000000 in
theorem byt_3p (b : Bool) (i : Int) (f : Nat) (tx : ByteArray) (vb : Value) (rf : Int) (vl : Value) (vf : Value) (c : ByteArray) (vr : Int) (w : World) (h0 : -9223372036854775808 ≤ i) (h1 : i ≤ 9223372036854775807) (hn : ¬ i < 0) :
    Calls Try.prog 51 #[.agg (tcells 3 b i f tx (vb) (rf) (vl) (vf) c (vr))] w (NewB w ([3] ++ Sp.numB (Sp.fold i))) := by
  obtain ⟨i0, hi, hz0, hz1, hz2⟩ := info_parts Try.infoB
  have HOne : Hid (∀ o, Outs ((w.alloc o).alloc (.cells #[.int .u8 3] 5)) (w.heap.size + 1) (some ⟨w.heap.size + 1, 0, none⟩) 1 [3] ∧ Below (w.heap.size + 1) (w.alloc o) ((w.alloc o).alloc (.cells #[.int .u8 3] 5))) := outs_one w 3
  have hnl := Sp.numB_64 (Sp.fold_lt h0 h1)
  have HN : Hid (∀ W, Calls Try.prog 93 #[.int .u64 (2 * i)] W (NewB W (Sp.numB (Sp.fold i)))) := fun W => by
    have := number_any (Sp.fold i) W (Sp.fold_lt h0 h1)
    have e : ((Sp.fold i : Nat) : Int) = 2 * i := by unfold Sp.fold; rw [if_neg hn]; omega
    rw [e] at this; exact this
  unfold tcells
  go_enter Try.func51, Try.ntmps51
  go_wp2_with fail
  refine (HN.out _).mono ?_
  rintro e w2 ⟨g2, cap2, rfl, ho2, hb2⟩
  have HS2 : Hid (Outs w2 _ (some ⟨g2, 0, none⟩) cap2 (Sp.numB (Sp.fold i)) ∧ Outs w2 (w.heap.size + 1) _ _ ([3]) ∧ Below _ _ w2) := ⟨ho2, outs_call (HOne.out _).1 hb2, hb2⟩
  clear ho2 hb2
  go_wp2_with (at_builtin; refine wpList_app_src _ rfl _ _ 23 23 rfl (w.heap.size + 1) 5 i0 (.int .u8 0) 1 1 Try.undB hi hz0 hz1 hz2 rfl _ _ _ _ rfl HS2.out.2.1.1 _ _ _ rfl (outs_src HS2.out.1) (by unfold maxLen; simp; omega) (by simp; omega) HS2.out.2.1.2 ?_; intro gg2 cc2 v2 hown2 hgrow2 _)
  have hj2 := outs_join (HOne.out _).1 HS2.out.2.2 hown2 (by simp; omega) hgrow2
  have HJ2 : Hid (Outs v2 (w.heap.size + 1) (some ⟨gg2, 0, none⟩) cc2 ([3] ++ Sp.numB (Sp.fold i)) ∧ Below (w.heap.size + 1) (w.alloc _) v2) := ⟨hj2.1, Below.trans (HOne.out _).2 hj2.2⟩
  clear hj2 hown2 hgrow2
  go_wp2_with fail
  go_ret
  exact NewB.of HJ2.out.1 HJ2.out.2 (by simp; omega)

set_option maxRecDepth 100000 in
set_option maxHeartbeats 1000000 in
theorem byt_5 (b : Bool) (i : Int) (f : Nat) (tx : ByteArray) (vb : Value) (rf : Int) (vl : Value) (vf : Value) (c : ByteArray) (vr : Int) (w : World) (ht : tx.size ≤ 65536) :
    Calls Try.prog 51 #[.agg (tcells 5 b i f tx (vb) (rf) (vl) (vf) c (vr))] w (NewB w ([5] ++ Sp.txtB tx)) := by
  obtain ⟨i0, hi, hz0, hz1, hz2⟩ := info_parts Try.infoB
  have HOne : Hid (∀ o, Outs ((w.alloc o).alloc (.cells #[.int .u8 5] 5)) (w.heap.size + 1) (some ⟨w.heap.size + 1, 0, none⟩) 1 [5] ∧ Below (w.heap.size + 1) (w.alloc o) ((w.alloc o).alloc (.cells #[.int .u8 5] 5))) := outs_one w 5
  have hnl := Sp.txtB_len ht (Nat.le_refl _)
  unfold tcells
  go_enter Try.func51, Try.ntmps51
  go_wp2_with fail
  refine (rtext_any tx _ (by omega)).mono ?_
  rintro e w2 ⟨g2, cap2, rfl, ho2, hb2⟩
  have HS2 : Hid (Outs w2 _ (some ⟨g2, 0, none⟩) cap2 (Sp.txtB tx) ∧ Outs w2 (w.heap.size + 1) _ _ ([5]) ∧ Below _ _ w2) := ⟨ho2, outs_call (HOne.out _).1 hb2, hb2⟩
  clear ho2 hb2
  go_wp2_with (at_builtin; refine wpList_app_src _ rfl _ _ 23 23 rfl (w.heap.size + 1) 5 i0 (.int .u8 0) 1 1 Try.undB hi hz0 hz1 hz2 rfl _ _ _ _ rfl HS2.out.2.1.1 _ _ _ rfl (outs_src HS2.out.1) (by unfold maxLen; simp; omega) (by simp; omega) HS2.out.2.1.2 ?_; intro gg2 cc2 v2 hown2 hgrow2 _)
  have hj2 := outs_join (HOne.out _).1 HS2.out.2.2 hown2 (by simp; omega) hgrow2
  have HJ2 : Hid (Outs v2 (w.heap.size + 1) (some ⟨gg2, 0, none⟩) cc2 ([5] ++ Sp.txtB tx) ∧ Below (w.heap.size + 1) (w.alloc _) v2) := ⟨hj2.1, Below.trans (HOne.out _).2 hj2.2⟩
  clear hj2 hown2 hgrow2
  go_wp2_with fail
  go_ret
  exact NewB.of HJ2.out.1 HJ2.out.2 (by simp; omega)

set_option maxRecDepth 100000 in
set_option maxHeartbeats 1000000 in
theorem byt_6 (L : ByteArray) (ab : Option Addr) (cb : Nat) (B : Nat → Prop) (b : Bool) (i : Int) (f : Nat) (tx : ByteArray) (rf : Int) (vl : Value) (vf : Value) (c : ByteArray) (vr : Int) (w : World) (hB : Sub B w) (hl : BytesAt w B ab L) (ht : L.size ≤ 65536) :
    Calls Try.prog 51 #[.agg (tcells 6 b i f tx (.slice ab L.size cb) (rf) (vl) (vf) c (vr))] w (NewB w ([6] ++ Sp.txtB L)) := by
  obtain ⟨i0, hi, hz0, hz1, hz2⟩ := info_parts Try.infoB
  have HOne : Hid (∀ o, Outs ((w.alloc o).alloc (.cells #[.int .u8 6] 5)) (w.heap.size + 1) (some ⟨w.heap.size + 1, 0, none⟩) 1 [6] ∧ Below (w.heap.size + 1) (w.alloc o) ((w.alloc o).alloc (.cells #[.int .u8 6] 5))) := outs_one w 6
  have hnl := Sp.txtB_len ht (Nat.le_refl _)
  have HL1 : ∀ o p, (convert 23 9 (.slice ab L.size cb)).run Try.prog ((w.alloc o).alloc p) = .ok (.string L) ((w.alloc o).alloc p) := fun o p => conv_run L ab cb B _ (hl.same (hB.same (two_below w o p)) (fun _ h => h))
  unfold tcells
  go_enter Try.func51, Try.ntmps51
  go_wp2_with fail
  refine (rtext_any L _ (by omega)).mono ?_
  rintro e w2 ⟨g2, cap2, rfl, ho2, hb2⟩
  have HS2 : Hid (Outs w2 _ (some ⟨g2, 0, none⟩) cap2 (Sp.txtB L) ∧ Outs w2 (w.heap.size + 1) _ _ ([6]) ∧ Below _ _ w2) := ⟨ho2, outs_call (HOne.out _).1 hb2, hb2⟩
  clear ho2 hb2
  go_wp2_with (at_builtin; refine wpList_app_src _ rfl _ _ 23 23 rfl (w.heap.size + 1) 5 i0 (.int .u8 0) 1 1 Try.undB hi hz0 hz1 hz2 rfl _ _ _ _ rfl HS2.out.2.1.1 _ _ _ rfl (outs_src HS2.out.1) (by unfold maxLen; simp; omega) (by simp; omega) HS2.out.2.1.2 ?_; intro gg2 cc2 v2 hown2 hgrow2 _)
  have hj2 := outs_join (HOne.out _).1 HS2.out.2.2 hown2 (by simp; omega) hgrow2
  have HJ2 : Hid (Outs v2 (w.heap.size + 1) (some ⟨gg2, 0, none⟩) cc2 ([6] ++ Sp.txtB L) ∧ Below (w.heap.size + 1) (w.alloc _) v2) := ⟨hj2.1, Below.trans (HOne.out _).2 hj2.2⟩
  clear hj2 hown2 hgrow2
  go_wp2_with fail
  go_ret
  exact NewB.of HJ2.out.1 HJ2.out.2 (by simp; omega)

set_option maxRecDepth 100000 in
set_option maxHeartbeats 1000000 in
theorem byt_7 (n : Nat) (b : Bool) (i : Int) (f : Nat) (tx : ByteArray) (vb : Value) (vl : Value) (vf : Value) (c : ByteArray) (vr : Int) (w : World) (hn : n < 18446744073709551616) :
    Calls Try.prog 51 #[.agg (tcells 7 b i f tx (vb) ((n : Int)) (vl) (vf) c (vr))] w (NewB w ([7] ++ Sp.numB n)) := by
  obtain ⟨i0, hi, hz0, hz1, hz2⟩ := info_parts Try.infoB
  have HOne : Hid (∀ o, Outs ((w.alloc o).alloc (.cells #[.int .u8 7] 5)) (w.heap.size + 1) (some ⟨w.heap.size + 1, 0, none⟩) 1 [7] ∧ Below (w.heap.size + 1) (w.alloc o) ((w.alloc o).alloc (.cells #[.int .u8 7] 5))) := outs_one w 7
  have hnl := Sp.numB_64 hn
  unfold tcells
  go_enter Try.func51, Try.ntmps51
  go_wp2_with fail
  refine (number_any n _ hn).mono ?_
  rintro e w2 ⟨g2, cap2, rfl, ho2, hb2⟩
  have HS2 : Hid (Outs w2 _ (some ⟨g2, 0, none⟩) cap2 (Sp.numB n) ∧ Outs w2 (w.heap.size + 1) _ _ ([7]) ∧ Below _ _ w2) := ⟨ho2, outs_call (HOne.out _).1 hb2, hb2⟩
  clear ho2 hb2
  go_wp2_with (at_builtin; refine wpList_app_src _ rfl _ _ 23 23 rfl (w.heap.size + 1) 5 i0 (.int .u8 0) 1 1 Try.undB hi hz0 hz1 hz2 rfl _ _ _ _ rfl HS2.out.2.1.1 _ _ _ rfl (outs_src HS2.out.1) (by unfold maxLen; simp; omega) (by simp; omega) HS2.out.2.1.2 ?_; intro gg2 cc2 v2 hown2 hgrow2 _)
  have hj2 := outs_join (HOne.out _).1 HS2.out.2.2 hown2 (by simp; omega) hgrow2
  have HJ2 : Hid (Outs v2 (w.heap.size + 1) (some ⟨gg2, 0, none⟩) cc2 ([7] ++ Sp.numB n) ∧ Below (w.heap.size + 1) (w.alloc _) v2) := ⟨hj2.1, Below.trans (HOne.out _).2 hj2.2⟩
  clear hj2 hown2 hgrow2
  go_wp2_with fail
  go_ret
  exact NewB.of HJ2.out.1 HJ2.out.2 (by simp; omega)
end Go.Proofs.Ytkomcebknllaiaa

/- tenonlaw03.kept. -/
namespace Go.Proofs.Ytkomcebknllaiaa
open Go.RowKit

set_option maxRecDepth 100000 in
set_option maxHeartbeats 2000000 in
theorem kept_any (l : ByteArray) (ab : Option Addr) (cb g cap : Nat) (w : World) (hl : l.size ≤ 140737488351232) (hab : BytesAt w (Lo w.heap.size) ab l) (hr : RdB w (Lo w.heap.size) (some ⟨g, 0, none⟩) (Sp.bts l ++ Sp.marks 32)) :
    Calls Try.prog 32 #[.slice (some ⟨g, 0, none⟩) (l.size + 32) cap, .slice ab l.size cb] w fun e w' => e = .returned (.bool true) ∧ Below w.heap.size w w' := by
  have HA : Hid (BytesAt w (Lo w.heap.size) ab l ∧ ∀ k, k < l.size + 32 → ∃ x : Int, g < w.heap.size ∧ w.cell? ⟨g, k, none⟩ = some (.int .u8 x) ∧ (k < l.size → x = Sp.byte l k) ∧ (l.size ≤ k → x = 171 + ((k : Int) - (l.size : Int)))) := by
    refine ⟨hab, fun k hk => ?_⟩
    by_cases h : k < l.size
    · obtain ⟨g', o, e, hg, hc⟩ := hr k (Sp.byte l k) (by rw [List.getElem?_append_left (by rw [Sp.bts_len]; exact h)]; simp [Sp.bts, h])
      simp only [Option.some.injEq, Addr.mk.injEq, and_true] at e
      obtain ⟨rfl, rfl⟩ := e
      exact ⟨_, hg, by simpa using hc, fun _ => rfl, fun h2 => by omega⟩
    · obtain ⟨g', o, e, hg, hc⟩ := hr k (171 + ((k - l.size : Nat) : Int)) (by rw [List.getElem?_append_right (by rw [Sp.bts_len]; omega), Sp.bts_len]; exact marks_get 32 _ (by omega))
      simp only [Option.some.injEq, Addr.mk.injEq, and_true] at e
      obtain ⟨rfl, rfl⟩ := e
      exact ⟨_, hg, by simpa using hc, fun h2 => absurd h2 h, fun _ => by omega⟩
  clear hab hr
  go_enter Try.func32, Try.ntmps32
  go_wp2_with fail
  go_loopw [5] (fun i wr => ∃ k : Nat, i = .int .i64 k ∧ k ≤ l.size + 32 ∧ Hid (Below w.heap.size w wr)) (fun i _ => l.size + 32 - (intOf i).toNat)
  case atStart => exact ⟨0, rfl, by omega, Below.refl _ _⟩
  case round =>
    obtain ⟨k, rfl, hk, HB⟩ := hrel
    by_cases hlt : k < l.size + 32
    · obtain ⟨x, hg, hc, hx1, hx2⟩ := HA.out.2 k hlt
      have d1 : wr.cell? ⟨g, k, none⟩ = some (.int .u8 x) := by rw [HB.out.cell (p := ⟨g, k, none⟩) hg]; exact hc
      have HX : Hid ((k < l.size → x = Sp.byte l k) ∧ (l.size ≤ k → x = 171 + ((k : Int) - (l.size : Int)))) := ⟨hx1, hx2⟩
      clear hc hx1 hx2
      have hlt2 : (k : Int) < (l.size : Int) + 32 := by omega
      have hk0 : (0 : Int) ≤ (k : Int) := Int.natCast_nonneg _
      by_cases hn : k < l.size
      · obtain ⟨g2, o2, rfl, hg2, c2⟩ := HA.out.1 k hn
        have d2 : wr.cell? ⟨g2, o2 + k, none⟩ = some (.int .u8 x) := by rw [HB.out.cell (p := ⟨g2, o2 + k, none⟩) hg2, HX.out.1 hn]; exact c2
        clear c2
        have hn2 : (k : Int) < (l.size : Int) := by omega
        have hn3 : decide ((l.size : Int) ≤ (k : Int)) = false := decide_eq_false (by omega)
        have hn5 : ¬ l.size ≤ k := by omega
        have hn6 : decide (l.size ≤ k) = false := decide_eq_false hn5
        go_wp2_with fail
        go_quiet (fail)
        go_wp2_with fail
        go_roundw
        case rel => exact ⟨k + 1, by go_num, by omega, HB.out.trans (below_drewN' _ _ _)⟩
        case measure => simp [intOf]; omega
      · have hn2 : ¬ (k : Int) < (l.size : Int) := by omega
        have hn4 : l.size ≤ k := by omega
        have hn3 : decide ((k : Int) < (l.size : Int)) = false := decide_eq_false (by omega)
        have hw1 : IntKind.i64.wrap (171 + (k : Int)) = 171 + (k : Int) := by rw [IntKind.wrap_i64]; omega
        have hw2 : IntKind.i64.wrap (171 + (k : Int) - (l.size : Int)) = x := by rw [HX.out.2 hn4, IntKind.wrap_i64]; omega
        have hw3 : IntKind.u8.wrap x = x := by rw [HX.out.2 hn4, IntKind.wrap_u8]; omega
        go_wp2_with fail
        go_quiet (fail)
        go_wp2_with fail
        go_roundw
        case rel => exact ⟨k + 1, by go_num, by omega, HB.out.trans (below_drewN' _ _ _)⟩
        case measure => simp [intOf]; omega
    · have h1 : l.size + 32 ≤ k := by omega
      go_wp2_with fail
      go_ret
      exact ⟨rfl, HB.out⟩
end Go.Proofs.Ytkomcebknllaiaa

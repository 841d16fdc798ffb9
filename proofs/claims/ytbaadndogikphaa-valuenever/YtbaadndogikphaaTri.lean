/- Plain mathematics: the order of terms is turned about by turning about, lies in -1, 0, 1, and goes through a third. -/
import Derived.Test.YtbaadndogikphaaCmp
namespace Go.Proofs.Ytbaadndogikphaa

def Tri (ab bc ac : Int) : Prop := (ab = 0 → bc = 0 → ac = 0) ∧ (ab < 0 → bc ≤ 0 → ac < 0) ∧ (ab ≤ 0 → bc < 0 → ac < 0)
def Lex (x y : Int) : Int := if x ≠ 0 then x else y
theorem lex_lt {x y : Int} : Lex x y < 0 ↔ x < 0 ∨ (x = 0 ∧ y < 0) := by unfold Lex; split <;> omega
theorem lex_le {x y : Int} : Lex x y ≤ 0 ↔ x < 0 ∨ (x = 0 ∧ y ≤ 0) := by unfold Lex; split <;> omega
theorem lex_zero {x y : Int} : Lex x y = 0 ↔ x = 0 ∧ y = 0 := by unfold Lex; split <;> omega
theorem tri_lex {x1 x2 x3 y1 y2 y3 : Int} (hx : Tri x1 x2 x3) (hy : Tri y1 y2 y3) : Tri (Lex x1 y1) (Lex x2 y2) (Lex x3 y3) := by
  obtain ⟨a1, a2, a3⟩ := hx
  obtain ⟨b1, b2, b3⟩ := hy
  refine ⟨fun h g => ?_, fun h g => ?_, fun h g => ?_⟩
  · rw [lex_zero] at *; exact ⟨a1 h.1 g.1, b1 h.2 g.2⟩
  · rw [lex_lt] at h ⊢; rw [lex_le] at g
    rcases h with h | ⟨h, h'⟩
    · exact .inl (a2 h (by omega))
    · rcases g with g | ⟨g, g'⟩
      · exact .inl (a3 (by omega) g)
      · exact .inr ⟨a1 h g, b2 h' g'⟩
  · rw [lex_lt] at g ⊢; rw [lex_le] at h
    rcases g with g | ⟨g, g'⟩
    · exact .inl (a3 (by omega) g)
    · rcases h with h | ⟨h, h'⟩
      · exact .inl (a2 h (by omega))
      · exact .inr ⟨a1 h g, b3 h' g'⟩
theorem tri_cmpI (a b c : Int) : Tri (Sp.cmpI a b) (Sp.cmpI b c) (Sp.cmpI a c) := by
  unfold Tri Sp.cmpI
  refine ⟨?_, ?_, ?_⟩ <;> (repeat' split) <;> omega
theorem tri_zero : Tri 0 0 0 := ⟨fun _ _ => rfl, fun h => absurd h (by decide), fun _ h => absurd h (by decide)⟩
theorem neg_cmpI (a b : Int) : Sp.cmpI a b = -Sp.cmpI b a := by unfold Sp.cmpI; (repeat' split) <;> omega
theorem vals_cmpI (a b : Int) : -1 ≤ Sp.cmpI a b ∧ Sp.cmpI a b ≤ 1 := by unfold Sp.cmpI; (repeat' split) <;> omega
theorem neg_lex {x x' y y' : Int} (h : x = -x') (g : y = -y') : Lex x y = -Lex x' y' := by unfold Lex; (repeat' split) <;> omega
theorem vals_lex {x y : Int} (h : -1 ≤ x ∧ x ≤ 1) (g : -1 ≤ y ∧ y ≤ 1) : -1 ≤ Lex x y ∧ Lex x y ≤ 1 := by unfold Lex; split <;> omega

theorem cb_cons (x y : UInt8) (a b : List UInt8) : Lib.compareBytes (x :: a) (y :: b) = Lex (Sp.cmpI x.toNat y.toNat) (Lib.compareBytes a b) := by
  simp only [Lib.compareBytes, Lex, Sp.cmpI, UInt8.lt_iff_toNat_lt]
  by_cases h1 : x.toNat < y.toNat
  · simp [h1]
  · by_cases h2 : y.toNat < x.toNat
    · simp [h1, h2]
    · simp [h1, h2]
theorem tri_cb : ∀ (a b c : List UInt8), Tri (Lib.compareBytes a b) (Lib.compareBytes b c) (Lib.compareBytes a c)
  | [], [], [] => tri_zero
  | [], [], _ :: _ => by simp [Lib.compareBytes, Tri]
  | [], _ :: _, [] => by simp [Lib.compareBytes, Tri]
  | [], _ :: _, _ :: _ => by simp [Lib.compareBytes, Tri]
  | _ :: _, [], [] => by simp [Lib.compareBytes, Tri]
  | _ :: _, [], _ :: _ => by simp [Lib.compareBytes, Tri]
  | x :: a, y :: b, [] => by simp [Lib.compareBytes, Tri]
  | x :: a, y :: b, z :: c => by
    rw [cb_cons, cb_cons, cb_cons]
    exact tri_lex (tri_cmpI _ _ _) (tri_cb a b c)
theorem neg_cb : ∀ (a b : List UInt8), Lib.compareBytes a b = -Lib.compareBytes b a
  | [], [] => by simp [Lib.compareBytes]
  | [], _ :: _ => by simp [Lib.compareBytes]
  | _ :: _, [] => by simp [Lib.compareBytes]
  | x :: a, y :: b => by rw [cb_cons, cb_cons]; exact neg_lex (neg_cmpI _ _) (neg_cb a b)
theorem vals_cb (a b : List UInt8) : -1 ≤ Lib.compareBytes a b ∧ Lib.compareBytes a b ≤ 1 := by
  rcases cmp_vals a b with h | h | h <;> omega

/-- the order of terms as one lexicographic row -/
def Tm.tail : Tm → Tm → Int
  | .mk k b i f tx by' rf l fs c v, .mk _ b2 i2 f2 tx2 by2 rf2 l2 fs2 c2 v2 =>
    if k = 2 then Sp.cmpI (Sp.rank b) (Sp.rank b2)
    else if k = 3 then Sp.cmpI i i2
    else if k = 4 then Sp.cmpI (Sp.frank f) (Sp.frank f2)
    else if k = 5 then Sp.cmpS tx tx2
    else if k = 6 then Sp.cmpS by' by2
    else if k = 7 then Sp.cmpI rf rf2
    else if k = 8 then l.cmp l2
    else if k = 9 then fs.cmp fs2
    else if k = 10 then Lex (Sp.cmpS c c2) (Lex (Sp.cmpI v v2) (fs.cmp fs2))
    else 0
theorem Tm.cmp_lex (s t : Tm) : s.cmp t = Lex (Sp.cmpI s.kind t.kind) (s.tail t) := by
  cases s; cases t; rw [Tm.cmp]; rfl
theorem TmL.cmp_lex (s t : Tm) (l r : TmL) : TmL.cmp (.cons s l) (.cons t r) = Lex (s.cmp t) (l.cmp r) := by rw [TmL.cmp]; rfl
theorem TmF.cmp_lex (n m : ByteArray) (s t : Tm) (l r : TmF) : TmF.cmp (.cons n s l) (.cons m t r) = Lex (Sp.cmpS n m) (Lex (s.cmp t) (l.cmp r)) := by rw [TmF.cmp]; rfl

/-- where the kinds are one, the rest is an order too; where not, it does not matter -/
theorem tri_lex' {x1 x2 x3 y1 y2 y3 : Int} (hx : Tri x1 x2 x3) (hy : x1 = 0 → x2 = 0 → Tri y1 y2 y3) : Tri (Lex x1 y1) (Lex x2 y2) (Lex x3 y3) := by
  by_cases h : x1 = 0 ∧ x2 = 0
  · exact tri_lex hx (hy h.1 h.2)
  · obtain ⟨a1, a2, a3⟩ := hx
    refine ⟨fun p q => ?_, fun p q => ?_, fun p q => ?_⟩
    · rw [lex_zero] at p q; exact absurd ⟨p.1, q.1⟩ h
    · rw [lex_lt] at p ⊢; rw [lex_le] at q
      by_cases e : x1 < 0
      · exact .inl (a2 e (by omega))
      · exact .inl (a3 (by omega) (by omega))
    · rw [lex_lt] at q ⊢; rw [lex_le] at p
      by_cases e : x1 < 0
      · exact .inl (a2 e (by omega))
      · exact .inl (a3 (by omega) (by omega))

mutual
theorem Tm.tri : (s t u : Tm) → Tri (s.cmp t) (t.cmp u) (s.cmp u)
  | .mk k b i f tx by' rf l fs c v, .mk k2 b2 i2 f2 tx2 by2 rf2 l2 fs2 c2 v2, .mk k3 b3 i3 f3 tx3 by3 rf3 l3 fs3 c3 v3 => by
    rw [Tm.cmp_lex, Tm.cmp_lex, Tm.cmp_lex]
    refine tri_lex' (tri_cmpI _ _ _) (fun h1 h2 => ?_)
    obtain rfl : k = k2 := cmpI_zero h1
    obtain rfl : k = k3 := cmpI_zero h2
    simp only [Tm.tail]
    by_cases k2 : k = 2
    · simp only [if_pos k2]; exact tri_cmpI _ _ _
    simp only [if_neg k2]
    by_cases k3 : k = 3
    · simp only [if_pos k3]; exact tri_cmpI _ _ _
    simp only [if_neg k3]
    by_cases k4 : k = 4
    · simp only [if_pos k4]; exact tri_cmpI _ _ _
    simp only [if_neg k4]
    by_cases k5 : k = 5
    · simp only [if_pos k5]; exact tri_cb _ _ _
    simp only [if_neg k5]
    by_cases k6 : k = 6
    · simp only [if_pos k6]; exact tri_cb _ _ _
    simp only [if_neg k6]
    by_cases k7 : k = 7
    · simp only [if_pos k7]; exact tri_cmpI _ _ _
    simp only [if_neg k7]
    by_cases k8 : k = 8
    · simp only [if_pos k8]; exact TmL.tri l l2 l3
    simp only [if_neg k8]
    by_cases k9 : k = 9
    · simp only [if_pos k9]; exact TmF.tri fs fs2 fs3
    simp only [if_neg k9]
    by_cases k10 : k = 10
    · simp only [if_pos k10]; exact tri_lex (tri_cb _ _ _) (tri_lex (tri_cmpI _ _ _) (TmF.tri fs fs2 fs3))
    simp only [if_neg k10]
    exact tri_zero
theorem TmL.tri : (s t u : TmL) → Tri (s.cmp t) (t.cmp u) (s.cmp u)
  | .nil, .nil, .nil => by simp [TmL.cmp, Tri]
  | .nil, .nil, .cons _ _ => by simp [TmL.cmp, Tri]
  | .nil, .cons _ _, .nil => by simp [TmL.cmp, Tri]
  | .nil, .cons _ _, .cons _ _ => by simp [TmL.cmp, Tri]
  | .cons _ _, .nil, .nil => by simp [TmL.cmp, Tri]
  | .cons _ _, .nil, .cons _ _ => by simp [TmL.cmp, Tri]
  | .cons _ _, .cons _ _, .nil => by simp [TmL.cmp, Tri]
  | .cons s l, .cons t r, .cons u q => by
    rw [TmL.cmp_lex, TmL.cmp_lex, TmL.cmp_lex]
    exact tri_lex (Tm.tri s t u) (TmL.tri l r q)
theorem TmF.tri : (s t u : TmF) → Tri (s.cmp t) (t.cmp u) (s.cmp u)
  | .nil, .nil, .nil => by simp [TmF.cmp, Tri]
  | .nil, .nil, .cons _ _ _ => by simp [TmF.cmp, Tri]
  | .nil, .cons _ _ _, .nil => by simp [TmF.cmp, Tri]
  | .nil, .cons _ _ _, .cons _ _ _ => by simp [TmF.cmp, Tri]
  | .cons _ _ _, .nil, .nil => by simp [TmF.cmp, Tri]
  | .cons _ _ _, .nil, .cons _ _ _ => by simp [TmF.cmp, Tri]
  | .cons _ _ _, .cons _ _ _, .nil => by simp [TmF.cmp, Tri]
  | .cons n s l, .cons m t r, .cons o u q => by
    rw [TmF.cmp_lex, TmF.cmp_lex, TmF.cmp_lex]
    exact tri_lex (tri_cb _ _ _) (tri_lex (Tm.tri s t u) (TmF.tri l r q))
end

mutual
theorem Tm.neg : (s t : Tm) → s.cmp t = -t.cmp s ∧ -1 ≤ s.cmp t ∧ s.cmp t ≤ 1
  | .mk k b i f tx by' rf l fs c v, .mk k2 b2 i2 f2 tx2 by2 rf2 l2 fs2 c2 v2 => by
    rw [Tm.cmp_lex, Tm.cmp_lex]
    by_cases hk : Sp.cmpI k k2 = 0
    · obtain rfl := cmpI_zero hk
      have key : Tm.tail (.mk k b i f tx by' rf l fs c v) (.mk k b2 i2 f2 tx2 by2 rf2 l2 fs2 c2 v2) = -Tm.tail (.mk k b2 i2 f2 tx2 by2 rf2 l2 fs2 c2 v2) (.mk k b i f tx by' rf l fs c v) ∧ -1 ≤ Tm.tail (.mk k b i f tx by' rf l fs c v) (.mk k b2 i2 f2 tx2 by2 rf2 l2 fs2 c2 v2) ∧ Tm.tail (.mk k b i f tx by' rf l fs c v) (.mk k b2 i2 f2 tx2 by2 rf2 l2 fs2 c2 v2) ≤ 1 := by
        simp only [Tm.tail]
        by_cases k2 : k = 2
        · simp only [if_pos k2]; exact ⟨neg_cmpI _ _, vals_cmpI _ _⟩
        simp only [if_neg k2]
        by_cases k3 : k = 3
        · simp only [if_pos k3]; exact ⟨neg_cmpI _ _, vals_cmpI _ _⟩
        simp only [if_neg k3]
        by_cases k4 : k = 4
        · simp only [if_pos k4]; exact ⟨neg_cmpI _ _, vals_cmpI _ _⟩
        simp only [if_neg k4]
        by_cases k5 : k = 5
        · simp only [if_pos k5]; exact ⟨neg_cb _ _, vals_cb _ _⟩
        simp only [if_neg k5]
        by_cases k6 : k = 6
        · simp only [if_pos k6]; exact ⟨neg_cb _ _, vals_cb _ _⟩
        simp only [if_neg k6]
        by_cases k7 : k = 7
        · simp only [if_pos k7]; exact ⟨neg_cmpI _ _, vals_cmpI _ _⟩
        simp only [if_neg k7]
        by_cases k8 : k = 8
        · simp only [if_pos k8]; exact TmL.neg l l2
        simp only [if_neg k8]
        by_cases k9 : k = 9
        · simp only [if_pos k9]; exact TmF.neg fs fs2
        simp only [if_neg k9]
        by_cases k10 : k = 10
        · simp only [if_pos k10]
          have hf := TmF.neg fs fs2
          exact ⟨neg_lex (neg_cb _ _) (neg_lex (neg_cmpI _ _) hf.1), vals_lex (vals_cb _ _) (vals_lex (vals_cmpI _ _) hf.2)⟩
        simp only [if_neg k10]
        decide
      exact ⟨neg_lex (neg_cmpI _ _) key.1, vals_lex (vals_cmpI _ _) key.2⟩
    · have hk' : Sp.cmpI k2 k ≠ 0 := by rw [neg_cmpI]; omega
      have e1 : ∀ y, Lex (Sp.cmpI k k2) y = Sp.cmpI k k2 := fun y => by unfold Lex; rw [if_pos hk]
      have e2 : ∀ y, Lex (Sp.cmpI k2 k) y = Sp.cmpI k2 k := fun y => by unfold Lex; rw [if_pos hk']
      simp only [Tm.kind, e1, e2]
      exact ⟨neg_cmpI _ _, vals_cmpI _ _⟩
theorem TmL.neg : (s t : TmL) → s.cmp t = -t.cmp s ∧ -1 ≤ s.cmp t ∧ s.cmp t ≤ 1
  | .nil, .nil => by simp [TmL.cmp]
  | .nil, .cons _ _ => by simp [TmL.cmp]
  | .cons _ _, .nil => by simp [TmL.cmp]
  | .cons s l, .cons t r => by
    rw [TmL.cmp_lex, TmL.cmp_lex]
    have h1 := Tm.neg s t
    have h2 := TmL.neg l r
    exact ⟨neg_lex h1.1 h2.1, vals_lex h1.2 h2.2⟩
theorem TmF.neg : (s t : TmF) → s.cmp t = -t.cmp s ∧ -1 ≤ s.cmp t ∧ s.cmp t ≤ 1
  | .nil, .nil => by simp [TmF.cmp]
  | .nil, .cons _ _ _ => by simp [TmF.cmp]
  | .cons _ _ _, .nil => by simp [TmF.cmp]
  | .cons n s l, .cons m t r => by
    rw [TmF.cmp_lex, TmF.cmp_lex]
    have h1 := Tm.neg s t
    have h2 := TmF.neg l r
    exact ⟨neg_lex (neg_cb _ _) (neg_lex h1.1 h2.1), vals_lex (vals_cb _ _) (vals_lex h1.2 h2.2)⟩
end
end Go.Proofs.Ytbaadndogikphaa

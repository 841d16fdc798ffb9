/- Plain mathematics: the order of terms, and that it is an order. Nothing of the program stands here. -/
import Derived.Test.YtjlhmgopmdcopaaGreatKI1
import Derived.Lib.Bytealg
namespace Go.Proofs.YtjlhmgopmdcopaaGreat

namespace Sp
def cmpI (a b : Int) : Int := if a < b then -1 else if b < a then 1 else 0
def cmpS (a b : ByteArray) : Int := Lib.compareBytes a.data.toList b.data.toList
def rank (b : Bool) : Int := if b then 1 else 0
/-- where a float stands, by its bits -/
def frank (f : Nat) : Int := if 9223372036854775808 ≤ f then 18446744073709551615 - f else f + 9223372036854775808
end Sp

mutual
def Tm.cmp : Tm → Tm → Int
  | .mk k b i f tx by' rf l fs c v, .mk k2 b2 i2 f2 tx2 by2 rf2 l2 fs2 c2 v2 =>
    if Sp.cmpI k k2 ≠ 0 then Sp.cmpI k k2
    else if k = 2 then Sp.cmpI (Sp.rank b) (Sp.rank b2)
    else if k = 3 then Sp.cmpI i i2
    else if k = 4 then Sp.cmpI (Sp.frank f) (Sp.frank f2)
    else if k = 5 then Sp.cmpS tx tx2
    else if k = 6 then Sp.cmpS by' by2
    else if k = 7 then Sp.cmpI rf rf2
    else if k = 8 then l.cmp l2
    else if k = 9 then fs.cmp fs2
    else if k = 10 then (if Sp.cmpS c c2 ≠ 0 then Sp.cmpS c c2 else if Sp.cmpI v v2 ≠ 0 then Sp.cmpI v v2 else fs.cmp fs2)
    else 0
def TmL.cmp : TmL → TmL → Int
  | .nil, .nil => 0
  | .nil, .cons _ _ => -1
  | .cons _ _, .nil => 1
  | .cons t l, .cons t2 l2 => if t.cmp t2 ≠ 0 then t.cmp t2 else l.cmp l2
def TmF.cmp : TmF → TmF → Int
  | .nil, .nil => 0
  | .nil, .cons _ _ _ => -1
  | .cons _ _ _, .nil => 1
  | .cons n t l, .cons n2 t2 l2 => if Sp.cmpS n n2 ≠ 0 then Sp.cmpS n n2 else if t.cmp t2 ≠ 0 then t.cmp t2 else l.cmp l2
end

theorem ba_empty {s : ByteArray} (h : s.size = 0) : s = ByteArray.empty := by
  cases s with | mk d => simp [ByteArray.size] at h; subst h; rfl
theorem ba_len (s : ByteArray) : s.data.toList.length = s.size := Array.length_toList
theorem bytesLess_cmp : ∀ (a b : List UInt8), Op.bytesLess a b = decide (Lib.compareBytes a b = -1)
  | [], [] => by simp [Op.bytesLess, Lib.compareBytes]
  | [], _ :: _ => by simp [Op.bytesLess, Lib.compareBytes]
  | _ :: _, [] => by simp [Op.bytesLess, Lib.compareBytes]
  | x :: a, y :: b => by
    simp only [Op.bytesLess, Lib.compareBytes, bytesLess_cmp a b]
    by_cases h1 : x < y
    · simp [h1]
    · by_cases h2 : y < x
      · have : ¬ x = y := by intro e; subst e; exact absurd h2 (UInt8.lt_irrefl _)
        simp [h1, h2, this]
      · have : x = y := UInt8.le_antisymm (UInt8.not_lt.1 h2) (UInt8.not_lt.1 h1)
        simp [this]
theorem cmp_eq_zero : ∀ (a b : List UInt8), Lib.compareBytes a b = 0 ↔ a = b
  | [], [] => by simp [Lib.compareBytes]
  | [], _ :: _ => by simp [Lib.compareBytes]
  | _ :: _, [] => by simp [Lib.compareBytes]
  | x :: a, y :: b => by
    simp only [Lib.compareBytes]
    by_cases h1 : x < y
    · have : ¬ x = y := by intro e; subst e; exact absurd h1 (UInt8.lt_irrefl _)
      simp [h1, this]
    · by_cases h2 : y < x
      · have : ¬ x = y := by intro e; subst e; exact absurd h2 (UInt8.lt_irrefl _)
        simp [h1, h2, this]
      · have : x = y := UInt8.le_antisymm (UInt8.not_lt.1 h2) (UInt8.not_lt.1 h1)
        simp [this, cmp_eq_zero a b]
theorem cmp_vals : ∀ (a b : List UInt8), Lib.compareBytes a b = -1 ∨ Lib.compareBytes a b = 0 ∨ Lib.compareBytes a b = 1
  | [], [] => by simp [Lib.compareBytes]
  | [], _ :: _ => by simp [Lib.compareBytes]
  | _ :: _, [] => by simp [Lib.compareBytes]
  | x :: a, y :: b => by
    simp only [Lib.compareBytes]
    split
    · simp
    · split
      · simp
      · exact cmp_vals a b

theorem cmpI_zero {a b : Int} (h : Sp.cmpI a b = 0) : a = b := by
  unfold Sp.cmpI at h; split at h
  · omega
  · split at h <;> omega
theorem cmpI_self (a : Int) : Sp.cmpI a a = 0 := by unfold Sp.cmpI; rw [if_neg (by omega), if_neg (by omega)]

section
variable {b b2 : Bool} {i i2 : Int} {f f2 : Nat} {tx tx2 : ByteArray} {by' by2 : ByteArray} {rf rf2 : Int} {l l2 : TmL} {fs fs2 : TmF} {c c2 : ByteArray} {v v2 : Int}
theorem Tm.cmp_ne {k k2 : Int} (h : Sp.cmpI k k2 ≠ 0) : (Tm.mk k b i f tx by' rf l fs c v).cmp (.mk k2 b2 i2 f2 tx2 by2 rf2 l2 fs2 c2 v2) = Sp.cmpI k k2 := by rw [Tm.cmp, if_pos h]
theorem Tm.cmp_1 : (Tm.mk 1 b i f tx by' rf l fs c v).cmp (.mk 1 b2 i2 f2 tx2 by2 rf2 l2 fs2 c2 v2) = 0 := by simp [Tm.cmp, cmpI_self]
theorem Tm.cmp_2 : (Tm.mk 2 b i f tx by' rf l fs c v).cmp (.mk 2 b2 i2 f2 tx2 by2 rf2 l2 fs2 c2 v2) = Sp.cmpI (Sp.rank b) (Sp.rank b2) := by simp [Tm.cmp, cmpI_self]
theorem Tm.cmp_3 : (Tm.mk 3 b i f tx by' rf l fs c v).cmp (.mk 3 b2 i2 f2 tx2 by2 rf2 l2 fs2 c2 v2) = Sp.cmpI i i2 := by simp [Tm.cmp, cmpI_self]
theorem Tm.cmp_4 : (Tm.mk 4 b i f tx by' rf l fs c v).cmp (.mk 4 b2 i2 f2 tx2 by2 rf2 l2 fs2 c2 v2) = Sp.cmpI (Sp.frank f) (Sp.frank f2) := by simp [Tm.cmp, cmpI_self]
theorem Tm.cmp_5 : (Tm.mk 5 b i f tx by' rf l fs c v).cmp (.mk 5 b2 i2 f2 tx2 by2 rf2 l2 fs2 c2 v2) = Sp.cmpS tx tx2 := by simp [Tm.cmp, cmpI_self]
theorem Tm.cmp_6 : (Tm.mk 6 b i f tx by' rf l fs c v).cmp (.mk 6 b2 i2 f2 tx2 by2 rf2 l2 fs2 c2 v2) = Sp.cmpS by' by2 := by simp [Tm.cmp, cmpI_self]
theorem Tm.cmp_7 : (Tm.mk 7 b i f tx by' rf l fs c v).cmp (.mk 7 b2 i2 f2 tx2 by2 rf2 l2 fs2 c2 v2) = Sp.cmpI rf rf2 := by simp [Tm.cmp, cmpI_self]
theorem Tm.cmp_8 : (Tm.mk 8 b i f tx by' rf l fs c v).cmp (.mk 8 b2 i2 f2 tx2 by2 rf2 l2 fs2 c2 v2) = l.cmp l2 := by simp [Tm.cmp, cmpI_self]
theorem Tm.cmp_9 : (Tm.mk 9 b i f tx by' rf l fs c v).cmp (.mk 9 b2 i2 f2 tx2 by2 rf2 l2 fs2 c2 v2) = fs.cmp fs2 := by simp [Tm.cmp, cmpI_self]
theorem Tm.cmp_10 : (Tm.mk 10 b i f tx by' rf l fs c v).cmp (.mk 10 b2 i2 f2 tx2 by2 rf2 l2 fs2 c2 v2) = (if Sp.cmpS c c2 ≠ 0 then Sp.cmpS c c2 else if Sp.cmpI v v2 ≠ 0 then Sp.cmpI v v2 else fs.cmp fs2) := by simp [Tm.cmp, cmpI_self]
end

/-- a term, a list of terms, fields that can be -/
def Tm.Ok (t : Tm) : Prop := ∃ n p d, (t.wk n p d).e = 0
def TmL.Ok (l : TmL) : Prop := ∃ n p d, (l.wk n p d).e = 0
def TmF.Ok (l : TmF) : Prop := ∃ n p d, (l.wk n p d).e = 0
theorem TmL.Ok.head {t : Tm} {l : TmL} (h : TmL.Ok (.cons t l)) : t.Ok ∧ l.Ok := by
  obtain ⟨n, p, d, h⟩ := h
  rw [TmL.wk] at h
  by_cases e : (t.wk n p d).e ≠ 0
  · rw [if_pos e] at h; exact absurd h e
  · rw [if_neg e] at h; exact ⟨⟨n, p, d, Decidable.not_not.1 e⟩, ⟨_, _, _, h⟩⟩
theorem TmF.Ok.head {m : ByteArray} {t : Tm} {l : TmF} (h : TmF.Ok (.cons m t l)) : t.Ok ∧ l.Ok := by
  obtain ⟨n, p, d, h⟩ := h
  rw [TmF.wk] at h
  by_cases e : (t.wk n p d).e ≠ 0
  · rw [if_pos e] at h; exact absurd h e
  · rw [if_neg e] at h; exact ⟨⟨n, p, d, Decidable.not_not.1 e⟩, ⟨_, _, _, h⟩⟩
theorem Tm.Ok.parts {k : Int} {b : Bool} {i : Int} {f : Nat} {tx : ByteArray} {by' : ByteArray} {rf : Int} {l : TmL} {fs : TmF} {c : ByteArray} {v : Int} (h : Tm.Ok (.mk k b i f tx by' rf l fs c v)) :
    1 ≤ k ∧ k ≤ 10 ∧ (k = 8 → l.Ok) ∧ (k = 9 ∨ k = 10 → fs.Ok) := by
  obtain ⟨n, p, d, h⟩ := h
  rw [Tm.wk] at h
  by_cases e : (Tm.mk k b i f tx by' rf l fs c v).own p n ≠ 0
  · rw [if_pos e] at h; exact absurd h e
  · rw [if_neg e] at h
    have hz := Sp.ent_zero (Tm.own_ent _ _ _ (Decidable.not_not.1 e))
    refine ⟨hz.1, hz.2.1, fun h8 => ?_, fun h9 => ?_⟩
    · rw [if_pos h8] at h; exact ⟨_, _, _, h⟩
    · rw [if_neg (by omega), if_pos h9] at h; exact ⟨_, _, _, h⟩
end Go.Proofs.YtjlhmgopmdcopaaGreat

/- Plain mathematics: a term that can be somewhere has a number of parts and a depth of its own; elsewhere it is wrong only by too many parts or too great a depth. Nothing of the program stands here. -/
namespace Go.Proofs.YtjlhmgopmdcopaaGreat

theorem Sp.ent_or {k p0 n0 : Int} (h : Sp.ent k p0 n0 = 0) (p n : Int) : (p < 16384 ∧ n ≤ 64 ∧ Sp.ent k p n = 0) ∨ ((16384 ≤ p ∨ 64 < n) ∧ Sp.ent k p n = 2) := by
  have := Sp.ent_zero h
  by_cases g : 16384 ≤ p ∨ 64 < n
  · right; refine ⟨g, ?_⟩; unfold Sp.ent; rw [if_neg (by omega), if_neg (by omega), if_pos g]
  · left; refine ⟨by omega, by omega, ?_⟩; unfold Sp.ent; rw [if_neg (by omega), if_neg (by omega), if_neg g]

theorem Tm.own_or {t : Tm} {p0 n0 : Int} (h : t.own p0 n0 = 0) (p n : Int) : (p < 16384 ∧ n ≤ 64 ∧ t.own p n = 0) ∨ ((16384 ≤ p ∨ 64 < n) ∧ t.own p n = 2) := by
  have he := Tm.own_ent _ _ _ h
  cases t with
  | mk k b i f tx by' rf l fs c v =>
    simp only [Tm.kind] at he
    rcases Sp.ent_or he p n with ⟨h1, h2, h3⟩ | ⟨h1, h2⟩
    · left; refine ⟨h1, h2, ?_⟩
      simp only [Tm.own, he, h3] at h ⊢; exact h
    · right; refine ⟨h1, ?_⟩
      simp only [Tm.own, h2]; rw [if_pos (by decide)]

/-- N parts, D deep below the place where it stands -/
def Tm.Fit (t : Tm) (N D : Int) : Prop := 1 ≤ N ∧ 0 ≤ D ∧ ∀ n p d, (p + N ≤ 16384 ∧ n + D ≤ 64 ∧ t.wk n p d = ⟨p + N, max d (n + D), 0⟩) ∨ ((16384 < p + N ∨ 64 < n + D) ∧ (t.wk n p d).e = 2)
def TmL.Fit (l : TmL) (N D : Int) : Prop := 0 ≤ N ∧ -1 ≤ D ∧ ∀ n p d, p ≤ 16384 → n ≤ 65 → n - 1 ≤ d → (p + N ≤ 16384 ∧ n + D ≤ 64 ∧ l.wk n p d = ⟨p + N, max d (n + D), 0⟩) ∨ ((16384 < p + N ∨ 64 < n + D) ∧ (l.wk n p d).e = 2)
def TmF.Fit (l : TmF) (N D : Int) : Prop := 0 ≤ N ∧ -1 ≤ D ∧ ∀ n p d, p ≤ 16384 → n ≤ 65 → n - 1 ≤ d → (p + N ≤ 16384 ∧ n + D ≤ 64 ∧ l.wk n p d = ⟨p + N, max d (n + D), 0⟩) ∨ ((16384 < p + N ∨ 64 < n + D) ∧ (l.wk n p d).e = 2)

theorem Wr.eq {a b : Wr} (h1 : a.p = b.p) (h2 : a.d = b.d) (h3 : a.e = b.e) : a = b := by cases a; cases b; simp_all

mutual
theorem Tm.fit : (t : Tm) → ∀ n0 p0 d0, (t.wk n0 p0 d0).e = 0 → ∃ N D, t.Fit N D
  | .mk k b i f tx by' rf l fs c v, n0, p0, d0, h => by
    rw [Tm.wk] at h
    by_cases h0 : (Tm.mk k b i f tx by' rf l fs c v).own p0 n0 ≠ 0
    · rw [if_pos h0] at h; exact absurd h h0
    rw [if_neg h0] at h
    have h0 := Decidable.not_not.1 h0
    by_cases h8 : k = 8
    · rw [if_pos h8] at h
      obtain ⟨N, D, hN, hD, hF⟩ := TmL.fit l _ _ _ h
      refine ⟨N + 1, D + 1, by omega, by omega, fun n p d => ?_⟩
      rcases Tm.own_or h0 p n with ⟨g1, g2, g3⟩ | ⟨g1, g2⟩
      · rw [Tm.wk, if_neg (by rw [g3]; decide), if_pos h8]
        rcases hF (n + 1) (p + 1) (max d n) (by omega) (by omega) (by omega) with ⟨f1, f2, f3⟩ | ⟨f1, f2⟩
        · left; refine ⟨by omega, by omega, ?_⟩; rw [f3]; refine Wr.eq ?_ ?_ rfl <;> simp <;> omega
        · right; refine ⟨by omega, f2⟩
      · right; rw [Tm.wk, if_pos (by rw [g2]; decide)]; exact ⟨by omega, g2⟩
    rw [if_neg h8] at h
    by_cases h9 : k = 9 ∨ k = 10
    · rw [if_pos h9] at h
      obtain ⟨N, D, hN, hD, hF⟩ := TmF.fit fs _ _ _ h
      refine ⟨N + 1, D + 1, by omega, by omega, fun n p d => ?_⟩
      rcases Tm.own_or h0 p n with ⟨g1, g2, g3⟩ | ⟨g1, g2⟩
      · rw [Tm.wk, if_neg (by rw [g3]; decide), if_neg h8, if_pos h9]
        rcases hF (n + 1) (p + 1) (max d n) (by omega) (by omega) (by omega) with ⟨f1, f2, f3⟩ | ⟨f1, f2⟩
        · left; refine ⟨by omega, by omega, ?_⟩; rw [f3]; refine Wr.eq ?_ ?_ rfl <;> simp <;> omega
        · right; refine ⟨by omega, f2⟩
      · right; rw [Tm.wk, if_pos (by rw [g2]; decide)]; exact ⟨by omega, g2⟩
    · refine ⟨1, 0, by omega, by omega, fun n p d => ?_⟩
      rcases Tm.own_or h0 p n with ⟨g1, g2, g3⟩ | ⟨g1, g2⟩
      · rw [Tm.wk, if_neg (by rw [g3]; decide), if_neg h8, if_neg h9]
        left; exact ⟨by omega, by omega, Wr.eq rfl (by simp) rfl⟩
      · right; rw [Tm.wk, if_pos (by rw [g2]; decide)]; exact ⟨by omega, g2⟩
theorem TmL.fit : (l : TmL) → ∀ n0 p0 d0, (l.wk n0 p0 d0).e = 0 → ∃ N D, l.Fit N D
  | .nil, n0, p0, d0, h => ⟨0, -1, by omega, by omega, fun n p d h1 h2 h3 => .inl ⟨by omega, by omega, by rw [TmL.wk]; exact Wr.eq (by simp) (by simp; omega) rfl⟩⟩
  | .cons t l, n0, p0, d0, h => by
    rw [TmL.wk] at h
    by_cases he : (t.wk n0 p0 d0).e ≠ 0
    · rw [if_pos he] at h; exact absurd h he
    rw [if_neg he] at h
    obtain ⟨N1, D1, a1, a2, hT⟩ := Tm.fit t _ _ _ (Decidable.not_not.1 he)
    obtain ⟨N2, D2, b1, b2, hL⟩ := TmL.fit l _ _ _ h
    refine ⟨N1 + N2, max D1 D2, by omega, by omega, fun n p d g1 g2 g3 => ?_⟩
    rw [TmL.wk]
    rcases hT n p d with ⟨e1, e2, e3⟩ | ⟨e1, e2⟩
    · rw [e3, if_neg (by simp)]
      rcases hL n (p + N1) (max d (n + D1)) (by omega) (by omega) (by omega) with ⟨f1, f2, f3⟩ | ⟨f1, f2⟩
      · left; refine ⟨by omega, by omega, ?_⟩; simp only [f3]; refine Wr.eq ?_ ?_ rfl <;> simp <;> omega
      · right; exact ⟨by omega, f2⟩
    · right; rw [if_pos (by rw [e2]; decide)]; exact ⟨by omega, e2⟩
theorem TmF.fit : (l : TmF) → ∀ n0 p0 d0, (l.wk n0 p0 d0).e = 0 → ∃ N D, l.Fit N D
  | .nil, n0, p0, d0, h => ⟨0, -1, by omega, by omega, fun n p d h1 h2 h3 => .inl ⟨by omega, by omega, by rw [TmF.wk]; exact Wr.eq (by simp) (by simp; omega) rfl⟩⟩
  | .cons m t l, n0, p0, d0, h => by
    rw [TmF.wk] at h
    by_cases he : (t.wk n0 p0 d0).e ≠ 0
    · rw [if_pos he] at h; exact absurd h he
    rw [if_neg he] at h
    obtain ⟨N1, D1, a1, a2, hT⟩ := Tm.fit t _ _ _ (Decidable.not_not.1 he)
    obtain ⟨N2, D2, b1, b2, hL⟩ := TmF.fit l _ _ _ h
    refine ⟨N1 + N2, max D1 D2, by omega, by omega, fun n p d g1 g2 g3 => ?_⟩
    rw [TmF.wk]
    rcases hT n p d with ⟨e1, e2, e3⟩ | ⟨e1, e2⟩
    · rw [e3, if_neg (by simp)]
      rcases hL n (p + N1) (max d (n + D1)) (by omega) (by omega) (by omega) with ⟨f1, f2, f3⟩ | ⟨f1, f2⟩
      · left; refine ⟨by omega, by omega, ?_⟩; simp only [f3]; refine Wr.eq ?_ ?_ rfl <;> simp <;> omega
      · right; exact ⟨by omega, f2⟩
    · right; rw [if_pos (by rw [e2]; decide)]; exact ⟨by omega, e2⟩
end
end Go.Proofs.YtjlhmgopmdcopaaGreat

/- Plain mathematics: the order of terms is turned about by turning about, lies in -1, 0, 1, and goes through a third. -/
namespace Go.Proofs.YtjlhmgopmdcopaaGreat

def Tri (ab bc ac : Int) : Prop := (ab = 0 → bc = 0 → ac = 0) ∧ (ab < 0 → bc ≤ 0 → ac < 0) ∧ (ab ≤ 0 → bc < 0 → ac < 0)
def Lex (x y : Int) : Int := if x ≠ 0 then x else y
theorem lex_lt {x y : Int} : Lex x y < 0 ↔ x < 0 ∨ (x = 0 ∧ y < 0) := by unfold Lex; split <;> omega
theorem lex_le {x y : Int} : Lex x y ≤ 0 ↔ x < 0 ∨ (x = 0 ∧ y ≤ 0) := by unfold Lex; split <;> omega
theorem lex_zero {x y : Int} : Lex x y = 0 ↔ x = 0 ∧ y = 0 := by unfold Lex; split <;> omega
theorem tri_lex {x1 x2 x3 y1 y2 y3 : Int} (hx : Tri x1 x2 x3) (hy : Tri y1 y2 y3) : Tri (Lex x1 y1) (Lex x2 y2) (Lex x3 y3) := by
  obtain ⟨a1, a2, a3⟩ := hx
  obtain ⟨b1, b2, b3⟩ := hy
  refine ⟨fun h g => ?_, fun h g => ?_, fun h g => ?_⟩
  · rw [lex_zero] at *; exact ⟨a1 h.1 g.1, b1 h.2 g.2⟩
  · rw [lex_lt] at h ⊢; rw [lex_le] at g
    rcases h with h | ⟨h, h'⟩
    · exact .inl (a2 h (by omega))
    · rcases g with g | ⟨g, g'⟩
      · exact .inl (a3 (by omega) g)
      · exact .inr ⟨a1 h g, b2 h' g'⟩
  · rw [lex_lt] at g ⊢; rw [lex_le] at h
    rcases g with g | ⟨g, g'⟩
    · exact .inl (a3 (by omega) g)
    · rcases h with h | ⟨h, h'⟩
      · exact .inl (a2 h (by omega))
      · exact .inr ⟨a1 h g, b3 h' g'⟩
theorem tri_cmpI (a b c : Int) : Tri (Sp.cmpI a b) (Sp.cmpI b c) (Sp.cmpI a c) := by
  unfold Tri Sp.cmpI
  refine ⟨?_, ?_, ?_⟩ <;> (repeat' split) <;> omega
theorem tri_zero : Tri 0 0 0 := ⟨fun _ _ => rfl, fun h => absurd h (by decide), fun _ h => absurd h (by decide)⟩
theorem neg_cmpI (a b : Int) : Sp.cmpI a b = -Sp.cmpI b a := by unfold Sp.cmpI; (repeat' split) <;> omega
theorem vals_cmpI (a b : Int) : -1 ≤ Sp.cmpI a b ∧ Sp.cmpI a b ≤ 1 := by unfold Sp.cmpI; (repeat' split) <;> omega
theorem neg_lex {x x' y y' : Int} (h : x = -x') (g : y = -y') : Lex x y = -Lex x' y' := by unfold Lex; (repeat' split) <;> omega
theorem vals_lex {x y : Int} (h : -1 ≤ x ∧ x ≤ 1) (g : -1 ≤ y ∧ y ≤ 1) : -1 ≤ Lex x y ∧ Lex x y ≤ 1 := by unfold Lex; split <;> omega

theorem cb_cons (x y : UInt8) (a b : List UInt8) : Lib.compareBytes (x :: a) (y :: b) = Lex (Sp.cmpI x.toNat y.toNat) (Lib.compareBytes a b) := by
  simp only [Lib.compareBytes, Lex, Sp.cmpI, UInt8.lt_iff_toNat_lt]
  by_cases h1 : x.toNat < y.toNat
  · simp [h1]
  · by_cases h2 : y.toNat < x.toNat
    · simp [h1, h2]
    · simp [h1, h2]
theorem tri_cb : ∀ (a b c : List UInt8), Tri (Lib.compareBytes a b) (Lib.compareBytes b c) (Lib.compareBytes a c)
  | [], [], [] => tri_zero
  | [], [], _ :: _ => by simp [Lib.compareBytes, Tri]
  | [], _ :: _, [] => by simp [Lib.compareBytes, Tri]
  | [], _ :: _, _ :: _ => by simp [Lib.compareBytes, Tri]
  | _ :: _, [], [] => by simp [Lib.compareBytes, Tri]
  | _ :: _, [], _ :: _ => by simp [Lib.compareBytes, Tri]
  | x :: a, y :: b, [] => by simp [Lib.compareBytes, Tri]
  | x :: a, y :: b, z :: c => by
    rw [cb_cons, cb_cons, cb_cons]
    exact tri_lex (tri_cmpI _ _ _) (tri_cb a b c)
theorem neg_cb : ∀ (a b : List UInt8), Lib.compareBytes a b = -Lib.compareBytes b a
  | [], [] => by simp [Lib.compareBytes]
  | [], _ :: _ => by simp [Lib.compareBytes]
  | _ :: _, [] => by simp [Lib.compareBytes]
  | x :: a, y :: b => by rw [cb_cons, cb_cons]; exact neg_lex (neg_cmpI _ _) (neg_cb a b)
theorem vals_cb (a b : List UInt8) : -1 ≤ Lib.compareBytes a b ∧ Lib.compareBytes a b ≤ 1 := by
  rcases cmp_vals a b with h | h | h <;> omega

/-- the order of terms as one lexicographic row -/
def Tm.tail : Tm → Tm → Int
  | .mk k b i f tx by' rf l fs c v, .mk _ b2 i2 f2 tx2 by2 rf2 l2 fs2 c2 v2 =>
    if k = 2 then Sp.cmpI (Sp.rank b) (Sp.rank b2)
    else if k = 3 then Sp.cmpI i i2
    else if k = 4 then Sp.cmpI (Sp.frank f) (Sp.frank f2)
    else if k = 5 then Sp.cmpS tx tx2
    else if k = 6 then Sp.cmpS by' by2
    else if k = 7 then Sp.cmpI rf rf2
    else if k = 8 then l.cmp l2
    else if k = 9 then fs.cmp fs2
    else if k = 10 then Lex (Sp.cmpS c c2) (Lex (Sp.cmpI v v2) (fs.cmp fs2))
    else 0
theorem Tm.cmp_lex (s t : Tm) : s.cmp t = Lex (Sp.cmpI s.kind t.kind) (s.tail t) := by
  cases s; cases t; rw [Tm.cmp]; rfl
theorem TmL.cmp_lex (s t : Tm) (l r : TmL) : TmL.cmp (.cons s l) (.cons t r) = Lex (s.cmp t) (l.cmp r) := by rw [TmL.cmp]; rfl
theorem TmF.cmp_lex (n m : ByteArray) (s t : Tm) (l r : TmF) : TmF.cmp (.cons n s l) (.cons m t r) = Lex (Sp.cmpS n m) (Lex (s.cmp t) (l.cmp r)) := by rw [TmF.cmp]; rfl


mutual
theorem Tm.neg : (s t : Tm) → s.cmp t = -t.cmp s ∧ -1 ≤ s.cmp t ∧ s.cmp t ≤ 1
  | .mk k b i f tx by' rf l fs c v, .mk k2 b2 i2 f2 tx2 by2 rf2 l2 fs2 c2 v2 => by
    rw [Tm.cmp_lex, Tm.cmp_lex]
    by_cases hk : Sp.cmpI k k2 = 0
    · obtain rfl := cmpI_zero hk
      have key : Tm.tail (.mk k b i f tx by' rf l fs c v) (.mk k b2 i2 f2 tx2 by2 rf2 l2 fs2 c2 v2) = -Tm.tail (.mk k b2 i2 f2 tx2 by2 rf2 l2 fs2 c2 v2) (.mk k b i f tx by' rf l fs c v) ∧ -1 ≤ Tm.tail (.mk k b i f tx by' rf l fs c v) (.mk k b2 i2 f2 tx2 by2 rf2 l2 fs2 c2 v2) ∧ Tm.tail (.mk k b i f tx by' rf l fs c v) (.mk k b2 i2 f2 tx2 by2 rf2 l2 fs2 c2 v2) ≤ 1 := by
        simp only [Tm.tail]
        by_cases k2 : k = 2
        · simp only [if_pos k2]; exact ⟨neg_cmpI _ _, vals_cmpI _ _⟩
        simp only [if_neg k2]
        by_cases k3 : k = 3
        · simp only [if_pos k3]; exact ⟨neg_cmpI _ _, vals_cmpI _ _⟩
        simp only [if_neg k3]
        by_cases k4 : k = 4
        · simp only [if_pos k4]; exact ⟨neg_cmpI _ _, vals_cmpI _ _⟩
        simp only [if_neg k4]
        by_cases k5 : k = 5
        · simp only [if_pos k5]; exact ⟨neg_cb _ _, vals_cb _ _⟩
        simp only [if_neg k5]
        by_cases k6 : k = 6
        · simp only [if_pos k6]; exact ⟨neg_cb _ _, vals_cb _ _⟩
        simp only [if_neg k6]
        by_cases k7 : k = 7
        · simp only [if_pos k7]; exact ⟨neg_cmpI _ _, vals_cmpI _ _⟩
        simp only [if_neg k7]
        by_cases k8 : k = 8
        · simp only [if_pos k8]; exact TmL.neg l l2
        simp only [if_neg k8]
        by_cases k9 : k = 9
        · simp only [if_pos k9]; exact TmF.neg fs fs2
        simp only [if_neg k9]
        by_cases k10 : k = 10
        · simp only [if_pos k10]
          have hf := TmF.neg fs fs2
          exact ⟨neg_lex (neg_cb _ _) (neg_lex (neg_cmpI _ _) hf.1), vals_lex (vals_cb _ _) (vals_lex (vals_cmpI _ _) hf.2)⟩
        simp only [if_neg k10]
        decide
      exact ⟨neg_lex (neg_cmpI _ _) key.1, vals_lex (vals_cmpI _ _) key.2⟩
    · have hk' : Sp.cmpI k2 k ≠ 0 := by rw [neg_cmpI]; omega
      have e1 : ∀ y, Lex (Sp.cmpI k k2) y = Sp.cmpI k k2 := fun y => by unfold Lex; rw [if_pos hk]
      have e2 : ∀ y, Lex (Sp.cmpI k2 k) y = Sp.cmpI k2 k := fun y => by unfold Lex; rw [if_pos hk']
      simp only [Tm.kind, e1, e2]
      exact ⟨neg_cmpI _ _, vals_cmpI _ _⟩
theorem TmL.neg : (s t : TmL) → s.cmp t = -t.cmp s ∧ -1 ≤ s.cmp t ∧ s.cmp t ≤ 1
  | .nil, .nil => by simp [TmL.cmp]
  | .nil, .cons _ _ => by simp [TmL.cmp]
  | .cons _ _, .nil => by simp [TmL.cmp]
  | .cons s l, .cons t r => by
    rw [TmL.cmp_lex, TmL.cmp_lex]
    have h1 := Tm.neg s t
    have h2 := TmL.neg l r
    exact ⟨neg_lex h1.1 h2.1, vals_lex h1.2 h2.2⟩
theorem TmF.neg : (s t : TmF) → s.cmp t = -t.cmp s ∧ -1 ≤ s.cmp t ∧ s.cmp t ≤ 1
  | .nil, .nil => by simp [TmF.cmp]
  | .nil, .cons _ _ _ => by simp [TmF.cmp]
  | .cons _ _ _, .nil => by simp [TmF.cmp]
  | .cons n s l, .cons m t r => by
    rw [TmF.cmp_lex, TmF.cmp_lex]
    have h1 := Tm.neg s t
    have h2 := TmF.neg l r
    exact ⟨neg_lex (neg_cb _ _) (neg_lex h1.1 h2.1), vals_lex (vals_cb _ _) (vals_lex h1.2 h2.2)⟩
end
end Go.Proofs.YtjlhmgopmdcopaaGreat


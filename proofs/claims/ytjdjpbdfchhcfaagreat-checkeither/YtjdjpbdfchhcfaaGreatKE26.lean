/- Plain mathematics: how many parts a term has; which terms are of a type, and where it shows that one is not. -/
import Derived.Test.YtjdjpbdfchhcfaaGreatKE25
import Derived.Test.YtjdjpbdfchhcfaaGreatKE18
import Derived.Test.YtjdjpbdfchhcfaaGreatKE1
import Derived.Lib.Bytealg
import Derived.Test.YtjdjpbdfchhcfaaGreatKE8
import Derived.Test.YtjdjpbdfchhcfaaGreatKE2
namespace Go.Proofs.YtjdjpbdfchhcfaaGreat
open Go.RowKit

mutual
def Tm.pn : Tm → Int | .mk k _ _ _ _ _ _ l fs _ _ => 1 + (if k = 8 then l.pn else if k = 9 ∨ k = 10 then fs.pn else 0)
def TmL.pn : TmL → Int | .nil => 0 | .cons t l => t.pn + l.pn
def TmF.pn : TmF → Int | .nil => 0 | .cons _ t l => t.pn + l.pn
end
def TmL.gd : TmL → Prop | .nil => True | .cons t l => t.all.e = 0 ∧ l.gd
def TmF.gd : TmF → Prop | .nil => True | .cons _ t l => t.all.e = 0 ∧ l.gd
theorem Tm.good_of {t : Tm} {n p d : Int} (h : (t.wk n p d).e = 0) (hn : 1 ≤ n) (hp : 0 ≤ p) : t.all.e = 0 := by
  obtain ⟨N, D, h1, h2, hF⟩ := t.fit n p d h
  rcases hF n p d with ⟨a1, a2, a3⟩ | ⟨_, a2⟩
  · rcases hF 1 0 0 with ⟨_, _, b3⟩ | ⟨b1, _⟩
    · unfold Tm.all; rw [b3]
    · omega
  · rw [h] at a2; cases a2
mutual
theorem Tm.wk_pn : (t : Tm) → ∀ n p d, (t.wk n p d).e = 0 → (t.wk n p d).p = p + t.pn
  | .mk k b i f tx by' rf l fs c v, n, p, d, h => by
    rw [Tm.wk] at h ⊢
    by_cases h0 : (Tm.mk k b i f tx by' rf l fs c v).own p n ≠ 0
    · rw [if_pos h0] at h; exact absurd h h0
    rw [if_neg h0] at h ⊢
    rw [Tm.pn]
    by_cases h8 : k = 8
    · rw [if_pos h8] at h ⊢; rw [if_pos h8, TmL.wk_pn l _ _ _ h]; omega
    rw [if_neg h8] at h ⊢
    by_cases h9 : k = 9 ∨ k = 10
    · rw [if_pos h9] at h ⊢; rw [if_neg h8, if_pos h9, TmF.wk_pn fs _ _ _ h]; omega
    rw [if_neg h9, if_neg h8, if_neg h9]; simp
theorem TmL.wk_pn : (l : TmL) → ∀ n p d, (l.wk n p d).e = 0 → (l.wk n p d).p = p + l.pn
  | .nil, n, p, d, h => by simp [TmL.wk, TmL.pn]
  | .cons t l, n, p, d, h => by
    rw [TmL.wk] at h ⊢
    by_cases he : (t.wk n p d).e ≠ 0
    · rw [if_pos he] at h; exact absurd h he
    rw [if_neg he] at h ⊢
    rw [TmL.wk_pn l _ _ _ h, Tm.wk_pn t _ _ _ (Decidable.not_not.1 he), TmL.pn]; omega
theorem TmF.wk_pn : (l : TmF) → ∀ n p d, (l.wk n p d).e = 0 → (l.wk n p d).p = p + l.pn
  | .nil, n, p, d, h => by simp [TmF.wk, TmF.pn]
  | .cons m t l, n, p, d, h => by
    rw [TmF.wk] at h ⊢
    by_cases he : (t.wk n p d).e ≠ 0
    · rw [if_pos he] at h; exact absurd h he
    rw [if_neg he] at h ⊢
    rw [TmF.wk_pn l _ _ _ h, Tm.wk_pn t _ _ _ (Decidable.not_not.1 he), TmF.pn]; omega
end
mutual
theorem Tm.pn_pos : (t : Tm) → 1 ≤ t.pn
  | .mk k b i f tx by' rf l fs c v => by
    have h1 := TmL.pn_pos l; have h2 := TmF.pn_pos fs
    rw [Tm.pn]; split
    · omega
    · split <;> omega
theorem TmL.pn_pos : (l : TmL) → 0 ≤ l.pn
  | .nil => by simp [TmL.pn]
  | .cons t l => by have h1 := Tm.pn_pos t; have h2 := TmL.pn_pos l; rw [TmL.pn]; omega
theorem TmF.pn_pos : (l : TmF) → 0 ≤ l.pn
  | .nil => by simp [TmF.pn]
  | .cons m t l => by have h1 := Tm.pn_pos t; have h2 := TmF.pn_pos l; rw [TmF.pn]; omega
end
theorem Tm.good_pn {t : Tm} (h : t.all.e = 0) : t.szN = t.pn ∧ t.pn ≤ 16384 := by
  have h1 := t.wk_pn 1 0 0 h
  obtain ⟨N, D, h2, h3, hF⟩ := t.fit 1 0 0 h
  unfold Tm.szN
  rw [if_neg (by rw [h]; decide)]
  have h4 : t.all.p = t.pn := by have : t.all.p = 0 + t.pn := h1; omega
  refine ⟨h4, ?_⟩
  rcases hF 1 0 0 with ⟨a1, _, a3⟩ | ⟨_, a2⟩
  · have : t.all.p = 0 + N := by show (t.wk 1 0 0).p = _; rw [a3]
    omega
  · have h5 : (t.wk 1 0 0).e = 0 := h
    rw [h5] at a2; cases a2
theorem TmL.gd_of : (l : TmL) → ∀ n p d, (l.wk n p d).e = 0 → 1 ≤ n → 0 ≤ p → l.gd
  | .nil, n, p, d, h, _, _ => trivial
  | .cons t l, n, p, d, h, hn, hp => by
    rw [TmL.wk] at h
    by_cases he : (t.wk n p d).e ≠ 0
    · rw [if_pos he] at h; exact absurd h he
    rw [if_neg he] at h
    have he := Decidable.not_not.1 he
    have h1 := t.wk_pn _ _ _ he
    have h2 := t.pn_pos
    exact ⟨Tm.good_of he hn hp, TmL.gd_of l _ _ _ h hn (by omega)⟩
theorem TmF.gd_of : (l : TmF) → ∀ n p d, (l.wk n p d).e = 0 → 1 ≤ n → 0 ≤ p → l.gd
  | .nil, n, p, d, h, _, _ => trivial
  | .cons m t l, n, p, d, h, hn, hp => by
    rw [TmF.wk] at h
    by_cases he : (t.wk n p d).e ≠ 0
    · rw [if_pos he] at h; exact absurd h he
    rw [if_neg he] at h
    have he := Decidable.not_not.1 he
    have h1 := t.wk_pn _ _ _ he
    have h2 := t.pn_pos
    exact ⟨Tm.good_of he hn hp, TmF.gd_of l _ _ _ h hn (by omega)⟩
theorem Tm.good_parts {k : Int} {b : Bool} {i : Int} {f : Nat} {tx by' : ByteArray} {rf : Int} {l : TmL} {fs : TmF} {c : ByteArray} {v : Int} (h : (Tm.mk k b i f tx by' rf l fs c v).all.e = 0) :
    (k = 8 → l.gd ∧ l.pn < 16384) ∧ (k = 9 ∨ k = 10 → fs.gd ∧ fs.pn < 16384) := by
  have hp := (Tm.good_pn h).2
  rw [Tm.pn] at hp
  unfold Tm.all at h
  rw [Tm.wk] at h
  by_cases h0 : (Tm.mk k b i f tx by' rf l fs c v).own 0 1 ≠ 0
  · rw [if_pos h0] at h; exact absurd h h0
  rw [if_neg h0] at h
  refine ⟨fun h8 => ?_, fun h9 => ?_⟩
  · rw [if_pos h8] at h hp; exact ⟨TmL.gd_of l _ _ _ h (by decide) (by decide), by omega⟩
  · have h8 : k ≠ 8 := by omega
    rw [if_neg h8, if_pos h9] at h hp; exact ⟨TmF.gd_of fs _ _ _ h (by decide) (by decide), by omega⟩

def Tm.knd : Tm → Int | .mk k _ _ _ _ _ _ _ _ _ _ => k
def Tm.lst : Tm → TmL | .mk _ _ _ _ _ _ _ l _ _ _ => l
def Tm.flds : Tm → TmF | .mk _ _ _ _ _ _ _ _ fs _ _ => fs
def Tm.cls : Tm → ByteArray | .mk _ _ _ _ _ _ _ _ _ c _ => c
def Sp.hasL (f : Tm → Bool × Int) : TmL → Int → Bool × Int
  | .nil, _ => (true, 0)
  | .cons x l, next => if (f x).1 then Sp.hasL f l (next + x.pn) else (false, next + (f x).2)
def Sp.hasD (op : Bool) : Nat → List ByteArray → List Bool → List (Tm → Bool × Int) → TmF → Int → Bool × Int
  | 0, _, _, _, _, _ => (true, 0)
  | _ + 1, [], _, _, .nil, _ => (true, 0)
  | N + 1, [], _, _, .cons _ x l, next => if op then Sp.hasD op N [] [] [] l (next + x.pn) else (false, 0)
  | N + 1, _ :: ns, k :: ks, _ :: fs, .nil, next => if k then Sp.hasD op N ns ks fs .nil next else (false, 0)
  | N + 1, n :: ns, k :: ks, f :: fs, .cons m x l, next =>
    if Sp.cmpS n m < 0 then (if k then Sp.hasD op N ns ks fs (.cons m x l) next else (false, 0))
    else if 0 < Sp.cmpS n m then (if op then Sp.hasD op N (n :: ns) (k :: ks) (f :: fs) l (next + x.pn) else (false, 0))
    else if (f x).1 then Sp.hasD op N ns ks fs l (next + x.pn) else (false, next + (f x).2)
  | _ + 1, _ :: _, _, _, _, _ => (true, 0)
mutual
def Ty.has : Ty → Tm → Bool × Int
  | .mk k o t p n l op c, v =>
    if k = 1 then (true, 0)
    else if k = 3 then (decide (v.knd = o), 0)
    else if k = 4 then (v.sameB t, 0)
    else if k = 5 then (if v.knd = 8 then p.hasHead v.lst else (false, 0))
    else if k = 6 then (if v.knd = 9 then Sp.hasD op (n.length + v.flds.len) n l p.fns v.flds 1 else (false, 0))
    else if k = 7 then (p.hasAny v, 0)
    else if k = 8 then (decide (v.knd = 10) && decide (Sp.cmpS v.cls c = 0), 0)
    else (false, 0)
def TyL.hasHead : TyL → TmL → Bool × Int
  | .nil, _ => (true, 0)
  | .cons t _, l => Sp.hasL t.has l 1
def TyL.hasAny : TyL → Tm → Bool
  | .nil, _ => false
  | .cons t l, v => (t.has v).1 || l.hasAny v
def TyL.fns : TyL → List (Tm → Bool × Int)
  | .nil => []
  | .cons t l => t.has :: l.fns
end
end Go.Proofs.YtjdjpbdfchhcfaaGreat

/- Plain mathematics: how many parts a list of two has, and how deep it is. Nothing of the program stands here. -/
namespace Go.Proofs.YtjdjpbdfchhcfaaGreat

def tt : Tm := .mk 2 true 0 0 ByteArray.empty ByteArray.empty 0 .nil .nil ByteArray.empty 0
end Go.Proofs.YtjdjpbdfchhcfaaGreat

/- strings.Compare, check.withField. -/
namespace Go.Proofs.YtjdjpbdfchhcfaaGreat
open Go.RowKit

theorem strCmp_run (a b : ByteArray) (w : World) : (callFunc 128 #[.string a, .string b]).run Tryz.prog w = .ok (.value (.int .i64 (Sp.cmpS a b))) w := by
  rw [run_callFunc_extern Tryz.func128 (by kernel_rfl) (by kernel_rfl) (by kernel_rfl) (e := Extern.BytealgCompare.compare) (by kernel_rfl), Lib.run_compareString]; rfl
set_option maxRecDepth 100000 in
set_option maxHeartbeats 400000 in
theorem strCompare_any (a b : ByteArray) (w : World) : Calls Tryz.prog 91 #[.string a, .string b] w fun e w' => e = .returned (.int .i64 (Sp.cmpS a b)) ∧ w = w' := by
  have hr := strCmp_run a b
  go_enter Tryz.func91, Tryz.ntmps91
  go_wp2
  go_ret
  exact ⟨rfl, rfl⟩
set_option maxRecDepth 100000 in
set_option maxHeartbeats 400000 in
theorem withField_any (a b : ByteArray) (x : Value) (w : World) : Calls Tryz.prog 103 #[.string a, .agg #[.string b, x]] w fun e w' => e = .returned (.int .i64 (Sp.cmpS a b)) ∧ Below w.heap.size w w' := by
  have HC : Hid (∀ W, Calls Tryz.prog 91 #[.string a, .string b] W fun e w' => e = .returned (.int .i64 (Sp.cmpS a b)) ∧ W = w') := fun W => strCompare_any a b W
  have HB : Hid (Below w.heap.size w (w.alloc (.cells #[.string b, x] 126))) := (Below.refl _ _).alloc (Nat.le_refl _) _
  go_enter Tryz.func103, Tryz.ntmps103
  go_wp2_with fail
  refine (HC.out _).mono ?_
  rintro e w1 ⟨rfl, rfl⟩
  go_wp2_with fail
  go_ret
  exact ⟨rfl, HB.out⟩
end Go.Proofs.YtjdjpbdfchhcfaaGreat

/- tenonref07.parts. -/
namespace Go.Proofs.YtjdjpbdfchhcfaaGreat
open Go.RowKit

theorem TmF.vals_pn : (l : TmF) → l.vals.pn = l.pn
  | .nil => rfl
  | .cons n t l => by rw [TmF.vals, TmL.pn, TmF.pn, TmF.vals_pn l]
end Go.Proofs.YtjdjpbdfchhcfaaGreat

/- Lists and dicts that stand in the text: a row of their own each. -/
namespace Go.Proofs.YtjdjpbdfchhcfaaGreat
open Go.RowKit

end Go.Proofs.YtjdjpbdfchhcfaaGreat


/- Plain mathematics: a type holds of values that are the same alike; which types are plainly of others; that this is sound, and that each type is plainly of itself. -/
import Derived.Test.YtkngncimcbjicaaP27
import Derived.Test.YtkngncimcbjicaaP12
namespace Go.Proofs.Ytkngncimcbjicaa

theorem cmpS_self (a : ByteArray) : Sp.cmpS a a = 0 := (cmp_eq_zero _ _).2 rfl
def Sp.Cg (f : Tm → Bool × Int) : Prop := ∀ x y : Tm, x.all.e = 0 → y.all.e = 0 → x.cmp y = 0 → (f x).1 = (f y).1

/-- names that rise -/
def Sp.up (l : List ByteArray) : Prop := l.Pairwise fun a b => Sp.cmpS a b < 0
end Go.Proofs.Ytkngncimcbjicaa

/- Plain mathematics: a dict's fields against a dict's type, told without a walk. -/
namespace Go.Proofs.Ytkngncimcbjicaa

def TmF.pairs : TmF → List (ByteArray × Tm) | .nil => [] | .cons n t l => (n, t) :: l.pairs
/-- names, whether they may lack, and what is asked of each -/
abbrev Sp.Zs (α : Type) := List (ByteArray × Bool × α)
def Sp.nms {α : Type} (Z : Sp.Zs α) : List ByteArray := Z.map (·.1)
def Sp.DD (op : Bool) (Z : Sp.Zs (Tm → Bool × Int)) (F : List (ByteArray × Tm)) : Prop :=
  (∀ z ∈ Z, (∃ x, (z.1, x) ∈ F ∧ (z.2.2 x).1 = true) ∨ (z.2.1 = true ∧ ∀ x, (z.1, x) ∉ F)) ∧ (op = true ∨ ∀ y ∈ F, ∃ z ∈ Z, z.1 = y.1)
def Sp.z3 {α : Type} : List ByteArray → List Bool → List α → Sp.Zs α
  | n :: ns, k :: ks, f :: fs => (n, k, f) :: Sp.z3 ns ks fs
  | _, _, _ => []
end Go.Proofs.Ytkngncimcbjicaa

/- Plain mathematics: which types are plainly of others; that this is sound, and that each type is plainly of itself. -/
namespace Go.Proofs.Ytkngncimcbjicaa

def Ty.of : Ty → Int | .mk _ o _ _ _ _ _ _ => o
def Ty.names : Ty → List ByteArray | .mk _ _ _ _ n _ _ _ => n
def Ty.lacks : Ty → List Bool | .mk _ _ _ _ _ l _ _ => l
def Ty.opn : Ty → Bool | .mk _ _ _ _ _ _ op _ => op
def Ty.cls : Ty → ByteArray | .mk _ _ _ _ _ _ _ c => c
def TyL.toL : TyL → List Ty | .nil => [] | .cons t l => t :: l.toL
mutual
/-- asked of a type, or of those of a union, through the unions in it, till one is found; any type is -/
def Ty.reach (f : Ty → Bool) : Ty → Bool
  | .mk k o t p n l op c => if k = 1 then true else if k = 7 then p.reachAny f else f (.mk k o t p n l op c)
def TyL.reachAny (f : Ty → Bool) : TyL → Bool
  | .nil => false
  | .cons t l => t.reach f || l.reachAny f
end
/-- two dicts' types, name by name as they rise, by at most so many steps -/
def Sp.subD (aop bop : Bool) : Nat → Sp.Zs (Ty → Bool) → Sp.Zs Ty → Bool
  | 0, _, _ => true
  | _ + 1, [], [] => true
  | N + 1, [], (_, k, _) :: b => (k && !aop) && Sp.subD aop bop N [] b
  | N + 1, _ :: a, [] => bop && Sp.subD aop bop N a []
  | N + 1, (n, k, f) :: a, (m, k2, q) :: b =>
    if Sp.cmpS n m < 0 then bop && Sp.subD aop bop N a ((m, k2, q) :: b)
    else if 0 < Sp.cmpS n m then (k2 && !aop) && Sp.subD aop bop N ((n, k, f) :: a) b
    else ((k2 || !k) && f q) && Sp.subD aop bop N a b
mutual
/-- whether a type is plainly of another one -/
def Ty.sub : Ty → Ty → Bool
  | .mk k o t p n l op c, b =>
    if b.kind = 1 ∨ k = 2 then true
    else if k = 7 then p.subAll b
    else b.reach fun q =>
      if k = 4 then (q.has t).1
      else if k = 3 then decide (q.kind = 3 ∧ q.of = o)
      else if k = 5 then decide (q.kind = 3 ∧ q.of = 8) || (decide (q.kind = 5) && p.subHead q.parts)
      else if k = 6 then decide (q.kind = 3 ∧ q.of = 9) || (decide (q.kind = 6) && ((!op || q.opn) && Sp.subD op q.opn (n.length + q.names.length) (Sp.z3 n l p.subFns) (Sp.z3 q.names q.lacks q.parts.toL)))
      else if k = 8 then decide (q.kind = 3 ∧ q.of = 10) || decide (q.kind = 8 ∧ Sp.cmpS c q.cls = 0)
      else false
def TyL.subAll : TyL → Ty → Bool
  | .nil, _ => true
  | .cons t l, b => t.sub b && l.subAll b
def TyL.subHead : TyL → TyL → Bool
  | .cons t _, .cons u _ => t.sub u
  | _, _ => true
def TyL.subFns : TyL → List (Ty → Bool)
  | .nil => []
  | .cons t l => t.sub :: l.subFns
end
/-- what a type holds of, one that it is plainly of holds of -/
def Ty.Snd (a : Ty) : Prop := ∀ b : Ty, a.ok = true → b.ok = true → a.sub b = true → ∀ v : Tm, v.all.e = 0 → (a.has v).1 = true → (b.has v).1 = true
end Go.Proofs.Ytkngncimcbjicaa


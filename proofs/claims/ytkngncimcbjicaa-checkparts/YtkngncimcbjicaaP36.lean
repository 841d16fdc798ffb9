/- check.fieldsPlainlyOf: what it is asked and answers. -/
import Derived.Test.YtkngncimcbjicaaP34
import Derived.Test.YtkngncimcbjicaaP35
import Derived.Test.YtkngncimcbjicaaP31
namespace Go.Proofs.Ytkngncimcbjicaa
open Go.RowKit Go.Shelf

/-- one step of two dicts' types, side by side -/
def Sp.stepS (aop bop : Bool) (A : Sp.Zs (Ty → Bool)) (B : Sp.Zs Ty) (x : Int × Int) : Bool :=
  if x.1 < 0 then (match B[x.2.toNat]? with | some z => z.2.1 && !aop | none => true)
  else if x.2 < 0 then bop
  else match A[x.1.toNat]?, B[x.2.toNat]? with
    | some y, some z => (z.2.1 || !y.2.1) && y.2.2 z.2.2
    | _, _ => true
/-- what a dict's shape holds -/
structure DSh (w : World) (B b : Nat) (P : TyL) (NS : List ByteArray) (KS : List Bool) (op : Bool) (ap an ak : Option Addr) (cp cn ck : Nat) : Prop where
  hb : b < B
  c4 : w.cell? ⟨b, 4, none⟩ = some (.slice ap P.len cp)
  c5 : w.cell? ⟨b, 5, none⟩ = some (.slice an NS.length cn)
  c6 : w.cell? ⟨b, 6, none⟩ = some (.slice ak KS.length ck)
  c7 : w.cell? ⟨b, 7, none⟩ = some (.bool op)
  hNS : NamesAt w (Lo B) an NS
  hKS : BoolsAt w (Lo B) ak KS
  hp : P.Sh w (Lo B) ap 0
  hok : P.ok = true
  l1 : NS.length = P.len
  l2 : KS.length = NS.length
  l3 : NS.length ≤ 4096
def SubC (N : Nat) : Prop := ∀ (a b : Ty), a.sz + b.sz ≤ N → a.ok = true → b.ok = true → ∀ (ba bb B : Nat) (w : World), a.Sh w (Lo B) ba → b.Sh w (Lo B) bb → B ≤ w.heap.size →
  Calls Try.prog 26 #[.pointer (some ⟨ba, 0, none⟩), .pointer (some ⟨bb, 0, none⟩)] w fun e w' => e = .returned (.bool (a.sub b)) ∧ Below w.heap.size w w'
/-- what it answers -/
def Sp.fpl (P : TyL) (NA : List ByteArray) (KA : List Bool) (aop : Bool) (Q : TyL) (NB : List ByteArray) (KB : List Bool) (bop : Bool) : Bool := (!aop || bop) && (Sp.mrg (NA.length + NB.length) 0 0 NA NB).all (Sp.stepS aop bop (Sp.z3 NA KA P.subFns) (Sp.z3 NB KB Q.toL))
end Go.Proofs.Ytkngncimcbjicaa

/- check.fieldsPlainlyOf: two dicts' types. -/
namespace Go.Proofs.Ytkngncimcbjicaa
open Go.RowKit Go.Shelf

end Go.Proofs.Ytkngncimcbjicaa


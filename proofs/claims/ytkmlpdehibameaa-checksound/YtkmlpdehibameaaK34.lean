/- check.fieldsPlainlyOf: what it is asked and answers. -/
import Derived.Test.YtkmlpdehibameaaK31
import Derived.Test.YtkmlpdehibameaaK32
import Derived.Test.YtkmlpdehibameaaK33
namespace Go.Proofs.Ytkmlpdehibameaa
open Go.RowKit Go.Shelf

/-- one step of two dicts' types, side by side -/
def Sp.stepS (aop bop : Bool) (A : Sp.Zs (Ty → Bool)) (B : Sp.Zs Ty) (x : Int × Int) : Bool :=
  if x.1 < 0 then (match B[x.2.toNat]? with | some z => z.2.1 && !aop | none => true)
  else if x.2 < 0 then bop
  else match A[x.1.toNat]?, B[x.2.toNat]? with
    | some y, some z => (z.2.1 || !y.2.1) && y.2.2 z.2.2
    | _, _ => true
theorem Sp.subD_mrg (aop bop : Bool) (A : Sp.Zs (Ty → Bool)) (B : Sp.Zs Ty) : (N : Nat) → ∀ (i j : Nat) (a : Sp.Zs (Ty → Bool)) (b : Sp.Zs Ty), (∀ k, A[i + k]? = a[k]?) → (∀ k, B[j + k]? = b[k]?) → Sp.subD aop bop N a b = (Sp.mrg N i j (Sp.nms a) (Sp.nms b)).all (Sp.stepS aop bop A B)
  | 0, i, j, a, b, _, _ => by cases a <;> cases b <;> simp [Sp.subD, Sp.mrg]
  | N + 1, i, j, [], [], _, _ => by simp [Sp.subD, Sp.mrg, Sp.nms]
  | N + 1, i, j, [], (m, k, q) :: b, hA, hB => by
    have e1 : Sp.stepS aop bop A B (-1, (j : Int)) = (k && !aop) := by
      have := hB 0
      simp at this
      simp [Sp.stepS, this]
    have ih := Sp.subD_mrg aop bop A B N i (j + 1) [] b hA (fun q => by rw [show j + 1 + q = j + (q + 1) by omega, hB]; rfl)
    simp only [Sp.subD, Sp.nms, List.map_cons, List.map_nil, Sp.mrg, List.all_cons, e1, ih]
  | N + 1, i, j, (n, k, f) :: a, [], hA, hB => by
    have e1 : Sp.stepS aop bop A B ((i : Int), -1) = bop := by
      have n1 : ¬ ((i : Int) < 0) := by omega
      simp only [Sp.stepS, if_neg n1]; rfl
    have ih := Sp.subD_mrg aop bop A B N (i + 1) j a [] (fun q => by rw [show i + 1 + q = i + (q + 1) by omega, hA]; rfl) hB
    simp only [Sp.subD, Sp.nms, List.map_cons, List.map_nil, Sp.mrg, List.all_cons, e1, ih]
  | N + 1, i, j, (n, k, f) :: a, (m, k2, q) :: b, hA, hB => by
    have n1 : ¬ ((i : Int) < 0) := by omega
    have n2 : ¬ ((j : Int) < 0) := by omega
    have e1 : Sp.stepS aop bop A B (-1, (j : Int)) = (k2 && !aop) := by
      have := hB 0
      simp at this
      simp [Sp.stepS, this]
    have e2 : Sp.stepS aop bop A B ((i : Int), -1) = bop := by simp only [Sp.stepS, if_neg n1]; rfl
    have e3 : Sp.stepS aop bop A B ((i : Int), (j : Int)) = ((k2 || !k) && f q) := by
      have q1 := hA 0
      have q2 := hB 0
      simp at q1 q2
      simp only [Sp.stepS, if_neg n1, if_neg n2, Int.toNat_natCast, q1, q2]
    have hA' : ∀ q, A[i + 1 + q]? = a[q]? := fun q => by rw [show i + 1 + q = i + (q + 1) by omega, hA]; rfl
    have hB' : ∀ q, B[j + 1 + q]? = b[q]? := fun q => by rw [show j + 1 + q = j + (q + 1) by omega, hB]; rfl
    simp only [Sp.subD, Sp.nms, List.map_cons, Sp.mrg]
    split
    · have ih := Sp.subD_mrg aop bop A B N (i + 1) j a ((m, k2, q) :: b) hA' hB
      simp only [Sp.nms, List.map_cons] at ih
      simp only [List.all_cons, e2, ih]
    · split
      · have ih := Sp.subD_mrg aop bop A B N i (j + 1) ((n, k, f) :: a) b hA hB'
        simp only [Sp.nms, List.map_cons] at ih
        simp only [List.all_cons, e1, ih]
      · have ih := Sp.subD_mrg aop bop A B N (i + 1) (j + 1) a b hA' hB'
        simp only [Sp.nms] at ih
        simp only [List.all_cons, e3, ih]
theorem Sp.z3_get {α : Type} : (ns : List ByteArray) → ∀ (ks : List Bool) (fs : List α) (i : Nat) (n : ByteArray) (k : Bool) (f : α), ns[i]? = some n → ks[i]? = some k → fs[i]? = some f → (Sp.z3 ns ks fs)[i]? = some (n, k, f)
  | [], _, _, i, _, _, _, h, _, _ => by simp at h
  | _ :: _, [], _, i, _, _, _, _, h, _ => by simp at h
  | _ :: _, _ :: _, [], i, _, _, _, _, _, h => by simp at h
  | a :: ns, b :: ks, c :: fs, 0, n, k, f, h1, h2, h3 => by simp at h1 h2 h3; subst h1 h2 h3; rfl
  | a :: ns, b :: ks, c :: fs, i + 1, n, k, f, h1, h2, h3 => by
    simp only [Sp.z3, List.getElem?_cons_succ]
    exact Sp.z3_get ns ks fs i n k f (by simpa using h1) (by simpa using h2) (by simpa using h3)
theorem TyL.get_toL : (l : TyL) → ∀ j t, l.get j = some t → l.toL[j]? = some t ∧ l.subFns[j]? = some t.sub
  | .nil, j, t, h => by simp [TyL.get] at h
  | .cons u l, 0, t, h => by simp [TyL.get] at h; subst h; exact ⟨rfl, rfl⟩
  | .cons u l, j + 1, t, h => by simp only [TyL.toL, TyL.subFns]; exact TyL.get_toL l j t h
theorem all_snocB {A B : Nat} {g : Int × Int → Bool} {pre : List (PQ A B)} {x : PQ A B} (h : ∀ y ∈ pre, g y.1 = true) (hx : g x.1 = true) : ∀ y ∈ pre ++ [x], g y.1 = true := fun y hy => by
  rcases List.mem_append.1 hy with hy | hy
  · exact h y hy
  · rw [List.mem_singleton.1 hy]; exact hx

/-- what a dict's shape holds -/
structure DSh (w : World) (B b : Nat) (P : TyL) (NS : List ByteArray) (KS : List Bool) (op : Bool) (ap an ak : Option Addr) (cp cn ck : Nat) : Prop where
  hb : b < B
  c4 : w.cell? ⟨b, 4, none⟩ = some (.slice ap P.len cp)
  c5 : w.cell? ⟨b, 5, none⟩ = some (.slice an NS.length cn)
  c6 : w.cell? ⟨b, 6, none⟩ = some (.slice ak KS.length ck)
  c7 : w.cell? ⟨b, 7, none⟩ = some (.bool op)
  hNS : NamesAt w (Lo B) an NS
  hKS : BoolsAt w (Lo B) ak KS
  hp : P.Sh w (Lo B) ap 0
  hok : P.ok = true
  l1 : NS.length = P.len
  l2 : KS.length = NS.length
  l3 : NS.length ≤ 4096
def SubC (N : Nat) : Prop := ∀ (a b : Ty), a.sz + b.sz ≤ N → a.ok = true → b.ok = true → ∀ (ba bb B : Nat) (w : World), a.Sh w (Lo B) ba → b.Sh w (Lo B) bb → B ≤ w.heap.size →
  Calls Try.prog 26 #[.pointer (some ⟨ba, 0, none⟩), .pointer (some ⟨bb, 0, none⟩)] w fun e w' => e = .returned (.bool (a.sub b)) ∧ Below w.heap.size w w'
/-- what it answers -/
def Sp.fpl (P : TyL) (NA : List ByteArray) (KA : List Bool) (aop : Bool) (Q : TyL) (NB : List ByteArray) (KB : List Bool) (bop : Bool) : Bool := (!aop || bop) && (Sp.mrg (NA.length + NB.length) 0 0 NA NB).all (Sp.stepS aop bop (Sp.z3 NA KA P.subFns) (Sp.z3 NB KB Q.toL))
end Go.Proofs.Ytkmlpdehibameaa


/- Plain mathematics: a type holds of values that are the same alike; which types are plainly of others; that this is sound, and that each type is plainly of itself. -/
import Derived.Test.YtcfcnijldnbbnaaR27
import Derived.Test.YtcfcnijldnbbnaaR12
namespace Go.Proofs.Ytcfcnijldnbbnaa

theorem cmpS_zero {a b : ByteArray} (h : Sp.cmpS a b = 0) : a = b := by
  have := (cmp_eq_zero _ _).1 h
  cases a; cases b; simp at this; simp [this]
theorem cmpS_neg (a b : ByteArray) : Sp.cmpS a b = -Sp.cmpS b a := neg_cb _ _
theorem cmpS_tri (a b c : ByteArray) : Tri (Sp.cmpS a b) (Sp.cmpS b c) (Sp.cmpS a c) := tri_cb _ _ _

def Sp.Cg (f : Tm → Bool × Int) : Prop := ∀ x y : Tm, x.all.e = 0 → y.all.e = 0 → x.cmp y = 0 → (f x).1 = (f y).1

/-- names that rise -/
def Sp.up (l : List ByteArray) : Prop := l.Pairwise fun a b => Sp.cmpS a b < 0
theorem Sp.leS_no {a b : ByteArray} (h : Sp.leS a b = false) : Sp.cmpS b a < 0 := by
  unfold Sp.leS at h
  simp only [Bool.or_eq_false_iff] at h
  have h1 := h.1
  have h2 := h.2
  have ea : ∀ s : ByteArray, s.toList = s.data.toList := fun s => by rw [ByteArray.toList_eq]
  rw [ea, ea] at h1 h2
  rw [bytesLess_cmp] at h1
  have h3 : Sp.cmpS a b ≠ -1 := by show ¬ Lib.compareBytes a.data.toList b.data.toList = -1; simpa using h1
  have h4 : Sp.cmpS a b ≠ 0 := fun e => by rw [(cmp_eq_zero _ _).1 e] at h2; simp at h2
  have h5 := vals_cb a.data.toList b.data.toList
  have h6 := cmpS_neg b a
  have h7 : Sp.cmpS a b = Lib.compareBytes a.data.toList b.data.toList := rfl
  omega
theorem Sp.named_up : (l : List ByteArray) → ∀ a, Sp.named a l = true → Sp.up l ∧ ∀ n ∈ l, Sp.cmpS a n < 0
  | [], a, _ => ⟨List.Pairwise.nil, fun n h => by cases h⟩
  | n :: l, a, h => by
    simp only [Sp.named, Bool.and_eq_true, Bool.not_eq_true'] at h
    obtain ⟨h1, h2⟩ := Sp.named_up l n h.2
    have h3 := Sp.leS_no h.1.2
    refine ⟨List.Pairwise.cons h2 h1, fun m hm => ?_⟩
    rcases List.mem_cons.1 hm with rfl | hm
    · exact h3
    · exact (cmpS_tri a n m).2.1 h3 (by have := h2 m hm; omega)
theorem Sp.up_tail {a : ByteArray} {l : List ByteArray} (h : Sp.up (a :: l)) : Sp.up l ∧ ∀ n ∈ l, Sp.cmpS a n < 0 := ⟨(List.pairwise_cons.1 h).2, (List.pairwise_cons.1 h).1⟩
end Go.Proofs.Ytcfcnijldnbbnaa

/- Plain mathematics: a dict's fields against a dict's type, told without a walk. -/
namespace Go.Proofs.Ytcfcnijldnbbnaa

def TmF.pairs : TmF → List (ByteArray × Tm) | .nil => [] | .cons n t l => (n, t) :: l.pairs
/-- names, whether they may lack, and what is asked of each -/
abbrev Sp.Zs (α : Type) := List (ByteArray × Bool × α)
def Sp.nms {α : Type} (Z : Sp.Zs α) : List ByteArray := Z.map (·.1)
def Sp.DD (op : Bool) (Z : Sp.Zs (Tm → Bool × Int)) (F : List (ByteArray × Tm)) : Prop :=
  (∀ z ∈ Z, (∃ x, (z.1, x) ∈ F ∧ (z.2.2 x).1 = true) ∨ (z.2.1 = true ∧ ∀ x, (z.1, x) ∉ F)) ∧ (op = true ∨ ∀ y ∈ F, ∃ z ∈ Z, z.1 = y.1)
def Sp.z3 {α : Type} : List ByteArray → List Bool → List α → Sp.Zs α
  | n :: ns, k :: ks, f :: fs => (n, k, f) :: Sp.z3 ns ks fs
  | _, _, _ => []
end Go.Proofs.Ytcfcnijldnbbnaa

/- Plain mathematics: which types are plainly of others; that this is sound, and that each type is plainly of itself. -/
namespace Go.Proofs.Ytcfcnijldnbbnaa

def Ty.of : Ty → Int | .mk _ o _ _ _ _ _ _ => o
def Ty.names : Ty → List ByteArray | .mk _ _ _ _ n _ _ _ => n
def Ty.lacks : Ty → List Bool | .mk _ _ _ _ _ l _ _ => l
def Ty.opn : Ty → Bool | .mk _ _ _ _ _ _ op _ => op
def Ty.cls : Ty → ByteArray | .mk _ _ _ _ _ _ _ c => c
def TyL.toL : TyL → List Ty | .nil => [] | .cons t l => t :: l.toL
mutual
/-- asked of a type, or of those of a union, through the unions in it, till one is found; any type is -/
def Ty.reach (f : Ty → Bool) : Ty → Bool
  | .mk k o t p n l op c => if k = 1 then true else if k = 7 then p.reachAny f else f (.mk k o t p n l op c)
def TyL.reachAny (f : Ty → Bool) : TyL → Bool
  | .nil => false
  | .cons t l => t.reach f || l.reachAny f
end
/-- two dicts' types, name by name as they rise, by at most so many steps -/
def Sp.subD (aop bop : Bool) : Nat → Sp.Zs (Ty → Bool) → Sp.Zs Ty → Bool
  | 0, _, _ => true
  | _ + 1, [], [] => true
  | N + 1, [], (_, k, _) :: b => (k && !aop) && Sp.subD aop bop N [] b
  | N + 1, _ :: a, [] => bop && Sp.subD aop bop N a []
  | N + 1, (n, k, f) :: a, (m, k2, q) :: b =>
    if Sp.cmpS n m < 0 then bop && Sp.subD aop bop N a ((m, k2, q) :: b)
    else if 0 < Sp.cmpS n m then (k2 && !aop) && Sp.subD aop bop N ((n, k, f) :: a) b
    else ((k2 || !k) && f q) && Sp.subD aop bop N a b
mutual
/-- whether a type is plainly of another one -/
def Ty.sub : Ty → Ty → Bool
  | .mk k o t p n l op c, b =>
    if b.kind = 1 ∨ k = 2 then true
    else if k = 7 then p.subAll b
    else b.reach fun q =>
      if k = 4 then (q.has t).1
      else if k = 3 then decide (q.kind = 3 ∧ q.of = o)
      else if k = 5 then decide (q.kind = 3 ∧ q.of = 8) || (decide (q.kind = 5) && p.subHead q.parts)
      else if k = 6 then decide (q.kind = 3 ∧ q.of = 9) || (decide (q.kind = 6) && ((!op || q.opn) && Sp.subD op q.opn (n.length + q.names.length) (Sp.z3 n l p.subFns) (Sp.z3 q.names q.lacks q.parts.toL)))
      else if k = 8 then decide (q.kind = 3 ∧ q.of = 10) || decide (q.kind = 8 ∧ Sp.cmpS c q.cls = 0)
      else false
def TyL.subAll : TyL → Ty → Bool
  | .nil, _ => true
  | .cons t l, b => t.sub b && l.subAll b
def TyL.subHead : TyL → TyL → Bool
  | .cons t _, .cons u _ => t.sub u
  | _, _ => true
def TyL.subFns : TyL → List (Ty → Bool)
  | .nil => []
  | .cons t l => t.sub :: l.subFns
end
theorem Ty.own_dict {o : Int} {t : Tm} {p : TyL} {n : List ByteArray} {l : List Bool} {op : Bool} {c : ByteArray} (h : (Ty.mk 6 o t p n l op c).ok = true) : n.length = p.len ∧ n.length = l.length ∧ Sp.up n ∧ n.length ≤ 4096 ∧ p.ok = true := by
  simp only [Ty.ok, Ty.own, Sp.parted, Bool.and_eq_true] at h
  have h1 := h.1.1
  have h2 := h.2
  simp at h1 h2
  obtain ⟨⟨a1, a2⟩, a3⟩ := h1
  simp only [Sp.namesFit, Bool.and_eq_true, decide_eq_true_eq] at a3
  exact ⟨a1, a2, (Sp.named_up n _ a3.2).1, a3.1, h2⟩
theorem Tm.good_names {v : Tm} (h : v.all.e = 0) (hk : v.knd = 9) : Sp.up v.flds.names := by
  cases v with
  | mk k b i f tx by' rf l fs c vr =>
    have hk : k = 9 := hk
    subst hk
    unfold Tm.all at h
    rw [Tm.wk] at h
    by_cases h0 : (Tm.mk 9 b i f tx by' rf l fs c vr).own 0 1 ≠ 0
    · rw [if_pos h0] at h; exact absurd h h0
    have h0 := Decidable.not_not.1 h0
    simp only [Tm.own] at h0
    by_cases he : Sp.ent 9 0 1 ≠ 0
    · rw [if_pos he] at h0; exact absurd h0 he
    rw [if_neg he] at h0
    simp at h0
    unfold Sp.fieldsR at h0
    split at h0
    · omega
    · split at h0
      · rename_i hn; exact (Sp.named_up _ _ hn).1
      · omega
theorem Ty.ok_parts {k o : Int} {t : Tm} {p : TyL} {n : List ByteArray} {l : List Bool} {op : Bool} {c : ByteArray} (h : (Ty.mk k o t p n l op c).ok = true) (hk : Sp.parted k = true) : p.ok = true := by
  simp only [Ty.ok, hk, if_true, Bool.and_eq_true] at h; exact h.2
theorem Ty.ok_list {o : Int} {t : Tm} {p : TyL} {n : List ByteArray} {l : List Bool} {op : Bool} {c : ByteArray} (h : (Ty.mk 5 o t p n l op c).ok = true) : ∃ u, p = .cons u .nil ∧ u.ok = true := by
  have hp := Ty.ok_parts h (by rfl)
  simp only [Ty.ok, Ty.own, Bool.and_eq_true] at h
  have h1 := h.1.1
  simp at h1
  cases p with
  | nil => simp [TyL.len] at h1
  | cons u l =>
    cases l with
    | nil => exact ⟨u, rfl, by simpa [TyL.ok] using hp⟩
    | cons _ _ => simp [TyL.len] at h1
/-- what a type holds of, one that it is plainly of holds of -/
def Ty.Snd (a : Ty) : Prop := ∀ b : Ty, a.ok = true → b.ok = true → a.sub b = true → ∀ v : Tm, v.all.e = 0 → (a.has v).1 = true → (b.has v).1 = true
end Go.Proofs.Ytcfcnijldnbbnaa

/- Plain mathematics: a term as far as it is of a type; that it is of the type then, and can be; that what is of the type stays whole. Nothing of the program stands here. -/
namespace Go.Proofs.Ytcfcnijldnbbnaa

abbrev Nar := Option (Tm × Bool)
def Tm.setL : Tm → TmL → Tm | .mk k b i f tx by' rf _ fs c vr, l => .mk k b i f tx by' rf l fs c vr
def Tm.setF : Tm → TmF → Tm | .mk k b i f tx by' rf l _ c vr, fs => .mk k b i f tx by' rf l fs c vr
theorem Tm.setL_self (v : Tm) : v.setL v.lst = v := by cases v; rfl
theorem Tm.setF_self (v : Tm) : v.setF v.flds = v := by cases v; rfl

/-- a list's values, each as far as it is; and whether each is whole -/
def Sp.narL (f : Tm → Nar) : TmL → TmL × Bool
  | .nil => (.nil, true)
  | .cons x l => match f x with
    | some (y, w) => (.cons y (Sp.narL f l).1, w && (Sp.narL f l).2)
    | none => ((Sp.narL f l).1, false)
/-- a field ahead of others -/
def Sp.keepF (m : ByteArray) : Nar → Option (TmF × Bool) → Option (TmF × Bool)
  | _, none => none
  | some (y, w), some (r, u) => some (.cons m y r, w && u)
  | none, some (r, _) => some (r, false)
def Sp.narD (op : Bool) : Nat → List ByteArray → List Bool → List (Tm → Nar) → TmF → Option (TmF × Bool)
  | 0, _, _, _, _ => some (.nil, true)
  | _ + 1, [], _, _, .nil => some (.nil, true)
  | N + 1, [], _, _, .cons m x l => Sp.keepF m (if op then some (x, true) else none) (Sp.narD op N [] [] [] l)
  | N + 1, _ :: ns, k :: ks, _ :: fs, .nil => if k then Sp.narD op N ns ks fs .nil else none
  | N + 1, n :: ns, k :: ks, f :: fs, .cons m x l =>
    if Sp.cmpS n m < 0 then (if k then Sp.narD op N ns ks fs (.cons m x l) else none)
    else if 0 < Sp.cmpS n m then Sp.keepF m (if op then some (x, true) else none) (Sp.narD op N (n :: ns) (k :: ks) (f :: fs) l)
    else match f x with
      | some r => Sp.keepF m (some r) (Sp.narD op N ns ks fs l)
      | none => if k then Sp.keepF m none (Sp.narD op N ns ks fs l) else none
  | _ + 1, _ :: _, _, _, _ => some (.nil, true)
mutual
def Ty.nar : Ty → Tm → Nar
  | .mk k o t p n l op c, v =>
    if k = 5 ∧ v.knd = 8 then some (v.setL (p.narHead v.lst).1, (p.narHead v.lst).2)
    else if k = 6 ∧ v.knd = 9 then (Sp.narD op (n.length + v.flds.len) n l p.narFns v.flds).map fun r => (v.setF r.1, r.2)
    else if k = 7 then p.narU v none
    else if ((Ty.mk k o t p n l op c).has v).1 then some (v, true) else none
def TyL.narHead : TyL → TmL → TmL × Bool
  | .nil, _ => (.nil, true)
  | .cons t _, l => Sp.narL t.nar l
def TyL.narU : TyL → Tm → Nar → Nar
  | .nil, _, first => first
  | .cons t l, v, first => match t.nar v with
    | some (x, true) => some (x, true)
    | some (x, false) => l.narU v (match first with | some r => some r | none => some (x, false))
    | none => l.narU v first
def TyL.narFns : TyL → List (Tm → Nar)
  | .nil => []
  | .cons t l => t.nar :: l.narFns
end
theorem TyL.narFns_len : (l : TyL) → l.narFns.length = l.len
  | .nil => rfl
  | .cons t l => by simp only [TyL.narFns, TyL.len, List.length_cons, TyL.narFns_len l]

inductive Sp.All2 {α β : Type} (R : α → β → Prop) : List α → List β → Prop
  | nil : Sp.All2 R [] []
  | cons {a : α} {b : β} {l : List α} {m : List β} (h : R a b) (t : Sp.All2 R l m) : Sp.All2 R (a :: l) (b :: m)
/-- what is of the type, and that alone, stays whole -/
def Sp.Wh (f : Tm → Nar) (g : Tm → Bool × Int) : Prop := ∀ x : Tm, x.all.e = 0 → ((g x).1 = true → f x = some (x, true)) ∧ (∀ y, f x = some (y, true) → (g x).1 = true ∧ y = x)
theorem Sp.narL_wh {f : Tm → Nar} {g : Tm → Bool × Int} (h : Sp.Wh f g) : (l : TmL) → l.gd → ∀ n, ((Sp.hasL g l n).1 = true → Sp.narL f l = (l, true)) ∧ ((Sp.narL f l).2 = true → (Sp.hasL g l n).1 = true ∧ (Sp.narL f l).1 = l)
  | .nil, _, n => by simp [Sp.hasL, Sp.narL]
  | .cons x l, hg, n => by
    have ih := Sp.narL_wh h l hg.2 (n + x.pn)
    have hx := h x hg.1
    simp only [Sp.hasL, Sp.narL]
    constructor
    · intro hh
      cases e : (g x).1 with
      | false => rw [e] at hh; simp at hh
      | true =>
        rw [e] at hh
        simp only [if_true] at hh
        rw [hx.1 e, ih.1 hh]; rfl
    · intro hh
      cases e : f x with
      | none => rw [e] at hh; simp at hh
      | some r =>
        obtain ⟨y, w⟩ := r
        rw [e] at hh
        simp only [Bool.and_eq_true] at hh
        obtain ⟨rfl, h2⟩ := hh
        obtain ⟨q1, rfl⟩ := hx.2 y e
        obtain ⟨q2, q3⟩ := ih.2 h2
        rw [q1]; simp only [if_true]
        exact ⟨q2, by rw [q3]⟩
theorem Sp.keepF_true {m : ByteArray} {a : Nar} {r : Option (TmF × Bool)} {s : TmF} (h : Sp.keepF m a r = some (s, true)) : ∃ y t, a = some (y, true) ∧ r = some (t, true) ∧ s = .cons m y t := by
  cases r with
  | none => cases a <;> simp [Sp.keepF] at h
  | some r =>
    obtain ⟨t, u⟩ := r
    cases a with
    | none => simp [Sp.keepF] at h
    | some a =>
      obtain ⟨y, w⟩ := a
      simp only [Sp.keepF, Option.some.injEq, Prod.mk.injEq, Bool.and_eq_true] at h
      obtain ⟨rfl, rfl, rfl⟩ := h
      exact ⟨y, t, rfl, rfl, rfl⟩
theorem Sp.narD_wh (op : Bool) : (N : Nat) → ∀ (ns : List ByteArray) (ks : List Bool) (fs : List (Tm → Nar)) (gs : List (Tm → Bool × Int)) (l : TmF) (next : Int), ns.length + l.len ≤ N → ks.length = ns.length → fs.length = ns.length → Sp.All2 Sp.Wh fs gs → l.gd →
    ((Sp.hasD op N ns ks gs l next).1 = true → Sp.narD op N ns ks fs l = some (l, true)) ∧ (∀ r, Sp.narD op N ns ks fs l = some (r, true) → (Sp.hasD op N ns ks gs l next).1 = true ∧ r = l)
  | 0, [], ks, fs, gs, .nil, next, _, _, _, _, _ => by simp [Sp.hasD, Sp.narD, eq_comm]
  | 0, _ :: _, ks, fs, gs, _, next, h, _, _, _, _ => by simp at h
  | 0, [], ks, fs, gs, .cons _ _ _, next, h, _, _, _, _ => by simp [TmF.len] at h
  | N + 1, [], ks, fs, gs, .nil, next, _, _, _, _, _ => by simp [Sp.hasD, Sp.narD, eq_comm]
  | N + 1, [], ks, fs, gs, .cons m x l, next, h, h1, h2, h3, hg => by
    have ih := Sp.narD_wh op N [] [] [] [] l (next + x.pn) (by simp [TmF.len] at h ⊢; omega) rfl rfl .nil hg.2
    simp only [Sp.hasD, Sp.narD]
    cases op with
    | false =>
      refine ⟨fun hh => by simp at hh, fun r hr => ?_⟩
      obtain ⟨y, t, e, -⟩ := Sp.keepF_true hr
      simp at e
    | true =>
      simp only [if_true]
      refine ⟨fun hh => by rw [ih.1 hh]; rfl, fun r hr => ?_⟩
      obtain ⟨y, t, e, e2, rfl⟩ := Sp.keepF_true hr
      simp at e
      obtain ⟨q1, rfl⟩ := ih.2 t e2
      exact ⟨q1, by rw [e]⟩
  | N + 1, n :: ns, [], fs, gs, l, next, _, h1, _, _, _ => by simp at h1
  | N + 1, n :: ns, k :: ks, [], gs, l, next, _, _, h2, _, _ => by simp at h2
  | N + 1, n :: ns, k :: ks, f :: fs, [], l, next, _, _, _, h3, _ => by cases h3
  | N + 1, n :: ns, k :: ks, f :: fs, g :: gs, .nil, next, h, h1, h2, h3, hg => by
    have ih := Sp.narD_wh op N ns ks fs gs .nil next (by simp [TmF.len] at h ⊢; omega) (by simpa using h1) (by simpa using h2) (by cases h3; assumption) hg
    simp only [Sp.hasD, Sp.narD]
    cases k with
    | false => simp
    | true => simpa using ih
  | N + 1, n :: ns, k :: ks, f :: fs, g :: gs, .cons m x l, next, h, h1, h2, h3, hg => by
    have h1' : ks.length = ns.length := by simpa using h1
    have h2' : fs.length = ns.length := by simpa using h2
    have h3' : Sp.All2 Sp.Wh fs gs := by cases h3; assumption
    have hf : Sp.Wh f g := by cases h3; assumption
    simp only [TmF.len, List.length_cons] at h
    simp only [Sp.hasD, Sp.narD]
    by_cases c1 : Sp.cmpS n m < 0
    · rw [if_pos c1, if_pos c1]
      have ih := Sp.narD_wh op N ns ks fs gs (.cons m x l) next (by simp only [TmF.len]; omega) h1' h2' h3' hg
      cases k with
      | false => simp
      | true => simpa using ih
    rw [if_neg c1, if_neg c1]
    by_cases c2 : 0 < Sp.cmpS n m
    · rw [if_pos c2, if_pos c2]
      have ih := Sp.narD_wh op N (n :: ns) (k :: ks) (f :: fs) (g :: gs) l (next + x.pn) (by simp only [List.length_cons]; omega) h1 h2 h3 hg.2
      cases op with
      | false =>
        refine ⟨fun hh => by simp at hh, fun r hr => ?_⟩
        obtain ⟨y, t, e, -⟩ := Sp.keepF_true hr
        simp at e
      | true =>
        simp only [if_true]
        refine ⟨fun hh => by rw [ih.1 hh]; rfl, fun r hr => ?_⟩
        obtain ⟨y, t, e, e2, rfl⟩ := Sp.keepF_true hr
        simp at e
        obtain ⟨q1, rfl⟩ := ih.2 t e2
        exact ⟨q1, by rw [e]⟩
    · rw [if_neg c2, if_neg c2]
      have ih := Sp.narD_wh op N ns ks fs gs l (next + x.pn) (by omega) h1' h2' h3' hg.2
      have hx := hf x hg.1
      constructor
      · intro hh
        cases e : (g x).1 with
        | false => rw [e] at hh; simp at hh
        | true =>
          rw [e] at hh
          simp only [if_true] at hh
          rw [hx.1 e, ih.1 hh]; rfl
      · intro r hr
        cases e : f x with
        | none =>
          rw [e] at hr
          dsimp only at hr
          cases k with
          | false => simp at hr
          | true =>
            simp only [if_true] at hr
            obtain ⟨y, t, e', -⟩ := Sp.keepF_true hr
            simp at e'
        | some q =>
          rw [e] at hr
          obtain ⟨y, t, e', e2, rfl⟩ := Sp.keepF_true hr
          rw [e'] at e
          obtain ⟨q1, rfl⟩ := hx.2 y e
          obtain ⟨q2, rfl⟩ := ih.2 t e2
          rw [q1]; simp only [if_true]
          exact ⟨q2, by simp⟩
mutual
theorem Ty.nar_wh : (t : Ty) → t.ok = true → Sp.Wh t.nar t.has
  | .mk k o t p n l op c, hok => by
    intro v hv
    have hp : Sp.parted k = true → p.ok = true := fun hk => Ty.ok_parts hok hk
    unfold Ty.nar
    by_cases c1 : k = 5 ∧ v.knd = 8
    · rw [if_pos c1]
      obtain ⟨rfl, c2⟩ := c1
      obtain ⟨u, rfl, hu⟩ := Ty.ok_list hok
      have hu' := TyL.nar_wh (.cons u .nil) (hp rfl) u (by simp [TyL.toL])
      have hgd : v.lst.gd := by
        cases v with
        | mk k1 b i f tx by' rf l1 fs c1 vr => exact ((Tm.good_parts hv).1 c2).1
      have q := Sp.narL_wh hu' v.lst hgd 1
      simp only [Ty.has, c2, TyL.hasHead, TyL.narHead, Option.some.injEq, Prod.mk.injEq]
      simp only [if_true, show ¬ ((5 : Int) = 1) by decide, show ¬ ((5 : Int) = 3) by decide, show ¬ ((5 : Int) = 4) by decide, if_false]
      refine ⟨fun hh => by rw [q.1 hh]; exact ⟨Tm.setL_self v, rfl⟩, ?_⟩
      rintro y ⟨rfl, hh⟩
      obtain ⟨a1, a2⟩ := q.2 hh
      exact ⟨a1, by rw [a2, Tm.setL_self]⟩
    rw [if_neg c1]
    by_cases c2 : k = 6 ∧ v.knd = 9
    · rw [if_pos c2]
      obtain ⟨rfl, c3⟩ := c2
      obtain ⟨a1, a2, a3, -, a5⟩ := Ty.own_dict hok
      have hgd : v.flds.gd := by
        cases v with
        | mk k1 b i f tx by' rf l1 fs c1 vr => exact ((Tm.good_parts hv).2 (.inl c3)).1
      have hF := TyL.nar_whF p a5
      have q := Sp.narD_wh op (n.length + v.flds.len) n l p.narFns p.fns v.flds 1 (Nat.le_refl _) a2.symm (by rw [TyL.narFns_len]; omega) hF hgd
      simp only [Ty.has, c3, if_true, show ¬ ((6 : Int) = 1) by decide, show ¬ ((6 : Int) = 3) by decide, show ¬ ((6 : Int) = 4) by decide, show ¬ ((6 : Int) = 5) by decide, if_false]
      refine ⟨fun hh => by rw [q.1 hh]; simp [Tm.setF_self], ?_⟩
      intro y hy
      cases e : Sp.narD op (n.length + v.flds.len) n l p.narFns v.flds with
      | none => rw [e] at hy; simp at hy
      | some r =>
        obtain ⟨r, w⟩ := r
        rw [e] at hy
        simp only [Option.map_some, Option.some.injEq, Prod.mk.injEq] at hy
        obtain ⟨rfl, rfl⟩ := hy
        obtain ⟨b1, rfl⟩ := q.2 r e
        exact ⟨b1, Tm.setF_self v⟩
    rw [if_neg c2]
    by_cases c3 : k = 7
    · subst c3
      rw [if_pos rfl]
      have hU := TyL.nar_whU p (hp rfl) v hv
      simp only [Ty.has, if_true, show ¬ ((7 : Int) = 1) by decide, show ¬ ((7 : Int) = 3) by decide, show ¬ ((7 : Int) = 4) by decide, show ¬ ((7 : Int) = 5) by decide, show ¬ ((7 : Int) = 6) by decide, if_false]
      exact ⟨fun hh => (hU none).1 hh, fun y hy => by
        rcases (hU none).2 y hy with h | h
        · exact h
        · cases h⟩
    · rw [if_neg c3]
      cases e : ((Ty.mk k o t p n l op c).has v).1 with
      | false => simp
      | true => simp [eq_comm]
theorem TyL.nar_wh : (l : TyL) → l.ok = true → ∀ u ∈ l.toL, Sp.Wh u.nar u.has
  | .nil, _, u, h => by simp [TyL.toL] at h
  | .cons t l, ho, u, h => by
    simp only [TyL.ok, Bool.and_eq_true] at ho
    simp only [TyL.toL, List.mem_cons] at h
    rcases h with h | h
    · rw [h]; exact Ty.nar_wh t ho.1
    · exact TyL.nar_wh l ho.2 u h
theorem TyL.nar_whF : (l : TyL) → l.ok = true → Sp.All2 Sp.Wh l.narFns l.fns
  | .nil, _ => .nil
  | .cons t l, ho => by
    simp only [TyL.ok, Bool.and_eq_true] at ho
    exact .cons (Ty.nar_wh t ho.1) (TyL.nar_whF l ho.2)
theorem TyL.nar_whU : (l : TyL) → l.ok = true → ∀ v : Tm, v.all.e = 0 → ∀ first : Nar, (l.hasAny v = true → l.narU v first = some (v, true)) ∧ (∀ y, l.narU v first = some (y, true) → (l.hasAny v = true ∧ y = v) ∨ first = some (y, true))
  | .nil, _, v, hv, first => by
    refine ⟨fun h => ?_, fun y h => .inr ?_⟩
    · simp [TyL.hasAny] at h
    · simpa [TyL.narU] using h
  | .cons t l, ho, v, hv, first => by
    simp only [TyL.ok, Bool.and_eq_true] at ho
    have ht := Ty.nar_wh t ho.1 v hv
    have ih := TyL.nar_whU l ho.2 v hv
    simp only [TyL.hasAny, TyL.narU]
    cases e : t.nar v with
    | none =>
      have e1 : (t.has v).1 = false := by
        cases e2 : (t.has v).1 with
        | false => rfl
        | true => rw [ht.1 e2] at e; cases e
      simpa [e1] using ih first
    | some r =>
      obtain ⟨x, w⟩ := r
      cases w with
      | true =>
        obtain ⟨q1, rfl⟩ := ht.2 x e
        simp [q1]
      | false =>
        have e1 : (t.has v).1 = false := by
          cases e2 : (t.has v).1 with
          | false => rfl
          | true => rw [ht.1 e2] at e; simp at e
        have q := ih (match first with | some r => some r | none => some (x, false))
        simp only [e1, Bool.false_or]
        refine ⟨q.1, fun y hy => ?_⟩
        rcases q.2 y hy with h | h
        · exact .inl h
        · cases first with
          | none => simp at h
          | some r => exact .inr h
end
end Go.Proofs.Ytcfcnijldnbbnaa

/- Plain mathematics: what is left of a term that can be can be, and is of the type. Nothing of the program stands here. -/
namespace Go.Proofs.Ytcfcnijldnbbnaa

def Tm.Le (x v : Tm) : Prop := ∀ n p d p' d', 0 ≤ p → p ≤ p' → p' ≤ 16384 → (v.wk n p' d').e = 0 → (x.wk n p d).e = 0 ∧ (x.wk n p d).p ≤ (v.wk n p' d').p
def TmL.Le (x v : TmL) : Prop := ∀ n p d p' d', 0 ≤ p → p ≤ p' → p' ≤ 16384 → (v.wk n p' d').e = 0 → (x.wk n p d).e = 0 ∧ (x.wk n p d).p ≤ (v.wk n p' d').p
def TmF.Le (x v : TmF) : Prop := ∀ n p d p' d', 0 ≤ p → p ≤ p' → p' ≤ 16384 → (v.wk n p' d').e = 0 → (x.wk n p d).e = 0 ∧ (x.wk n p d).p ≤ (v.wk n p' d').p
theorem Tm.Le.refl (v : Tm) : v.Le v := by
  intro n p d p' d' h0 h1 h2 he
  obtain ⟨N, D, hN, hD, hF⟩ := Tm.fit v n p' d' he
  have h3 : p' + N ≤ 16384 ∧ n + D ≤ 64 ∧ v.wk n p' d' = ⟨p' + N, max d' (n + D), 0⟩ := by
    rcases hF n p' d' with h | ⟨_, h⟩
    · exact h
    · omega
  rcases hF n p d with ⟨a, b, c⟩ | ⟨c, _⟩
  · rw [c, h3.2.2]; simp; omega
  · omega
theorem Tm.Le.good {x v : Tm} (h : x.Le v) (hv : v.all.e = 0) : x.all.e = 0 := (h 1 0 0 0 0 (by decide) (by decide) (by decide) hv).1
theorem TmL.le_nil (l : TmL) : TmL.nil.Le l := by
  intro n p d p' d' h0 h1 h2 he
  have := l.wk_bd n p' d' (by omega) h2
  simp [TmL.wk]; omega
theorem TmL.le_skip {l l' : TmL} {v : Tm} (h : l'.Le l) : l'.Le (.cons v l) := by
  intro n p d p' d' h0 h1 h2 he
  rw [TmL.wk] at he
  by_cases hv : (v.wk n p' d').e ≠ 0
  · rw [if_pos hv] at he; exact absurd he hv
  rw [if_neg hv] at he
  have bd := v.wk_bd n p' d' (by omega) h2
  have hv' := Decidable.not_not.1 hv
  have := h n p d _ _ h0 (by omega) (bd.2.2 hv') he
  rw [TmL.wk, if_neg hv]; exact this
theorem TmL.le_cons {l l' : TmL} {x v : Tm} (hx : x.Le v) (h : l'.Le l) : (TmL.cons x l').Le (.cons v l) := by
  intro n p d p' d' h0 h1 h2 he
  rw [TmL.wk] at he
  by_cases hv : (v.wk n p' d').e ≠ 0
  · rw [if_pos hv] at he; exact absurd he hv
  rw [if_neg hv] at he
  have bd := v.wk_bd n p' d' (by omega) h2
  have hv' := Decidable.not_not.1 hv
  obtain ⟨q1, q2⟩ := hx n p d p' d' h0 h1 h2 hv'
  have bx := x.wk_bd n p d h0 (by omega)
  have := h n (x.wk n p d).p (x.wk n p d).d _ _ (by omega) q2 (bd.2.2 hv') he
  rw [TmL.wk, TmL.wk, if_neg hv, if_neg (by rw [q1]; decide)]; exact this
theorem TmF.le_nil (l : TmF) : TmF.nil.Le l := by
  intro n p d p' d' h0 h1 h2 he
  have := l.wk_bd n p' d' (by omega) h2
  simp [TmF.wk]; omega
theorem TmF.le_skip {l l' : TmF} {m : ByteArray} {v : Tm} (h : l'.Le l) : l'.Le (.cons m v l) := by
  intro n p d p' d' h0 h1 h2 he
  rw [TmF.wk] at he
  by_cases hv : (v.wk n p' d').e ≠ 0
  · rw [if_pos hv] at he; exact absurd he hv
  rw [if_neg hv] at he
  have bd := v.wk_bd n p' d' (by omega) h2
  have hv' := Decidable.not_not.1 hv
  have := h n p d _ _ h0 (by omega) (bd.2.2 hv') he
  rw [TmF.wk, if_neg hv]; exact this
theorem TmF.le_cons {l l' : TmF} {m : ByteArray} {x v : Tm} (hx : x.Le v) (h : l'.Le l) : (TmF.cons m x l').Le (.cons m v l) := by
  intro n p d p' d' h0 h1 h2 he
  rw [TmF.wk] at he
  by_cases hv : (v.wk n p' d').e ≠ 0
  · rw [if_pos hv] at he; exact absurd he hv
  rw [if_neg hv] at he
  have bd := v.wk_bd n p' d' (by omega) h2
  have hv' := Decidable.not_not.1 hv
  obtain ⟨q1, q2⟩ := hx n p d p' d' h0 h1 h2 hv'
  have bx := x.wk_bd n p d h0 (by omega)
  have := h n (x.wk n p d).p (x.wk n p d).d _ _ (by omega) q2 (bd.2.2 hv') he
  rw [TmF.wk, TmF.wk, if_neg hv, if_neg (by rw [q1]; decide)]; exact this
theorem Sp.ent_le {k p p' n : Int} (h : Sp.ent k p' n = 0) (hp : p ≤ p') : Sp.ent k p n = 0 := by
  have := Sp.ent_zero h
  unfold Sp.ent; rw [if_neg (by omega), if_neg (by omega), if_neg (by omega)]
theorem Tm.le_list {b : Bool} {i : Int} {f : Nat} {tx by' : ByteArray} {rf : Int} {l l' : TmL} {fs : TmF} {c : ByteArray} {v : Int} (h : l'.Le l) (hl : l'.len ≤ l.len) : (Tm.mk 8 b i f tx by' rf l' fs c v).Le (.mk 8 b i f tx by' rf l fs c v) := by
  intro n p d p' d' h0 h1 h2 he
  by_cases hE : Sp.ent 8 p' n ≠ 0
  · rw [Tm.wk_ent hE] at he; exact absurd he hE
  have hE := Decidable.not_not.1 hE
  have hb := Sp.ent_zero hE
  rw [Tm.wk_8 hE] at he ⊢
  rw [Tm.wk_8 (Sp.ent_le hE h1)]
  unfold TmL.wkR at he ⊢
  by_cases hL : 4096 < l.len
  · rw [if_pos hL] at he; exact absurd he (by simp)
  rw [if_neg hL] at he ⊢
  rw [if_neg (by omega)]
  exact h _ _ _ _ _ (by omega) (by omega) (by omega) he
theorem Sp.lt_leS {a b : ByteArray} (h : Sp.cmpS b a < 0) : Sp.leS a b = false := by
  have ea : ∀ s : ByteArray, s.toList = s.data.toList := fun s => by rw [ByteArray.toList_eq]
  have h6 := cmpS_neg b a
  have h7 : Sp.cmpS a b = Lib.compareBytes a.data.toList b.data.toList := rfl
  unfold Sp.leS
  rw [ea, ea, bytesLess_cmp]
  simp only [Bool.or_eq_false_iff]
  refine ⟨by rw [← h7]; simp; omega, ?_⟩
  cases e : (a.data.toList == b.data.toList) with
  | false => rfl
  | true =>
    have e' : a.data.toList = b.data.toList := by simpa using e
    have : Sp.cmpS a b = 0 := (cmp_eq_zero _ _).2 e'
    omega
theorem Sp.named_iff : (l : List ByteArray) → ∀ a, Sp.named a l = true ↔ (∀ n ∈ l, Sp.isNm n = true ∧ Sp.cmpS a n < 0) ∧ Sp.up l
  | [], a => by simp [Sp.named, Sp.up]
  | n :: l, a => by
    have ih := Sp.named_iff l n
    constructor
    · intro h
      have hu := Sp.named_up (n :: l) a h
      simp only [Sp.named, Bool.and_eq_true, Bool.not_eq_true'] at h
      have h2 := ih.1 h.2
      refine ⟨fun m hm => ⟨?_, hu.2 m hm⟩, hu.1⟩
      rcases List.mem_cons.1 hm with rfl | hm
      · exact h.1.1
      · exact (h2.1 m hm).1
    · rintro ⟨h1, h2⟩
      have ht := Sp.up_tail h2
      simp only [Sp.named, Bool.and_eq_true, Bool.not_eq_true']
      exact ⟨⟨(h1 n (by simp)).1, Sp.lt_leS (h1 n (by simp)).2⟩, ih.2 ⟨fun m hm => ⟨(h1 m (by simp [hm])).1, ht.2 m hm⟩, ht.1⟩⟩
theorem Sp.fieldsR_sub {l l' : List ByteArray} (h : Sp.fieldsR l = 0) (hs : l'.Sublist l) : Sp.fieldsR l' = 0 := by
  unfold Sp.fieldsR at h ⊢
  have hl := hs.length_le
  by_cases h1 : 4096 < l.length
  · rw [if_pos h1] at h; omega
  rw [if_neg h1] at h
  rw [if_neg (by omega)]
  cases hn : Sp.named ByteArray.empty l with
  | false => rw [hn] at h; simp at h
  | true =>
    obtain ⟨a1, a2⟩ := (Sp.named_iff l _).1 hn
    rw [(Sp.named_iff l' _).2 ⟨fun m hm => a1 m (hs.subset hm), a2.sublist hs⟩]; rfl
theorem Tm.le_dict {b : Bool} {i : Int} {f : Nat} {tx by' : ByteArray} {rf : Int} {l : TmL} {fs fs' : TmF} {c : ByteArray} {v : Int} (h : fs'.Le fs) (hs : fs'.names.Sublist fs.names) : (Tm.mk 9 b i f tx by' rf l fs' c v).Le (.mk 9 b i f tx by' rf l fs c v) := by
  intro n p d p' d' h0 h1 h2 he
  by_cases hE : Sp.ent 9 p' n ≠ 0
  · rw [Tm.wk_ent hE] at he; exact absurd he hE
  have hE := Decidable.not_not.1 hE
  have hb := Sp.ent_zero hE
  rw [Tm.wk_9 hE] at he ⊢
  rw [Tm.wk_9 (Sp.ent_le hE h1)]
  unfold TmF.wkR at he ⊢
  by_cases hL : Sp.fieldsR fs.names ≠ 0
  · rw [if_pos hL] at he; exact absurd he hL
  rw [if_neg hL] at he ⊢
  rw [if_neg (by rw [Sp.fieldsR_sub (Decidable.not_not.1 hL) hs]; decide)]
  exact h _ _ _ _ _ (by omega) (by omega) (by omega) he

/-- what is left is of the type, and no greater -/
def Sp.Of (f : Tm → Nar) (g : Tm → Bool × Int) : Prop := ∀ x : Tm, x.all.e = 0 → ∀ y w, f x = some (y, w) → (g y).1 = true ∧ y.Le x
theorem Sp.narL_of {f : Tm → Nar} {g : Tm → Bool × Int} (h : Sp.Of f g) : (l : TmL) → l.gd → (Sp.narL f l).1.Le l ∧ (Sp.narL f l).1.len ≤ l.len ∧ ∀ n, (Sp.hasL g (Sp.narL f l).1 n).1 = true
  | .nil, _ => ⟨TmL.le_nil _, Nat.le_refl _, fun n => rfl⟩
  | .cons x l, hg => by
    obtain ⟨i1, i2, i3⟩ := Sp.narL_of h l hg.2
    simp only [Sp.narL]
    cases e : f x with
    | none => exact ⟨TmL.le_skip i1, by simp only [TmL.len]; omega, i3⟩
    | some r =>
      obtain ⟨y, w⟩ := r
      obtain ⟨q1, q2⟩ := h x hg.1 y w e
      refine ⟨TmL.le_cons q2 i1, by simp only [TmL.len]; omega, fun n => ?_⟩
      simp only [Sp.hasL, q1, if_true]
      exact i3 _
theorem Sp.keepF_some {m : ByteArray} {a : Nar} {q : Option (TmF × Bool)} {s : TmF} {w : Bool} (h : Sp.keepF m a q = some (s, w)) : ∃ t u, q = some (t, u) ∧ ((a = none ∧ s = t) ∨ ∃ y w', a = some (y, w') ∧ s = .cons m y t) := by
  cases q with
  | none => cases a <;> simp [Sp.keepF] at h
  | some r =>
    obtain ⟨t, u⟩ := r
    cases a with
    | none =>
      simp only [Sp.keepF, Option.some.injEq, Prod.mk.injEq] at h
      exact ⟨t, u, rfl, .inl ⟨rfl, h.1.symm⟩⟩
    | some a =>
      obtain ⟨y, w'⟩ := a
      simp only [Sp.keepF, Option.some.injEq, Prod.mk.injEq] at h
      exact ⟨t, u, rfl, .inr ⟨y, w', rfl, h.1.symm⟩⟩
theorem Sp.hasD_skip {op : Bool} {M : Nat} {n : ByteArray} {ns : List ByteArray} {ks : List Bool} {g : Tm → Bool × Int} {gs : List (Tm → Bool × Int)} {r : TmF} {next : Int} (h : ∀ m ∈ r.names, Sp.cmpS n m < 0) :
    Sp.hasD op (M + 1) (n :: ns) (true :: ks) (g :: gs) r next = Sp.hasD op M ns ks gs r next := by
  cases r with
  | nil => simp [Sp.hasD]
  | cons m x l => simp only [Sp.hasD]; rw [if_pos (h m (by simp [TmF.names]))]; simp
theorem Sp.narD_of (op : Bool) : (N : Nat) → ∀ (ns : List ByteArray) (ks : List Bool) (fs : List (Tm → Nar)) (gs : List (Tm → Bool × Int)) (l r : TmF) (w : Bool), ns.length + l.len ≤ N → ks.length = ns.length → fs.length = ns.length → Sp.All2 Sp.Of fs gs → l.gd → Sp.up ns → Sp.up l.names →
    Sp.narD op N ns ks fs l = some (r, w) → r.Le l ∧ r.names.Sublist l.names ∧ ∀ M next, ns.length + r.len ≤ M → (Sp.hasD op M ns ks gs r next).1 = true
  | 0, [], ks, fs, gs, .nil, r, w, _, _, _, _, _, _, _, hr => by
    simp only [Sp.narD, Option.some.injEq, Prod.mk.injEq] at hr
    obtain ⟨rfl, -⟩ := hr
    exact ⟨TmF.le_nil _, List.Sublist.refl _, fun M next _ => by cases M <;> simp [Sp.hasD]⟩
  | 0, _ :: _, ks, fs, gs, _, r, w, h, _, _, _, _, _, _, _ => by simp at h
  | 0, [], ks, fs, gs, .cons _ _ _, r, w, h, _, _, _, _, _, _, _ => by simp [TmF.len] at h
  | N + 1, [], ks, fs, gs, .nil, r, w, _, _, _, _, _, _, _, hr => by
    simp only [Sp.narD, Option.some.injEq, Prod.mk.injEq] at hr
    obtain ⟨rfl, -⟩ := hr
    exact ⟨TmF.le_nil _, List.Sublist.refl _, fun M next _ => by cases M <;> simp [Sp.hasD]⟩
  | N + 1, [], ks, fs, gs, .cons m x l, r, w, h, h1, h2, h3, hg, hu, hul, hr => by
    simp only [Sp.narD] at hr
    obtain ⟨t, u, e, hh⟩ := Sp.keepF_some hr
    have hks : ks = [] := by simpa using h1
    have hfs : fs = [] := by simpa using h2
    subst hks; subst hfs
    have hgs : gs = [] := by cases h3; rfl
    subst hgs
    have ih := Sp.narD_of op N [] [] [] [] l t u (by simp [TmF.len] at h ⊢; omega) rfl rfl .nil hg.2 hu (Sp.up_tail hul).1 e
    rcases hh with ⟨ha, rfl⟩ | ⟨y, w', ha, rfl⟩
    · exact ⟨TmF.le_skip ih.1, ih.2.1.cons _, ih.2.2⟩
    · cases op with
      | false => simp at ha
      | true =>
        simp at ha
        obtain ⟨rfl, -⟩ := ha
        refine ⟨TmF.le_cons (Tm.Le.refl _) ih.1, ih.2.1.cons_cons _, fun M next hM => ?_⟩
        cases M with
        | zero => simp [TmF.len] at hM
        | succ M => simp only [Sp.hasD, if_true]; exact ih.2.2 M _ (by simp [TmF.len] at hM ⊢; omega)
  | N + 1, n :: ns, [], fs, gs, l, r, w, _, h1, _, _, _, _, _, _ => by simp at h1
  | N + 1, n :: ns, k :: ks, [], gs, l, r, w, _, _, h2, _, _, _, _, _ => by simp at h2
  | N + 1, n :: ns, k :: ks, f :: fs, [], l, r, w, _, _, _, h3, _, _, _, _ => by cases h3
  | N + 1, n :: ns, k :: ks, f :: fs, g :: gs, .nil, r, w, h, h1, h2, h3, hg, hu, hul, hr => by
    simp only [Sp.narD] at hr
    cases k with
    | false => simp at hr
    | true =>
      simp only [if_true] at hr
      have ih := Sp.narD_of op N ns ks fs gs .nil r w (by simp [TmF.len] at h ⊢; omega) (by simpa using h1) (by simpa using h2) (by cases h3; assumption) hg (Sp.up_tail hu).1 hul hr
      refine ⟨ih.1, ih.2.1, fun M next hM => ?_⟩
      cases M with
      | zero => simp at hM
      | succ M =>
        rw [Sp.hasD_skip (fun m hm => by have := ih.2.1.subset hm; simp [TmF.names] at this)]
        exact ih.2.2 M _ (by simp at hM; omega)
  | N + 1, n :: ns, k :: ks, f :: fs, g :: gs, .cons m x l, r, w, h, h1, h2, h3, hg, hu, hul, hr => by
    have h1' : ks.length = ns.length := by simpa using h1
    have h2' : fs.length = ns.length := by simpa using h2
    have h3' : Sp.All2 Sp.Of fs gs := by cases h3; assumption
    have hf : Sp.Of f g := by cases h3; assumption
    have hu' := Sp.up_tail hu
    have hul' : Sp.up l.names ∧ ∀ q ∈ l.names, Sp.cmpS m q < 0 := Sp.up_tail hul
    simp only [TmF.len, List.length_cons] at h
    simp only [Sp.narD] at hr
    by_cases c1 : Sp.cmpS n m < 0
    · rw [if_pos c1] at hr
      cases k with
      | false => simp at hr
      | true =>
        simp only [if_true] at hr
        have ih := Sp.narD_of op N ns ks fs gs (.cons m x l) r w (by simp only [TmF.len]; omega) h1' h2' h3' hg hu'.1 hul hr
        refine ⟨ih.1, ih.2.1, fun M next hM => ?_⟩
        cases M with
        | zero => simp at hM
        | succ M =>
          rw [Sp.hasD_skip (fun q hq => ?_)]
          · exact ih.2.2 M _ (by simp at hM; omega)
          · have hq' := ih.2.1.subset hq
            simp only [TmF.names, List.mem_cons] at hq'
            rcases hq' with rfl | hq'
            · exact c1
            · have h5 := hul'.2 q hq'
              exact (cmpS_tri n m q).2.1 c1 (by omega)
    rw [if_neg c1] at hr
    by_cases c2 : 0 < Sp.cmpS n m
    · rw [if_pos c2] at hr
      obtain ⟨t, u, e, hh⟩ := Sp.keepF_some hr
      have ih := Sp.narD_of op N (n :: ns) (k :: ks) (f :: fs) (g :: gs) l t u (by simp only [List.length_cons]; omega) h1 h2 h3 hg.2 hu hul'.1 e
      rcases hh with ⟨ha, rfl⟩ | ⟨y, w', ha, rfl⟩
      · exact ⟨TmF.le_skip ih.1, ih.2.1.cons _, ih.2.2⟩
      · cases op with
        | false => simp at ha
        | true =>
          simp at ha
          obtain ⟨rfl, -⟩ := ha
          refine ⟨TmF.le_cons (Tm.Le.refl _) ih.1, ih.2.1.cons_cons _, fun M next hM => ?_⟩
          cases M with
          | zero => simp at hM
          | succ M =>
            simp only [Sp.hasD]
            rw [if_neg c1, if_pos c2]
            simp only [if_true]
            exact ih.2.2 M _ (by simp [TmF.len] at hM ⊢; omega)
    · rw [if_neg c2] at hr
      have hnm : Sp.cmpS n m = 0 := by omega
      cases e : f x with
      | none =>
        rw [e] at hr
        dsimp only at hr
        cases k with
        | false => simp at hr
        | true =>
          simp only [if_true] at hr
          obtain ⟨t, u, e2, hh⟩ := Sp.keepF_some hr
          have ih := Sp.narD_of op N ns ks fs gs l t u (by omega) h1' h2' h3' hg.2 hu'.1 hul'.1 e2
          rcases hh with ⟨ha, rfl⟩ | ⟨y, w', ha, rfl⟩
          · refine ⟨TmF.le_skip ih.1, ih.2.1.cons _, fun M next hM => ?_⟩
            cases M with
            | zero => simp at hM
            | succ M =>
              rw [Sp.hasD_skip (fun q hq => ?_)]
              · exact ih.2.2 M _ (by simp at hM; omega)
              · have hq' := hul'.2 q (ih.2.1.subset hq)
                rw [cmpS_zero hnm]; exact hq'
          · cases ha
      | some p =>
        rw [e] at hr
        obtain ⟨t, u, e2, hh⟩ := Sp.keepF_some hr
        have ih := Sp.narD_of op N ns ks fs gs l t u (by omega) h1' h2' h3' hg.2 hu'.1 hul'.1 e2
        rcases hh with ⟨ha, rfl⟩ | ⟨y, w', ha, rfl⟩
        · cases ha
        · rw [ha] at e
          obtain ⟨q1, q2⟩ := hf x hg.1 y w' e
          refine ⟨TmF.le_cons q2 ih.1, ih.2.1.cons_cons _, fun M next hM => ?_⟩
          cases M with
          | zero => simp at hM
          | succ M =>
            simp only [Sp.hasD]
            rw [if_neg c1, if_neg c2, q1]
            simp only [if_true]
            exact ih.2.2 M _ (by simp [TmF.len] at hM ⊢; omega)
mutual
theorem Ty.nar_of : (t : Ty) → t.ok = true → Sp.Of t.nar t.has
  | .mk k o t p n l op c, hok => by
    intro v hv y w hy
    have hp : Sp.parted k = true → p.ok = true := fun hk => Ty.ok_parts hok hk
    unfold Ty.nar at hy
    by_cases c1 : k = 5 ∧ v.knd = 8
    · rw [if_pos c1] at hy
      obtain ⟨rfl, c2⟩ := c1
      obtain ⟨u, rfl, hu⟩ := Ty.ok_list hok
      have hu' := TyL.nar_of (.cons u .nil) (hp rfl) u (by simp [TyL.toL])
      cases v with
      | mk k1 b i f tx by' rf l1 fs c1 vr =>
        obtain rfl : k1 = 8 := c2
        obtain ⟨q1, q2, q3⟩ := Sp.narL_of hu' l1 ((Tm.good_parts hv).1 rfl).1
        simp only [TyL.narHead, Tm.setL, Tm.lst, Option.some.injEq, Prod.mk.injEq] at hy
        obtain ⟨rfl, -⟩ := hy
        refine ⟨?_, Tm.le_list q1 q2⟩
        simp only [Ty.has, Tm.knd, Tm.lst, TyL.hasHead]
        simp [q3]
    rw [if_neg c1] at hy
    by_cases c2 : k = 6 ∧ v.knd = 9
    · rw [if_pos c2] at hy
      obtain ⟨rfl, c3⟩ := c2
      obtain ⟨a1, a2, a3, -, a5⟩ := Ty.own_dict hok
      have hun := Tm.good_names hv c3
      cases v with
      | mk k1 b i f tx by' rf l1 fs cc vr =>
        obtain rfl : k1 = 9 := c3
        have hF := TyL.nar_ofF p a5
        cases e : Sp.narD op (n.length + (Tm.mk 9 b i f tx by' rf l1 fs cc vr).flds.len) n l p.narFns (Tm.mk 9 b i f tx by' rf l1 fs cc vr).flds with
        | none => rw [e] at hy; simp at hy
        | some r =>
          obtain ⟨r, w'⟩ := r
          rw [e] at hy
          simp only [Option.map_some, Option.some.injEq, Prod.mk.injEq, Tm.setF] at hy
          obtain ⟨rfl, -⟩ := hy
          obtain ⟨q1, q2, q3⟩ := Sp.narD_of op _ n l p.narFns p.fns fs r w' (Nat.le_refl _) a2.symm (by rw [TyL.narFns_len]; omega) hF ((Tm.good_parts hv).2 (.inl rfl)).1 a3 hun e
          refine ⟨?_, Tm.le_dict q1 q2⟩
          simp only [Ty.has, Tm.knd, Tm.flds]
          simp [q3]
    rw [if_neg c2] at hy
    by_cases c3 : k = 7
    · subst c3
      rw [if_pos rfl] at hy
      rcases TyL.nar_ofU p (hp rfl) v hv none y w hy with h | h
      · cases h
      · refine ⟨?_, h.2⟩
        simp only [Ty.has]
        simp [h.1]
    · rw [if_neg c3] at hy
      cases e : ((Ty.mk k o t p n l op c).has v).1 with
      | false => rw [e] at hy; simp at hy
      | true =>
        rw [e] at hy
        simp only [if_true, Option.some.injEq, Prod.mk.injEq] at hy
        obtain ⟨rfl, -⟩ := hy
        exact ⟨e, Tm.Le.refl _⟩
theorem TyL.nar_of : (l : TyL) → l.ok = true → ∀ u ∈ l.toL, Sp.Of u.nar u.has
  | .nil, _, u, h => by simp [TyL.toL] at h
  | .cons t l, ho, u, h => by
    simp only [TyL.ok, Bool.and_eq_true] at ho
    simp only [TyL.toL, List.mem_cons] at h
    rcases h with h | h
    · rw [h]; exact Ty.nar_of t ho.1
    · exact TyL.nar_of l ho.2 u h
theorem TyL.nar_ofF : (l : TyL) → l.ok = true → Sp.All2 Sp.Of l.narFns l.fns
  | .nil, _ => .nil
  | .cons t l, ho => by
    simp only [TyL.ok, Bool.and_eq_true] at ho
    exact .cons (Ty.nar_of t ho.1) (TyL.nar_ofF l ho.2)
theorem TyL.nar_ofU : (l : TyL) → l.ok = true → ∀ v : Tm, v.all.e = 0 → ∀ (first : Nar) y w, l.narU v first = some (y, w) → first = some (y, w) ∨ (l.hasAny y = true ∧ y.Le v)
  | .nil, _, v, hv, first, y, w, h => .inl (by simpa [TyL.narU] using h)
  | .cons t l, ho, v, hv, first, y, w, h => by
    simp only [TyL.ok, Bool.and_eq_true] at ho
    have ht := Ty.nar_of t ho.1 v hv
    have ih := TyL.nar_ofU l ho.2 v hv
    simp only [TyL.hasAny, TyL.narU] at h ⊢
    cases e : t.nar v with
    | none =>
      rw [e] at h
      rcases ih first y w h with h | h
      · exact .inl h
      · exact .inr ⟨by simp [h.1], h.2⟩
    | some r =>
      obtain ⟨x, u⟩ := r
      rw [e] at h
      cases u with
      | true =>
        simp only [Option.some.injEq, Prod.mk.injEq] at h
        obtain ⟨rfl, rfl⟩ := h
        obtain ⟨q1, q2⟩ := ht x true e
        exact .inr ⟨by simp [q1], q2⟩
      | false =>
        rcases ih _ y w h with h' | h'
        · cases first with
          | some r => exact .inl h'
          | none =>
            simp only [Option.some.injEq, Prod.mk.injEq] at h'
            obtain ⟨rfl, rfl⟩ := h'
            obtain ⟨q1, q2⟩ := ht x false e
            exact .inr ⟨by simp [q1], q2⟩
        · exact .inr ⟨by simp [h'.1], h'.2⟩
end
end Go.Proofs.Ytcfcnijldnbbnaa


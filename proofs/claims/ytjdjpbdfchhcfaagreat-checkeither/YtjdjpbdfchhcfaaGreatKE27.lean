/- Plain mathematics: a type holds of values that are the same alike; which types are plainly of others; that this is sound, and that each type is plainly of itself. -/
import Derived.Test.YtjdjpbdfchhcfaaGreatKE26
import Derived.Test.YtjdjpbdfchhcfaaGreatKE1
namespace Go.Proofs.YtjdjpbdfchhcfaaGreat

theorem cmpS_zero {a b : ByteArray} (h : Sp.cmpS a b = 0) : a = b := by
  have := (cmp_eq_zero _ _).1 h
  cases a; cases b; simp at this; simp [this]
theorem cmpS_self (a : ByteArray) : Sp.cmpS a a = 0 := (cmp_eq_zero _ _).2 rfl
theorem cmpS_neg (a b : ByteArray) : Sp.cmpS a b = -Sp.cmpS b a := neg_cb _ _
theorem cmpS_tri (a b c : ByteArray) : Tri (Sp.cmpS a b) (Sp.cmpS b c) (Sp.cmpS a c) := tri_cb _ _ _

theorem Tm.cmp_kinds {v u : Tm} (h : v.cmp u = 0) : v.knd = u.knd ∧ (v.knd = 8 → v.lst.cmp u.lst = 0) ∧ (v.knd = 9 → v.flds.cmp u.flds = 0) ∧ (v.knd = 10 → v.cls = u.cls) := by
  cases v with
  | mk k b i f tx by' rf l fs c vr =>
    cases u with
    | mk k2 b2 i2 f2 tx2 by2 rf2 l2 fs2 c2 v2 =>
      simp only [Tm.cmp] at h
      by_cases hk : Sp.cmpI k k2 ≠ 0
      · rw [if_pos hk] at h; exact absurd h hk
      rw [if_neg hk] at h
      have hk := cmpI_zero (Decidable.not_not.1 hk)
      subst hk
      refine ⟨rfl, fun h8 => ?_, fun h9 => ?_, fun h10 => ?_⟩
      · have : k = 8 := h8
        subst this; show l.cmp l2 = 0; simpa using h
      · have : k = 9 := h9
        subst this; show fs.cmp fs2 = 0; simpa using h
      · have : k = 10 := h10
        subst this
        simp at h
        show c = c2
        by_cases a1 : Sp.cmpS c c2 = 0
        · exact cmpS_zero a1
        · rw [if_neg a1] at h; exact absurd h a1
def Sp.Cg (f : Tm → Bool × Int) : Prop := ∀ x y : Tm, x.all.e = 0 → y.all.e = 0 → x.cmp y = 0 → (f x).1 = (f y).1
theorem Sp.hasL_cg (f : Tm → Bool × Int) (hf : Sp.Cg f) : (l l2 : TmL) → ∀ n n2, l.gd → l2.gd → l.cmp l2 = 0 → (Sp.hasL f l n).1 = (Sp.hasL f l2 n2).1
  | .nil, .nil, _, _, _, _, _ => rfl
  | .nil, .cons _ _, _, _, _, _, h => by simp [TmL.cmp] at h
  | .cons _ _, .nil, _, _, _, _, h => by simp [TmL.cmp] at h
  | .cons x l, .cons y l2, n, n2, g, g2, h => by
    simp only [TmL.cmp] at h
    by_cases a1 : x.cmp y ≠ 0
    · rw [if_pos a1] at h; exact absurd h a1
    rw [if_neg a1] at h
    have e := hf x y g.1 g2.1 (Decidable.not_not.1 a1)
    simp only [Sp.hasL, e]
    split
    · exact Sp.hasL_cg f hf l l2 _ _ g.2 g2.2 h
    · rfl
theorem TmF.cmp_len : (l l2 : TmF) → l.cmp l2 = 0 → l.len = l2.len
  | .nil, .nil, _ => rfl
  | .nil, .cons _ _ _, h => by simp [TmF.cmp] at h
  | .cons _ _ _, .nil, h => by simp [TmF.cmp] at h
  | .cons n x l, .cons m y l2, h => by
    simp only [TmF.cmp] at h
    by_cases a0 : Sp.cmpS n m ≠ 0
    · rw [if_pos a0] at h; exact absurd h a0
    rw [if_neg a0] at h
    by_cases a1 : x.cmp y ≠ 0
    · rw [if_pos a1] at h; exact absurd h a1
    rw [if_neg a1] at h
    simp only [TmF.len]; rw [TmF.cmp_len l l2 h]
theorem TmF.cmp_cons {n m : ByteArray} {x y : Tm} {l l2 : TmF} (h : (TmF.cons n x l).cmp (.cons m y l2) = 0) : n = m ∧ x.cmp y = 0 ∧ l.cmp l2 = 0 := by
  simp only [TmF.cmp] at h
  by_cases a0 : Sp.cmpS n m ≠ 0
  · rw [if_pos a0] at h; exact absurd h a0
  rw [if_neg a0] at h
  by_cases a1 : x.cmp y ≠ 0
  · rw [if_pos a1] at h; exact absurd h a1
  rw [if_neg a1] at h
  exact ⟨cmpS_zero (Decidable.not_not.1 a0), Decidable.not_not.1 a1, h⟩
theorem Sp.hasD_cg (op : Bool) : (N : Nat) → ∀ (ns : List ByteArray) (ks : List Bool) (fs : List (Tm → Bool × Int)) (l l2 : TmF) (n n2 : Int), (∀ f ∈ fs, Sp.Cg f) → l.gd → l2.gd → l.cmp l2 = 0 → (Sp.hasD op N ns ks fs l n).1 = (Sp.hasD op N ns ks fs l2 n2).1
  | 0, _, _, _, _, _, _, _, _, _, _, _ => rfl
  | N + 1, ns, ks, fs, .nil, .cons _ _ _, _, _, _, _, _, h => by simp [TmF.cmp] at h
  | N + 1, ns, ks, fs, .cons _ _ _, .nil, _, _, _, _, _, h => by simp [TmF.cmp] at h
  | N + 1, [], ks, fs, .nil, .nil, _, _, _, _, _, _ => rfl
  | N + 1, [], ks, fs, .cons m x l, .cons m2 y l2, n, n2, hf, g, g2, h => by
    obtain ⟨e1, e2, e3⟩ := TmF.cmp_cons h
    simp only [Sp.hasD]
    split
    · exact Sp.hasD_cg op N [] [] [] l l2 _ _ (by simp) g.2 g2.2 e3
    · rfl
  | N + 1, a :: ns, [], fs, .nil, .nil, _, _, _, _, _, _ => rfl
  | N + 1, a :: ns, k :: ks, [], .nil, .nil, _, _, _, _, _, _ => rfl
  | N + 1, a :: ns, k :: ks, f :: fs, .nil, .nil, n, n2, hf, g, g2, h => by
    simp only [Sp.hasD]
    split
    · exact Sp.hasD_cg op N ns ks fs .nil .nil _ _ (fun g hg => hf g (List.mem_cons_of_mem _ hg)) g g2 h
    · rfl
  | N + 1, a :: ns, [], fs, .cons m x l, .cons m2 y l2, _, _, _, _, _, _ => rfl
  | N + 1, a :: ns, k :: ks, [], .cons m x l, .cons m2 y l2, _, _, _, _, _, _ => rfl
  | N + 1, a :: ns, k :: ks, f :: fs, .cons m x l, .cons m2 y l2, n, n2, hf, g, g2, h => by
    obtain ⟨rfl, e2, e3⟩ := TmF.cmp_cons h
    have e := hf f (List.mem_cons_self ..) x y g.1 g2.1 e2
    simp only [Sp.hasD, e]
    split
    · split
      · exact Sp.hasD_cg op N ns ks fs (.cons m x l) (.cons m y l2) _ _ (fun g hg => hf g (List.mem_cons_of_mem _ hg)) g g2 h
      · rfl
    · split
      · split
        · exact Sp.hasD_cg op N (a :: ns) (k :: ks) (f :: fs) l l2 _ _ hf g.2 g2.2 e3
        · rfl
      · split
        · exact Sp.hasD_cg op N ns ks fs l l2 _ _ (fun g hg => hf g (List.mem_cons_of_mem _ hg)) g.2 g2.2 e3
        · rfl
theorem Tm.good_lst {v : Tm} (h : v.all.e = 0) : (v.knd = 8 → v.lst.gd) ∧ (v.knd = 9 ∨ v.knd = 10 → v.flds.gd) := by
  cases v with
  | mk k b i f tx by' rf l fs c vr =>
    have := Tm.good_parts h
    exact ⟨fun h8 => (this.1 h8).1, fun h9 => (this.2 h9).1⟩
theorem Tm.sameB_cg {x y t : Tm} (hx : x.all.e = 0) (hy : y.all.e = 0) (h : x.cmp y = 0) : x.sameB t = y.sameB t := by
  have hc : (x.cmp t = 0) = (y.cmp t = 0) := by
    have h1 := (Tm.tri y x t).1
    have h2 := (Tm.tri x y t).1
    have h3 := (Tm.neg x y).1
    exact propext ⟨fun e => h1 (by omega) e, fun e => h2 h e⟩
  unfold Tm.sameB
  simp only [hx, hy, hc]
mutual
theorem Ty.has_cg : (t : Ty) → Sp.Cg t.has
  | .mk k o t p n l op c => fun x y hx hy h => by
    obtain ⟨e1, e2, e3, e4⟩ := Tm.cmp_kinds h
    simp only [Ty.has, ← e1]
    split
    · rfl
    split
    · rfl
    split
    · exact Tm.sameB_cg hx hy h
    split
    · split
      · rename_i h8
        exact TyL.head_cg p _ _ ((Tm.good_lst hx).1 h8) ((Tm.good_lst hy).1 (e1 ▸ h8)) (e2 h8)
      · rfl
    split
    · split
      · rename_i h9
        rw [TmF.cmp_len _ _ (e3 h9)]
        exact Sp.hasD_cg op _ n l p.fns _ _ _ _ (TyL.fns_cg p) ((Tm.good_lst hx).2 (.inl h9)) ((Tm.good_lst hy).2 (.inl (e1 ▸ h9))) (e3 h9)
      · rfl
    split
    · exact TyL.any_cg p x y hx hy h
    split
    · by_cases h10 : x.knd = 10
      · rw [e4 h10]
      · simp [h10]
    · rfl
theorem TyL.head_cg : (p : TyL) → ∀ l l2 : TmL, l.gd → l2.gd → l.cmp l2 = 0 → (p.hasHead l).1 = (p.hasHead l2).1
  | .nil, _, _, _, _, _ => rfl
  | .cons t _, l, l2, g, g2, h => by simp only [TyL.hasHead]; exact Sp.hasL_cg t.has (Ty.has_cg t) l l2 1 1 g g2 h
theorem TyL.any_cg : (p : TyL) → ∀ x y : Tm, x.all.e = 0 → y.all.e = 0 → x.cmp y = 0 → p.hasAny x = p.hasAny y
  | .nil, _, _, _, _, _ => rfl
  | .cons t l, x, y, hx, hy, h => by simp only [TyL.hasAny]; rw [Ty.has_cg t x y hx hy h, TyL.any_cg l x y hx hy h]
theorem TyL.fns_cg : (p : TyL) → ∀ f ∈ p.fns, Sp.Cg f
  | .nil, f, h => by simp [TyL.fns] at h
  | .cons t l, f, h => by
    simp only [TyL.fns, List.mem_cons] at h
    rcases h with rfl | h
    · exact Ty.has_cg t
    · exact TyL.fns_cg l f h
end

def Sp.up (l : List ByteArray) : Prop := l.Pairwise fun a b => Sp.cmpS a b < 0
theorem Sp.leS_no {a b : ByteArray} (h : Sp.leS a b = false) : Sp.cmpS b a < 0 := by
  unfold Sp.leS at h
  simp only [Bool.or_eq_false_iff] at h
  have h1 := h.1
  have h2 := h.2
  have ea : ∀ s : ByteArray, s.toList = s.data.toList := fun s => by rw [ByteArray.toList_eq]
  rw [ea, ea] at h1 h2
  rw [bytesLess_cmp] at h1
  have h3 : Sp.cmpS a b ≠ -1 := by show ¬ Lib.compareBytes a.data.toList b.data.toList = -1; simpa using h1
  have h4 : Sp.cmpS a b ≠ 0 := fun e => by rw [(cmp_eq_zero _ _).1 e] at h2; simp at h2
  have h5 := vals_cb a.data.toList b.data.toList
  have h6 := cmpS_neg b a
  have h7 : Sp.cmpS a b = Lib.compareBytes a.data.toList b.data.toList := rfl
  omega
theorem Sp.named_up : (l : List ByteArray) → ∀ a, Sp.named a l = true → Sp.up l ∧ ∀ n ∈ l, Sp.cmpS a n < 0
  | [], a, _ => ⟨List.Pairwise.nil, fun n h => by cases h⟩
  | n :: l, a, h => by
    simp only [Sp.named, Bool.and_eq_true, Bool.not_eq_true'] at h
    obtain ⟨h1, h2⟩ := Sp.named_up l n h.2
    have h3 := Sp.leS_no h.1.2
    refine ⟨List.Pairwise.cons h2 h1, fun m hm => ?_⟩
    rcases List.mem_cons.1 hm with rfl | hm
    · exact h3
    · exact (cmpS_tri a n m).2.1 h3 (by have := h2 m hm; omega)
theorem Sp.up_tail {a : ByteArray} {l : List ByteArray} (h : Sp.up (a :: l)) : Sp.up l ∧ ∀ n ∈ l, Sp.cmpS a n < 0 := ⟨(List.pairwise_cons.1 h).2, (List.pairwise_cons.1 h).1⟩
end Go.Proofs.YtjdjpbdfchhcfaaGreat

/- Plain mathematics: a dict's fields against a dict's type, told without a walk. -/
namespace Go.Proofs.YtjdjpbdfchhcfaaGreat

def TmF.pairs : TmF → List (ByteArray × Tm) | .nil => [] | .cons n t l => (n, t) :: l.pairs
theorem TmF.pairs_names : (l : TmF) → l.pairs.map (·.1) = l.names
  | .nil => rfl
  | .cons n t l => by simp only [TmF.pairs, TmF.names, List.map_cons]; rw [TmF.pairs_names l]
abbrev Sp.Zs (α : Type) := List (ByteArray × Bool × α)
def Sp.nms {α : Type} (Z : Sp.Zs α) : List ByteArray := Z.map (·.1)
def Sp.DD (op : Bool) (Z : Sp.Zs (Tm → Bool × Int)) (F : List (ByteArray × Tm)) : Prop :=
  (∀ z ∈ Z, (∃ x, (z.1, x) ∈ F ∧ (z.2.2 x).1 = true) ∨ (z.2.1 = true ∧ ∀ x, (z.1, x) ∉ F)) ∧ (op = true ∨ ∀ y ∈ F, ∃ z ∈ Z, z.1 = y.1)
theorem Sp.up_ne {a : ByteArray} {l : List ByteArray} (h : Sp.up (a :: l)) : a ∉ l := fun hm => by
  have := (Sp.up_tail h).2 a hm
  rw [cmpS_self] at this; exact absurd this (by decide)
theorem Sp.lt_notin {a m : ByteArray} {l : List ByteArray} (h : Sp.up (m :: l)) (ha : Sp.cmpS a m < 0) : a ∉ m :: l := fun hm => by
  rcases List.mem_cons.1 hm with e | hm
  · rw [e, cmpS_self] at ha; exact absurd ha (by decide)
  · have := (cmpS_tri a m a).2.1 ha (by have := (Sp.up_tail h).2 a hm; omega)
    rw [cmpS_self] at this; exact absurd this (by decide)
theorem Sp.pair_name {F : List (ByteArray × Tm)} {n : ByteArray} {x : Tm} (h : (n, x) ∈ F) : n ∈ F.map (·.1) := List.mem_map.2 ⟨_, h, rfl⟩
theorem Sp.z_name {α : Type} {Z : Sp.Zs α} {z : ByteArray × Bool × α} (h : z ∈ Z) : z.1 ∈ Sp.nms Z := List.mem_map.2 ⟨_, h, rfl⟩

theorem Sp.DD_lt {op : Bool} {n : ByteArray} {k : Bool} {f : Tm → Bool × Int} {Z : Sp.Zs (Tm → Bool × Int)} {F : List (ByteArray × Tm)} (hn : n ∉ F.map (·.1)) : Sp.DD op ((n, k, f) :: Z) F ↔ k = true ∧ Sp.DD op Z F := by
  constructor
  · rintro ⟨h1, h2⟩
    refine ⟨?_, ⟨fun z hz => h1 z (List.mem_cons_of_mem _ hz), h2.imp id fun h y hy => ?_⟩⟩
    · rcases h1 _ (List.mem_cons_self ..) with ⟨x, hx, _⟩ | h
      · exact absurd (Sp.pair_name hx) hn
      · exact h.1
    · obtain ⟨z, hz, e⟩ := h y hy
      rcases List.mem_cons.1 hz with rfl | hz
      · exact absurd (List.mem_map.2 ⟨y, hy, e.symm⟩) hn
      · exact ⟨z, hz, e⟩
  · rintro ⟨hk, h1, h2⟩
    refine ⟨fun z hz => ?_, h2.imp id fun h y hy => ?_⟩
    · rcases List.mem_cons.1 hz with rfl | hz
      · exact .inr ⟨hk, fun x hx => hn (Sp.pair_name hx)⟩
      · exact h1 z hz
    · obtain ⟨z, hz, e⟩ := h y hy; exact ⟨z, List.mem_cons_of_mem _ hz, e⟩
theorem Sp.DD_gt {op : Bool} {m : ByteArray} {x : Tm} {Z : Sp.Zs (Tm → Bool × Int)} {F : List (ByteArray × Tm)} (hm : m ∉ Sp.nms Z) : Sp.DD op Z ((m, x) :: F) ↔ op = true ∧ Sp.DD op Z F := by
  have hne : ∀ z ∈ Z, ∀ y, (z.1, y) ∈ (m, x) :: F ↔ (z.1, y) ∈ F := fun z hz y => by
    constructor
    · intro h
      rcases List.mem_cons.1 h with e | h
      · have : z.1 = m := congrArg Prod.fst e
        exact absurd (this ▸ Sp.z_name hz) hm
      · exact h
    · exact fun h => List.mem_cons_of_mem _ h
  constructor
  · rintro ⟨h1, h2⟩
    have ho : op = true := by
      rcases h2 with h | h
      · exact h
      · obtain ⟨z, hz, e⟩ := h _ (List.mem_cons_self ..)
        have e : z.1 = m := e
        exact absurd (e ▸ Sp.z_name hz) hm
    refine ⟨ho, ⟨fun z hz => ?_, .inl ho⟩⟩
    rcases h1 z hz with ⟨y, hy, e⟩ | ⟨e, h⟩
    · exact .inl ⟨y, (hne z hz y).1 hy, e⟩
    · exact .inr ⟨e, fun y hy => h y ((hne z hz y).2 hy)⟩
  · rintro ⟨ho, h1, _⟩
    refine ⟨fun z hz => ?_, .inl ho⟩
    rcases h1 z hz with ⟨y, hy, e⟩ | ⟨e, h⟩
    · exact .inl ⟨y, (hne z hz y).2 hy, e⟩
    · exact .inr ⟨e, fun y hy => h y ((hne z hz y).1 hy)⟩
theorem Sp.DD_eq {op : Bool} {n : ByteArray} {k : Bool} {f : Tm → Bool × Int} {x : Tm} {Z : Sp.Zs (Tm → Bool × Int)} {F : List (ByteArray × Tm)} (hz : n ∉ Sp.nms Z) (hf : n ∉ F.map (·.1)) : Sp.DD op ((n, k, f) :: Z) ((n, x) :: F) ↔ (f x).1 = true ∧ Sp.DD op Z F := by
  have hne : ∀ z ∈ Z, ∀ y, (z.1, y) ∈ (n, x) :: F ↔ (z.1, y) ∈ F := fun z hz' y => by
    constructor
    · intro h
      rcases List.mem_cons.1 h with e | h
      · have : z.1 = n := congrArg Prod.fst e
        exact absurd (this ▸ Sp.z_name hz') hz
      · exact h
    · exact fun h => List.mem_cons_of_mem _ h
  constructor
  · rintro ⟨h1, h2⟩
    refine ⟨?_, ⟨fun z hz' => ?_, h2.imp id fun h y hy => ?_⟩⟩
    · rcases h1 _ (List.mem_cons_self ..) with ⟨y, hy, e⟩ | ⟨_, h⟩
      · rcases List.mem_cons.1 hy with e' | hy
        · have : y = x := congrArg Prod.snd e'
          subst this; exact e
        · exact absurd (Sp.pair_name hy) hf
      · exact absurd (List.mem_cons_self ..) (h x)
    · rcases h1 z (List.mem_cons_of_mem _ hz') with ⟨y, hy, e⟩ | ⟨e, h⟩
      · exact .inl ⟨y, (hne z hz' y).1 hy, e⟩
      · exact .inr ⟨e, fun y hy => h y ((hne z hz' y).2 hy)⟩
    · obtain ⟨z, hz', e⟩ := h y (List.mem_cons_of_mem _ hy)
      rcases List.mem_cons.1 hz' with rfl | hz'
      · exact absurd (List.mem_map.2 ⟨y, hy, e.symm⟩) hf
      · exact ⟨z, hz', e⟩
  · rintro ⟨hk, h1, h2⟩
    refine ⟨fun z hz' => ?_, h2.imp id fun h y hy => ?_⟩
    · rcases List.mem_cons.1 hz' with rfl | hz'
      · exact .inl ⟨x, List.mem_cons_self .., hk⟩
      · rcases h1 z hz' with ⟨y, hy, e⟩ | ⟨e, h⟩
        · exact .inl ⟨y, (hne z hz' y).2 hy, e⟩
        · exact .inr ⟨e, fun y hy => h y ((hne z hz' y).1 hy)⟩
    · rcases List.mem_cons.1 hy with rfl | hy
      · exact ⟨_, List.mem_cons_self .., rfl⟩
      · obtain ⟨z, hz', e⟩ := h y hy; exact ⟨z, List.mem_cons_of_mem _ hz', e⟩

def Sp.z3 {α : Type} : List ByteArray → List Bool → List α → Sp.Zs α
  | n :: ns, k :: ks, f :: fs => (n, k, f) :: Sp.z3 ns ks fs
  | _, _, _ => []
theorem Sp.z3_nms {α : Type} : (ns : List ByteArray) → ∀ (ks : List Bool) (fs : List α), ks.length = ns.length → fs.length = ns.length → Sp.nms (Sp.z3 ns ks fs) = ns
  | [], _, _, _, _ => by simp [Sp.z3, Sp.nms]
  | n :: ns, [], _, h, _ => by simp at h
  | n :: ns, k :: ks, [], _, h => by simp at h
  | n :: ns, k :: ks, f :: fs, h1, h2 => by
    have := Sp.z3_nms ns ks fs (by simpa using h1) (by simpa using h2)
    simp only [Sp.z3, Sp.nms, List.map_cons] at this ⊢
    rw [this]
theorem Sp.hasD_iff (op : Bool) : (N : Nat) → ∀ (ns : List ByteArray) (ks : List Bool) (fs : List (Tm → Bool × Int)) (l : TmF) (next : Int), ns.length + l.len ≤ N → ks.length = ns.length → fs.length = ns.length → Sp.up ns → Sp.up l.names →
    ((Sp.hasD op N ns ks fs l next).1 = true ↔ Sp.DD op (Sp.z3 ns ks fs) l.pairs)
  | 0, [], ks, fs, .nil, next, _, _, _, _, _ => by simp [Sp.hasD, Sp.DD, Sp.z3, TmF.pairs]
  | 0, _ :: _, ks, fs, _, next, h, _, _, _, _ => by simp at h
  | 0, [], ks, fs, .cons _ _ _, next, h, _, _, _, _ => by simp [TmF.len] at h
  | N + 1, [], ks, fs, .nil, next, _, _, _, _, _ => by simp [Sp.hasD, Sp.DD, Sp.z3, TmF.pairs]
  | N + 1, [], ks, fs, .cons m x l, next, h, h1, h2, h3, h4 => by
    simp only [Sp.hasD, TmF.pairs]
    rw [show Sp.z3 [] ks fs = [] by simp [Sp.z3], Sp.DD_gt (by simp [Sp.nms])]
    cases op with
    | false => simp
    | true =>
      have ih := Sp.hasD_iff true N [] [] [] l (next + x.pn) (by simp [TmF.len] at h; simp; omega) rfl rfl h3 (Sp.up_tail h4).1
      rw [show Sp.z3 ([] : List ByteArray) [] ([] : List (Tm → Bool × Int)) = [] by simp [Sp.z3]] at ih
      simp only [if_true, true_and]; exact ih
  | N + 1, n :: ns, [], fs, l, next, _, h1, _, _, _ => by simp at h1
  | N + 1, n :: ns, k :: ks, [], l, next, _, _, h2, _, _ => by simp at h2
  | N + 1, n :: ns, k :: ks, f :: fs, .nil, next, h, h1, h2, h3, h4 => by
    simp only [Sp.hasD, TmF.pairs, Sp.z3]
    rw [Sp.DD_lt (by simp)]
    have ih := Sp.hasD_iff op N ns ks fs .nil next (by simp [TmF.len] at h ⊢; omega) (by simpa using h1) (by simpa using h2) (Sp.up_tail h3).1 h4
    cases k with
    | false => simp
    | true => simp only [if_true, true_and]; exact ih
  | N + 1, n :: ns, k :: ks, f :: fs, .cons m x l, next, h, h1, h2, h3, h4 => by
    have hz := Sp.z3_nms ns ks fs (by simpa using h1) (by simpa using h2)
    have hZ := Sp.z3_nms (n :: ns) (k :: ks) (f :: fs) h1 h2
    have hnm : TmF.names (.cons m x l) = m :: l.names := rfl
    have hpn := TmF.pairs_names l
    simp only [Sp.hasD]
    by_cases c1 : Sp.cmpS n m < 0
    · rw [if_pos c1]
      have ih := Sp.hasD_iff op N ns ks fs (.cons m x l) next (by simp [TmF.len] at h ⊢; omega) (by simpa using h1) (by simpa using h2) (Sp.up_tail h3).1 h4
      rw [show Sp.z3 (n :: ns) (k :: ks) (f :: fs) = (n, k, f) :: Sp.z3 ns ks fs from rfl, Sp.DD_lt (by rw [TmF.pairs_names]; exact Sp.lt_notin h4 c1)]
      cases k with
      | false => simp
      | true => simp only [if_true, true_and]; exact ih
    · rw [if_neg c1]
      by_cases c2 : 0 < Sp.cmpS n m
      · rw [if_pos c2]
        have ih := Sp.hasD_iff op N (n :: ns) (k :: ks) (f :: fs) l (next + x.pn) (by simp [TmF.len] at h ⊢; omega) h1 h2 h3 (Sp.up_tail h4).1
        have c3 : Sp.cmpS m n < 0 := by have := cmpS_neg n m; omega
        simp only [TmF.pairs]
        rw [Sp.DD_gt (by rw [hZ]; exact Sp.lt_notin h3 c3)]
        cases op with
        | false => simp
        | true => simp only [if_true, true_and]; exact ih
      · rw [if_neg c2]
        have c4 : n = m := cmpS_zero (by omega)
        subst c4
        have ih := Sp.hasD_iff op N ns ks fs l (next + x.pn) (by simp [TmF.len] at h ⊢; omega) (by simpa using h1) (by simpa using h2) (Sp.up_tail h3).1 (Sp.up_tail h4).1
        rw [show Sp.z3 (n :: ns) (k :: ks) (f :: fs) = (n, k, f) :: Sp.z3 ns ks fs from rfl]
        simp only [TmF.pairs]
        rw [Sp.DD_eq (by rw [hz]; exact Sp.up_ne h3) (by rw [hpn]; exact Sp.up_ne h4)]
        cases hfx : (f x).1 with
        | false => simp
        | true => simp only [if_true, true_and]; exact ih
end Go.Proofs.YtjdjpbdfchhcfaaGreat

/- Plain mathematics: which types are plainly of others; that this is sound, and that each type is plainly of itself. -/
namespace Go.Proofs.YtjdjpbdfchhcfaaGreat

def Ty.of : Ty → Int | .mk _ o _ _ _ _ _ _ => o
def Ty.names : Ty → List ByteArray | .mk _ _ _ _ n _ _ _ => n
def Ty.lacks : Ty → List Bool | .mk _ _ _ _ _ l _ _ => l
def Ty.opn : Ty → Bool | .mk _ _ _ _ _ _ op _ => op
def Ty.cls : Ty → ByteArray | .mk _ _ _ _ _ _ _ c => c
def TyL.toL : TyL → List Ty | .nil => [] | .cons t l => t :: l.toL
theorem TyL.toL_len : (l : TyL) → l.toL.length = l.len
  | .nil => rfl
  | .cons t l => by simp only [TyL.toL, TyL.len, List.length_cons, TyL.toL_len l]
mutual
def Ty.reach (f : Ty → Bool) : Ty → Bool
  | .mk k o t p n l op c => if k = 1 then true else if k = 7 then p.reachAny f else f (.mk k o t p n l op c)
def TyL.reachAny (f : Ty → Bool) : TyL → Bool
  | .nil => false
  | .cons t l => t.reach f || l.reachAny f
end
def Sp.subD (aop bop : Bool) : Nat → Sp.Zs (Ty → Bool) → Sp.Zs Ty → Bool
  | 0, _, _ => true
  | _ + 1, [], [] => true
  | N + 1, [], (_, k, _) :: b => (k && !aop) && Sp.subD aop bop N [] b
  | N + 1, _ :: a, [] => bop && Sp.subD aop bop N a []
  | N + 1, (n, k, f) :: a, (m, k2, q) :: b =>
    if Sp.cmpS n m < 0 then bop && Sp.subD aop bop N a ((m, k2, q) :: b)
    else if 0 < Sp.cmpS n m then (k2 && !aop) && Sp.subD aop bop N ((n, k, f) :: a) b
    else ((k2 || !k) && f q) && Sp.subD aop bop N a b
mutual
def Ty.sub : Ty → Ty → Bool
  | .mk k o t p n l op c, b =>
    if b.kind = 1 ∨ k = 2 then true
    else if k = 7 then p.subAll b
    else b.reach fun q =>
      if k = 4 then (q.has t).1
      else if k = 3 then decide (q.kind = 3 ∧ q.of = o)
      else if k = 5 then decide (q.kind = 3 ∧ q.of = 8) || (decide (q.kind = 5) && p.subHead q.parts)
      else if k = 6 then decide (q.kind = 3 ∧ q.of = 9) || (decide (q.kind = 6) && ((!op || q.opn) && Sp.subD op q.opn (n.length + q.names.length) (Sp.z3 n l p.subFns) (Sp.z3 q.names q.lacks q.parts.toL)))
      else if k = 8 then decide (q.kind = 3 ∧ q.of = 10) || decide (q.kind = 8 ∧ Sp.cmpS c q.cls = 0)
      else false
def TyL.subAll : TyL → Ty → Bool
  | .nil, _ => true
  | .cons t l, b => t.sub b && l.subAll b
def TyL.subHead : TyL → TyL → Bool
  | .cons t _, .cons u _ => t.sub u
  | _, _ => true
def TyL.subFns : TyL → List (Ty → Bool)
  | .nil => []
  | .cons t l => t.sub :: l.subFns
end
theorem TyL.subFns_map : (l : TyL) → l.subFns = l.toL.map Ty.sub
  | .nil => rfl
  | .cons t l => by simp only [TyL.subFns, TyL.toL, List.map_cons, TyL.subFns_map l]
theorem TyL.fns_map : (l : TyL) → l.fns = l.toL.map Ty.has
  | .nil => rfl
  | .cons t l => by simp only [TyL.fns, TyL.toL, List.map_cons, TyL.fns_map l]
theorem Sp.z3_map {α β : Type} (g : α → β) : (ns : List ByteArray) → ∀ (ks : List Bool) (fs : List α), Sp.z3 ns ks (fs.map g) = (Sp.z3 ns ks fs).map fun z => (z.1, z.2.1, g z.2.2)
  | [], _, _ => by simp [Sp.z3]
  | n :: ns, [], _ => by simp [Sp.z3]
  | n :: ns, k :: ks, [] => by simp [Sp.z3]
  | n :: ns, k :: ks, f :: fs => by simp only [List.map_cons, Sp.z3]; rw [Sp.z3_map g ns ks fs]
theorem Sp.z3_mem {α : Type} : (ns : List ByteArray) → ∀ (ks : List Bool) (fs : List α) z, z ∈ Sp.z3 ns ks fs → z.2.2 ∈ fs
  | [], _, _, z, h => by simp [Sp.z3] at h
  | n :: ns, [], _, z, h => by simp [Sp.z3] at h
  | n :: ns, k :: ks, [], z, h => by simp [Sp.z3] at h
  | n :: ns, k :: ks, f :: fs, z, h => by
    simp only [Sp.z3, List.mem_cons] at h
    rcases h with rfl | h
    · exact List.mem_cons_self ..
    · exact List.mem_cons_of_mem _ (Sp.z3_mem ns ks fs z h)
mutual
theorem Ty.reach_has (f : Ty → Bool) (v : Tm) (hf : ∀ q : Ty, q.ok = true → f q = true → (q.has v).1 = true) : (b : Ty) → b.ok = true → b.reach f = true → (b.has v).1 = true
  | .mk k o t p n l op c, ho, h => by
    simp only [Ty.reach] at h
    by_cases h1 : k = 1
    · subst h1; simp [Ty.has]
    rw [if_neg h1] at h
    by_cases h7 : k = 7
    · subst h7
      rw [if_pos rfl] at h
      simp only [Ty.ok, Sp.parted, Bool.and_eq_true] at ho
      have := TyL.reach_has f v hf p (by simpa using ho.2) h
      simp [Ty.has, this]
    rw [if_neg h7] at h
    exact hf _ ho h
theorem TyL.reach_has (f : Ty → Bool) (v : Tm) (hf : ∀ q : Ty, q.ok = true → f q = true → (q.has v).1 = true) : (p : TyL) → p.ok = true → p.reachAny f = true → p.hasAny v = true
  | .nil, _, h => by simp [TyL.reachAny] at h
  | .cons t l, ho, h => by
    simp only [TyL.ok, Bool.and_eq_true] at ho
    simp only [TyL.reachAny, Bool.or_eq_true] at h
    simp only [TyL.hasAny, Bool.or_eq_true]
    exact h.imp (Ty.reach_has f v hf t ho.1) (TyL.reach_has f v hf l ho.2)
end
theorem Sp.hasL_mono (f g : Tm → Bool × Int) (hf : ∀ x : Tm, x.all.e = 0 → (f x).1 = true → (g x).1 = true) : (l : TmL) → ∀ n n2, l.gd → (Sp.hasL f l n).1 = true → (Sp.hasL g l n2).1 = true
  | .nil, _, _, _, _ => rfl
  | .cons x l, n, n2, hg, h => by
    simp only [Sp.hasL] at h ⊢
    by_cases hx : (f x).1 = true
    · rw [if_pos hx] at h
      rw [if_pos (hf x hg.1 hx)]
      exact Sp.hasL_mono f g hf l _ _ hg.2 h
    · rw [if_neg hx] at h; cases h
theorem Sp.subD_imp (aop bop : Bool) : (N : Nat) → ∀ (A : Sp.Zs (Ty → Bool)) (B : Sp.Zs Ty), A.length + B.length ≤ N → Sp.up (Sp.nms A) → Sp.up (Sp.nms B) → Sp.subD aop bop N A B = true →
    (∀ z ∈ B, (∃ y ∈ A, y.1 = z.1 ∧ (z.2.1 = true ∨ y.2.1 = false) ∧ y.2.2 z.2.2 = true) ∨ (z.1 ∉ Sp.nms A ∧ z.2.1 = true ∧ aop = false)) ∧ (bop = true ∨ ∀ y ∈ A, y.1 ∈ Sp.nms B)
  | 0, [], [], _, _, _, _ => ⟨fun z h => (by cases h), .inr fun y h => (by cases h)⟩
  | 0, _ :: _, _, h, _, _, _ => by simp at h
  | 0, [], _ :: _, h, _, _, _ => by simp at h
  | N + 1, [], [], _, _, _, _ => ⟨fun z h => (by cases h), .inr fun y h => (by cases h)⟩
  | N + 1, [], (m, k, q) :: b, hN, h1, h2, h => by
    simp only [Sp.subD, Bool.and_eq_true, Bool.not_eq_true'] at h
    have ih := Sp.subD_imp aop bop N [] b (by simp at hN ⊢; omega) h1 (Sp.up_tail h2).1 h.2
    refine ⟨fun z hz => ?_, .inr fun y hy => (by cases hy)⟩
    rcases List.mem_cons.1 hz with rfl | hz
    · exact .inr ⟨by simp [Sp.nms], h.1.1, h.1.2⟩
    · exact ih.1 z hz
  | N + 1, y :: a, [], hN, h1, h2, h => by
    simp only [Sp.subD, Bool.and_eq_true] at h
    exact ⟨fun z hz => (by cases hz), .inl h.1⟩
  | N + 1, (n, k, f) :: a, (m, k2, q) :: b, hN, h1, h2, h => by
    simp only [Sp.subD] at h
    by_cases c1 : Sp.cmpS n m < 0
    · rw [if_pos c1] at h
      simp only [Bool.and_eq_true] at h
      have ih := Sp.subD_imp aop bop N a ((m, k2, q) :: b) (by simp at hN ⊢; omega) (Sp.up_tail h1).1 h2 h.2
      have hn : n ∉ Sp.nms ((m, k2, q) :: b) := Sp.lt_notin h2 c1
      refine ⟨fun z hz => ?_, .inl h.1⟩
      rcases ih.1 z hz with ⟨y, hy, e⟩ | ⟨e1, e2⟩
      · exact .inl ⟨y, List.mem_cons_of_mem _ hy, e⟩
      · refine .inr ⟨fun hm => ?_, e2⟩
        rcases List.mem_cons.1 hm with e | hm
        · have e : z.1 = n := e
          exact hn (e ▸ Sp.z_name hz)
        · exact e1 hm
    · rw [if_neg c1] at h
      by_cases c2 : 0 < Sp.cmpS n m
      · rw [if_pos c2] at h
        simp only [Bool.and_eq_true, Bool.not_eq_true'] at h
        have ih := Sp.subD_imp aop bop N ((n, k, f) :: a) b (by simp at hN ⊢; omega) h1 (Sp.up_tail h2).1 h.2
        have c3 : Sp.cmpS m n < 0 := by have := cmpS_neg n m; omega
        refine ⟨fun z hz => ?_, ih.2.imp id fun hh y hy => List.mem_cons_of_mem _ (hh y hy)⟩
        rcases List.mem_cons.1 hz with rfl | hz
        · exact .inr ⟨Sp.lt_notin h1 c3, h.1.1, h.1.2⟩
        · exact ih.1 z hz
      · rw [if_neg c2] at h
        have c4 : n = m := cmpS_zero (by omega)
        subst c4
        simp only [Bool.and_eq_true, Bool.or_eq_true, Bool.not_eq_true'] at h
        have ih := Sp.subD_imp aop bop N a b (by simp at hN ⊢; omega) (Sp.up_tail h1).1 (Sp.up_tail h2).1 h.2
        refine ⟨fun z hz => ?_, ih.2.imp id fun hh y hy => ?_⟩
        · rcases List.mem_cons.1 hz with rfl | hz
          · exact .inl ⟨_, List.mem_cons_self .., rfl, h.1.1, h.1.2⟩
          · rcases ih.1 z hz with ⟨y, hy, e⟩ | ⟨e1, e2⟩
            · exact .inl ⟨y, List.mem_cons_of_mem _ hy, e⟩
            · refine .inr ⟨fun hm => ?_, e2⟩
              rcases List.mem_cons.1 hm with e | hm
              · have e : z.1 = n := e
                exact Sp.up_ne h2 (show n ∈ Sp.nms b from e ▸ (Sp.z_name (z := z) hz))
              · exact e1 hm
        · rcases List.mem_cons.1 hy with rfl | hy
          · exact List.mem_cons_self ..
          · exact List.mem_cons_of_mem _ (hh y hy)
theorem Ty.own_dict {o : Int} {t : Tm} {p : TyL} {n : List ByteArray} {l : List Bool} {op : Bool} {c : ByteArray} (h : (Ty.mk 6 o t p n l op c).ok = true) : n.length = p.len ∧ n.length = l.length ∧ Sp.up n ∧ n.length ≤ 4096 ∧ p.ok = true := by
  simp only [Ty.ok, Ty.own, Sp.parted, Bool.and_eq_true] at h
  have h1 := h.1.1
  have h2 := h.2
  simp at h1 h2
  obtain ⟨⟨a1, a2⟩, a3⟩ := h1
  simp only [Sp.namesFit, Bool.and_eq_true, decide_eq_true_eq] at a3
  exact ⟨a1, a2, (Sp.named_up n _ a3.2).1, a3.1, h2⟩
theorem Tm.good_names {v : Tm} (h : v.all.e = 0) (hk : v.knd = 9) : Sp.up v.flds.names := by
  cases v with
  | mk k b i f tx by' rf l fs c vr =>
    have hk : k = 9 := hk
    subst hk
    unfold Tm.all at h
    rw [Tm.wk] at h
    by_cases h0 : (Tm.mk 9 b i f tx by' rf l fs c vr).own 0 1 ≠ 0
    · rw [if_pos h0] at h; exact absurd h h0
    have h0 := Decidable.not_not.1 h0
    simp only [Tm.own] at h0
    by_cases he : Sp.ent 9 0 1 ≠ 0
    · rw [if_pos he] at h0; exact absurd h0 he
    rw [if_neg he] at h0
    simp at h0
    unfold Sp.fieldsR at h0
    split at h0
    · omega
    · split at h0
      · rename_i hn; exact (Sp.named_up _ _ hn).1
      · omega
theorem TmF.gd_mem : (F : TmF) → F.gd → ∀ m y, (m, y) ∈ F.pairs → y.all.e = 0
  | .nil, _, m, y, h => by simp [TmF.pairs] at h
  | .cons n t l, g, m, y, h => by
    simp only [TmF.pairs, List.mem_cons] at h
    rcases h with e | h
    · have : y = t := congrArg Prod.snd e
      rw [this]; exact g.1
    · exact TmF.gd_mem l g.2 m y h
theorem Ty.ok_parts {k o : Int} {t : Tm} {p : TyL} {n : List ByteArray} {l : List Bool} {op : Bool} {c : ByteArray} (h : (Ty.mk k o t p n l op c).ok = true) (hk : Sp.parted k = true) : p.ok = true := by
  simp only [Ty.ok, hk, if_true, Bool.and_eq_true] at h; exact h.2
theorem Ty.ok_list {o : Int} {t : Tm} {p : TyL} {n : List ByteArray} {l : List Bool} {op : Bool} {c : ByteArray} (h : (Ty.mk 5 o t p n l op c).ok = true) : ∃ u, p = .cons u .nil ∧ u.ok = true := by
  have hp := Ty.ok_parts h (by rfl)
  simp only [Ty.ok, Ty.own, Bool.and_eq_true] at h
  have h1 := h.1.1
  simp at h1
  cases p with
  | nil => simp [TyL.len] at h1
  | cons u l =>
    cases l with
    | nil => exact ⟨u, rfl, by simpa [TyL.ok] using hp⟩
    | cons _ _ => simp [TyL.len] at h1
theorem TyL.ok_mem : (p : TyL) → p.ok = true → ∀ t ∈ p.toL, t.ok = true
  | .nil, _, t, h => by simp [TyL.toL] at h
  | .cons u l, ho, t, h => by
    simp only [TyL.ok, Bool.and_eq_true] at ho
    simp only [TyL.toL, List.mem_cons] at h
    rcases h with rfl | h
    · exact ho.1
    · exact TyL.ok_mem l ho.2 t h
theorem TyL.any_mem : (p : TyL) → ∀ v, p.hasAny v = true → ∃ t ∈ p.toL, (t.has v).1 = true
  | .nil, v, h => by simp [TyL.hasAny] at h
  | .cons u l, v, h => by
    simp only [TyL.hasAny, Bool.or_eq_true] at h
    rcases h with h | h
    · exact ⟨u, List.mem_cons_self .., h⟩
    · obtain ⟨t, ht, e⟩ := TyL.any_mem l v h; exact ⟨t, List.mem_cons_of_mem _ ht, e⟩
theorem TyL.all_mem : (p : TyL) → ∀ b, p.subAll b = true ↔ ∀ t ∈ p.toL, t.sub b = true
  | .nil, b => by simp [TyL.subAll, TyL.toL]
  | .cons u l, b => by simp [TyL.subAll, TyL.toL, TyL.all_mem l b]
def Ty.Snd (a : Ty) : Prop := ∀ b : Ty, a.ok = true → b.ok = true → a.sub b = true → ∀ v : Tm, v.all.e = 0 → (a.has v).1 = true → (b.has v).1 = true
theorem Ty.sub_dict {o : Int} {t : Tm} {p : TyL} {n : List ByteArray} {l : List Bool} {op : Bool} {c : ByteArray} (ih : ∀ u ∈ p.toL, u.Snd) (ho : (Ty.mk 6 o t p n l op c).ok = true) (q : Ty) (hq : q.ok = true) (hk : q.kind = 6) (h1 : (!op || q.opn) = true)
    (h2 : Sp.subD op q.opn (n.length + q.names.length) (Sp.z3 n l p.subFns) (Sp.z3 q.names q.lacks q.parts.toL) = true) (v : Tm) (hv : v.all.e = 0) (h : ((Ty.mk 6 o t p n l op c).has v).1 = true) : (q.has v).1 = true := by
  cases q with
  | mk k2 o2 t2 p2 n2 l2 op2 c2 =>
    have hk : k2 = 6 := hk
    subst hk
    simp only [Ty.opn, Ty.names, Ty.lacks, Ty.parts] at h1 h2
    obtain ⟨a1, a2, a3, -, a5⟩ := Ty.own_dict ho
    obtain ⟨b1, b2, b3, -, b5⟩ := Ty.own_dict hq
    simp [Ty.has] at h ⊢
    by_cases h9 : v.knd = 9
    · rw [if_pos h9] at h ⊢
      have hF := Tm.good_names hv h9
      have hgd := (Tm.good_lst hv).2 (.inl h9)
      rw [TyL.fns_map] at h ⊢
      rw [TyL.subFns_map, Sp.z3_map] at h2
      rw [Sp.hasD_iff op _ n l _ v.flds 1 (Nat.le_refl _) a2.symm (by rw [List.length_map, TyL.toL_len]; exact a1.symm) a3 hF, Sp.z3_map] at h
      rw [Sp.hasD_iff op2 _ n2 l2 _ v.flds 1 (Nat.le_refl _) b2.symm (by rw [List.length_map, TyL.toL_len]; exact b1.symm) b3 hF, Sp.z3_map]
      have eA : Sp.nms ((Sp.z3 n l p.toL).map fun z => (z.1, z.2.1, z.2.2.sub)) = n := by
        have := Sp.z3_nms n l p.toL a2.symm (by rw [TyL.toL_len]; exact a1.symm)
        refine Eq.trans ?_ this
        simp [Sp.nms]
      have eB := Sp.z3_nms n2 l2 p2.toL b2.symm (by rw [TyL.toL_len]; exact b1.symm)
      have hlen : ∀ (x : List ByteArray) (y : List Bool) (s : List Ty), y.length = x.length → s.length = x.length → (Sp.z3 x y s).length = x.length := fun x y s e1 e2 => by
        have := Sp.z3_nms x y s e1 e2
        have h3 : (Sp.nms (Sp.z3 x y s)).length = (Sp.z3 x y s).length := by simp [Sp.nms]
        rw [← h3, this]
      obtain ⟨d1, d2⟩ := Sp.subD_imp op op2 _ _ _ (by rw [List.length_map, hlen n l p.toL a2.symm (by rw [TyL.toL_len]; exact a1.symm), hlen n2 l2 p2.toL b2.symm (by rw [TyL.toL_len]; exact b1.symm)]; exact Nat.le_refl _) (by rw [eA]; exact a3) (by rw [eB]; exact b3) h2
      obtain ⟨f1, f2⟩ := h
      refine ⟨fun z hz => ?_, ?_⟩
      · obtain ⟨z0, hz0, rfl⟩ := List.mem_map.1 hz
        rcases d1 z0 hz0 with ⟨y, hy, e1, e2, e3⟩ | ⟨e1, e2, e3⟩
        · obtain ⟨y0, hy0, rfl⟩ := List.mem_map.1 hy
          simp only at e1 e2 e3 ⊢
          rcases f1 _ (List.mem_map.2 ⟨y0, hy0, rfl⟩) with ⟨x, hx, ex⟩ | ⟨ek, hx⟩
          · simp only at hx ex
            refine .inl ⟨x, e1 ▸ hx, ?_⟩
            have hu := Sp.z3_mem _ _ _ _ hy0
            have hgx : x.all.e = 0 := TmF.gd_mem v.flds hgd _ _ hx
            exact ih _ hu _ (TyL.ok_mem p a5 _ hu) (TyL.ok_mem p2 b5 _ (Sp.z3_mem _ _ _ _ hz0)) e3 x hgx ex
          · simp only at ek hx
            rcases e2 with e2 | e2
            · exact .inr ⟨e2, fun x hxx => hx x (e1 ▸ hxx)⟩
            · rw [e2] at ek; cases ek
        · simp only at e1 e2 e3 ⊢
          refine .inr ⟨e2, fun x hxx => ?_⟩
          rcases f2 with f2 | f2
          · rw [e3] at f2; cases f2
          · obtain ⟨y, hy, ey⟩ := f2 _ hxx
            obtain ⟨y0, hy0, rfl⟩ := List.mem_map.1 hy
            simp only at ey
            refine e1 (List.mem_map.2 ⟨(y0.1, y0.2.1, y0.2.2.sub), List.mem_map.2 ⟨y0, hy0, rfl⟩, ey⟩)
      · rcases d2 with d2 | d2
        · exact .inl d2
        · rcases f2 with f2 | f2
          · rw [f2] at h1; simp at h1; exact .inl h1
          · refine .inr fun y hy => ?_
            obtain ⟨z, hz, ez⟩ := f2 y hy
            obtain ⟨z0, hz0, rfl⟩ := List.mem_map.1 hz
            have := d2 _ (List.mem_map.2 ⟨z0, hz0, rfl⟩)
            obtain ⟨x0, hx0, ex0⟩ := List.mem_map.1 this
            exact ⟨_, List.mem_map.2 ⟨x0, hx0, rfl⟩, by simp only at ex0 ez ⊢; rw [ex0]; exact ez⟩
    · rw [if_neg h9] at h; cases h
mutual
theorem Ty.sub_snd : (a : Ty) → a.Snd
  | .mk k o t p n l op c => fun b ha hb h v hv hh => by
    rw [Ty.sub] at h
    by_cases c1 : b.kind = 1 ∨ k = 2
    · rcases c1 with c1 | rfl
      · cases b with
        | mk k2 o2 t2 p2 n2 l2 op2 c2 =>
          have c1 : k2 = 1 := c1
          subst c1; simp [Ty.has]
      · simp [Ty.has] at hh
    rw [if_neg c1] at h
    by_cases c7 : k = 7
    · subst c7
      rw [if_pos rfl] at h
      have hp := Ty.ok_parts ha (by rfl)
      simp [Ty.has] at hh
      obtain ⟨u, hu, e⟩ := TyL.any_mem p v hh
      exact TyL.sub_snd p u hu b (TyL.ok_mem p hp u hu) hb ((TyL.all_mem p b).1 h u hu) v hv e
    rw [if_neg c7] at h
    refine Ty.reach_has _ v (fun q hq hf => ?_) b hb h
    by_cases c4 : k = 4
    · subst c4
      rw [if_pos rfl] at hf
      have ht : t.all.e = 0 := by simp only [Ty.ok, Bool.and_eq_true] at ha; have := ha.1.2; simpa using this
      simp [Ty.has] at hh
      simp only [Tm.sameB, decide_eq_true_eq] at hh
      rw [Ty.has_cg q v t hv ht hh.2.2]; exact hf
    rw [if_neg c4] at hf
    by_cases c3 : k = 3
    · subst c3
      rw [if_pos rfl] at hf
      cases q with
      | mk k2 o2 t2 p2 n2 l2 op2 c2 =>
        obtain ⟨e1, e2⟩ := of_decide_eq_true hf
        have e1 : k2 = 3 := e1
        have e2 : o2 = o := e2
        subst e1; subst e2
        simp [Ty.has] at hh ⊢; exact hh
    rw [if_neg c3] at hf
    by_cases c5 : k = 5
    · subst c5
      rw [if_pos rfl] at hf
      obtain ⟨u, rfl, hu⟩ := Ty.ok_list ha
      simp [Ty.has] at hh
      by_cases h8 : v.knd = 8
      · rw [if_pos h8] at hh
        cases q with
        | mk k2 o2 t2 p2 n2 l2 op2 c2 =>
          rcases (Bool.or_eq_true _ _).mp hf with hf | hf
          · obtain ⟨e1, e2⟩ := of_decide_eq_true hf
            have e1 : k2 = 3 := e1
            have e2 : o2 = 8 := e2
            subst e1; subst e2
            simp [Ty.has, h8]
          · obtain ⟨e1, hf⟩ := (Bool.and_eq_true _ _).mp hf
            have e1 : k2 = 5 := of_decide_eq_true e1
            subst e1
            obtain ⟨u2, rfl, hu2⟩ := Ty.ok_list hq
            have hf : u.sub u2 = true := hf
            simp [Ty.has, h8]
            simp only [TyL.hasHead] at hh ⊢
            exact Sp.hasL_mono _ _ (fun x hx hxx => Ty.sub_snd u u2 hu hu2 hf x hx hxx) v.lst 1 1 ((Tm.good_lst hv).1 h8) hh
      · rw [if_neg h8] at hh; cases hh
    rw [if_neg c5] at hf
    by_cases c6 : k = 6
    · subst c6
      rw [if_pos rfl] at hf
      simp only [Bool.or_eq_true, Bool.and_eq_true, decide_eq_true_eq] at hf
      rcases hf with ⟨e1, e2⟩ | ⟨e1, e2, e3⟩
      · cases q with
        | mk k2 o2 t2 p2 n2 l2 op2 c2 =>
          have e1 : k2 = 3 := e1
          have e2 : o2 = 9 := e2
          subst e1; subst e2
          simp [Ty.has] at hh ⊢
          by_cases h9 : v.knd = 9
          · exact h9
          · rw [if_neg h9] at hh; cases hh
      · exact Ty.sub_dict (TyL.sub_snd p) ha q hq e1 (by simpa using e2) e3 v hv hh
    rw [if_neg c6] at hf
    by_cases c8 : k = 8
    · subst c8
      rw [if_pos rfl] at hf
      cases q with
      | mk k2 o2 t2 p2 n2 l2 op2 c2 =>
        simp [Ty.has] at hh
        rcases (Bool.or_eq_true _ _).mp hf with hf | hf
        · obtain ⟨e1, e2⟩ := of_decide_eq_true hf
          have e1 : k2 = 3 := e1
          have e2 : o2 = 10 := e2
          subst e1; subst e2
          simp [Ty.has, hh.1]
        · obtain ⟨e1, e⟩ := of_decide_eq_true hf
          have e1 : k2 = 8 := e1
          subst e1
          have e : c = c2 := cmpS_zero e
          subst e
          simp [Ty.has, hh.1, hh.2]
    rw [if_neg c8] at hf; cases hf
theorem TyL.sub_snd : (p : TyL) → ∀ u ∈ p.toL, u.Snd
  | .nil, u, h => by simp [TyL.toL] at h
  | .cons t l, u, h => by
    simp only [TyL.toL, List.mem_cons] at h
    rcases h with h | h
    · rw [h]; exact Ty.sub_snd t
    · exact TyL.sub_snd l u h
end
theorem Ty.reach_any {f : Ty → Bool} {q : Ty} (h : q.kind = 1) : q.reach f = true := by
  cases q with
  | mk k o t p n l op c => have h : k = 1 := h; subst h; simp [Ty.reach]
end Go.Proofs.YtjdjpbdfchhcfaaGreat


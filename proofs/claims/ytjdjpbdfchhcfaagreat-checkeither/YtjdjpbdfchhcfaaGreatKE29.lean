/- check.has: kinds without parts. -/
import Derived.Test.YtjdjpbdfchhcfaaGreatKE26
import Derived.Test.YtjdjpbdfchhcfaaGreatKE28
import Derived.Test.YtjdjpbdfchhcfaaGreatKE16
import Derived.Test.YtjdjpbdfchhcfaaGreatKE9
import Derived.Test.YtjdjpbdfchhcfaaGreatKE18
import Derived.Test.YtjdjpbdfchhcfaaGreatKE2
import Derived.Deep.RegionWith
namespace Go.Proofs.YtjdjpbdfchhcfaaGreat
open Go.RowKit

mutual
theorem Tm.cmp_pn : (s t : Tm) → s.cmp t = 0 → s.pn = t.pn
  | .mk k b i f tx by' rf l fs c v, .mk k2 b2 i2 f2 tx2 by2 rf2 l2 fs2 c2 v2, h => by
    simp only [Tm.cmp] at h
    by_cases hk : Sp.cmpI k k2 ≠ 0
    · rw [if_pos hk] at h; exact absurd h hk
    rw [if_neg hk] at h
    have hk := cmpI_zero (Decidable.not_not.1 hk)
    subst hk
    simp only [Tm.pn]
    by_cases h8 : k = 8
    · subst h8; simp at h ⊢; rw [TmL.cmp_pn l l2 h]
    by_cases h9 : k = 9
    · subst h9; simp at h ⊢; rw [TmF.cmp_pn fs fs2 h]
    by_cases h10 : k = 10
    · subst h10
      simp only [if_true, if_neg (show ¬ (10 : Int) = 2 by decide), if_neg (show ¬ (10 : Int) = 3 by decide), if_neg (show ¬ (10 : Int) = 4 by decide), if_neg (show ¬ (10 : Int) = 5 by decide), if_neg (show ¬ (10 : Int) = 6 by decide), if_neg (show ¬ (10 : Int) = 7 by decide), if_neg (show ¬ (10 : Int) = 8 by decide), if_neg (show ¬ (10 : Int) = 9 by decide)] at h
      by_cases a1 : Sp.cmpS c c2 ≠ 0
      · rw [if_pos a1] at h; exact absurd h a1
      rw [if_neg a1] at h
      by_cases a2 : Sp.cmpI v v2 ≠ 0
      · rw [if_pos a2] at h; exact absurd h a2
      rw [if_neg a2] at h
      simp [TmF.cmp_pn fs fs2 h]
    rw [if_neg h8, if_neg (by omega), if_neg h8, if_neg (by omega)]
theorem TmL.cmp_pn : (s t : TmL) → s.cmp t = 0 → s.pn = t.pn
  | .nil, .nil, _ => rfl
  | .nil, .cons _ _, h => by simp [TmL.cmp] at h
  | .cons _ _, .nil, h => by simp [TmL.cmp] at h
  | .cons t l, .cons t2 l2, h => by
    simp only [TmL.cmp] at h
    by_cases a1 : t.cmp t2 ≠ 0
    · rw [if_pos a1] at h; exact absurd h a1
    rw [if_neg a1] at h
    rw [TmL.pn, TmL.pn, Tm.cmp_pn t t2 (Decidable.not_not.1 a1), TmL.cmp_pn l l2 h]
theorem TmF.cmp_pn : (s t : TmF) → s.cmp t = 0 → s.pn = t.pn
  | .nil, .nil, _ => rfl
  | .nil, .cons _ _ _, h => by simp [TmF.cmp] at h
  | .cons _ _ _, .nil, h => by simp [TmF.cmp] at h
  | .cons n t l, .cons n2 t2 l2, h => by
    simp only [TmF.cmp] at h
    by_cases a0 : Sp.cmpS n n2 ≠ 0
    · rw [if_pos a0] at h; exact absurd h a0
    rw [if_neg a0] at h
    by_cases a1 : t.cmp t2 ≠ 0
    · rw [if_pos a1] at h; exact absurd h a1
    rw [if_neg a1] at h
    rw [TmF.pn, TmF.pn, Tm.cmp_pn t t2 (Decidable.not_not.1 a1), TmF.cmp_pn l l2 h]
end
theorem Tm.same_pn {s t : Tm} (h : s.sameB t = true) : s.szN = t.szN := by
  simp only [Tm.sameB, decide_eq_true_eq] at h
  rw [(Tm.good_pn h.1).1, (Tm.good_pn h.2.1).1, Tm.cmp_pn s t h.2.2]

def HasE (t : Ty) (v : Tm) (w : World) (e : Ending) (w' : World) : Prop := e = .returned (.tuple #[.bool (t.has v).1, .int .i64 (t.has v).2]) ∧ Below w.heap.size w w'
def HasC (N : Nat) : Prop := ∀ (t : Ty), t.sz ≤ N → t.ok = true → ∀ (v : Tm) (x : Value) (b B : Nat) (w : World), v.all.e = 0 → v.V w (Lo B) x → t.Sh w (Lo B) b → B ≤ w.heap.size →
  Calls Tryz.prog 45 #[.pointer (some ⟨b, 0, none⟩), x] w (HasE t v w)
theorem HasE.of {t : Ty} {v : Tm} {w W : World} {r : Bool} {q : Int} (h : t.has v = (r, q)) (hb : Below w.heap.size w W) : HasE t v w (.returned (.tuple #[.bool r, .int .i64 q])) W := by
  unfold HasE; rw [h]; exact ⟨rfl, hb⟩

set_option maxRecDepth 100000 in
set_option maxHeartbeats 4000000 in
theorem has_1 (k o : Int) (t : Tm) (p : TyL) (n : List ByteArray) (l : List Bool) (op : Bool) (c : ByteArray) (v : Tm) (x : Value) (b : Nat) (w : World) (hsh : x = .nilIface ∨ ∃ T y, x = .iface T y) (hb : b < w.heap.size) (c0 : w.cell? ⟨b, 0, none⟩ = some (.int .i64 k)) (hk : k = 1 ∨ k = 2) :
    Calls Tryz.prog 45 #[.pointer (some ⟨b, 0, none⟩), x] w (HasE (Ty.mk k o t p n l op c) v w) := by
  have HB : Hid (∀ o, Below w.heap.size w (w.alloc o)) := fun o => (Below.refl _ _).alloc (Nat.le_refl _) _
  rcases hk with rfl | rfl
  · have H : Hid ((Ty.mk 1 o t p n l op c).has v = (true, 0)) := by show _ = _; simp [Ty.has]
    rcases hsh with rfl | ⟨T, y, rfl⟩
    all_goals
      go_enter Tryz.func45, Tryz.ntmps45
      go_wp2_with fail
      go_ret2
      exact HasE.of H.out (HB.out _)
  · have H : Hid ((Ty.mk 2 o t p n l op c).has v = (false, 0)) := by show _ = _; simp [Ty.has]
    rcases hsh with rfl | ⟨T, y, rfl⟩
    all_goals
      go_enter Tryz.func45, Tryz.ntmps45
      go_wp2_with fail
      go_ret2
      exact HasE.of H.out (HB.out _)

set_option maxRecDepth 100000 in
set_option maxHeartbeats 4000000 in
theorem has_3 (o : Int) (t : Tm) (p : TyL) (n : List ByteArray) (l : List Bool) (op : Bool) (c : ByteArray) (v : Tm) (x : Value) (b : Nat) (w : World) (hsh : x = .nilIface ∨ ∃ T y, x = .iface T y) (hb : b < w.heap.size) (c0 : w.cell? ⟨b, 0, none⟩ = some (.int .i64 3)) (c1 : w.cell? ⟨b, 1, none⟩ = some (.int .i64 o)) (hk : KindC x v.knd) :
    Calls Tryz.prog 45 #[.pointer (some ⟨b, 0, none⟩), x] w (HasE (Ty.mk 3 o t p n l op c) v w) := by
  have HB : Hid (∀ o, Below w.heap.size w (w.alloc o)) := fun o => (Below.refl _ _).alloc (Nat.le_refl _) _
  have HK : Hid (∀ W, Calls Tryz.prog 71 #[x] W fun e w' => e = .returned (.int .i64 v.knd) ∧ W = w') := fun W => Kind_any x v.knd hk W
  have H : Hid ((Ty.mk 3 o t p n l op c).has v = (decide (v.knd = o), 0)) := by show _ = _; simp [Ty.has]
  clear hk
  generalize v.knd = kv at *
  by_cases hko : kv = o
  · subst hko
    rcases hsh with rfl | ⟨T, y, rfl⟩
    all_goals
      go_enter Tryz.func45, Tryz.ntmps45
      go_wp2_with fail
      go_quiet ((go_at_call 71; exact Calls.quiet_of_same ((HK.out _).mono (fun e w' h => ⟨h.1, h.2.symm⟩))))
      go_wp2_with fail
      go_ret2
      refine HasE.of (by rw [H.out]; simp) ?_
      exact (HB.out _).trans (below_drewN' _ _ _)
  · have hkb : (kv == o) = false := by simp [hko]
    rcases hsh with rfl | ⟨T, y, rfl⟩
    all_goals
      go_enter Tryz.func45, Tryz.ntmps45
      go_wp2_with fail
      go_quiet ((go_at_call 71; exact Calls.quiet_of_same ((HK.out _).mono (fun e w' h => ⟨h.1, h.2.symm⟩))))
      go_wp2_with fail
      go_ret2
      refine HasE.of (by rw [H.out]; simp [hko]) ?_
      exact (HB.out _).trans (below_drewN' _ _ _)
end Go.Proofs.YtjdjpbdfchhcfaaGreat

/- check.has: a record's type; a list's type. -/
namespace Go.Proofs.YtjdjpbdfchhcfaaGreat
open Go.RowKit

theorem Tm.V_other {w : World} {B : Nat → Prop} {v : Tm} {x : Value} (hv : v.V w B x) (hg : v.all.e = 0) :
    (v.knd ≠ 8 → x = .nilIface ∨ ∃ T y, x = .iface T y ∧ T ≠ 71) ∧ (v.knd ≠ 9 → x = .nilIface ∨ ∃ T y, x = .iface T y ∧ T ≠ 73) ∧ (v.knd ≠ 10 → x = .nilIface ∨ ∃ T y, x = .iface T y ∧ T ≠ 75) := by
  have ho := Tm.ok_all hg
  cases v with
  | mk k b i f tx by' rf l fs c vr =>
    obtain ⟨q1, q2, -, -⟩ := ho.parts
    simp only [Tm.V] at hv
    obtain ⟨h1, h2, h3, h4, h5, h6, h7, h8, h9, h10, -, -⟩ := hv
    have hk : k = 1 ∨ k = 2 ∨ k = 3 ∨ k = 4 ∨ k = 5 ∨ k = 6 ∨ k = 7 ∨ k = 8 ∨ k = 9 ∨ k = 10 := by omega
    simp only [Tm.knd]
    rcases hk with rfl | rfl | rfl | rfl | rfl | rfl | rfl | rfl | rfl | rfl
    · rw [h1 rfl]; exact ⟨fun _ => .inl rfl, fun _ => .inl rfl, fun _ => .inl rfl⟩
    · rw [h2 rfl]; exact ⟨fun _ => .inr ⟨_, _, rfl, by decide⟩, fun _ => .inr ⟨_, _, rfl, by decide⟩, fun _ => .inr ⟨_, _, rfl, by decide⟩⟩
    · rw [h3 rfl]; exact ⟨fun _ => .inr ⟨_, _, rfl, by decide⟩, fun _ => .inr ⟨_, _, rfl, by decide⟩, fun _ => .inr ⟨_, _, rfl, by decide⟩⟩
    · rw [(h4 rfl).1]; exact ⟨fun _ => .inr ⟨_, _, rfl, by decide⟩, fun _ => .inr ⟨_, _, rfl, by decide⟩, fun _ => .inr ⟨_, _, rfl, by decide⟩⟩
    · rw [(h5 rfl).1]; exact ⟨fun _ => .inr ⟨_, _, rfl, by decide⟩, fun _ => .inr ⟨_, _, rfl, by decide⟩, fun _ => .inr ⟨_, _, rfl, by decide⟩⟩
    · obtain ⟨a, cap, rfl, -⟩ := h6 rfl; exact ⟨fun _ => .inr ⟨_, _, rfl, by decide⟩, fun _ => .inr ⟨_, _, rfl, by decide⟩, fun _ => .inr ⟨_, _, rfl, by decide⟩⟩
    · rw [h7 rfl]; exact ⟨fun _ => .inr ⟨_, _, rfl, by decide⟩, fun _ => .inr ⟨_, _, rfl, by decide⟩, fun _ => .inr ⟨_, _, rfl, by decide⟩⟩
    · obtain ⟨a, cap, rfl, -⟩ := h8 rfl; exact ⟨fun h => absurd rfl h, fun _ => .inr ⟨_, _, rfl, by decide⟩, fun _ => .inr ⟨_, _, rfl, by decide⟩⟩
    · obtain ⟨a, cap, rfl, -⟩ := h9 rfl; exact ⟨fun _ => .inr ⟨_, _, rfl, by decide⟩, fun h => absurd rfl h, fun _ => .inr ⟨_, _, rfl, by decide⟩⟩
    · obtain ⟨g, a, cap, rfl, -⟩ := h10 rfl; exact ⟨fun _ => .inr ⟨_, _, rfl, by decide⟩, fun _ => .inr ⟨_, _, rfl, by decide⟩, fun h => absurd rfl h⟩

set_option maxRecDepth 100000 in
set_option maxHeartbeats 4000000 in
theorem has_8 (o : Int) (t : Tm) (p : TyL) (n : List ByteArray) (l : List Bool) (op : Bool) (c : ByteArray) (v : Tm) (x : Value) (b B : Nat) (w : World) (hg : v.all.e = 0) (hB : B ≤ w.heap.size) (hb : b < B) (hv : v.V w (Lo B) x) (c0 : w.cell? ⟨b, 0, none⟩ = some (.int .i64 8)) (c8 : w.cell? ⟨b, 8, none⟩ = some (.string c)) :
    Calls Tryz.prog 45 #[.pointer (some ⟨b, 0, none⟩), x] w (HasE (Ty.mk 8 o t p n l op c) v w) := by
  have hbw : b < w.heap.size := by omega
  have HB : Hid (∀ o, Below w.heap.size w (w.alloc o)) := fun o => (Below.refl _ _).alloc (Nat.le_refl _) _
  have H : Hid ((Ty.mk 8 o t p n l op c).has v = (decide (v.knd = 10) && decide (Sp.cmpS v.cls c = 0), 0)) := by show _ = _; simp [Ty.has]
  by_cases hk : v.knd = 10
  · cases v with
    | mk k b' i f tx by' rf l' fs c' vr =>
      have hk' : k = 10 := hk
      subst hk'
      simp only [Tm.V] at hv
      obtain ⟨-, -, -, -, -, -, -, -, -, h10, -, -⟩ := hv
      obtain ⟨g, a, cap, rfl, hg', d0, -⟩ := h10 trivial
      have hgw : g < w.heap.size := Nat.lt_of_lt_of_le hg' hB
      have HE : Hid ((Ty.mk 8 o t p n l op c).has (Tm.mk 10 b' i f tx by' rf l' fs c' vr) = (decide (Sp.cmpS c' c = 0), 0)) := by show _ = _; rw [H.out]; simp only [Tm.knd, Tm.cls, decide_true, Bool.true_and]; rfl
      clear H h10 hk hg hB hb hg'
      go_enter Tryz.func45, Tryz.ntmps45
      go_wp2_with fail
      go_quiet (fail)
      go_wp2_with fail
      go_ret2
      refine HasE.of (by rw [HE.out, same_of]) ?_
      exact (HB.out _).trans (below_drewN' _ _ _)
  · have hx := (Tm.V_other hv hg).2.2 hk
    have HE : Hid ((Ty.mk 8 o t p n l op c).has v = (false, 0)) := by show _ = _; rw [H.out]; simp [hk]
    clear H hk hg hB hb hv
    rcases hx with rfl | ⟨T, y, rfl, hT⟩
    all_goals
      go_enter Tryz.func45, Tryz.ntmps45
      go_wp2_with fail
      go_quiet (fail)
      go_wp2_with fail
      go_ret2
      refine HasE.of (by rw [HE.out]) ?_
      exact (HB.out _).trans (below_drewN' _ _ _)
end Go.Proofs.YtjdjpbdfchhcfaaGreat

/- Plain mathematics: where it shows lies within the term. -/
namespace Go.Proofs.YtjdjpbdfchhcfaaGreat
open Go.RowKit

def Sp.bdd (f : Tm → Bool × Int) : Prop := ∀ x : Tm, 0 ≤ (f x).2 ∧ (f x).2 < x.pn
theorem Sp.hasL_bd (f : Tm → Bool × Int) (hf : Sp.bdd f) : (l : TmL) → ∀ next, 1 ≤ next → 0 ≤ (Sp.hasL f l next).2 ∧ (Sp.hasL f l next).2 < next + l.pn
  | .nil, next, h => by simp only [Sp.hasL, TmL.pn]; omega
  | .cons x l, next, h => by
    simp only [Sp.hasL, TmL.pn]
    have h1 := hf x
    have h2 := x.pn_pos
    have h3 := l.pn_pos
    split
    · have := Sp.hasL_bd f hf l (next + x.pn) (by omega); omega
    · simp only []; omega
theorem Sp.hasD_bd (op : Bool) : (N : Nat) → ∀ (ns : List ByteArray) (ks : List Bool) (fs : List (Tm → Bool × Int)) (l : TmF) (next : Int), (∀ f ∈ fs, Sp.bdd f) → 1 ≤ next → 0 ≤ (Sp.hasD op N ns ks fs l next).2 ∧ (Sp.hasD op N ns ks fs l next).2 < next + l.pn
  | 0, ns, ks, fs, l, next, hf, h => by have := l.pn_pos; simp only [Sp.hasD]; omega
  | N + 1, [], ks, fs, .nil, next, hf, h => by simp only [Sp.hasD, TmF.pn]; omega
  | N + 1, [], ks, fs, .cons m x l, next, hf, h => by
    have h1 := x.pn_pos
    have h2 := l.pn_pos
    simp only [Sp.hasD, TmF.pn]
    split
    · have := Sp.hasD_bd op N [] [] [] l (next + x.pn) (by simp) (by omega); omega
    · simp only []; omega
  | N + 1, n :: ns, [], fs, l, next, hf, h => by have := l.pn_pos; cases l <;> simp only [Sp.hasD] <;> omega
  | N + 1, n :: ns, k :: ks, [], l, next, hf, h => by have := l.pn_pos; cases l <;> simp only [Sp.hasD] <;> omega
  | N + 1, n :: ns, k :: ks, f :: fs, .nil, next, hf, h => by
    simp only [Sp.hasD]
    split
    · exact Sp.hasD_bd op N ns ks fs .nil next (fun g hg => hf g (List.mem_cons_of_mem _ hg)) h
    · simp only [TmF.pn]; omega
  | N + 1, n :: ns, k :: ks, f :: fs, .cons m x l, next, hf, h => by
    have h1 := x.pn_pos
    have h2 := l.pn_pos
    have h3 := hf f (List.mem_cons_self ..) x
    simp only [Sp.hasD]
    split
    · split
      · exact Sp.hasD_bd op N ns ks fs (.cons m x l) next (fun g hg => hf g (List.mem_cons_of_mem _ hg)) h
      · simp only [TmF.pn]; omega
    · split
      · split
        · have := Sp.hasD_bd op N (n :: ns) (k :: ks) (f :: fs) l (next + x.pn) hf (by omega)
          simp only [TmF.pn]; omega
        · simp only [TmF.pn]; omega
      · split
        · have := Sp.hasD_bd op N ns ks fs l (next + x.pn) (fun g hg => hf g (List.mem_cons_of_mem _ hg)) (by omega)
          simp only [TmF.pn]; omega
        · simp only [TmF.pn]; omega
theorem Tm.pn_eq (v : Tm) : v.pn = 1 + (if v.knd = 8 then v.lst.pn else if v.knd = 9 ∨ v.knd = 10 then v.flds.pn else 0) := by cases v; rfl
mutual
theorem Ty.has_bd : (t : Ty) → Sp.bdd t.has
  | .mk k o t p n l op c => fun v => by
    have hv := v.pn_pos
    simp only [Ty.has]
    split
    · simp only []; omega
    split
    · simp only []; omega
    split
    · simp only []; omega
    split
    · split
      · rename_i h8
        have := TyL.head_bd p v.lst
        rw [Tm.pn_eq, if_pos h8]; exact this
      · simp only []; omega
    split
    · split
      · rename_i h9
        have := Sp.hasD_bd op (n.length + v.flds.len) n l p.fns v.flds 1 (TyL.fns_bd p) (by decide)
        rw [Tm.pn_eq, if_neg (by omega), if_pos (.inl h9)]; exact this
      · simp only []; omega
    split
    · simp only []; omega
    split
    · simp only []; omega
    · simp only []; omega
theorem TyL.head_bd : (p : TyL) → ∀ l : TmL, 0 ≤ (p.hasHead l).2 ∧ (p.hasHead l).2 < 1 + l.pn
  | .nil, l => by have := l.pn_pos; simp only [TyL.hasHead]; omega
  | .cons t _, l => by simp only [TyL.hasHead]; exact Sp.hasL_bd t.has (Ty.has_bd t) l 1 (by decide)
theorem TyL.fns_bd : (p : TyL) → ∀ f ∈ p.fns, Sp.bdd f
  | .nil, f, h => by simp [TyL.fns] at h
  | .cons t l, f, h => by
    simp only [TyL.fns, List.mem_cons] at h
    rcases h with rfl | h
    · exact Ty.has_bd t
    · exact TyL.fns_bd l f h
end
def TmL.pre : TmL → Nat → Int
  | _, 0 => 0
  | .nil, _ + 1 => 0
  | .cons t l, k + 1 => t.pn + l.pre k
theorem TmL.pre_bd : (l : TmL) → ∀ k, 0 ≤ l.pre k ∧ l.pre k ≤ l.pn
  | l, 0 => by have := l.pn_pos; cases l <;> simp only [TmL.pre] <;> omega
  | .nil, _ + 1 => by simp [TmL.pre, TmL.pn]
  | .cons t l, k + 1 => by
    have := TmL.pre_bd l k; have := t.pn_pos
    simp only [TmL.pre, TmL.pn]; omega
end Go.Proofs.YtjdjpbdfchhcfaaGreat

/- check.hasList; check.has of a list's type. -/
namespace Go.Proofs.YtjdjpbdfchhcfaaGreat
open Go.RowKit

set_option maxRecDepth 100000 in
set_option maxHeartbeats 4000000 in
theorem hasList_any (t : Ty) (L : TmL) (al : Option Addr) (cl : Nat) (b gp op b' B : Nat) (np cp : Nat) (w : World)
    (HT : ∀ (v : Tm) (x : Value) (W : World), Below w.heap.size w W → v.all.e = 0 → v.V w (Lo B) x → Calls Tryz.prog 45 #[.pointer (some ⟨b', 0, none⟩), x] W (HasE t v W))
    (hB : B ≤ w.heap.size) (hb : b < B) (hgp : gp < B) (hnp : 0 < np) (c4 : w.cell? ⟨b, 4, none⟩ = some (.slice (some ⟨gp, op, none⟩) np cp)) (c5 : w.cell? ⟨gp, op, none⟩ = some (.pointer (some ⟨b', 0, none⟩)))
    (hL : L.V w (Lo B) al 0) (hgd : L.gd) (hpn : L.pn < 16384) (hcap : L.len ≤ cl) (hlen : L.len ≤ 140737488355328) (hcl : cl ≤ 9223372036854775807) :
    Calls Tryz.prog 84 #[.pointer (some ⟨b, 0, none⟩), .slice al L.len cl] w fun e w' => e = .returned (.tuple #[.bool (Sp.hasL t.has L 1).1, .int .i64 (Sp.hasL t.has L 1).2]) ∧ Below w.heap.size w w' := by
  have HX : Hid (∀ W, Below w.heap.size w W → W.cell? ⟨b, 4, none⟩ = some (.slice (some ⟨gp, op, none⟩) np cp) ∧ W.cell? ⟨gp, op, none⟩ = some (.pointer (some ⟨b', 0, none⟩))) := fun W hW => ⟨by rw [hW.cell (p := ⟨b, 4, none⟩) (show b < w.heap.size by omega)]; exact c4, by rw [hW.cell (p := ⟨gp, op, none⟩) (show gp < w.heap.size by omega)]; exact c5⟩
  have HTH : Hid (∀ (v : Tm) (x : Value) (W : World), Below w.heap.size w W → v.all.e = 0 → v.V w (Lo B) x → Calls Tryz.prog 45 #[.pointer (some ⟨b', 0, none⟩), x] W (HasE t v W)) := HT
  have HZ : Hid (∀ (v : Tm) (x : Value) (W : World), Below w.heap.size w W → v.all.e = 0 → v.V w (Lo B) x → Calls Tryz.prog 106 #[x] W fun e w' => e = .returned (.int .i64 v.pn) ∧ Below W.heap.size W w') := fun v x W hW hg hv => by
    have := sizeOf_any v x B W (Nat.le_trans hB hW.size) (v.V_same (fun k hk => hW.block k (Nat.lt_of_lt_of_le hk hB)) (fun _ h => h) x hv)
    rw [(Tm.good_pn hg).1] at this; exact this
  have HC : Hid (∀ W g o v, Below w.heap.size w W → Lo B g → w.cell? ⟨g, o, none⟩ = some v → W.cell? ⟨g, o, none⟩ = some v) := fun W g o v hW hg hc => by rw [hW.cell (p := ⟨g, o, none⟩) (Nat.lt_of_lt_of_le hg hB)]; exact hc
  have H0 : Hid (L.V w (Lo B) al 0 ∧ L.gd) := ⟨hL, hgd⟩
  have HBD := Ty.has_bd t
  have HBD : Hid (Sp.bdd t.has) := HBD
  obtain ⟨RES, HRES⟩ : ∃ RES : Bool × Int, Hid (RES = Sp.hasL t.has L 1) := ⟨_, show _ = _ from rfl⟩
  rw [← HRES.out]
  clear HT hL hgd hb hgp c4 c5 hB
  go_enter Tryz.func84, Tryz.ntmps84
  go_wp2_with fail
  go_loopw [14] (fun x wr => ∃ (k : Nat) (l : TmL), x = .int .i64 k ∧ l.len + k = L.len ∧ Hid (Below w.heap.size w wr ∧ l.V w (Lo B) al k ∧ l.gd ∧ RES = Sp.hasL t.has l (1 + L.pre k) ∧ (∀ j, L.pre (k + j) = L.pre k + l.pre j) ∧ L.pre k + l.pn = L.pn)) (fun x _ => L.len - (intOf x).toNat)
  case atStart => exact ⟨0, L, rfl, rfl, ⟨Below.refl _ _, H0.out.1, H0.out.2, by rw [HRES.out]; simp [TmL.pre], fun j => by simp [TmL.pre], by simp [TmL.pre]⟩⟩
  case round =>
    obtain ⟨k, l, rfl, hl, HK⟩ := hrel
    cases l with
    | nil =>
      have h1 : L.len ≤ k := by simp [TmL.len] at hl; omega
      have HR : Hid (RES = (true, 0) ∧ Below w.heap.size w wr) := ⟨HK.out.2.2.2.1, HK.out.1⟩
      clear hl HK
      go_wp2_with fail
      go_ret2
      exact ⟨by rw [HR.out.1]; rfl, HR.out.2⟩
    | cons v l =>
      obtain ⟨hbw, hV, hg, hres, hpre, hsum⟩ := HK.out
      simp only [TmL.V] at hV
      obtain ⟨g1, o1, x1, rfl, hg1, hc, hv, hl'⟩ := hV
      have hk1 : k < L.len := by simp only [TmL.len] at hl; omega
      have HL : Hid (l.len + (k + 1) = L.len) := by show _ = _; simp only [TmL.len] at hl; omega
      have e0 := HC.out wr g1 (o1 + k) x1 hbw hg1 hc
      obtain ⟨e4, e5⟩ := HX.out wr hbw
      have HO : Hid (Calls Tryz.prog 45 #[.pointer (some ⟨b', 0, none⟩), x1] wr (HasE t v wr)) := HTH.out v x1 wr hbw hg.1 hv
      have hsh := v.V_shape x1 hv
      have hbd := HBD.out v
      have hvp := v.pn_pos
      have hlp := l.pn_pos
      have hpb := L.pre_bd k
      have hs2 : L.pre k + v.pn + l.pn = L.pn := by simp only [TmL.pn] at hsum; omega
      have HN : Hid (Below w.heap.size w wr ∧ l.V w (Lo B) (some ⟨g1, o1, none⟩) (k + 1) ∧ l.gd ∧ (∀ j, L.pre (k + 1 + j) = L.pre (k + 1) + l.pre j) ∧ L.pre (k + 1) = L.pre k + v.pn) := by
        have hp1 : L.pre (k + 1) = L.pre k + v.pn := by rw [hpre 1]; simp [TmL.pre]
        exact ⟨hbw, hl', hg.2, fun j => by rw [Nat.add_assoc, Nat.add_comm 1 j, hpre (j + 1), hp1]; simp only [TmL.pre]; omega, hp1⟩
      have HR : Hid (RES = if (t.has v).1 then Sp.hasL t.has l (1 + L.pre k + v.pn) else (false, 1 + L.pre k + (t.has v).2)) := by show _ = _; rw [hres]; simp only [Sp.hasL]
      have hi0 : (0 : Int) ≤ (k : Int) := Int.natCast_nonneg _
      have hi1 : (k : Int) < (L.len : Int) := by omega
      have hi2 : (k : Int) ≤ (cl : Int) := by omega
      have hn0 : (0 : Int) < (np : Int) := by omega
      unfold HasE at HO
      clear hl hbw hc hv hl' hg hres hpre HK hsum
      generalize t.has v = r at *
      obtain ⟨rb, rq⟩ := r
      simp only at hbd HR HO
      cases rb with
      | true =>
        rcases hsh with rfl | ⟨T, y, rfl⟩
        all_goals
          go_wp2_with fail
          refine HO.out.mono ?_
          rintro e w1 ⟨rfl, hb1⟩
          have H1 : Hid (Below w.heap.size w w1) := HN.out.1.trans (hb1.mono HN.out.1.size)
          clear hb1
          go_wp2_with fail
          go_roundw
          case rel => exact ⟨k + 1, l, by go_num, HL.out, ⟨H1.out, HN.out.2.1, HN.out.2.2.1, by rw [HR.out, HN.out.2.2.2.2]; simp [Int.add_assoc], HN.out.2.2.2.1, by rw [HN.out.2.2.2.2]; omega⟩⟩
          case measure => simp [intOf]; omega
      | false =>
        rcases hsh with rfl | ⟨T, y, rfl⟩
        all_goals
          go_wp2_with fail
          refine HO.out.mono ?_
          rintro e w1 ⟨rfl, hb1⟩
          have H1 : Hid (Below w.heap.size w w1) := HN.out.1.trans (hb1.mono HN.out.1.size)
          clear hb1
          go_wp2_with fail
          go_loopw [9, 36] (fun q x wi => ∃ (j : Nat) (l2 : TmL), q = .int .i64 (rq + L.pre j) ∧ x = .int .i64 j ∧ j ≤ k ∧ l2.len + j = L.len ∧ Hid (Below w.heap.size w wi ∧ l2.V w (Lo B) (some ⟨g1, o1, none⟩) j ∧ l2.gd ∧ (∀ i, L.pre (j + i) = L.pre j + l2.pre i) ∧ L.pre j + l2.pn = L.pn)) (fun _ x _ => k - (intOf x).toNat)
          case atStart => exact ⟨0, L, by simp [TmL.pre], rfl, by omega, rfl, ⟨H1.out, H0.out.1, H0.out.2, fun i => by simp [TmL.pre], by simp [TmL.pre]⟩⟩
          case round =>
            obtain ⟨j, l2, rfl, rfl, hjk, hl2, HI⟩ := hrel
            have hpj := L.pre_bd j
            by_cases hj : j < k
            · cases l2 with
              | nil => simp [TmL.len] at hl2; omega
              | cons v2 l2 =>
                obtain ⟨hbi, hV2, hg2, hpre2, hsum2⟩ := HI.out
                simp only [TmL.V] at hV2
                obtain ⟨g2, o2, x2, he2, hgg2, hc2, hv2, hl2'⟩ := hV2
                injection he2 with he2
                injection he2 with he3 he4
                subst he3
                subst he4
                have d0 := HC.out wr g1 (o1 + j) x2 hbi hgg2 hc2
                have HZ2 : Hid (Calls Tryz.prog 106 #[x2] wr fun e w' => e = .returned (.int .i64 v2.pn) ∧ Below wr.heap.size wr w') := HZ.out v2 x2 wr hbi hg2.1 hv2
                have hsh2 := v2.V_shape x2 hv2
                have hvp2 := v2.pn_pos
                have hlp2 := l2.pn_pos
                have hp1 : L.pre (j + 1) = L.pre j + v2.pn := by rw [hpre2 1]; simp [TmL.pre]
                have hs3 : L.pre j + v2.pn + l2.pn = L.pn := by simp only [TmL.pn] at hsum2; omega
                have HN2 : Hid (Below w.heap.size w wr ∧ l2.V w (Lo B) (some ⟨g1, o1, none⟩) (j + 1) ∧ l2.gd ∧ (∀ i, L.pre (j + 1 + i) = L.pre (j + 1) + l2.pre i) ∧ l2.len + (j + 1) = L.len ∧ L.pre (j + 1) = L.pre j + v2.pn) := ⟨hbi, hl2', hg2.2, fun i => by rw [Nat.add_assoc, Nat.add_comm 1 i, hpre2 (i + 1), hp1]; simp only [TmL.pre]; omega, by simp only [TmL.len] at hl2; omega, hp1⟩
                have hji0 : (0 : Int) ≤ (j : Int) := Int.natCast_nonneg _
                have hji1 : (j : Int) < (k : Int) := by omega
                clear hbi hc2 hv2 hl2' hg2 hpre2 HI hsum2 hl2 hp1
                generalize v2.pn = vp at *
                rcases hsh2 with rfl | ⟨T2, y2, rfl⟩
                all_goals
                  go_wp2_with fail
                  refine HZ2.out.mono ?_
                  rintro e w3 ⟨rfl, hb3⟩
                  have H3 : Hid (Below w.heap.size w w3) := HN2.out.1.trans (hb3.mono HN2.out.1.size)
                  clear hb3
                  go_wp2_with fail
                  go_roundw
                  case rel => exact ⟨j + 1, l2, by rw [HN2.out.2.2.2.2.2]; go_num, by go_num, by omega, HN2.out.2.2.2.2.1, ⟨H3.out, HN2.out.2.1, HN2.out.2.2.1, HN2.out.2.2.2.1, by rw [HN2.out.2.2.2.2.2]; omega⟩⟩
                  case measure => simp [intOf]; omega
            · have hjk' : j = k := by omega
              subst hjk'
              have HF : Hid (Below w.heap.size w wr) := HI.out.1
              clear HI hl2
              go_wp2_with fail
              go_ret2
              exact ⟨by rw [HR.out]; show Ending.returned _ = Ending.returned _; simp only [Bool.false_eq_true, if_false]; congr 3; simp; omega, HF.out⟩
theorem TmL.len_pn : (l : TmL) → (l.len : Int) ≤ l.pn
  | .nil => by simp [TmL.len, TmL.pn]
  | .cons t l => by have := TmL.len_pn l; have := t.pn_pos; simp only [TmL.len, TmL.pn]; omega
theorem Ln.cap {w : World} {B : Nat → Prop} {e : TypeId} {size : Nat} {a : Option Addr} {n cap : Nat} (h : Ln w B e size a n cap) : n ≤ cap ∧ cap ≤ maxLen := by
  obtain ⟨h1, ⟨xs, h2, h3⟩, h4⟩ := h
  rcases h3 with h3 | ⟨g, c, cur, e1, _, _, h5, h6, _⟩
  · have := h3.1; injection this with a1 a2 a3; subst a2; subst a3; exact ⟨Nat.le_refl _, Nat.zero_le _⟩
  · injection e1 with a1 a2 a3; subst a3; exact ⟨h5, h6⟩

set_option maxRecDepth 100000 in
set_option maxHeartbeats 4000000 in
theorem has_5 (N : Nat) (HC : HasC N) (o : Int) (t : Tm) (t0 : Ty) (n : List ByteArray) (l : List Bool) (op : Bool) (c : ByteArray) (hN : t0.sz ≤ N) (hok : t0.ok = true) (v : Tm) (x : Value) (b B : Nat) (w : World) (hg : v.all.e = 0) (hB : B ≤ w.heap.size) (hb : b < B) (hv : v.V w (Lo B) x) (c0 : w.cell? ⟨b, 0, none⟩ = some (.int .i64 5)) (gp o' b' cp : Nat) (hgp : gp < B) (c4 : w.cell? ⟨b, 4, none⟩ = some (.slice (some ⟨gp, o', none⟩) 1 cp)) (c5 : w.cell? ⟨gp, o', none⟩ = some (.pointer (some ⟨b', 0, none⟩))) (hsh : t0.Sh w (Lo B) b') :
    Calls Tryz.prog 45 #[.pointer (some ⟨b, 0, none⟩), x] w (HasE (Ty.mk 5 o t (.cons t0 .nil) n l op c) v w) := by
  have hbw : b < w.heap.size := by omega
  have HB : Hid (∀ o, Below w.heap.size w (w.alloc o)) := fun o => (Below.refl _ _).alloc (Nat.le_refl _) _
  have H : Hid ((Ty.mk 5 o t (.cons t0 .nil) n l op c).has v = if v.knd = 8 then Sp.hasL t0.has v.lst 1 else (false, 0)) := by show _ = _; simp [Ty.has, TyL.hasHead]
  by_cases hk : v.knd = 8
  · cases v with
    | mk k b2 i f tx by' rf l' fs c' vr =>
      have hk' : k = 8 := hk
      subst hk'
      have hgp2 := (Tm.good_parts hg).1 rfl
      have hv' := hv
      simp only [Tm.V] at hv
      obtain ⟨-, -, -, -, -, -, -, h8, -, -, -, -⟩ := hv
      obtain ⟨a, cap, rfl, hln, hlv⟩ := h8 trivial
      have hcp := hln.cap
      have hl1 := hln.1
      unfold maxLen at hcp hl1
      have HL : Hid (∀ W, Below w.heap.size w W → Calls Tryz.prog 84 #[.pointer (some ⟨b, 0, none⟩), .slice a l'.len cap] W fun e w' => e = .returned (.tuple #[.bool (Sp.hasL t0.has l' 1).1, .int .i64 (Sp.hasL t0.has l' 1).2]) ∧ Below W.heap.size W w') := fun W hW => by
        have hs : Same (Lo B) w W := fun k hk => hW.block k (Nat.lt_of_lt_of_le hk hB)
        refine hasList_any t0 l' a cap b gp o' b' B 1 cp W (fun u y W2 hW2 hu hy => ?_) (Nat.le_trans hB hW.size) hb hgp (by decide) (by rw [hs.cell (p := ⟨b, 4, none⟩) hb]; exact c4) (by rw [hs.cell (p := ⟨gp, o', none⟩) hgp]; exact c5) (l'.V_same hs (fun _ h => h) a 0 hlv) hgp2.1 hgp2.2 hcp.1 (by have := TmL.len_pn l'; have := hgp2.2; omega) (by omega)
        have hB2 : B ≤ W.heap.size := Nat.le_trans hB hW.size
        have hs2 : Same (Lo B) W W2 := fun k hk => hW2.block k (Nat.lt_of_lt_of_le hk hB2)
        exact HC t0 hN hok u y b' B W2 hu (u.V_same hs2 (fun _ h => h) y hy) (t0.Sh_same (hs.trans hs2) (fun _ h => h) b' hsh) (Nat.le_trans hB2 hW2.size)
      have HE : Hid ((Ty.mk 5 o t (.cons t0 .nil) n l op c).has (Tm.mk 8 b2 i f tx by' rf l' fs c' vr) = Sp.hasL t0.has l' 1) := by show _ = _; rw [H.out]; simp [Tm.knd, Tm.lst]
      clear H hk hg hB hb hgp c4 c5 hsh hv' h8 hln hlv HC hgp2 hcp hl1
      generalize Sp.hasL t0.has l' 1 = r at *
      obtain ⟨rb, rq⟩ := r
      go_enter Tryz.func45, Tryz.ntmps45
      go_wp2_with fail
      refine (HL.out _ (HB.out _)).mono ?_
      rintro e w1 ⟨rfl, hb1⟩
      have H1 : Hid (Below w.heap.size w w1) := (HB.out _).trans (hb1.mono (by simp))
      clear hb1
      go_wp2_with fail
      go_ret2
      exact HasE.of HE.out H1.out
  · have hx := (Tm.V_other hv hg).1 hk
    have HE : Hid ((Ty.mk 5 o t (.cons t0 .nil) n l op c).has v = (false, 0)) := by show _ = _; rw [H.out, if_neg hk]
    clear H hk hg hB hb hv hgp c4 c5 hsh HC
    rcases hx with rfl | ⟨T, y, rfl, hT⟩
    all_goals
      go_enter Tryz.func45, Tryz.ntmps45
      go_wp2_with fail
      go_ret2
      exact HasE.of HE.out (HB.out _)
end Go.Proofs.YtjdjpbdfchhcfaaGreat

/- check.has of a union. -/
namespace Go.Proofs.YtjdjpbdfchhcfaaGreat
open Go.RowKit

theorem has_1c (t : Ty) (v : Tm) (x : Value) (bp b1 : Nat) (w : World) (hx : w.cell? ⟨b1, 0, none⟩ = some x) (hs : x = .nilIface ∨ ∃ T y, x = .iface T y)
    (h : Calls Tryz.prog 45 #[.pointer (some ⟨bp, 0, none⟩), x] w (HasE t v w)) :
    Calls Tryz.prog 86 #[.pointer (some ⟨bp, 0, none⟩), .pointer (some ⟨b1, 0, none⟩)] w fun e w' => e = .returned (.bool (t.has v).1) ∧ Below w.heap.size w w' := by
  unfold HasE at h
  have H : Hid (Calls Tryz.prog 45 #[.pointer (some ⟨bp, 0, none⟩), x] w fun e w' => e = .returned (.tuple #[.bool (t.has v).1, .int .i64 (t.has v).2]) ∧ Below w.heap.size w w') := h
  clear h
  generalize t.has v = r at *
  rcases hs with rfl | ⟨T, y, rfl⟩
  all_goals
    go_enter Tryz.func86, Tryz.ntmps86
    go_wp2_with fail
    refine H.out.mono ?_
    rintro e w1 ⟨rfl, hb1⟩
    have H1 : Hid (Below w.heap.size w w1) := hb1
    clear hb1
    go_wp2_with fail
    go_ret
    exact ⟨rfl, H1.out⟩

set_option maxRecDepth 100000 in
set_option maxHeartbeats 4000000 in
theorem indexFunc_any (N : Nat) (HC : HasC N) (p : TyL) (hN : p.sz ≤ N) (hok : p.ok = true) (v : Tm) (x : Value) (ap : Option Addr) (cp b1 B : Nat) (w : World) (hg : v.all.e = 0) (hB : B ≤ w.heap.size) (hb1 : b1 < w.heap.size) (hx : w.cell? ⟨b1, 0, none⟩ = some x) (hv : v.V w (Lo B) x) (hp : p.Sh w (Lo B) ap 0) (hl : p.len ≤ 70368744177664) :
    Calls Tryz.prog 89 #[.slice ap p.len cp, .func (.func 86) #[] #[.pointer (some ⟨b1, 0, none⟩)]] w fun e w' => ∃ q : Int, e = .returned (.int .i64 q) ∧ p.hasAny v = decide (0 ≤ q) ∧ Below w.heap.size w w' := by
  have HS : Hid (∀ W, Below w.heap.size w W → Same (Lo B) w W ∧ W.cell? ⟨b1, 0, none⟩ = some x ∧ B ≤ W.heap.size) := fun W hW => ⟨fun k hk => hW.block k (Nat.lt_of_lt_of_le hk hB), by rw [hW.cell (p := ⟨b1, 0, none⟩) hb1]; exact hx, Nat.le_trans hB hW.size⟩
  have hsh := v.V_shape x hv
  have HCH : Hid (HasC N ∧ v.V w (Lo B) x ∧ v.all.e = 0 ∧ p.Sh w (Lo B) ap 0 ∧ (x = .nilIface ∨ ∃ T y, x = .iface T y)) := ⟨HC, hv, hg, hp, hsh⟩
  clear HC hv hg hp hB hb1 hx hsh
  go_enter Tryz.func89, Tryz.ntmps89
  go_wp2_with fail
  go_loopw [8] (fun i wr => ∃ (k : Nat) (l : TyL), i = .int .i64 k ∧ l.len + k = p.len ∧ l.sz ≤ N ∧ l.ok = true ∧ Hid (Below w.heap.size w wr ∧ l.Sh w (Lo B) ap k ∧ p.hasAny v = l.hasAny v)) (fun i _ => p.len - (intOf i).toNat)
  case atStart => exact ⟨0, p, rfl, rfl, hN, hok, ⟨Below.refl _ _, HCH.out.2.2.2.1, rfl⟩⟩
  case round =>
    obtain ⟨k, l, rfl, hlk, hlN, hlo, HK⟩ := hrel
    cases l with
    | nil =>
      have h1 : p.len ≤ k := by simp [TyL.len] at hlk; omega
      have HR : Hid (p.hasAny v = false ∧ Below w.heap.size w wr) := ⟨HK.out.2.2, HK.out.1⟩
      clear hlk HK
      go_wp2_with fail
      go_ret
      exact ⟨-1, rfl, by rw [HR.out.1]; rfl, HR.out.2⟩
    | cons t l =>
      obtain ⟨hbw, hin, hany⟩ := HK.out
      simp only [TyL.Sh] at hin
      obtain ⟨g, o, bp, rfl, hgg, hc, hti, hin'⟩ := hin
      have hk1 : k < p.len := by simp only [TyL.len] at hlk; omega
      have HL : Hid (l.len + (k + 1) = p.len) := by show _ = _; simp only [TyL.len] at hlk; omega
      have htN : t.sz ≤ N ∧ l.sz ≤ N := by simp [TyL.sz] at hlN; omega
      have hto : t.ok = true ∧ l.ok = true := by simpa [TyL.ok] using hlo
      obtain ⟨hs, hxw, hBw⟩ := HS.out wr hbw
      have e0 : wr.cell? ⟨g, o + k, none⟩ = some (.pointer (some ⟨bp, 0, none⟩)) := by rw [hs.cell (p := ⟨g, o + k, none⟩) hgg]; exact hc
      have HO : Hid (Calls Tryz.prog 86 #[.pointer (some ⟨bp, 0, none⟩), .pointer (some ⟨b1, 0, none⟩)] wr fun e w' => e = .returned (.bool (t.has v).1) ∧ Below wr.heap.size wr w') :=
        has_1c t v x bp b1 wr hxw HCH.out.2.2.2.2 (HCH.out.1 t htN.1 hto.1 v x bp B wr HCH.out.2.2.1 (v.V_same hs (fun _ h => h) x HCH.out.2.1) (t.Sh_same hs (fun _ h => h) bp hti) hBw)
      have HN : Hid (Below w.heap.size w wr ∧ l.Sh w (Lo B) (some ⟨g, o, none⟩) (k + 1) ∧ p.hasAny v = ((t.has v).1 || l.hasAny v)) := ⟨hbw, hin', by rw [hany]; rfl⟩
      have hi0 : (0 : Int) ≤ (k : Int) := Int.natCast_nonneg _
      have hi1 : (k : Int) < (p.len : Int) := by omega
      clear hlk hlN hlo hbw hin' hany HK hc hti hs hxw hBw hgg
      generalize (t.has v).1 = r at *
      cases r with
      | true =>
        go_wp2_with fail
        refine HO.out.mono ?_
        rintro e w1 ⟨rfl, hb2⟩
        have H1 : Hid (Below w.heap.size w w1) := HN.out.1.trans (hb2.mono HN.out.1.size)
        clear hb2
        go_wp2_with fail
        go_ret
        exact ⟨(k : Int), rfl, by rw [HN.out.2.2]; simp, H1.out⟩
      | false =>
        go_wp2_with fail
        refine HO.out.mono ?_
        rintro e w1 ⟨rfl, hb2⟩
        have H1 : Hid (Below w.heap.size w w1) := HN.out.1.trans (hb2.mono HN.out.1.size)
        clear hb2
        go_wp2_with fail
        go_roundw
        case rel => exact ⟨k + 1, l, by go_num, HL.out, htN.2, hto.2, ⟨H1.out, HN.out.2.1, by rw [HN.out.2.2]; simp⟩⟩
        case measure => simp [intOf]; omega

set_option maxRecDepth 100000 in
set_option maxHeartbeats 4000000 in
theorem has_7 (N : Nat) (HC : HasC N) (o : Int) (t : Tm) (p : TyL) (n : List ByteArray) (l : List Bool) (op : Bool) (c : ByteArray) (hN : p.sz ≤ N) (hok : p.ok = true) (v : Tm) (x : Value) (b B : Nat) (w : World) (hg : v.all.e = 0) (hB : B ≤ w.heap.size) (hb : b < B) (hv : v.V w (Lo B) x) (c0 : w.cell? ⟨b, 0, none⟩ = some (.int .i64 7)) (ap : Option Addr) (cp : Nat) (c4 : w.cell? ⟨b, 4, none⟩ = some (.slice ap p.len cp)) (hp : p.Sh w (Lo B) ap 0) (hl : p.len ≤ 70368744177664) :
    Calls Tryz.prog 45 #[.pointer (some ⟨b, 0, none⟩), x] w (HasE (Ty.mk 7 o t p n l op c) v w) := by
  have hbw : b < w.heap.size := by omega
  have H : Hid ((Ty.mk 7 o t p n l op c).has v = (p.hasAny v, 0)) := by show _ = _; simp [Ty.has]
  have HW : Hid (Below w.heap.size w (w.alloc (.cells #[x] 20))) := (Below.refl _ _).alloc (Nat.le_refl _) _
  have hs : Same (Lo B) w (w.alloc (.cells #[x] 20)) := fun k hk => HW.out.block k (Nat.lt_of_lt_of_le hk hB)
  have HI : Hid (Calls Tryz.prog 89 #[.slice ap p.len cp, .func (.func 86) #[] #[.pointer (some ⟨w.heap.size, 0, none⟩)]] (w.alloc (.cells #[x] 20)) fun e w' => ∃ q : Int, e = .returned (.int .i64 q) ∧ p.hasAny v = decide (0 ≤ q) ∧ Below (w.alloc (.cells #[x] 20)).heap.size (w.alloc (.cells #[x] 20)) w') :=
    indexFunc_any N HC p hN hok v x ap cp w.heap.size B _ hg (by simp; omega) (by simp) (by rw [cell_of_row _ _ _ _ _ _ (heap_alloc_new w _)]; rfl) (v.V_same hs (fun _ h => h) x hv) (p.Sh_same hs (fun _ h => h) ap 0 hp) hl
  have HCF : Hid (Calls Tryz.prog 47 #[.slice ap p.len cp, .func (.func 86) #[] #[.pointer (some ⟨w.heap.size, 0, none⟩)]] (w.alloc (.cells #[x] 20)) fun e w' => e = .returned (.bool (p.hasAny v)) ∧ Below w.heap.size w w') := by
    clear H hs hv hp hg c0 c4 HC
    generalize p.hasAny v = r at *
    obtain ⟨W, HWW⟩ : ∃ W, w.alloc (.cells #[x] 20) = W := ⟨_, rfl⟩
    have hsz : W.heap.size = w.heap.size + 1 := by rw [← HWW]; simp
    rw [HWW] at HI HW
    show Calls _ _ _ _ _
    rw [HWW]
    clear HWW
    go_enter Tryz.func47, Tryz.ntmps47
    go_wp2_with fail
    refine HI.out.mono ?_
    rintro e w1 ⟨q, rfl, hq, hb1⟩
    have H1 : Hid (Below w.heap.size w w1 ∧ r = decide (0 ≤ q)) := ⟨HW.out.trans (hb1.mono (by omega)), hq⟩
    clear hb1 hq
    go_wp2_with fail
    go_ret
    exact ⟨by rw [H1.out.2]; rfl, H1.out.1⟩
  have hsh := v.V_shape x hv
  clear hs hv hp hg HI HC hB hb
  generalize p.hasAny v = r at *
  rcases hsh with rfl | ⟨T, y, rfl⟩
  all_goals
    go_enter Tryz.func45, Tryz.ntmps45
    go_wp2_with fail
    refine HCF.out.mono ?_
    rintro e w1 ⟨rfl, hb1⟩
    have H1 : Hid (Below w.heap.size w w1) := hb1
    clear hb1
    go_wp2_with fail
    go_ret2
    exact HasE.of H.out H1.out
end Go.Proofs.YtjdjpbdfchhcfaaGreat

/- The leaves of the document's own order: tenonref01's numbers, texts, flag, place. -/
namespace Go.Proofs.YtjdjpbdfchhcfaaGreat
open Go.RowKit

end Go.Proofs.YtjdjpbdfchhcfaaGreat

/- The document's own order of terms (tenonref01.fields, tenonref01.Compare) is the plain order. -/
namespace Go.Proofs.YtjdjpbdfchhcfaaGreat
open Go.RowKit

end Go.Proofs.YtjdjpbdfchhcfaaGreat

/- Plain mathematics: two rising rows of names gone through as through one; a dict's fields against a dict's type, told so. -/
namespace Go.Proofs.YtjdjpbdfchhcfaaGreat

def Sp.mrg : Nat → Nat → Nat → List ByteArray → List ByteArray → List (Int × Int)
  | 0, _, _, _, _ => []
  | _ + 1, _, _, [], [] => []
  | N + 1, i, j, [], _ :: ms => (-1, (j : Int)) :: Sp.mrg N i (j + 1) [] ms
  | N + 1, i, j, _ :: ns, [] => ((i : Int), -1) :: Sp.mrg N (i + 1) j ns []
  | N + 1, i, j, n :: ns, m :: ms =>
    if Sp.cmpS n m < 0 then ((i : Int), -1) :: Sp.mrg N (i + 1) j ns (m :: ms)
    else if 0 < Sp.cmpS n m then (-1, (j : Int)) :: Sp.mrg N i (j + 1) (n :: ns) ms
    else ((i : Int), (j : Int)) :: Sp.mrg N (i + 1) (j + 1) ns ms
theorem Sp.mrg_len : (N : Nat) → ∀ i j ns ms, (Sp.mrg N i j ns ms).length ≤ ns.length + ms.length
  | 0, i, j, ns, ms => by simp [Sp.mrg]
  | N + 1, i, j, [], [] => by simp [Sp.mrg]
  | N + 1, i, j, [], _ :: ms => by have := Sp.mrg_len N i (j + 1) [] ms; simp [Sp.mrg] at this ⊢; omega
  | N + 1, i, j, _ :: ns, [] => by have := Sp.mrg_len N (i + 1) j ns []; simp [Sp.mrg] at this ⊢; omega
  | N + 1, i, j, n :: ns, m :: ms => by
    have h1 := Sp.mrg_len N (i + 1) j ns (m :: ms)
    have h2 := Sp.mrg_len N i (j + 1) (n :: ns) ms
    have h3 := Sp.mrg_len N (i + 1) (j + 1) ns ms
    simp only [Sp.mrg]
    split
    · simp at h1 ⊢; omega
    · split
      · simp at h2 ⊢; omega
      · simp at h3 ⊢; omega
def TmL.get : TmL → Nat → Option Tm
  | .nil, _ => none
  | .cons t _, 0 => some t
  | .cons _ l, k + 1 => l.get k
def Sp.firstBad {α : Type} (g : α → Bool × Int) : List α → Bool × Int
  | [] => (true, 0)
  | x :: l => if (g x).1 then Sp.firstBad g l else (false, (g x).2)
def Sp.stepD (op : Bool) (ks : List Bool) (fs : List (Tm → Bool × Int)) (vs : TmL) (x : Int × Int) : Bool × Int :=
  if x.1 < 0 then (op, 0)
  else if x.2 < 0 then ((ks[x.1.toNat]?).getD false, 0)
  else match fs[x.1.toNat]?, vs.get x.2.toNat with
    | some f, some v => if (f v).1 then (true, 0) else (false, 1 + vs.pre x.2.toNat + (f v).2)
    | _, _ => (true, 0)
theorem Sp.hasD_mrg (op : Bool) (KS : List Bool) (FS : List (Tm → Bool × Int)) (L : TmL) : (N : Nat) → ∀ (i j : Nat) (ns : List ByteArray) (ks : List Bool) (fs : List (Tm → Bool × Int)) (l : TmF) (next : Int), ks.length = ns.length → fs.length = ns.length →
    (∀ k, KS[i + k]? = ks[k]?) → (∀ k, FS[i + k]? = fs[k]?) → (∀ k, L.get (j + k) = l.vals.get k) → (∀ k, L.pre (j + k) = L.pre j + l.vals.pre k) → next = 1 + L.pre j →
    Sp.hasD op N ns ks fs l next = Sp.firstBad (Sp.stepD op KS FS L) (Sp.mrg N i j ns l.names)
  | 0, i, j, ns, ks, fs, l, next, _, _, _, _, _, _, _ => by simp [Sp.hasD, Sp.mrg, Sp.firstBad]
  | N + 1, i, j, [], ks, fs, .nil, next, _, _, _, _, _, _, _ => by simp [Sp.hasD, Sp.mrg, Sp.firstBad, TmF.names]
  | N + 1, i, j, [], ks, fs, .cons m x l, next, h1, h2, h3, h4, h5, h6, h7 => by
    have hks : ks = [] := by simpa using h1
    have hfs : fs = [] := by simpa using h2
    subst hks; subst hfs
    have e1 : Sp.stepD op KS FS L (-1, (j : Int)) = (op, 0) := by simp [Sp.stepD]
    have p1 : L.pre (j + 1) = L.pre j + x.pn := by rw [h6 1]; simp [TmF.vals, TmL.pre]
    simp only [Sp.hasD, TmF.names, Sp.mrg, Sp.firstBad, e1]
    cases op with
    | false => simp
    | true =>
      simp only [if_true]
      exact Sp.hasD_mrg true KS FS L N i (j + 1) [] [] [] l _ rfl rfl h3 h4 (fun k => by rw [show j + 1 + k = j + (k + 1) by omega, h5]; rfl) (fun k => by rw [show j + 1 + k = j + (k + 1) by omega, h6, p1]; simp only [TmF.vals, TmL.pre]; omega) (by rw [p1, h7]; omega)
  | N + 1, i, j, n :: ns, [], fs, l, next, h1, _, _, _, _, _, _ => by simp at h1
  | N + 1, i, j, n :: ns, k :: ks, [], l, next, _, h2, _, _, _, _, _ => by simp at h2
  | N + 1, i, j, n :: ns, k :: ks, f :: fs, .nil, next, h1, h2, h3, h4, h5, h6, h7 => by
    have e1 : Sp.stepD op KS FS L ((i : Int), -1) = (k, 0) := by
      have := h3 0
      simp at this
      have n1 : ¬ ((i : Int) < 0) := by omega
      simp only [Sp.stepD, if_neg n1, Int.toNat_natCast, this]; rfl
    simp only [Sp.hasD, TmF.names, Sp.mrg, Sp.firstBad, e1]
    cases k with
    | false => simp
    | true =>
      simp only [if_true]
      exact Sp.hasD_mrg op KS FS L N (i + 1) j ns ks fs .nil _ (by simpa using h1) (by simpa using h2) (fun q => by rw [show i + 1 + q = i + (q + 1) by omega, h3]; rfl) (fun q => by rw [show i + 1 + q = i + (q + 1) by omega, h4]; rfl) h5 h6 h7
  | N + 1, i, j, n :: ns, k :: ks, f :: fs, .cons m x l, next, h1, h2, h3, h4, h5, h6, h7 => by
    have p1 : L.pre (j + 1) = L.pre j + x.pn := by rw [h6 1]; simp [TmF.vals, TmL.pre]
    have eA : Sp.stepD op KS FS L ((i : Int), -1) = (k, 0) := by
      have := h3 0
      simp at this
      have n1 : ¬ ((i : Int) < 0) := by omega
      simp only [Sp.stepD, if_neg n1, Int.toNat_natCast, this]; rfl
    have eB : Sp.stepD op KS FS L (-1, (j : Int)) = (op, 0) := by simp [Sp.stepD]
    have eC : Sp.stepD op KS FS L ((i : Int), (j : Int)) = if (f x).1 then (true, 0) else (false, next + (f x).2) := by
      have q1 := h4 0
      have q2 := h5 0
      simp [TmF.vals, TmL.get] at q1 q2
      have n1 : ¬ ((i : Int) < 0) := by omega
      have n2 : ¬ ((j : Int) < 0) := by omega
      simp only [Sp.stepD, if_neg n1, if_neg n2, Int.toNat_natCast, q1, q2, h7]
    simp only [Sp.hasD, TmF.names, Sp.mrg]
    by_cases c1 : Sp.cmpS n m < 0
    · rw [if_pos c1, if_pos c1]
      simp only [Sp.firstBad, eA]
      cases k with
      | false => simp
      | true =>
        simp only [if_true]
        exact Sp.hasD_mrg op KS FS L N (i + 1) j ns ks fs (.cons m x l) _ (by simpa using h1) (by simpa using h2) (fun q => by rw [show i + 1 + q = i + (q + 1) by omega, h3]; rfl) (fun q => by rw [show i + 1 + q = i + (q + 1) by omega, h4]; rfl) h5 h6 h7
    · rw [if_neg c1, if_neg c1]
      by_cases c2 : 0 < Sp.cmpS n m
      · rw [if_pos c2, if_pos c2]
        simp only [Sp.firstBad, eB]
        cases op with
        | false => simp
        | true =>
          simp only [if_true]
          exact Sp.hasD_mrg true KS FS L N i (j + 1) (n :: ns) (k :: ks) (f :: fs) l _ h1 h2 h3 h4 (fun k => by rw [show j + 1 + k = j + (k + 1) by omega, h5]; rfl) (fun k => by rw [show j + 1 + k = j + (k + 1) by omega, h6, p1]; simp only [TmF.vals, TmL.pre]; omega) (by rw [p1, h7]; omega)
      · rw [if_neg c2, if_neg c2]
        simp only [Sp.firstBad, eC]
        cases hfx : (f x).1 with
        | false => simp
        | true =>
          simp only [if_true]
          exact Sp.hasD_mrg op KS FS L N (i + 1) (j + 1) ns ks fs l _ (by simpa using h1) (by simpa using h2) (fun q => by rw [show i + 1 + q = i + (q + 1) by omega, h3]; rfl) (fun q => by rw [show i + 1 + q = i + (q + 1) by omega, h4]; rfl) (fun k => by rw [show j + 1 + k = j + (k + 1) by omega, h5]; rfl) (fun k => by rw [show j + 1 + k = j + (k + 1) by omega, h6, p1]; simp only [TmF.vals, TmL.pre]; omega) (by rw [p1, h7]; omega)
theorem Sp.firstBad_all {α : Type} (g : α → Bool × Int) : (l : List α) → (∀ x ∈ l, (g x).1 = true) → Sp.firstBad g l = (true, 0)
  | [], _ => rfl
  | x :: l, h => by
    simp only [Sp.firstBad, h x (List.mem_cons_self ..), if_true]
    exact Sp.firstBad_all g l fun y hy => h y (List.mem_cons_of_mem _ hy)
theorem Sp.firstBad_at {α : Type} (g : α → Bool × Int) : (l : List α) → ∀ (x : α) (r : List α), (∀ y ∈ l, (g y).1 = true) → (g x).1 = false → Sp.firstBad g (l ++ x :: r) = (false, (g x).2)
  | [], x, r, _, h => by simp [Sp.firstBad, h]
  | y :: l, x, r, h, hx => by
    simp only [List.cons_append, Sp.firstBad, h y (List.mem_cons_self ..), if_true]
    exact Sp.firstBad_at g l x r (fun z hz => h z (List.mem_cons_of_mem _ hz)) hx
end Go.Proofs.YtjdjpbdfchhcfaaGreat

/- check.has: a type of one value; a record's type. -/
namespace Go.Proofs.YtjdjpbdfchhcfaaGreat
open Go.RowKit

@[simp] theorem apart_beq (p : { q : Int × Int // q.1 ≠ q.2 }) : (p.1.1 == p.1.2) = false := by simp [p.2]

set_option maxRecDepth 100000 in
set_option maxHeartbeats 4000000 in
theorem hasAlone_any (t v : Tm) (x u : Value) (b B : Nat) (w : World) (hB : B ≤ w.heap.size) (hb : b < B) (hv : v.V w (Lo B) x) (hu : t.V w (Lo B) u) (c2 : w.cell? ⟨b, 2, none⟩ = some u) (c3 : w.cell? ⟨b, 3, none⟩ = some (.int .i64 t.szN)) :
    Calls Tryz.prog 83 #[.pointer (some ⟨b, 0, none⟩), x] w fun e w' => e = .returned (.bool (v.sameB t)) ∧ Below w.heap.size w w' := by
  have HX : Hid (∀ W, Below w.heap.size w W → W.cell? ⟨b, 2, none⟩ = some u ∧ W.cell? ⟨b, 3, none⟩ = some (.int .i64 t.szN)) := fun W hW => ⟨by rw [hW.cell (p := ⟨b, 2, none⟩) (show b < w.heap.size by omega)]; exact c2, by rw [hW.cell (p := ⟨b, 3, none⟩) (show b < w.heap.size by omega)]; exact c3⟩
  have HZ : Hid (∀ W, Below w.heap.size w W → Calls Tryz.prog 106 #[x] W fun e w' => e = .returned (.int .i64 v.szN) ∧ Below W.heap.size W w') := fun W hW => sizeOf_any v x B W (Nat.le_trans hB hW.size) (v.V_same (fun k hk => hW.block k (Nat.lt_of_lt_of_le hk hB)) (fun _ h => h) x hv)
  have HS : Hid (∀ W, Below w.heap.size w W → Calls Tryz.prog 107 #[x, u] W fun e w' => e = .returned (.bool (v.sameB t)) ∧ Below W.heap.size W w') := fun W hW => Same_any v t x u B W (Nat.le_trans hB hW.size) (v.V_same (fun k hk => hW.block k (Nat.lt_of_lt_of_le hk hB)) (fun _ h => h) x hv) (t.V_same (fun k hk => hW.block k (Nat.lt_of_lt_of_le hk hB)) (fun _ h => h) u hu)
  have HN : Hid (v.szN ≠ t.szN → v.sameB t = false) := fun h => by cases e : v.sameB t with | false => rfl | true => exact absurd (Tm.same_pn e) h
  clear hv hu hB
  generalize v.sameB t = sb at *
  generalize v.szN = sv at *
  generalize t.szN = st at *
  by_cases hz : sv = st
  · subst hz
    go_enter Tryz.func83, Tryz.ntmps83
    go_wp2_with fail
    go_region_held3 (fun W => W.cell? ⟨b, 2, none⟩ = some u ∧ W.cell? ⟨b, 3, none⟩ = some (.int .i64 sv))
      (first | with_reducible exact HX.out _ HB2.out | with_reducible exact HX.out _ HB1.out | with_reducible exact HX.out _ (Below.refl _ _) | with_reducible exact HX.out _ (Below.refl _ _).drew)
      ((first
        | (go_at_call 106; refine (HZ.out _ ?_).mono ?_; exact (Below.refl _ _).drew; rintro e w1 ⟨rfl, hb1⟩; have HB1 : Hid (Below w.heap.size w w1) := below_to (Below.refl _ _).drew hb1; clear hb1)
        | (go_at_call 107; refine (HS.out _ ?_).mono ?_; exact HB1.out; rintro e w2 ⟨rfl, hb2⟩; have HB2 : Hid (Below w.heap.size w w2) := below_to HB1.out hb2; clear hb2)))
    go_wp2_with fail
    go_ret
    exact ⟨by first | rfl | simp, HB2.out⟩
  · have HNZ : Hid (sb = false) := HN.out hz
    clear HN
    obtain ⟨pq, rfl, rfl⟩ : ∃ p : { q : Int × Int // q.1 ≠ q.2 }, sv = p.1.1 ∧ st = p.1.2 := ⟨⟨(sv, st), hz⟩, rfl, rfl⟩
    clear hz
    go_enter Tryz.func83, Tryz.ntmps83
    go_wp2_with fail
    first
      | go_region_with ((go_at_call 106; refine (HZ.out _ ?_).mono ?_; exact (Below.refl _ _).drew; rintro e w1 ⟨rfl, hb1⟩; have HB1 : Hid (Below w.heap.size w w1) := below_to (Below.refl _ _).drew hb1; obtain ⟨e2, e3⟩ := HX.out w1 HB1.out; clear hb1))
      | fail
    all_goals
      go_wp2_with fail
      go_ret
      exact ⟨by rw [HNZ.out]; first | rfl | simp, HB1.out⟩

set_option maxRecDepth 100000 in
set_option maxHeartbeats 4000000 in
theorem has_4 (o : Int) (t : Tm) (p : TyL) (n : List ByteArray) (l : List Bool) (op : Bool) (c : ByteArray) (v : Tm) (x u : Value) (b B : Nat) (w : World) (hB : B ≤ w.heap.size) (hb : b < B) (hv : v.V w (Lo B) x) (hu : t.V w (Lo B) u) (c0 : w.cell? ⟨b, 0, none⟩ = some (.int .i64 4)) (c2 : w.cell? ⟨b, 2, none⟩ = some u) (c3 : w.cell? ⟨b, 3, none⟩ = some (.int .i64 t.szN)) :
    Calls Tryz.prog 45 #[.pointer (some ⟨b, 0, none⟩), x] w (HasE (Ty.mk 4 o t p n l op c) v w) := by
  have hbw : b < w.heap.size := by omega
  have HA : Hid (∀ W, Below w.heap.size w W → Calls Tryz.prog 83 #[.pointer (some ⟨b, 0, none⟩), x] W fun e w' => e = .returned (.bool (v.sameB t)) ∧ Below W.heap.size W w') := fun W hW =>
    hasAlone_any t v x u b B W (Nat.le_trans hB hW.size) hb (v.V_same (fun k hk => hW.block k (Nat.lt_of_lt_of_le hk hB)) (fun _ h => h) x hv) (t.V_same (fun k hk => hW.block k (Nat.lt_of_lt_of_le hk hB)) (fun _ h => h) u hu) (by rw [hW.cell (p := ⟨b, 2, none⟩) hbw]; exact c2) (by rw [hW.cell (p := ⟨b, 3, none⟩) hbw]; exact c3)
  have H : Hid ((Ty.mk 4 o t p n l op c).has v = (v.sameB t, 0)) := by show _ = _; simp [Ty.has]
  have hsh := v.V_shape x hv
  clear hv hu hB hb c2 c3
  generalize v.sameB t = sb at *
  rcases hsh with rfl | ⟨T, y, rfl⟩
  all_goals
    go_enter Tryz.func45, Tryz.ntmps45
    go_wp2_with fail
    refine (HA.out _ ((Below.refl _ _).alloc (Nat.le_refl _) _)).mono ?_
    rintro e w1 ⟨rfl, hb1⟩
    have H1 : Hid (Below w.heap.size w w1) := ((Below.refl _ _).alloc (Nat.le_refl _) _).trans (hb1.mono (by simp))
    clear hb1
    go_wp2_with fail
    go_ret2
    exact HasE.of H.out H1.out
end Go.Proofs.YtjdjpbdfchhcfaaGreat


/- What ValueNever asks of a value in the midst of a list: told by one error, whatever it is. -/
import Derived.Test.YtbaadndogikphaaRingG
import Derived.Test.YtbaadndogikphaaCOfG
import Derived.Test.YtbaadndogikphaaBackV
import Derived.Test.YtbaadndogikphaaLit
import Derived.Test.YtbaadndogikphaaKinds
namespace Go.Proofs.Ytbaadndogikphaa
open Go.RowKit

/-- the world with List{true, Dict{{"a", x}}}, and that value -/
def pw (W : World) (x : Value) : World := (W.alloc (.cells #[.string ⟨#[97]⟩, x] 60)).alloc (.cells #[.iface 4 (.bool true), .iface 62 (.slice (some ⟨W.heap.size, 0, none⟩) 1 1)] 20)
def pv (W : World) : Value := .iface 63 (.slice (some ⟨W.heap.size + 1, 0, none⟩) 2 2)
theorem pw_bel (W : World) (x : Value) : Below W.heap.size W (pw W x) := ((Below.refl _ _).alloc (Nat.le_refl _) _).alloc (by simp) _
def midT (t : Tm) : Tm := mkL (.cons tt (.cons (mkD (.cons nmA t .nil)) .nil))
/-- a world in which what w holds is as it was -/
def Kp (w X : World) : Prop := Same (Lo w.heap.size) w X ∧ w.heap.size ≤ X.heap.size
/-- a world in which what w holds, and the list made at W, are as they were -/
def Nv (w W : World) (x : Value) (X : World) : Prop := Kp w X ∧ w.heap.size ≤ W.heap.size ∧ W.heap.size + 2 ≤ X.heap.size ∧ X.heap[W.heap.size]? = (pw W x).heap[W.heap.size]? ∧ X.heap[W.heap.size + 1]? = (pw W x).heap[W.heap.size + 1]?
theorem Kp.later {w X Y : World} (h : Kp w X) (hY : Below X.heap.size X Y) : Kp w Y :=
  ⟨h.1.trans (fun k hk => hY.block k (Nat.lt_of_lt_of_le hk h.2)), Nat.le_trans h.2 hY.size⟩
theorem Kp.of {w X : World} (h : Below w.heap.size w X) : Kp w X := ⟨Same.of_below h (Nat.le_refl _), h.size⟩
theorem Nv.later {w W X Y : World} {x : Value} (h : Nv w W x X) (hY : Below X.heap.size X Y) : Nv w W x Y := by
  obtain ⟨h1, h2, h3, h4, h5⟩ := h
  have hz := hY.size
  exact ⟨h1.later hY, h2, by omega, by rw [hY.block W.heap.size (by omega)]; exact h4, by rw [hY.block (W.heap.size + 1) (by omega)]; exact h5⟩
theorem Nv.start {w W : World} {x : Value} (h : Kp w W) : Nv w W x (pw W x) :=
  ⟨h.later (pw_bel W x), h.2, by simp [pw], rfl, rfl⟩
theorem Nv.set {w W X : World} {x : Value} (h : Nv w W x X) {g j : Nat} {v : Value} (hg : w.heap.size ≤ g) (hg' : g < W.heap.size) : Nv w W x (X.setCell ⟨g, j, none⟩ v) := by
  obtain ⟨h1, h2, h3, h4, h5⟩ := h
  refine ⟨⟨fun k hk => ?_, by simpa using h1.2⟩, h2, by simpa using h3, ?_, ?_⟩
  · rw [← h1.1 k hk]; unfold Lo at hk; exact Below.heap_setCell X ⟨g, j, none⟩ v k (by show k ≠ g; omega)
  · rw [Below.heap_setCell X ⟨g, j, none⟩ v W.heap.size (by show W.heap.size ≠ g; omega)]; exact h4
  · rw [Below.heap_setCell X ⟨g, j, none⟩ v (W.heap.size + 1) (by show W.heap.size + 1 ≠ g; omega)]; exact h5
theorem Nv.cells {w W X : World} {x : Value} (h : Nv w W x X) : (∀ j, X.cell? ⟨W.heap.size, j, none⟩ = (pw W x).cell? ⟨W.heap.size, j, none⟩) ∧ (∀ j, X.cell? ⟨W.heap.size + 1, j, none⟩ = (pw W x).cell? ⟨W.heap.size + 1, j, none⟩) :=
  ⟨fun _ => World.cell?_of_block (w := pw W x) h.2.2.2.1, fun _ => World.cell?_of_block (w := pw W x) h.2.2.2.2⟩
theorem mid_V {t : Tm} {x : Value} (w W X : World) (h : t.V w (Lo w.heap.size) x) (hn : Nv w W x X) : (midT t).V X (Lo (W.heap.size + 2)) (pv W) := by
  obtain ⟨k4, k5⟩ := hn.cells
  obtain ⟨h1, h2, h3, h4, h5⟩ := hn
  have q0 : Rowed X W.heap.size 60 2 := by unfold Rowed; rw [h4]; exact (rowed_two W _ _ _ _).1
  have q1 : Rowed X (W.heap.size + 1) 20 2 := by unfold Rowed; rw [h5]; exact (rowed_two W _ _ _ _).2
  have a0 : X.cell? ⟨W.heap.size + 1, 0, none⟩ = some (.iface 4 (.bool true)) := by rw [k5]; simp [pw]
  have a1 : X.cell? ⟨W.heap.size + 1, 1, none⟩ = some (.iface 62 (.slice (some ⟨W.heap.size, 0, none⟩) 1 1)) := by rw [k5]; simp [pw]
  have a2 : X.cell? ⟨W.heap.size, 0, none⟩ = some (.string ⟨#[97]⟩) := by rw [k4]; simp [pw]
  have a3 : X.cell? ⟨W.heap.size, 1, none⟩ = some x := by rw [k4]; simp [pw]
  have b1 : Lo (W.heap.size + 2) (W.heap.size + 1) := by unfold Lo; omega
  have b0 : Lo (W.heap.size + 2) W.heap.size := by unfold Lo; omega
  have hv : t.V X (Lo (W.heap.size + 2)) x := t.V_same h1.1 (Lo.le (by omega)) x h
  refine V8r rfl (by decide) b1 q1 ?_
  simp only [TmL.V]
  refine ⟨W.heap.size + 1, 0, _, rfl, b1, a0, by simp [tt, Tm.V], W.heap.size + 1, 0, _, rfl, b1, a1, ?_, trivial⟩
  refine V9r rfl (by decide) b0 q0 ?_
  simp only [TmF.V]
  exact ⟨W.heap.size, 0, x, rfl, b0, a2, a3, by decide, hv, trivial⟩

/-- all that ValueNever asks of x in the midst of a list; b: whether x is the same as nil -/
structure Inner (x : Value) (e : Int) (b : Bool) (w : World) : Prop where
  check : ∀ W X, Nv w W x X → Calls Try.prog 10 #[pv W] X fun r w' => ∃ a, r = .returned (.tuple #[.int .i64 a, .int .i64 e]) ∧ Below X.heap.size X w'
  order : ∀ W X, Nv w W x X → Calls Try.prog 23 #[pv W, pv W] X fun r w' => r = .returned (.tuple #[.int .i64 0, .int .i64 e]) ∧ Below X.heap.size X w'
  copy : ∀ W X, Nv w W x X → Calls Try.prog 27 #[pv W] X fun r w' => ∃ c, r = .returned (.tuple #[c, .int .i64 e]) ∧ Below X.heap.size X w'
  plain : ∀ W X, Nv w W x X → Calls Try.prog 17 #[pv W] X fun r w' => ∃ k b i f tx ab nb cb rf al nl cl af nf cf c vr, r = .returned (.tuple #[.agg (tcells k b i f tx (.slice ab nb cb) rf (.slice al nl cl) (.slice af nf cf) c vr), .int .i64 e]) ∧ Below X.heap.size X w'
  same : ∀ W X, Nv w W x X → Calls Try.prog 25 #[pv W, pv W] X fun r w' => r = .returned (.bool (decide (e = 0))) ∧ Below X.heap.size X w'
  none : ∀ W, Kp w W → Calls Try.prog 25 #[x, .nilIface] W fun r w' => r = .returned (.bool b) ∧ Below W.heap.size W w'
  shape : x = .nilIface ∨ ∃ T y, x = .iface T y

theorem mid_bdd {t : Tm} (h : t.Bdd) : (midT t).Bdd := by
  unfold midT mkL mkD tt
  simp only [Tm.Bdd, TmL.Bdd, TmF.Bdd]
  simp [h]
theorem none1_V (w : World) (B : Nat → Prop) : none1.V w B .nilIface := by simp [none1, Tm.V]

/-- a value that is a term's -/
theorem inner_tm (t : Tm) (x : Value) (w : World) (h : t.V w (Lo w.heap.size) x) (hb : t.Bdd) : Inner x (midT t).all.e (t.sameB none1) w := by
  have HV : ∀ W X, Nv w W x X → (midT t).V X (Lo (W.heap.size + 2)) (pv W) := fun W X hX => mid_V w W X h hX
  refine ⟨fun W X hX => ?_, fun W X hX => ?_, fun W X hX => ?_, fun W X hX => ?_, fun W X hX => ?_, fun W hW => ?_, t.V_shape x h⟩
  · exact (Check_any (midT t) (pv W) _ X hX.2.2.1 (HV W X hX)).mono fun r w' h => ⟨_, h.1, h.2⟩
  · refine (Order_any (midT t) (midT t) (pv W) (pv W) _ X hX.2.2.1 (HV W X hX) (HV W X hX)).mono fun r w' h => ⟨?_, h.2⟩
    rw [h.1]
    have e1 : (midT t).ordN (midT t) = 0 := by unfold Tm.ordN; split; rfl; exact Tm.cmp_self _
    have e2 : (midT t).ordE (midT t) = (midT t).all.e := by unfold Tm.ordE; split <;> rfl
    rw [e1, e2]
  · by_cases he : (midT t).all.e = 0
    · refine (Copy_ok (midT t) (pv W) _ X hX.2.2.1 (HV W X hX) he).mono ?_
      rintro r w' ⟨v', rfl, h1, _⟩; exact ⟨v', by rw [he], h1⟩
    · refine (Copy_err (midT t) (pv W) _ X hX.2.2.1 (HV W X hX) he).mono ?_
      rintro r w' ⟨rfl, h1⟩; exact ⟨_, rfl, h1⟩
  · by_cases he : (midT t).all.e = 0
    · refine (Plain_ok (midT t) (pv W) X ((midT t).V_same (Same.refl _ _) (Lo.le hX.2.2.1) _ (HV W X hX)) he (mid_bdd hb)).mono ?_
      rintro r w' ⟨cs, rfl, h1, hi⟩
      obtain ⟨k1, b1, i1, f1, tx1, ab1, nb1, cb1, rf1, al1, nl1, cl1, af1, nf1, cf1, cc1, vr1, rfl⟩ := Tm.In_tc' hi
      exact ⟨k1, b1, i1, f1, tx1, ab1, nb1, cb1, rf1, al1, nl1, cl1, af1, nf1, cf1, cc1, vr1, by rw [he], h1⟩
    · refine (Plain_bad (pv W) (midT t).all.e X ⟨he, fun Y hY => (Check_any (midT t) (pv W) _ Y (Nat.le_trans hX.2.2.1 hY.size) (HV W Y (hX.later hY))).mono fun r w' h => ⟨_, h.1, h.2⟩⟩).mono ?_
      rintro r w' ⟨rfl, h1⟩
      exact ⟨0, false, 0, 0, ByteArray.empty, none, 0, 0, 0, none, 0, 0, none, 0, 0, ByteArray.empty, 0, rfl, h1⟩
  · refine (Same_any (midT t) (midT t) (pv W) (pv W) _ X hX.2.2.1 (HV W X hX) (HV W X hX)).mono fun r w' h => ⟨?_, h.2⟩
    rw [h.1]
    have : (midT t).sameB (midT t) = decide ((midT t).all.e = 0) := by unfold Tm.sameB; rw [Tm.cmp_self]; simp
    rw [this]
  · exact Same_any t none1 x .nilIface w.heap.size W hW.2 (t.V_same hW.1 (fun _ h => h) x h) (none1_V _ _)

/-- a value that holds itself -/
theorem inner_ring (g : Nat) (R : Nat → Prop) (w : World) (h : Ring w w.heap.size R) (hg : R g) : Inner (.iface 55 (.pointer (some ⟨g, 0, none⟩))) 2 false w := by
  have HV : ∀ W X, Nv w W (.iface 55 (.pointer (some ⟨g, 0, none⟩))) X → Bad (pv W) 2 X := fun W X hX => by
    obtain ⟨k4, k5⟩ := hX.cells
    obtain ⟨h1, h2, h3, h4, h5⟩ := hX
    refine ringV_bad (W.heap.size + 1) W.heap.size g (W.heap.size + 2) R X h3 ?_
    have hr : Ring X w.heap.size R := h.same h1.1
    refine ⟨by omega, by omega, by rw [k5]; simp [pw], by rw [k5]; simp [pw], by rw [k4]; simp [pw, nmA1], by rw [k4]; simp [pw], fun x hx => ?_, hg⟩
    obtain ⟨a0, a1, a2, d, g', a3, a4, a5, a6, a7⟩ := hr x hx
    exact ⟨by omega, a1, a2, d, g', by omega, a4, a5, a6, a7⟩
  refine ⟨fun W X hX => (HV W X hX).2 X (Below.refl _ _), fun W X hX => Order_bad _ _ 2 X (HV W X hX), fun W X hX => ?_, fun W X hX => ?_, fun W X hX => ?_, fun W hW => ?_, .inr ⟨_, _, rfl⟩⟩
  · exact (Copy_bad _ 2 X (HV W X hX)).mono fun r w' h => ⟨_, h.1, h.2⟩
  · refine (Plain_bad _ 2 X (HV W X hX)).mono ?_
    rintro r w' ⟨rfl, h1⟩
    exact ⟨0, false, 0, 0, ByteArray.empty, none, 0, 0, 0, none, 0, 0, none, 0, 0, ByteArray.empty, 0, rfl, h1⟩
  · exact Same_bad _ _ 2 X (HV W X hX)
  · exact Same_bad _ _ 2 W (ring_bad g w.heap.size R W hW.2 (h.same hW.1) hg)

def alienT : Tm := .mk 0 false 0 0 ByteArray.empty ByteArray.empty 0 .nil .nil ByteArray.empty 0
def nothT : Tm := .mk 11 false 0 0 ByteArray.empty ByteArray.empty 0 .nil .nil ByteArray.empty 0
theorem alien_inner (T : Nat) (x : Value) (w : World) (h : Alien T) : Inner (.iface T x) 6 false w := by
  have hv : alienT.V w (Lo w.heap.size) (.iface T x) := by simp [alienT, Tm.V]; exact h
  have := inner_tm alienT _ w hv (by simp [alienT, Tm.Bdd, TmL.Bdd, TmF.Bdd])
  have e1 : (midT alienT).all.e = 6 := by decide +kernel
  have e2 : alienT.sameB none1 = false := by decide +kernel
  rw [e1, e2] at this; exact this
theorem noth_inner (w : World) : Inner (.iface 55 (.pointer none)) 7 false w := by
  have hv : nothT.V w (Lo w.heap.size) (.iface 55 (.pointer none)) := by simp [nothT, Tm.V]
  have := inner_tm nothT _ w hv (by simp [nothT, Tm.Bdd, TmL.Bdd, TmF.Bdd])
  have e1 : (midT nothT).all.e = 7 := by decide +kernel
  have e2 : nothT.sameB none1 = false := by decide +kernel
  rw [e1, e2] at this; exact this

theorem kind_of (t : Tm) (v : Value) (W : World) {k : Int} (h : t.V W (Lo W.heap.size) v) (hk : t.kindK = k) : Calls Try.prog 14 #[v] W fun e w' => e = .returned (.int .i64 k) ∧ Below W.heap.size W w' := by
  refine (Kind_any v k (hk ▸ kindOf_any t v _ W h) W).mono ?_
  rintro e w' ⟨rfl, rfl⟩; exact ⟨rfl, Below.refl _ _⟩
theorem nil_nil (W : World) : Calls Try.prog 25 #[.nilIface, .nilIface] W fun e w' => e = .returned (.bool true) ∧ Below W.heap.size W w' := by
  have h := Same_any none1 none1 .nilIface .nilIface _ W (Nat.le_refl _) (none1_V _ _) (none1_V _ _)
  rw [show none1.sameB none1 = true by decide +kernel] at h; exact h
/-- the term that ValueNever makes in place, in memory: its list of two terms, its one entry -/
def ff : Tm := .mk 2 false 0 0 ByteArray.empty ByteArray.empty 0 .nil .nil ByteArray.empty 0
def midF (t : Tm) : Tm := mkL (.cons ff (.cons (mkD (.cons nmA t .nil)) .nil))
theorem mid_all (t : Tm) : (midF t).all = (midT t).all := by
  unfold midF midT mkL ff tt
  simp only [Tm.all, Tm.wk, TmL.wk, Tm.own, TmL.len]
section
variable (k : Int) (b : Bool) (i : Int) (f : Nat) (tx : ByteArray) (vb : Value) (rf : Int) (vl vf : Value) (c : ByteArray) (vr : Int)
def tw (P : World) : World := (P.alloc (.cells #[.string ⟨#[97]⟩, .int .i64 k, .bool b, .int .i64 i, .float .f64 f, .string tx, vb, .int .u64 rf, vl, vf, .string c, .int .i64 vr] 65)).alloc
  (.cells #[.int .i64 2, .bool false, .int .i64 0, .float .f64 0, .string ⟨#[]⟩, .slice none 0 0, .int .u64 0, .slice none 0 0, .slice none 0 0, .string ⟨#[]⟩, .int .i64 0,
    .int .i64 9, .bool false, .int .i64 0, .float .f64 0, .string ⟨#[]⟩, .slice none 0 0, .int .u64 0, .slice none 0 0, .slice (some ⟨P.heap.size, 0, none⟩) 1 1, .string ⟨#[]⟩, .int .i64 0] 29)
theorem alloc2_new (Q : World) (o o' : Obj) : ((Q.alloc o).alloc o').heap[Q.heap.size + 1]? = some o' := by
  have := heap_alloc_new (Q.alloc o) o'
  simpa using this
theorem alloc2_old (Q : World) (o o' : Obj) : ((Q.alloc o).alloc o').heap[Q.heap.size]? = some o := by
  rw [((Below.refl (Q.alloc o).heap.size (Q.alloc o)).alloc (Nat.le_refl _) o').block Q.heap.size (by simp)]; exact heap_alloc_new Q o
theorem tw_bel (P : World) : Below P.heap.size P (tw k b i f tx vb rf vl vf c vr P) := ((Below.refl _ _).alloc (Nat.le_refl _) _).alloc (by simp) _
theorem mid_In (t : Tm) (P : World) (h : t.In P (Lo P.heap.size) (tcells k b i f tx vb rf vl vf c vr)) :
    (midF t).In (tw k b i f tx vb rf vl vf c vr P) (Lo (P.heap.size + 2)) (tcells 8 false 0 0 ⟨#[]⟩ (.slice none 0 0) 0 (.slice (some ⟨P.heap.size + 1, 0, none⟩) 2 2) (.slice none 0 0) ⟨#[]⟩ 0) := by
  have hz := tw_bel k b i f tx vb rf vl vf c vr P
  have hX : t.In (tw k b i f tx vb rf vl vf c vr P) (Lo (P.heap.size + 2)) (tcells k b i f tx vb rf vl vf c vr) := t.In_same (Same.of_below hz (Nat.le_refl _)) (Lo.le (by omega)) _ h
  have hb : ∀ (k : Int) (nl nf : Nat), -9223372036854775808 ≤ k → k ≤ 9223372036854775807 → nl ≤ 2 → nf ≤ 2 → Bd k 0 0 ByteArray.empty ByteArray.empty.size 0 nl nf ByteArray.empty 0 := fun k nl nf h1 h2 h3 h4 =>
    ⟨h1, h2, by decide, by decide, by decide, by decide, by decide, by decide, by decide, by decide, by decide, by decide, by omega, by omega⟩
  have e1 : ∀ x, (tw k b i f tx vb rf vl vf c vr P).cell? ⟨P.heap.size + 1, x, none⟩ = (#[.int .i64 2, .bool false, .int .i64 0, .float .f64 0, .string ⟨#[]⟩, .slice none 0 0, .int .u64 0, .slice none 0 0, .slice none 0 0, .string ⟨#[]⟩, .int .i64 0,
    .int .i64 9, .bool false, .int .i64 0, .float .f64 0, .string ⟨#[]⟩, .slice none 0 0, .int .u64 0, .slice none 0 0, .slice (some ⟨P.heap.size, 0, none⟩) 1 1, .string ⟨#[]⟩, .int .i64 0] : Array Value)[x]? := fun x =>
    cell_of_row _ _ x _ _ _ (alloc2_new _ _ _)
  have e0 : ∀ x, (tw k b i f tx vb rf vl vf c vr P).cell? ⟨P.heap.size, x, none⟩ = (#[.string ⟨#[97]⟩, .int .i64 k, .bool b, .int .i64 i, .float .f64 f, .string tx, vb, .int .u64 rf, vl, vf, .string c, .int .i64 vr] : Array Value)[x]? := fun x =>
    cell_of_row _ _ x _ _ _ (alloc2_old _ _ _)
  generalize tw k b i f tx vb rf vl vf c vr P = X at *
  have b0 : Lo (P.heap.size + 2) P.heap.size := by unfold Lo; omega
  have b1 : Lo (P.heap.size + 2) (P.heap.size + 1) := by unfold Lo; omega
  unfold midF mkL
  simp only [Tm.In]
  refine ⟨none, 0, some ⟨P.heap.size + 1, 0, none⟩, 2, none, 0, rfl, hb 8 2 0 (by decide) (by decide) (by decide) (by decide), fun j hj => absurd hj (Nat.not_lt_zero _), ?_, trivial⟩
  simp only [TmL.In]
  refine ⟨P.heap.size + 1, 0, tcells 2 false 0 0 ⟨#[]⟩ (.slice none 0 0) 0 (.slice none 0 0) (.slice none 0 0) ⟨#[]⟩ 0, rfl, b1, fun x hx => ?_, ?_, P.heap.size + 1, 0, tcells 9 false 0 0 ⟨#[]⟩ (.slice none 0 0) 0 (.slice none 0 0) (.slice (some ⟨P.heap.size, 0, none⟩) 1 1) ⟨#[]⟩ 0, rfl, b1, fun x hx => ?_, ?_, trivial⟩
  · rw [e1]
    have : x = 0 ∨ x = 1 ∨ x = 2 ∨ x = 3 ∨ x = 4 ∨ x = 5 ∨ x = 6 ∨ x = 7 ∨ x = 8 ∨ x = 9 ∨ x = 10 := by omega
    rcases this with rfl | rfl | rfl | rfl | rfl | rfl | rfl | rfl | rfl | rfl | rfl <;> rfl
  · unfold ff
    simp only [Tm.In]
    exact ⟨none, 0, none, 0, none, 0, rfl, hb 2 0 0 (by decide) (by decide) (by decide) (by decide), fun j hj => absurd hj (Nat.not_lt_zero _), trivial, trivial⟩
  · rw [e1]
    have : x = 0 ∨ x = 1 ∨ x = 2 ∨ x = 3 ∨ x = 4 ∨ x = 5 ∨ x = 6 ∨ x = 7 ∨ x = 8 ∨ x = 9 ∨ x = 10 := by omega
    rcases this with rfl | rfl | rfl | rfl | rfl | rfl | rfl | rfl | rfl | rfl | rfl <;> rfl
  · unfold mkD
    simp only [Tm.In]
    refine ⟨none, 0, none, 0, some ⟨P.heap.size, 0, none⟩, 1, rfl, hb 9 0 1 (by decide) (by decide) (by decide) (by decide), fun j hj => absurd hj (Nat.not_lt_zero _), trivial, ?_⟩
    simp only [TmF.In]
    refine ⟨P.heap.size, 0, tcells k b i f tx vb rf vl vf c vr, rfl, b0, by rw [e0]; rfl, by decide, fun x hx => ?_, hX, trivial⟩
    rw [e0]
    have : x = 0 ∨ x = 1 ∨ x = 2 ∨ x = 3 ∨ x = 4 ∨ x = 5 ∨ x = 6 ∨ x = 7 ∨ x = 8 ∨ x = 9 ∨ x = 10 := by omega
    rcases this with rfl | rfl | rfl | rfl | rfl | rfl | rfl | rfl | rfl | rfl | rfl <;> rfl
theorem refMid (t : Tm) (P : World) (m : Nat) (hm : P.heap.size = m) (h : t.In P (Lo P.heap.size) (tcells k b i f tx vb rf vl vf c vr)) :
    Calls Try.prog 11 #[.agg (tcells 8 false 0 0 ⟨#[]⟩ (.slice none 0 0) 0 (.slice (some ⟨m + 1, 0, none⟩) 2 2) (.slice none 0 0) ⟨#[]⟩ 0)] ((P.alloc (.cells #[.string ⟨#[97]⟩, .int .i64 k, .bool b, .int .i64 i, .float .f64 f, .string tx, vb, .int .u64 rf, vl, vf, .string c, .int .i64 vr] 65)).alloc
  (.cells #[.int .i64 2, .bool false, .int .i64 0, .float .f64 0, .string ⟨#[]⟩, .slice none 0 0, .int .u64 0, .slice none 0 0, .slice none 0 0, .string ⟨#[]⟩, .int .i64 0,
    .int .i64 9, .bool false, .int .i64 0, .float .f64 0, .string ⟨#[]⟩, .slice none 0 0, .int .u64 0, .slice none 0 0, .slice (some ⟨m, 0, none⟩) 1 1, .string ⟨#[]⟩, .int .i64 0] 29)) fun e w' => ∃ a, e = .returned (.tuple #[.int .i64 a, .int .i64 (midT t).all.e]) ∧ Below P.heap.size P w' := by
  subst hm
  refine (refCheck_any (midF t) _ (Lo (P.heap.size + 2)) (tw k b i f tx vb rf vl vf c vr P) (mid_In k b i f tx vb rf vl vf c vr t P h) (Sub.lo (by simp [tw]))).mono ?_
  rintro e w' ⟨rfl, hb⟩
  exact ⟨_, by rw [mid_all], below_to (tw_bel k b i f tx vb rf vl vf c vr P) hb⟩
end
end Go.Proofs.Ytbaadndogikphaa

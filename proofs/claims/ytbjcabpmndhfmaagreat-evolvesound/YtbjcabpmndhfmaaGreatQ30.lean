/- check.ready; check.Is, once has is known of every type. -/
import Derived.Test.YtbjcabpmndhfmaaGreatQ26
import Derived.Test.YtbjcabpmndhfmaaGreatQ29
import Derived.Test.YtbjcabpmndhfmaaGreatQ2
import Derived.Test.YtbjcabpmndhfmaaGreatQ19
import Derived.Test.YtbjcabpmndhfmaaGreatQ9
import Derived.Deep.RegionWith
namespace Go.Proofs.YtbjcabpmndhfmaaGreat
open Go.RowKit

section
variable (v : Tm) (x : Value) (t : Ty) (cs : Array Value) (B : Nat) (w : World) (hB : B ≤ w.heap.size) (hv : v.V w (Lo B) x) (ht : t.In w (Lo B) cs)
set_option maxRecDepth 100000 in
set_option maxHeartbeats 2000000 in
theorem ready_err (hB : B ≤ w.heap.size) (hv : v.V w (Lo B) x) (he : v.all.e ≠ 0) :
    Calls Tryz.prog 26 #[x, .agg cs] w fun e w' => e = .returned (.tuple #[.nilIface, .pointer none, .int .i64 v.all.e]) ∧ Below w.heap.size w w' := by
  have he' := ne_bool he
  have HBW : Hid (∀ o, Below w.heap.size w (w.alloc o)) := fun o => (Below.refl _ _).alloc (Nat.le_refl _) _
  have HC : Hid (∀ W, Below w.heap.size w W → Calls Tryz.prog 37 #[x] W fun e w' => e = .returned (.tuple #[.nilIface, .int .i64 v.all.e]) ∧ Below W.heap.size W w') := fun W hW =>
    Copy_err v x B W (Nat.le_trans hB hW.size) (v.V_same (fun k hk => hW.block k (Nat.lt_of_lt_of_le hk hB)) (fun _ h => h) x hv) he
  clear hv hB he
  generalize v.all.e = q at *
  go_enter Tryz.func26, Tryz.ntmps26
  go_wp2_with fail
  refine (HC.out _ (HBW.out _)).mono ?_
  rintro e w1 ⟨rfl, hb1⟩
  have H1 : Hid (Below w.heap.size w w1) := (HBW.out _).trans (hb1.mono (by simp))
  clear hb1
  go_wp2_with fail
  go_ret3
  exact ⟨rfl, H1.out⟩

set_option maxRecDepth 100000 in
set_option maxHeartbeats 2000000 in
theorem ready_no (hB : B ≤ w.heap.size) (hv : v.V w (Lo B) x) (ht : t.In w (Lo B) cs) (he : v.all.e = 0) (hc : t.can = false) :
    Calls Tryz.prog 26 #[x, .agg cs] w fun e w' => e = .returned (.tuple #[.nilIface, .pointer none, .int .i64 70]) ∧ Below w.heap.size w w' := by
  obtain ⟨hsz, -⟩ := Ty.In_cells ht
  have hs : ∀ W, Below w.heap.size w W → Same (Lo B) w W := fun W hW k hk => hW.block k (Nat.lt_of_lt_of_le hk hB)
  have HBW : Hid (∀ o, Below w.heap.size w (w.alloc o)) := fun o => (Below.refl _ _).alloc (Nat.le_refl _) _
  have HC : Hid (∀ W, Below w.heap.size w W → Calls Tryz.prog 37 #[x] W fun e w' => ∃ v', e = .returned (.tuple #[v', .int .i64 0]) ∧ Below W.heap.size W w' ∧ v.V w' (Fr W w') v') := fun W hW =>
    Copy_ok v x B W (Nat.le_trans hB hW.size) (v.V_same (hs W hW) (fun _ h => h) x hv) he
  have HS : Hid (∀ W, Below w.heap.size w W → Calls Tryz.prog 38 #[.agg cs] W fun e w' => e = .returned (.tuple #[.pointer none, .int .i64 70]) ∧ Below W.heap.size W w') := fun W hW =>
    shapeOf_no t cs (Lo B) W (t.In_same (hs W hW) (fun _ h => h) cs ht) (fun k hk => Nat.lt_of_lt_of_le hk (Nat.le_trans hB hW.size)) hc
  have HL : Hid (∀ W, Below (w.alloc (.cells cs 43)).heap.size (w.alloc (.cells cs 43)) W → (loadVar 43 ⟨w.heap.size, 0, none⟩).run Tryz.prog W = .ok (.agg cs) W) := fun W hW => yld hsz (by rw [hW.block w.heap.size (by simp)]; exact heap_alloc_new w _)
  clear hv ht hB hs he hc
  go_enter Tryz.func26, Tryz.ntmps26
  go_wp2_with fail
  refine (HC.out _ (HBW.out _)).mono ?_
  rintro e w1 ⟨v', rfl, hb1, -⟩
  have H1 : Hid (Below w.heap.size w w1 ∧ w.heap.size ≤ w1.heap.size) := ⟨(HBW.out _).trans (hb1.mono (by simp)), by have := hb1.size; simp at this; omega⟩
  have HL1 : Hid ((loadVar 43 ⟨w.heap.size, 0, none⟩).run Tryz.prog w1 = .ok (.agg cs) w1) := HL.out w1 hb1
  clear hb1
  go_wp2_with ((with_reducible refine ld_row ?_ ?_ HL1.out ?_); rfl; rfl)
  refine (HS.out w1 H1.out.1).mono ?_
  rintro e w2 ⟨rfl, hb2⟩
  have H2 : Hid (Below w.heap.size w w2) := H1.out.1.trans (hb2.mono H1.out.2)
  clear hb2
  go_wp2_with fail
  go_ret3
  exact ⟨rfl, H2.out⟩

set_option maxRecDepth 100000 in
set_option maxHeartbeats 2000000 in
theorem ready_ok (hB : B ≤ w.heap.size) (hv : v.V w (Lo B) x) (ht : t.In w (Lo B) cs) (he : v.all.e = 0) (hc : t.can = true) :
    Calls Tryz.prog 26 #[x, .agg cs] w fun e w' => ∃ v' b, e = .returned (.tuple #[v', .pointer (some ⟨b, 0, none⟩), .int .i64 0]) ∧ Below w.heap.size w w' ∧ v.V w' (Lo w'.heap.size) v' ∧ t.Sh w' (Lo w'.heap.size) b := by
  obtain ⟨hsz, -⟩ := Ty.In_cells ht
  have hs : ∀ W, Below w.heap.size w W → Same (Lo B) w W := fun W hW k hk => hW.block k (Nat.lt_of_lt_of_le hk hB)
  have HBW : Hid (∀ o, Below w.heap.size w (w.alloc o)) := fun o => (Below.refl _ _).alloc (Nat.le_refl _) _
  have HC : Hid (∀ W, Below w.heap.size w W → Calls Tryz.prog 37 #[x] W fun e w' => ∃ v', e = .returned (.tuple #[v', .int .i64 0]) ∧ Below W.heap.size W w' ∧ v.V w' (Fr W w') v') := fun W hW =>
    Copy_ok v x B W (Nat.le_trans hB hW.size) (v.V_same (hs W hW) (fun _ h => h) x hv) he
  have HS : Hid (∀ W, Below w.heap.size w W → Calls Tryz.prog 38 #[.agg cs] W fun e w' => ∃ b, e = .returned (.tuple #[.pointer (some ⟨b, 0, none⟩), .int .i64 0]) ∧ Below W.heap.size W w' ∧ t.Sh w' (Lo w'.heap.size) b) := fun W hW =>
    shapeOf_ok t cs (Lo B) W (t.In_same (hs W hW) (fun _ h => h) cs ht) (fun k hk => Nat.lt_of_lt_of_le hk (Nat.le_trans hB hW.size)) hc
  have HL : Hid (∀ W, Below (w.alloc (.cells cs 43)).heap.size (w.alloc (.cells cs 43)) W → (loadVar 43 ⟨w.heap.size, 0, none⟩).run Tryz.prog W = .ok (.agg cs) W) := fun W hW => yld hsz (by rw [hW.block w.heap.size (by simp)]; exact heap_alloc_new w _)
  clear hv ht hB hs he hc
  go_enter Tryz.func26, Tryz.ntmps26
  go_wp2_with fail
  refine (HC.out _ (HBW.out _)).mono ?_
  rintro e w1 ⟨v', rfl, hb1, hv1⟩
  have H1 : Hid (Below w.heap.size w w1 ∧ w.heap.size ≤ w1.heap.size ∧ v.V w1 (Lo w1.heap.size) v') := ⟨(HBW.out _).trans (hb1.mono (by simp)), by have := hb1.size; simp at this; omega, v.V_same (Same.refl _ _) (fun k hk => hk.2) v' hv1⟩
  have HL1 : Hid ((loadVar 43 ⟨w.heap.size, 0, none⟩).run Tryz.prog w1 = .ok (.agg cs) w1) := HL.out w1 hb1
  clear hb1 hv1
  go_wp2_with ((with_reducible refine ld_row ?_ ?_ HL1.out ?_); rfl; rfl)
  refine (HS.out w1 H1.out.1).mono ?_
  rintro e w2 ⟨b, rfl, hb2, hsh⟩
  have H2 : Hid (Below w.heap.size w w2 ∧ v.V w2 (Lo w2.heap.size) v' ∧ t.Sh w2 (Lo w2.heap.size) b) := ⟨H1.out.1.trans (hb2.mono H1.out.2.1), v.V_same (fun k hk => hb2.block k hk) (fun k hk => Nat.lt_of_lt_of_le hk hb2.size) v' H1.out.2.2, hsh⟩
  clear hb2 hsh
  go_wp2_with fail
  go_ret3
  exact ⟨v', b, rfl, H2.out⟩

/-- what Is answers -/
def Sp.isA (v : Tm) (t : Ty) : Bool × Int × Int := if v.all.e ≠ 0 then (false, 0, v.all.e) else if t.can = false then (false, 0, 70) else ((t.has v).1, (t.has v).2, 0)
set_option maxRecDepth 100000 in
set_option maxHeartbeats 2000000 in
theorem Is_of (HH : ∀ N, HasC N) (hB : B ≤ w.heap.size) (hv : v.V w (Lo B) x) (ht : t.In w (Lo B) cs) :
    Calls Tryz.prog 15 #[x, .agg cs] w fun e w' => e = .returned (.tuple #[.bool (Sp.isA v t).1, .int .i64 (Sp.isA v t).2.1, .int .i64 (Sp.isA v t).2.2]) ∧ Below w.heap.size w w' := by
  obtain ⟨hsz, -⟩ := Ty.In_cells ht
  have hs : ∀ W, Below w.heap.size w W → Same (Lo B) w W := fun W hW k hk => hW.block k (Nat.lt_of_lt_of_le hk hB)
  have HBW : Hid (Below w.heap.size w (w.alloc (.cells cs 43))) := (Below.refl _ _).alloc (Nat.le_refl _) _
  have HL : Hid ((loadVar 43 ⟨w.heap.size, 0, none⟩).run Tryz.prog (w.alloc (.cells cs 43)) = .ok (.agg cs) (w.alloc (.cells cs 43))) := yld hsz (heap_alloc_new w _)
  have hv0 := v.V_same (hs _ HBW.out) (fun _ h => h) x hv
  have ht0 := t.In_same (hs _ HBW.out) (fun _ h => h) cs ht
  have hB0 : B ≤ (w.alloc (.cells cs 43)).heap.size := Nat.le_trans hB HBW.out.size
  by_cases he : v.all.e ≠ 0
  · have HR : Hid (Calls Tryz.prog 26 #[x, .agg cs] (w.alloc (.cells cs 43)) fun e w' => e = .returned (.tuple #[.nilIface, .pointer none, .int .i64 v.all.e]) ∧ Below (w.alloc (.cells cs 43)).heap.size (w.alloc (.cells cs 43)) w') := ready_err v x cs B _ hB0 hv0 he
    have HX : Sp.isA v t = (false, 0, v.all.e) := by unfold Sp.isA; rw [if_pos he]
    rw [HX]
    have he' := ne_bool he
    clear hv ht hv0 ht0 hB hB0 hs HX he HH
    generalize v.all.e = q at *
    go_enter Tryz.func15, Tryz.ntmps15
    go_wp2_with ((with_reducible refine ld_row ?_ ?_ HL.out ?_); rfl; rfl)
    refine HR.out.mono ?_
    rintro e w1 ⟨rfl, hb1⟩
    have H1 : Hid (Below w.heap.size w w1) := HBW.out.trans (hb1.mono (by simp))
    clear hb1
    go_wp2_with fail
    go_ret3
    exact ⟨rfl, H1.out⟩
  · have he0 := Decidable.not_not.1 he
    cases hc : t.can with
    | false =>
      have HR : Hid (Calls Tryz.prog 26 #[x, .agg cs] (w.alloc (.cells cs 43)) fun e w' => e = .returned (.tuple #[.nilIface, .pointer none, .int .i64 70]) ∧ Below (w.alloc (.cells cs 43)).heap.size (w.alloc (.cells cs 43)) w') := ready_no v x t cs B _ hB0 hv0 ht0 he0 hc
      have HX : Sp.isA v t = (false, 0, 70) := by unfold Sp.isA; rw [if_neg he, if_pos hc]
      rw [HX]
      clear hv ht hv0 ht0 hB hB0 hs HX he he0 hc HH
      go_enter Tryz.func15, Tryz.ntmps15
      go_wp2_with ((with_reducible refine ld_row ?_ ?_ HL.out ?_); rfl; rfl)
      refine HR.out.mono ?_
      rintro e w1 ⟨rfl, hb1⟩
      have H1 : Hid (Below w.heap.size w w1) := HBW.out.trans (hb1.mono (by simp))
      clear hb1
      go_wp2_with fail
      go_ret3
      exact ⟨rfl, H1.out⟩
    | true =>
      have HR : Hid (Calls Tryz.prog 26 #[x, .agg cs] (w.alloc (.cells cs 43)) fun e w' => ∃ v' b, e = .returned (.tuple #[v', .pointer (some ⟨b, 0, none⟩), .int .i64 0]) ∧ Below (w.alloc (.cells cs 43)).heap.size (w.alloc (.cells cs 43)) w' ∧ v.V w' (Lo w'.heap.size) v' ∧ t.Sh w' (Lo w'.heap.size) b) := ready_ok v x t cs B _ hB0 hv0 ht0 he0 hc
      have HX : Sp.isA v t = ((t.has v).1, (t.has v).2, 0) := by unfold Sp.isA; rw [if_neg he, if_neg (by rw [hc]; decide)]
      rw [HX]
      have HHH : Hid (∀ v' b W, v.V W (Lo W.heap.size) v' → t.Sh W (Lo W.heap.size) b → Calls Tryz.prog 27 #[.pointer (some ⟨b, 0, none⟩), v'] W (HasE t v W)) := fun v' b W h1 h2 => HH t.sz t (Nat.le_refl _) (Ty.can_ok hc).1 v v' b W.heap.size W he0 h1 h2 (Nat.le_refl _)
      unfold HasE at HHH
      clear hv ht hv0 ht0 hB hB0 hs HX he he0 hc HH
      generalize t.has v = r at *
      go_enter Tryz.func15, Tryz.ntmps15
      go_wp2_with ((with_reducible refine ld_row ?_ ?_ HL.out ?_); rfl; rfl)
      refine HR.out.mono ?_
      rintro e w1 ⟨v', b, rfl, hb1, hv1, hsh⟩
      have H1 : Hid (Below w.heap.size w w1 ∧ w.heap.size ≤ w1.heap.size) := ⟨HBW.out.trans (hb1.mono (by simp)), by have := hb1.size; simp at this; omega⟩
      have HG : Hid (Calls Tryz.prog 27 #[.pointer (some ⟨b, 0, none⟩), v'] w1 fun e w' => e = .returned (.tuple #[.bool r.1, .int .i64 r.2]) ∧ Below w1.heap.size w1 w') := HHH.out v' b w1 hv1 hsh
      clear hb1 hv1 hsh
      go_wp2_with fail
      refine HG.out.mono ?_
      rintro e w2 ⟨rfl, hb2⟩
      have H2 : Hid (Below w.heap.size w w2) := H1.out.1.trans (hb2.mono H1.out.2)
      clear hb2
      go_wp2_with fail
      go_ret3
      exact ⟨rfl, H2.out⟩
end
end Go.Proofs.YtbjcabpmndhfmaaGreat

/- A class: what is wrong with it; how it lies in memory; the small functions that tell of names and versions. -/
namespace Go.Proofs.YtbjcabpmndhfmaaGreat
open Go.RowKit

structure Fo where
  nm : ByteArray
  was : ByteArray
  ty : Ty
  has : Bool
  df : Tm
structure Cl where
  nm : ByteArray
  vr : Int
  pn : ByteArray
  pv : Int
  ab : Bool
  fs : List Fo
/-- a version that can be -/
def Sp.vOk (n : Int) : Bool := decide (1 ≤ n ∧ n ≤ 1000)
/-- a name, or none -/
def Sp.nmN (s : ByteArray) : Bool := decide (s.size = 0) || Sp.isNm s
def Sp.fR (f : Fo) (ah : ByteArray) : Int :=
  if (Sp.isNm f.nm && !Sp.leS f.nm ah && Sp.nmN f.was) = false then 8 else if f.ty.can = false then 70 else if f.has = false then 0 else f.df.all.e
def Sp.fsR (ah : ByteArray) : List Fo → Int
  | [] => 0
  | f :: l => if Sp.fR f ah ≠ 0 then Sp.fR f ah else Sp.fsR f.nm l
/-- what is wrong with a class ahead of its fields -/
def Sp.hdR (c : Cl) : Int :=
  if Sp.isNm c.nm = false then 8 else if Sp.vOk c.vr = false then 1 else if Sp.nmN c.pn = false then 8
  else if (c.pn.size = 0 ∧ c.pv ≠ 0) ∨ (c.pn.size ≠ 0 ∧ Sp.vOk c.pv = false) then 1 else if 4096 < c.fs.length then 2 else 0
def Sp.clR (c : Cl) : Int := if Sp.hdR c ≠ 0 then Sp.hdR c else Sp.fsR ByteArray.empty c.fs
def Sp.sndR : List Fo → ByteArray × Int
  | [] => (⟨#[]⟩, 0)
  | f :: l => if f.has && !(Sp.isA f.df f.ty).1 then (f.nm, 71) else Sp.sndR l
def Sp.snd (c : Cl) : ByteArray × Int := if Sp.clR c ≠ 0 then (⟨#[]⟩, Sp.clR c) else Sp.sndR c.fs

/-- a field's thirty-two cells -/
def fcs (f : Fo) (cy ct : Array Value) : Array Value := (.string f.nm :: .string f.was :: (cy.toList ++ .bool f.has :: ct.toList)).toArray
section
variable {f : Fo} {cy ct : Array Value}
theorem fcs_size (hy : cy.size = 18) (ht : ct.size = 11) : (fcs f cy ct).size = 32 := by simp [fcs, hy, ht]
theorem fcs_0 : (fcs f cy ct)[0]? = some (.string f.nm) := by simp [fcs]
theorem fcs_1 : (fcs f cy ct)[1]? = some (.string f.was) := by simp [fcs]
theorem fcs_y (hy : cy.size = 18) {x : Nat} (hx : x < 18) : (fcs f cy ct)[2 + x]? = cy[x]? := by
  have hx' : x < cy.toList.length := by rw [Array.length_toList]; omega
  simp only [fcs, List.getElem?_toArray]
  rw [show 2 + x = x + 1 + 1 by omega, List.getElem?_cons_succ, List.getElem?_cons_succ, List.getElem?_append_left hx', Array.getElem?_toList]
theorem fcs_20 (hy : cy.size = 18) : (fcs f cy ct)[20]? = some (.bool f.has) := by
  simp only [fcs, List.getElem?_toArray]
  rw [show (20 : Nat) = 18 + 1 + 1 by omega, List.getElem?_cons_succ, List.getElem?_cons_succ, List.getElem?_append_right (by simp [hy])]
  simp [hy]
theorem fcs_t (hy : cy.size = 18) {x : Nat} : (fcs f cy ct)[21 + x]? = ct[x]? := by
  simp only [fcs, List.getElem?_toArray]
  rw [show 21 + x = 19 + x + 1 + 1 by omega, List.getElem?_cons_succ, List.getElem?_cons_succ, List.getElem?_append_right (by simp [hy]; omega), Array.length_toList, hy, show 19 + x - 18 = x + 1 by omega, List.getElem?_cons_succ, Array.getElem?_toList]
theorem fcs_one (hy : cy.all (·.oneCell') = true) (ht : ct.all (·.oneCell') = true) : (fcs f cy ct).all (·.oneCell') = true := by
  rw [Array.all_eq_true_iff_forall_mem] at hy ht ⊢
  intro u hu
  simp only [fcs, List.mem_toArray, List.mem_cons, List.mem_append, Array.mem_toList_iff] at hu
  rcases hu with rfl | rfl | hu | rfl | hu
  · rfl
  · rfl
  · exact hy u hu
  · rfl
  · exact ht u hu
end
theorem Tm.In_one {t : Tm} {w : World} {B : Nat → Prop} {ct : Array Value} (h : t.In w B ct) : ct.size = 11 ∧ ct.all (·.oneCell') = true := by
  cases t
  simp only [Tm.In] at h
  obtain ⟨ab, cb, al, cl, af, cf, rfl, -⟩ := h
  exact ⟨rfl, by simp [tcells, Value.oneCell']⟩

/-- one field in memory -/
structure Fo.At (f : Fo) (w : World) (B : Nat → Prop) (cy ct : Array Value) : Prop where
  ty : f.ty.In w B cy
  df : f.df.In w B ct
  nm : f.nm.size ≤ 140737488355328
  was : f.was.size ≤ 140737488355328
theorem Fo.At.same {f : Fo} {w w' : World} {B B' : Nat → Prop} {cy ct : Array Value} (h : f.At w B cy ct) (hs : Same B w w') (hB : ∀ k, B k → B' k) : f.At w' B' cy ct :=
  ⟨f.ty.In_same hs hB cy h.ty, f.df.In_same hs hB ct h.df, h.nm, h.was⟩
def FosAt (w : World) (B : Nat → Prop) (a : Option Addr) (l : List Fo) : Prop := ∀ j f, l[j]? = some f → ∃ g o cy ct, a = some ⟨g, o, none⟩ ∧ B g ∧ (∀ x, x < 32 → w.cell? ⟨g, o + j * 32 + x, none⟩ = (fcs f cy ct)[x]?) ∧ f.At w B cy ct
theorem FosAt.same {w w' : World} {B B' : Nat → Prop} {a : Option Addr} {l : List Fo} (h : FosAt w B a l) (hs : Same B w w') (hB : ∀ k, B k → B' k) : FosAt w' B' a l := fun j f hj => by
  obtain ⟨g, o, cy, ct, e, hg, hc, ha⟩ := h j f hj
  exact ⟨g, o, cy, ct, e, hB _ hg, fun x hx => by rw [hs.cell (p := ⟨g, o + j * 32 + x, none⟩) hg]; exact hc x hx, ha.same hs hB⟩
/-- a class's six cells -/
abbrev ccs (c : Cl) (af : Option Addr) (cf : Nat) : Array Value := #[.string c.nm, .int .i64 c.vr, .string c.pn, .int .i64 c.pv, .bool c.ab, .slice af c.fs.length cf]
structure Cl.At (c : Cl) (w : World) (B : Nat → Prop) (af : Option Addr) : Prop where
  nm : c.nm.size ≤ 140737488355328
  pn : c.pn.size ≤ 140737488355328
  vr : -9223372036854775808 ≤ c.vr ∧ c.vr ≤ 9223372036854775807
  pv : -9223372036854775808 ≤ c.pv ∧ c.pv ≤ 9223372036854775807
  len : c.fs.length ≤ 70368744177664
  fs : FosAt w B af c.fs

theorem fsz : (Tryz.prog.info? 45).map (·.size) = some 32 := by kernel_rfl
theorem fld {w : World} {b : Nat} {cs : Array Value} {T : TypeId} {fr : Nat × Nat} (hs : cs.size = 32) (h : w.heap[b]? = some (.cells cs T fr)) : (loadVar 45 ⟨b, 0, none⟩).run Tryz.prog w = .ok (.agg cs) w :=
  run_loadVar_row w b T 45 cs fr _ h Tryz.underlying45 rfl (by rw [hs]; exact fsz)
theorem fldE {w : World} {g q : Nat} {cs : Array Value} (hs : cs.size = 32) (h : ∀ x, x < 32 → w.cell? ⟨g, q + x, none⟩ = cs[x]?) : (loadVar 45 ⟨g, q, none⟩).run Tryz.prog w = .ok (.agg cs) w := by
  have := run_loadVar_mid (P := Tryz.prog) w g q 45 cs.toList _ (fun j v hj => by
    have hj' : j < 32 := by have := (List.getElem?_eq_some_iff.1 hj).1; simp [hs] at this; exact this
    rw [h j hj']; simpa using hj) Tryz.underlying45 rfl (by rw [Array.length_toList, hs]; exact fsz)
  simpa using this
theorem fst {w : World} {c cs : Array Value} (h0 : c.size = 32) (hs : cs.size = 32) (h1 : cs.all (·.oneCell') = true) : (storeVar 45 ⟨w.heap.size, 0, none⟩ (.agg cs)).run Tryz.prog (w.alloc (.cells c 45)) = .ok () (w.alloc (.cells cs 45)) :=
  run_storeVar_new w 45 c cs (by rw [hs]; exact fsz) (by rw [h0, hs]) h1
/-- a field in a box of its own -/
structure FB (W : World) (g : Nat) (f : Fo) (cy ct : Array Value) : Prop where
  c0 : W.cell? ⟨g, 0, none⟩ = some (.string f.nm)
  c1 : W.cell? ⟨g, 1, none⟩ = some (.string f.was)
  c20 : W.cell? ⟨g, 20, none⟩ = some (.bool f.has)
  ty : (loadVar 43 ⟨g, 2, none⟩).run Tryz.prog W = .ok (.agg cy) W
  df : (loadVar 38 ⟨g, 21, none⟩).run Tryz.prog W = .ok (.agg ct) W
theorem FB.of {W : World} {g : Nat} {f : Fo} {cy ct : Array Value} {T : TypeId} {fr : Nat × Nat} (h : W.heap[g]? = some (.cells (fcs f cy ct) T fr)) (hy : cy.size = 18) (ht : ct.size = 11) : FB W g f cy ct := by
  have hc : ∀ j, W.cell? ⟨g, j, none⟩ = (fcs f cy ct)[j]? := fun j => cell_of_row _ _ _ _ _ _ h
  exact ⟨by rw [hc]; exact fcs_0, by rw [hc]; exact fcs_1, by rw [hc]; exact fcs_20 hy, yldE hy (fun x hx => by rw [hc]; exact fcs_y hy hx), yldT ht (fun x hx => by rw [hc]; exact fcs_t hy)⟩
theorem FB.mid {W : World} {g o : Nat} {f : Fo} {cy ct : Array Value} (h : ∀ x, x < 32 → W.cell? ⟨g, o + x, none⟩ = (fcs f cy ct)[x]?) (hy : cy.size = 18) (ht : ct.size = 11) :
    W.cell? ⟨g, o, none⟩ = some (.string f.nm) ∧ W.cell? ⟨g, o + 1, none⟩ = some (.string f.was) ∧ W.cell? ⟨g, o + 20, none⟩ = some (.bool f.has) ∧ (loadVar 43 ⟨g, o + 2, none⟩).run Tryz.prog W = .ok (.agg cy) W ∧ (loadVar 38 ⟨g, o + 21, none⟩).run Tryz.prog W = .ok (.agg ct) W ∧ (loadVar 45 ⟨g, o, none⟩).run Tryz.prog W = .ok (.agg (fcs f cy ct)) W := by
  refine ⟨(h 0 (by decide)).trans fcs_0, (h 1 (by decide)).trans fcs_1, (h 20 (by decide)).trans (fcs_20 hy), yldE hy (fun x hx => ?_), yldT ht (fun x hx => ?_), fldE (fcs_size hy ht) h⟩
  · rw [show o + 2 + x = o + (2 + x) by omega, h (2 + x) (by omega)]; exact fcs_y hy hx
  · rw [show o + 21 + x = o + (21 + x) by omega, h (21 + x) (by omega)]; exact fcs_t hy

set_option maxRecDepth 100000 in
set_option maxHeartbeats 1000000 in
theorem isVersion_any (n : Int) (w : World) : Calls Tryz.prog 12 #[.int .i64 n] w fun e w' => e = .returned (.bool (Sp.vOk n)) ∧ w = w' := by
  by_cases h1 : 1 ≤ n
  · by_cases h2 : n ≤ 1000
    · have H : Hid (Sp.vOk n = true) := decide_eq_true ⟨h1, h2⟩
      go_enter Tryz.func12, Tryz.ntmps12
      go_wp2_with fail
      go_ret
      exact ⟨ret_bool H.out.symm, rfl⟩
    · have H : Hid (Sp.vOk n = false) := decide_eq_false (fun h => h2 h.2)
      go_enter Tryz.func12, Tryz.ntmps12
      go_wp2_with fail
      go_ret
      exact ⟨ret_bool H.out.symm, rfl⟩
  · have H : Hid (Sp.vOk n = false) := decide_eq_false (fun h => h1 h.1)
    go_enter Tryz.func12, Tryz.ntmps12
    go_wp2_with fail
    go_ret
    exact ⟨ret_bool H.out.symm, rfl⟩
set_option maxRecDepth 100000 in
set_option maxHeartbeats 1000000 in
theorem version_any (n : Int) (w : World) : Calls Tryz.prog 18 #[.int .i64 n] w fun e w' => e = .returned (.bool (Sp.vOk n)) ∧ w = w' := by
  by_cases h1 : 1 ≤ n
  · by_cases h2 : n ≤ 1000
    · have H : Hid (Sp.vOk n = true) := decide_eq_true ⟨h1, h2⟩
      go_enter Tryz.func18, Tryz.ntmps18
      go_wp2_with fail
      go_ret
      exact ⟨ret_bool H.out.symm, rfl⟩
    · have H : Hid (Sp.vOk n = false) := decide_eq_false (fun h => h2 h.2)
      go_enter Tryz.func18, Tryz.ntmps18
      go_wp2_with fail
      go_ret
      exact ⟨ret_bool H.out.symm, rfl⟩
  · have H : Hid (Sp.vOk n = false) := decide_eq_false (fun h => h1 h.1)
    go_enter Tryz.func18, Tryz.ntmps18
    go_wp2_with fail
    go_ret
    exact ⟨ret_bool H.out.symm, rfl⟩
theorem ba_none {s : ByteArray} (h : s.size = 0) : s = { data := #[] } := by
  cases s with
  | mk d =>
    have : d = #[] := Array.eq_empty_of_size_eq_zero h
    rw [this]
theorem ba_ne {s : ByteArray} (h : s.size ≠ 0) : s.toList.isEmpty = false := by
  cases e : s.toList.isEmpty with
  | false => rfl
  | true =>
    exfalso
    have e' : s.toList = [] := by simpa using e
    rw [ByteArray.toList_eq] at e'
    exact h (by simp only [ByteArray.size]; rw [← Array.length_toList, e']; rfl)
set_option maxRecDepth 100000 in
set_option maxHeartbeats 1000000 in
theorem nameOrNone_any (s : ByteArray) (w : World) (hs : s.size ≤ 140737488355328) : Calls Tryz.prog 13 #[.string s] w fun e w' => e = .returned (.bool (Sp.nmN s)) ∧ w = w' := by
  have HN : Hid (∀ W, Calls Tryz.prog 11 #[.string s] W fun e w' => e = .returned (.bool (Sp.isNm s)) ∧ W = w') := fun W => isName_any s W (by unfold maxLen; omega)
  by_cases h0 : s.size = 0
  · have H : Hid (Sp.nmN s = true) := by show _ = _; simp [Sp.nmN, h0]
    have := ba_none h0
    subst this
    go_enter Tryz.func13, Tryz.ntmps13
    go_wp2_with fail
    go_ret
    exact ⟨ret_bool H.out.symm, rfl⟩
  · have H : Hid (Sp.nmN s = Sp.isNm s) := by show _ = _; simp [Sp.nmN, h0]
    have hb := ba_ne h0
    go_enter Tryz.func13, Tryz.ntmps13
    go_wp2_with (go_at_call 11; refine (HN.out _).mono ?_; rintro e w' ⟨rfl, rfl⟩)
    go_ret
    exact ⟨ret_bool H.out.symm, rfl⟩
set_option maxRecDepth 100000 in
set_option maxHeartbeats 1000000 in
theorem known_any (s : ByteArray) (w : World) (hs : s.size ≤ 140737488355328) : Calls Tryz.prog 19 #[.string s] w fun e w' => e = .returned (.bool (Sp.nmN s)) ∧ w = w' := by
  have HN : Hid (∀ W, Calls Tryz.prog 17 #[.string s] W fun e w' => e = .returned (.bool (Sp.isNm s)) ∧ W = w') := fun W => Name_any s W (by unfold maxLen; omega)
  by_cases h0 : s.size = 0
  · have H : Hid (Sp.nmN s = true) := by show _ = _; simp [Sp.nmN, h0]
    have := ba_none h0
    subst this
    go_enter Tryz.func19, Tryz.ntmps19
    go_wp2_with fail
    go_ret
    exact ⟨ret_bool H.out.symm, rfl⟩
  · have H : Hid (Sp.nmN s = Sp.isNm s) := by show _ = _; simp [Sp.nmN, h0]
    have hb := ba_ne h0
    go_enter Tryz.func19, Tryz.ntmps19
    go_wp2_with (go_at_call 17; refine (HN.out _).mono ?_; rintro e w' ⟨rfl, rfl⟩)
    go_ret
    exact ⟨ret_bool H.out.symm, rfl⟩
end Go.Proofs.YtbjcabpmndhfmaaGreat

/- classes.fieldRule: what is wrong with a field of a class. -/
namespace Go.Proofs.YtbjcabpmndhfmaaGreat
open Go.RowKit

section
variable (f : Fo) (cy ct : Array Value) (ah : ByteArray) (B : Nat → Prop) (w : World)
set_option maxRecDepth 100000 in
set_option maxHeartbeats 2000000 in
theorem fld_a (h : f.At w B cy ct) (hB : Sub B w) (h1 : Sp.isNm f.nm = false) : Calls Tryz.prog 14 #[.agg (fcs f cy ct), .string ah] w fun e w' => e = .returned (.int .i64 (Sp.fR f ah)) ∧ Below w.heap.size w w' := by
  have HX : Hid (Sp.fR f ah = 8) := by show _ = _; unfold Sp.fR; rw [if_pos (by rw [h1]; rfl)]
  obtain ⟨hy, -⟩ := Ty.In_cells h.ty
  obtain ⟨ht, -⟩ := Tm.In_one h.df
  have hbx : Below w.heap.size w (w.alloc (.cells (fcs f cy ct) 45)) := (Below.refl _ _).alloc (Nat.le_refl _) _
  have HB : Hid (Below w.heap.size w (w.alloc (.cells (fcs f cy ct) 45))) := hbx
  have HFB : Hid (∀ W, Below (w.alloc (.cells (fcs f cy ct) 45)).heap.size (w.alloc (.cells (fcs f cy ct) 45)) W → FB W w.heap.size f cy ct) := fun W hW => FB.of ((hW.block w.heap.size (by simp)).trans (heap_alloc_new w _)) hy ht
  have HN : Hid (∀ W, Calls Tryz.prog 11 #[.string f.nm] W fun e w' => e = .returned (.bool (Sp.isNm f.nm)) ∧ W = w') := fun W => isName_any f.nm W (by have := h.nm; unfold maxLen; omega)
  have HW : Hid (∀ W, Calls Tryz.prog 13 #[.string f.was] W fun e w' => e = .returned (.bool (Sp.nmN f.was)) ∧ W = w') := fun W => nameOrNone_any f.was W h.was
  have HC : Hid (Calls Tryz.prog 25 #[.agg cy] (w.alloc (.cells (fcs f cy ct) 45)) fun e w' => e = .returned (.bool f.ty.can) ∧ Below (w.alloc (.cells (fcs f cy ct) 45)).heap.size (w.alloc (.cells (fcs f cy ct) 45)) w') := Can_any f.ty cy B (w.alloc (.cells (fcs f cy ct) 45)) (f.ty.In_same (hB.same hbx) (fun _ h => h) cy h.ty) (hB.later hbx)
  have HOE : Hid (∀ W, Below (w.alloc (.cells (fcs f cy ct) 45)).heap.size (w.alloc (.cells (fcs f cy ct) 45)) W → f.df.all.e ≠ 0 → Calls Tryz.prog 16 #[.agg ct] W fun e w' => e = .returned (.tuple #[.nilIface, .int .i64 f.df.all.e]) ∧ Below W.heap.size W w') := fun W hW he =>
    Of_err f.df ct B W (f.df.In_same (hB.same (below_to hbx hW)) (fun _ h => h) ct h.df) (hB.later (below_to hbx hW)) he
  have HOK : Hid (∀ W, Below (w.alloc (.cells (fcs f cy ct) 45)).heap.size (w.alloc (.cells (fcs f cy ct) 45)) W → f.df.all.e = 0 → Calls Tryz.prog 16 #[.agg ct] W fun e w' => ∃ v, e = .returned (.tuple #[v, .int .i64 0]) ∧ Below W.heap.size W w' ∧ f.df.V w' (Fr W w') v) := fun W hW he =>
    Of_ok f.df ct B W (f.df.In_same (hB.same (below_to hbx hW)) (fun _ h => h) ct h.df) (hB.later (below_to hbx hW)) he
  obtain ⟨a0, a1, -, d2, -⟩ := HFB.out (w.alloc (.cells (fcs f cy ct) 45)) (Below.refl _ _)
  have HTY : Hid ((loadVar 43 ⟨w.heap.size, 2, none⟩).run Tryz.prog (w.alloc (.cells (fcs f cy ct) 45)) = .ok (.agg cy) (w.alloc (.cells (fcs f cy ct) 45))) := d2
  clear h hB hy ht hbx d2
  rw [h1] at HN
  clear HC HOE HOK HFB
  go_enter Tryz.func14, Tryz.ntmps14
  go_wp2_with (first | (go_at_call 11; refine (HN.out _).mono ?_; rintro e w' ⟨rfl, rfl⟩) | (go_at_call 13; refine (HW.out _).mono ?_; rintro e w' ⟨rfl, rfl⟩) | ((with_reducible refine ld_row ?_ ?_ HTY.out ?_); rfl; rfl))
  go_ret
  exact ⟨ret_int HX.out.symm, HB.out⟩
set_option maxRecDepth 100000 in
set_option maxHeartbeats 2000000 in
theorem fld_b (h : f.At w B cy ct) (hB : Sub B w) (h1 : Sp.isNm f.nm = true) (h2 : Sp.leS f.nm ah = true) : Calls Tryz.prog 14 #[.agg (fcs f cy ct), .string ah] w fun e w' => e = .returned (.int .i64 (Sp.fR f ah)) ∧ Below w.heap.size w w' := by
  have HX : Hid (Sp.fR f ah = 8) := by show _ = _; unfold Sp.fR; rw [if_pos (by rw [h1, h2]; rfl)]
  obtain ⟨hy, -⟩ := Ty.In_cells h.ty
  obtain ⟨ht, -⟩ := Tm.In_one h.df
  have hbx : Below w.heap.size w (w.alloc (.cells (fcs f cy ct) 45)) := (Below.refl _ _).alloc (Nat.le_refl _) _
  have HB : Hid (Below w.heap.size w (w.alloc (.cells (fcs f cy ct) 45))) := hbx
  have HFB : Hid (∀ W, Below (w.alloc (.cells (fcs f cy ct) 45)).heap.size (w.alloc (.cells (fcs f cy ct) 45)) W → FB W w.heap.size f cy ct) := fun W hW => FB.of ((hW.block w.heap.size (by simp)).trans (heap_alloc_new w _)) hy ht
  have HN : Hid (∀ W, Calls Tryz.prog 11 #[.string f.nm] W fun e w' => e = .returned (.bool (Sp.isNm f.nm)) ∧ W = w') := fun W => isName_any f.nm W (by have := h.nm; unfold maxLen; omega)
  have HW : Hid (∀ W, Calls Tryz.prog 13 #[.string f.was] W fun e w' => e = .returned (.bool (Sp.nmN f.was)) ∧ W = w') := fun W => nameOrNone_any f.was W h.was
  have HC : Hid (Calls Tryz.prog 25 #[.agg cy] (w.alloc (.cells (fcs f cy ct) 45)) fun e w' => e = .returned (.bool f.ty.can) ∧ Below (w.alloc (.cells (fcs f cy ct) 45)).heap.size (w.alloc (.cells (fcs f cy ct) 45)) w') := Can_any f.ty cy B (w.alloc (.cells (fcs f cy ct) 45)) (f.ty.In_same (hB.same hbx) (fun _ h => h) cy h.ty) (hB.later hbx)
  have HOE : Hid (∀ W, Below (w.alloc (.cells (fcs f cy ct) 45)).heap.size (w.alloc (.cells (fcs f cy ct) 45)) W → f.df.all.e ≠ 0 → Calls Tryz.prog 16 #[.agg ct] W fun e w' => e = .returned (.tuple #[.nilIface, .int .i64 f.df.all.e]) ∧ Below W.heap.size W w') := fun W hW he =>
    Of_err f.df ct B W (f.df.In_same (hB.same (below_to hbx hW)) (fun _ h => h) ct h.df) (hB.later (below_to hbx hW)) he
  have HOK : Hid (∀ W, Below (w.alloc (.cells (fcs f cy ct) 45)).heap.size (w.alloc (.cells (fcs f cy ct) 45)) W → f.df.all.e = 0 → Calls Tryz.prog 16 #[.agg ct] W fun e w' => ∃ v, e = .returned (.tuple #[v, .int .i64 0]) ∧ Below W.heap.size W w' ∧ f.df.V w' (Fr W w') v) := fun W hW he =>
    Of_ok f.df ct B W (f.df.In_same (hB.same (below_to hbx hW)) (fun _ h => h) ct h.df) (hB.later (below_to hbx hW)) he
  obtain ⟨a0, a1, -, d2, -⟩ := HFB.out (w.alloc (.cells (fcs f cy ct) 45)) (Below.refl _ _)
  have HTY : Hid ((loadVar 43 ⟨w.heap.size, 2, none⟩).run Tryz.prog (w.alloc (.cells (fcs f cy ct) 45)) = .ok (.agg cy) (w.alloc (.cells (fcs f cy ct) 45))) := d2
  clear h hB hy ht hbx d2
  rw [h1] at HN
  have h2' : (Op.bytesLess f.nm.toList ah.toList || f.nm.toList == ah.toList) = true := h2
  clear h2
  clear HC HOE HOK HFB
  go_enter Tryz.func14, Tryz.ntmps14
  go_wp2_with (first | (go_at_call 11; refine (HN.out _).mono ?_; rintro e w' ⟨rfl, rfl⟩) | (go_at_call 13; refine (HW.out _).mono ?_; rintro e w' ⟨rfl, rfl⟩) | ((with_reducible refine ld_row ?_ ?_ HTY.out ?_); rfl; rfl))
  go_ret
  exact ⟨ret_int HX.out.symm, HB.out⟩
set_option maxRecDepth 100000 in
set_option maxHeartbeats 2000000 in
theorem fld_c (h : f.At w B cy ct) (hB : Sub B w) (h1 : Sp.isNm f.nm = true) (h2 : Sp.leS f.nm ah = false) (h3 : Sp.nmN f.was = false) : Calls Tryz.prog 14 #[.agg (fcs f cy ct), .string ah] w fun e w' => e = .returned (.int .i64 (Sp.fR f ah)) ∧ Below w.heap.size w w' := by
  have HX : Hid (Sp.fR f ah = 8) := by show _ = _; unfold Sp.fR; rw [if_pos (by rw [h1, h2, h3]; rfl)]
  obtain ⟨hy, -⟩ := Ty.In_cells h.ty
  obtain ⟨ht, -⟩ := Tm.In_one h.df
  have hbx : Below w.heap.size w (w.alloc (.cells (fcs f cy ct) 45)) := (Below.refl _ _).alloc (Nat.le_refl _) _
  have HB : Hid (Below w.heap.size w (w.alloc (.cells (fcs f cy ct) 45))) := hbx
  have HFB : Hid (∀ W, Below (w.alloc (.cells (fcs f cy ct) 45)).heap.size (w.alloc (.cells (fcs f cy ct) 45)) W → FB W w.heap.size f cy ct) := fun W hW => FB.of ((hW.block w.heap.size (by simp)).trans (heap_alloc_new w _)) hy ht
  have HN : Hid (∀ W, Calls Tryz.prog 11 #[.string f.nm] W fun e w' => e = .returned (.bool (Sp.isNm f.nm)) ∧ W = w') := fun W => isName_any f.nm W (by have := h.nm; unfold maxLen; omega)
  have HW : Hid (∀ W, Calls Tryz.prog 13 #[.string f.was] W fun e w' => e = .returned (.bool (Sp.nmN f.was)) ∧ W = w') := fun W => nameOrNone_any f.was W h.was
  have HC : Hid (Calls Tryz.prog 25 #[.agg cy] (w.alloc (.cells (fcs f cy ct) 45)) fun e w' => e = .returned (.bool f.ty.can) ∧ Below (w.alloc (.cells (fcs f cy ct) 45)).heap.size (w.alloc (.cells (fcs f cy ct) 45)) w') := Can_any f.ty cy B (w.alloc (.cells (fcs f cy ct) 45)) (f.ty.In_same (hB.same hbx) (fun _ h => h) cy h.ty) (hB.later hbx)
  have HOE : Hid (∀ W, Below (w.alloc (.cells (fcs f cy ct) 45)).heap.size (w.alloc (.cells (fcs f cy ct) 45)) W → f.df.all.e ≠ 0 → Calls Tryz.prog 16 #[.agg ct] W fun e w' => e = .returned (.tuple #[.nilIface, .int .i64 f.df.all.e]) ∧ Below W.heap.size W w') := fun W hW he =>
    Of_err f.df ct B W (f.df.In_same (hB.same (below_to hbx hW)) (fun _ h => h) ct h.df) (hB.later (below_to hbx hW)) he
  have HOK : Hid (∀ W, Below (w.alloc (.cells (fcs f cy ct) 45)).heap.size (w.alloc (.cells (fcs f cy ct) 45)) W → f.df.all.e = 0 → Calls Tryz.prog 16 #[.agg ct] W fun e w' => ∃ v, e = .returned (.tuple #[v, .int .i64 0]) ∧ Below W.heap.size W w' ∧ f.df.V w' (Fr W w') v) := fun W hW he =>
    Of_ok f.df ct B W (f.df.In_same (hB.same (below_to hbx hW)) (fun _ h => h) ct h.df) (hB.later (below_to hbx hW)) he
  obtain ⟨a0, a1, -, d2, -⟩ := HFB.out (w.alloc (.cells (fcs f cy ct) 45)) (Below.refl _ _)
  have HTY : Hid ((loadVar 43 ⟨w.heap.size, 2, none⟩).run Tryz.prog (w.alloc (.cells (fcs f cy ct) 45)) = .ok (.agg cy) (w.alloc (.cells (fcs f cy ct) 45))) := d2
  clear h hB hy ht hbx d2
  rw [h1] at HN
  rw [h3] at HW
  have h2' : (Op.bytesLess f.nm.toList ah.toList || f.nm.toList == ah.toList) = false := h2
  clear h2
  clear HC HOE HOK HFB
  go_enter Tryz.func14, Tryz.ntmps14
  go_wp2_with (first | (go_at_call 11; refine (HN.out _).mono ?_; rintro e w' ⟨rfl, rfl⟩) | (go_at_call 13; refine (HW.out _).mono ?_; rintro e w' ⟨rfl, rfl⟩) | ((with_reducible refine ld_row ?_ ?_ HTY.out ?_); rfl; rfl))
  go_ret
  exact ⟨ret_int HX.out.symm, HB.out⟩
set_option maxRecDepth 100000 in
set_option maxHeartbeats 2000000 in
theorem fld_d (h : f.At w B cy ct) (hB : Sub B w) (h1 : Sp.isNm f.nm = true) (h2 : Sp.leS f.nm ah = false) (h3 : Sp.nmN f.was = true) (h4 : f.ty.can = false) : Calls Tryz.prog 14 #[.agg (fcs f cy ct), .string ah] w fun e w' => e = .returned (.int .i64 (Sp.fR f ah)) ∧ Below w.heap.size w w' := by
  have HX : Hid (Sp.fR f ah = 70) := by show _ = _; unfold Sp.fR; rw [if_neg (by rw [h1, h2, h3]; decide)]; rw [if_pos h4]
  obtain ⟨hy, -⟩ := Ty.In_cells h.ty
  obtain ⟨ht, -⟩ := Tm.In_one h.df
  have hbx : Below w.heap.size w (w.alloc (.cells (fcs f cy ct) 45)) := (Below.refl _ _).alloc (Nat.le_refl _) _
  have HB : Hid (Below w.heap.size w (w.alloc (.cells (fcs f cy ct) 45))) := hbx
  have HFB : Hid (∀ W, Below (w.alloc (.cells (fcs f cy ct) 45)).heap.size (w.alloc (.cells (fcs f cy ct) 45)) W → FB W w.heap.size f cy ct) := fun W hW => FB.of ((hW.block w.heap.size (by simp)).trans (heap_alloc_new w _)) hy ht
  have HN : Hid (∀ W, Calls Tryz.prog 11 #[.string f.nm] W fun e w' => e = .returned (.bool (Sp.isNm f.nm)) ∧ W = w') := fun W => isName_any f.nm W (by have := h.nm; unfold maxLen; omega)
  have HW : Hid (∀ W, Calls Tryz.prog 13 #[.string f.was] W fun e w' => e = .returned (.bool (Sp.nmN f.was)) ∧ W = w') := fun W => nameOrNone_any f.was W h.was
  have HC : Hid (Calls Tryz.prog 25 #[.agg cy] (w.alloc (.cells (fcs f cy ct) 45)) fun e w' => e = .returned (.bool f.ty.can) ∧ Below (w.alloc (.cells (fcs f cy ct) 45)).heap.size (w.alloc (.cells (fcs f cy ct) 45)) w') := Can_any f.ty cy B (w.alloc (.cells (fcs f cy ct) 45)) (f.ty.In_same (hB.same hbx) (fun _ h => h) cy h.ty) (hB.later hbx)
  have HOE : Hid (∀ W, Below (w.alloc (.cells (fcs f cy ct) 45)).heap.size (w.alloc (.cells (fcs f cy ct) 45)) W → f.df.all.e ≠ 0 → Calls Tryz.prog 16 #[.agg ct] W fun e w' => e = .returned (.tuple #[.nilIface, .int .i64 f.df.all.e]) ∧ Below W.heap.size W w') := fun W hW he =>
    Of_err f.df ct B W (f.df.In_same (hB.same (below_to hbx hW)) (fun _ h => h) ct h.df) (hB.later (below_to hbx hW)) he
  have HOK : Hid (∀ W, Below (w.alloc (.cells (fcs f cy ct) 45)).heap.size (w.alloc (.cells (fcs f cy ct) 45)) W → f.df.all.e = 0 → Calls Tryz.prog 16 #[.agg ct] W fun e w' => ∃ v, e = .returned (.tuple #[v, .int .i64 0]) ∧ Below W.heap.size W w' ∧ f.df.V w' (Fr W w') v) := fun W hW he =>
    Of_ok f.df ct B W (f.df.In_same (hB.same (below_to hbx hW)) (fun _ h => h) ct h.df) (hB.later (below_to hbx hW)) he
  obtain ⟨a0, a1, -, d2, -⟩ := HFB.out (w.alloc (.cells (fcs f cy ct) 45)) (Below.refl _ _)
  have HTY : Hid ((loadVar 43 ⟨w.heap.size, 2, none⟩).run Tryz.prog (w.alloc (.cells (fcs f cy ct) 45)) = .ok (.agg cy) (w.alloc (.cells (fcs f cy ct) 45))) := d2
  clear h hB hy ht hbx d2
  rw [h1] at HN
  rw [h3] at HW
  have h2' : (Op.bytesLess f.nm.toList ah.toList || f.nm.toList == ah.toList) = false := h2
  rw [h4] at HC
  clear h1 h2 h3
  go_enter Tryz.func14, Tryz.ntmps14
  go_wp2_with (first | (go_at_call 11; refine (HN.out _).mono ?_; rintro e w' ⟨rfl, rfl⟩) | (go_at_call 13; refine (HW.out _).mono ?_; rintro e w' ⟨rfl, rfl⟩) | ((with_reducible refine ld_row ?_ ?_ HTY.out ?_); rfl; rfl))
  refine HC.out.mono ?_
  rintro e w2 ⟨rfl, hb2⟩
  obtain ⟨-, -, e20, -, d21⟩ := HFB.out w2 hb2
  have H2 : Hid (Below w.heap.size w w2) := below_to HB.out hb2
  clear hb2 d21 e20 HOE HOK
  go_wp2_with fail
  go_ret
  exact ⟨ret_int HX.out.symm, H2.out⟩
set_option maxRecDepth 100000 in
set_option maxHeartbeats 2000000 in
theorem fld_e (h : f.At w B cy ct) (hB : Sub B w) (h1 : Sp.isNm f.nm = true) (h2 : Sp.leS f.nm ah = false) (h3 : Sp.nmN f.was = true) (h4 : f.ty.can = true) (h5 : f.has = false) : Calls Tryz.prog 14 #[.agg (fcs f cy ct), .string ah] w fun e w' => e = .returned (.int .i64 (Sp.fR f ah)) ∧ Below w.heap.size w w' := by
  have HX : Hid (Sp.fR f ah = 0) := by show _ = _; unfold Sp.fR; rw [if_neg (by rw [h1, h2, h3]; decide)]; rw [if_neg (by rw [h4]; decide), if_pos h5]
  obtain ⟨hy, -⟩ := Ty.In_cells h.ty
  obtain ⟨ht, -⟩ := Tm.In_one h.df
  have hbx : Below w.heap.size w (w.alloc (.cells (fcs f cy ct) 45)) := (Below.refl _ _).alloc (Nat.le_refl _) _
  have HB : Hid (Below w.heap.size w (w.alloc (.cells (fcs f cy ct) 45))) := hbx
  have HFB : Hid (∀ W, Below (w.alloc (.cells (fcs f cy ct) 45)).heap.size (w.alloc (.cells (fcs f cy ct) 45)) W → FB W w.heap.size f cy ct) := fun W hW => FB.of ((hW.block w.heap.size (by simp)).trans (heap_alloc_new w _)) hy ht
  have HN : Hid (∀ W, Calls Tryz.prog 11 #[.string f.nm] W fun e w' => e = .returned (.bool (Sp.isNm f.nm)) ∧ W = w') := fun W => isName_any f.nm W (by have := h.nm; unfold maxLen; omega)
  have HW : Hid (∀ W, Calls Tryz.prog 13 #[.string f.was] W fun e w' => e = .returned (.bool (Sp.nmN f.was)) ∧ W = w') := fun W => nameOrNone_any f.was W h.was
  have HC : Hid (Calls Tryz.prog 25 #[.agg cy] (w.alloc (.cells (fcs f cy ct) 45)) fun e w' => e = .returned (.bool f.ty.can) ∧ Below (w.alloc (.cells (fcs f cy ct) 45)).heap.size (w.alloc (.cells (fcs f cy ct) 45)) w') := Can_any f.ty cy B (w.alloc (.cells (fcs f cy ct) 45)) (f.ty.In_same (hB.same hbx) (fun _ h => h) cy h.ty) (hB.later hbx)
  have HOE : Hid (∀ W, Below (w.alloc (.cells (fcs f cy ct) 45)).heap.size (w.alloc (.cells (fcs f cy ct) 45)) W → f.df.all.e ≠ 0 → Calls Tryz.prog 16 #[.agg ct] W fun e w' => e = .returned (.tuple #[.nilIface, .int .i64 f.df.all.e]) ∧ Below W.heap.size W w') := fun W hW he =>
    Of_err f.df ct B W (f.df.In_same (hB.same (below_to hbx hW)) (fun _ h => h) ct h.df) (hB.later (below_to hbx hW)) he
  have HOK : Hid (∀ W, Below (w.alloc (.cells (fcs f cy ct) 45)).heap.size (w.alloc (.cells (fcs f cy ct) 45)) W → f.df.all.e = 0 → Calls Tryz.prog 16 #[.agg ct] W fun e w' => ∃ v, e = .returned (.tuple #[v, .int .i64 0]) ∧ Below W.heap.size W w' ∧ f.df.V w' (Fr W w') v) := fun W hW he =>
    Of_ok f.df ct B W (f.df.In_same (hB.same (below_to hbx hW)) (fun _ h => h) ct h.df) (hB.later (below_to hbx hW)) he
  obtain ⟨a0, a1, -, d2, -⟩ := HFB.out (w.alloc (.cells (fcs f cy ct) 45)) (Below.refl _ _)
  have HTY : Hid ((loadVar 43 ⟨w.heap.size, 2, none⟩).run Tryz.prog (w.alloc (.cells (fcs f cy ct) 45)) = .ok (.agg cy) (w.alloc (.cells (fcs f cy ct) 45))) := d2
  clear h hB hy ht hbx d2
  rw [h1] at HN
  rw [h3] at HW
  have h2' : (Op.bytesLess f.nm.toList ah.toList || f.nm.toList == ah.toList) = false := h2
  rw [h4] at HC
  clear h1 h2 h3
  go_enter Tryz.func14, Tryz.ntmps14
  go_wp2_with (first | (go_at_call 11; refine (HN.out _).mono ?_; rintro e w' ⟨rfl, rfl⟩) | (go_at_call 13; refine (HW.out _).mono ?_; rintro e w' ⟨rfl, rfl⟩) | ((with_reducible refine ld_row ?_ ?_ HTY.out ?_); rfl; rfl))
  refine HC.out.mono ?_
  rintro e w2 ⟨rfl, hb2⟩
  obtain ⟨-, -, e20, -, d21⟩ := HFB.out w2 hb2
  have H2 : Hid (Below w.heap.size w w2) := below_to HB.out hb2
  rw [h5] at e20
  clear hb2 d21 HOE HOK
  go_wp2_with fail
  go_ret
  exact ⟨ret_int HX.out.symm, H2.out⟩
set_option maxRecDepth 100000 in
set_option maxHeartbeats 2000000 in
theorem fld_f (h : f.At w B cy ct) (hB : Sub B w) (h1 : Sp.isNm f.nm = true) (h2 : Sp.leS f.nm ah = false) (h3 : Sp.nmN f.was = true) (h4 : f.ty.can = true) (h5 : f.has = true) (h6 : f.df.all.e ≠ 0) : Calls Tryz.prog 14 #[.agg (fcs f cy ct), .string ah] w fun e w' => e = .returned (.int .i64 (Sp.fR f ah)) ∧ Below w.heap.size w w' := by
  have HX : Hid (Sp.fR f ah = f.df.all.e) := by show _ = _; unfold Sp.fR; rw [if_neg (by rw [h1, h2, h3]; decide)]; rw [if_neg (by rw [h4]; decide), if_neg (by rw [h5]; decide)]
  obtain ⟨hy, -⟩ := Ty.In_cells h.ty
  obtain ⟨ht, -⟩ := Tm.In_one h.df
  have hbx : Below w.heap.size w (w.alloc (.cells (fcs f cy ct) 45)) := (Below.refl _ _).alloc (Nat.le_refl _) _
  have HB : Hid (Below w.heap.size w (w.alloc (.cells (fcs f cy ct) 45))) := hbx
  have HFB : Hid (∀ W, Below (w.alloc (.cells (fcs f cy ct) 45)).heap.size (w.alloc (.cells (fcs f cy ct) 45)) W → FB W w.heap.size f cy ct) := fun W hW => FB.of ((hW.block w.heap.size (by simp)).trans (heap_alloc_new w _)) hy ht
  have HN : Hid (∀ W, Calls Tryz.prog 11 #[.string f.nm] W fun e w' => e = .returned (.bool (Sp.isNm f.nm)) ∧ W = w') := fun W => isName_any f.nm W (by have := h.nm; unfold maxLen; omega)
  have HW : Hid (∀ W, Calls Tryz.prog 13 #[.string f.was] W fun e w' => e = .returned (.bool (Sp.nmN f.was)) ∧ W = w') := fun W => nameOrNone_any f.was W h.was
  have HC : Hid (Calls Tryz.prog 25 #[.agg cy] (w.alloc (.cells (fcs f cy ct) 45)) fun e w' => e = .returned (.bool f.ty.can) ∧ Below (w.alloc (.cells (fcs f cy ct) 45)).heap.size (w.alloc (.cells (fcs f cy ct) 45)) w') := Can_any f.ty cy B (w.alloc (.cells (fcs f cy ct) 45)) (f.ty.In_same (hB.same hbx) (fun _ h => h) cy h.ty) (hB.later hbx)
  have HOE : Hid (∀ W, Below (w.alloc (.cells (fcs f cy ct) 45)).heap.size (w.alloc (.cells (fcs f cy ct) 45)) W → f.df.all.e ≠ 0 → Calls Tryz.prog 16 #[.agg ct] W fun e w' => e = .returned (.tuple #[.nilIface, .int .i64 f.df.all.e]) ∧ Below W.heap.size W w') := fun W hW he =>
    Of_err f.df ct B W (f.df.In_same (hB.same (below_to hbx hW)) (fun _ h => h) ct h.df) (hB.later (below_to hbx hW)) he
  have HOK : Hid (∀ W, Below (w.alloc (.cells (fcs f cy ct) 45)).heap.size (w.alloc (.cells (fcs f cy ct) 45)) W → f.df.all.e = 0 → Calls Tryz.prog 16 #[.agg ct] W fun e w' => ∃ v, e = .returned (.tuple #[v, .int .i64 0]) ∧ Below W.heap.size W w' ∧ f.df.V w' (Fr W w') v) := fun W hW he =>
    Of_ok f.df ct B W (f.df.In_same (hB.same (below_to hbx hW)) (fun _ h => h) ct h.df) (hB.later (below_to hbx hW)) he
  obtain ⟨a0, a1, -, d2, -⟩ := HFB.out (w.alloc (.cells (fcs f cy ct) 45)) (Below.refl _ _)
  have HTY : Hid ((loadVar 43 ⟨w.heap.size, 2, none⟩).run Tryz.prog (w.alloc (.cells (fcs f cy ct) 45)) = .ok (.agg cy) (w.alloc (.cells (fcs f cy ct) 45))) := d2
  clear h hB hy ht hbx d2
  rw [h1] at HN
  rw [h3] at HW
  have h2' : (Op.bytesLess f.nm.toList ah.toList || f.nm.toList == ah.toList) = false := h2
  rw [h4] at HC
  clear h1 h2 h3
  go_enter Tryz.func14, Tryz.ntmps14
  go_wp2_with (first | (go_at_call 11; refine (HN.out _).mono ?_; rintro e w' ⟨rfl, rfl⟩) | (go_at_call 13; refine (HW.out _).mono ?_; rintro e w' ⟨rfl, rfl⟩) | ((with_reducible refine ld_row ?_ ?_ HTY.out ?_); rfl; rfl))
  refine HC.out.mono ?_
  rintro e w2 ⟨rfl, hb2⟩
  obtain ⟨-, -, e20, -, d21⟩ := HFB.out w2 hb2
  have H2 : Hid (Below w.heap.size w w2) := below_to HB.out hb2
  rw [h5] at e20
  have HO := HOE.out w2 hb2 h6
  have HO : Hid _ := HO
  have HD : Hid ((loadVar 38 ⟨w.heap.size, 21, none⟩).run Tryz.prog w2 = .ok (.agg ct) w2) := d21
  clear hb2 d21 HOE HOK h6
  generalize f.df.all.e = q at *
  go_wp2_with ((with_reducible refine ld_row ?_ ?_ HD.out ?_); rfl; rfl)
  refine (show Calls _ _ _ _ _ from HO.out).mono ?_
  rintro e w3 ⟨rfl, hb3⟩
  have H3 : Hid (Below w.heap.size w w3) := below_to H2.out hb3
  clear hb3
  go_wp2_with fail
  go_ret
  exact ⟨ret_int HX.out.symm, H3.out⟩
set_option maxRecDepth 100000 in
set_option maxHeartbeats 2000000 in
theorem fld_g (h : f.At w B cy ct) (hB : Sub B w) (h1 : Sp.isNm f.nm = true) (h2 : Sp.leS f.nm ah = false) (h3 : Sp.nmN f.was = true) (h4 : f.ty.can = true) (h5 : f.has = true) (h6 : f.df.all.e = 0) : Calls Tryz.prog 14 #[.agg (fcs f cy ct), .string ah] w fun e w' => e = .returned (.int .i64 (Sp.fR f ah)) ∧ Below w.heap.size w w' := by
  have HX : Hid (Sp.fR f ah = 0) := by show _ = _; unfold Sp.fR; rw [if_neg (by rw [h1, h2, h3]; decide)]; rw [if_neg (by rw [h4]; decide), if_neg (by rw [h5]; decide), h6]
  obtain ⟨hy, -⟩ := Ty.In_cells h.ty
  obtain ⟨ht, -⟩ := Tm.In_one h.df
  have hbx : Below w.heap.size w (w.alloc (.cells (fcs f cy ct) 45)) := (Below.refl _ _).alloc (Nat.le_refl _) _
  have HB : Hid (Below w.heap.size w (w.alloc (.cells (fcs f cy ct) 45))) := hbx
  have HFB : Hid (∀ W, Below (w.alloc (.cells (fcs f cy ct) 45)).heap.size (w.alloc (.cells (fcs f cy ct) 45)) W → FB W w.heap.size f cy ct) := fun W hW => FB.of ((hW.block w.heap.size (by simp)).trans (heap_alloc_new w _)) hy ht
  have HN : Hid (∀ W, Calls Tryz.prog 11 #[.string f.nm] W fun e w' => e = .returned (.bool (Sp.isNm f.nm)) ∧ W = w') := fun W => isName_any f.nm W (by have := h.nm; unfold maxLen; omega)
  have HW : Hid (∀ W, Calls Tryz.prog 13 #[.string f.was] W fun e w' => e = .returned (.bool (Sp.nmN f.was)) ∧ W = w') := fun W => nameOrNone_any f.was W h.was
  have HC : Hid (Calls Tryz.prog 25 #[.agg cy] (w.alloc (.cells (fcs f cy ct) 45)) fun e w' => e = .returned (.bool f.ty.can) ∧ Below (w.alloc (.cells (fcs f cy ct) 45)).heap.size (w.alloc (.cells (fcs f cy ct) 45)) w') := Can_any f.ty cy B (w.alloc (.cells (fcs f cy ct) 45)) (f.ty.In_same (hB.same hbx) (fun _ h => h) cy h.ty) (hB.later hbx)
  have HOE : Hid (∀ W, Below (w.alloc (.cells (fcs f cy ct) 45)).heap.size (w.alloc (.cells (fcs f cy ct) 45)) W → f.df.all.e ≠ 0 → Calls Tryz.prog 16 #[.agg ct] W fun e w' => e = .returned (.tuple #[.nilIface, .int .i64 f.df.all.e]) ∧ Below W.heap.size W w') := fun W hW he =>
    Of_err f.df ct B W (f.df.In_same (hB.same (below_to hbx hW)) (fun _ h => h) ct h.df) (hB.later (below_to hbx hW)) he
  have HOK : Hid (∀ W, Below (w.alloc (.cells (fcs f cy ct) 45)).heap.size (w.alloc (.cells (fcs f cy ct) 45)) W → f.df.all.e = 0 → Calls Tryz.prog 16 #[.agg ct] W fun e w' => ∃ v, e = .returned (.tuple #[v, .int .i64 0]) ∧ Below W.heap.size W w' ∧ f.df.V w' (Fr W w') v) := fun W hW he =>
    Of_ok f.df ct B W (f.df.In_same (hB.same (below_to hbx hW)) (fun _ h => h) ct h.df) (hB.later (below_to hbx hW)) he
  obtain ⟨a0, a1, -, d2, -⟩ := HFB.out (w.alloc (.cells (fcs f cy ct) 45)) (Below.refl _ _)
  have HTY : Hid ((loadVar 43 ⟨w.heap.size, 2, none⟩).run Tryz.prog (w.alloc (.cells (fcs f cy ct) 45)) = .ok (.agg cy) (w.alloc (.cells (fcs f cy ct) 45))) := d2
  clear h hB hy ht hbx d2
  rw [h1] at HN
  rw [h3] at HW
  have h2' : (Op.bytesLess f.nm.toList ah.toList || f.nm.toList == ah.toList) = false := h2
  rw [h4] at HC
  clear h1 h2 h3
  go_enter Tryz.func14, Tryz.ntmps14
  go_wp2_with (first | (go_at_call 11; refine (HN.out _).mono ?_; rintro e w' ⟨rfl, rfl⟩) | (go_at_call 13; refine (HW.out _).mono ?_; rintro e w' ⟨rfl, rfl⟩) | ((with_reducible refine ld_row ?_ ?_ HTY.out ?_); rfl; rfl))
  refine HC.out.mono ?_
  rintro e w2 ⟨rfl, hb2⟩
  obtain ⟨-, -, e20, -, d21⟩ := HFB.out w2 hb2
  have H2 : Hid (Below w.heap.size w w2) := below_to HB.out hb2
  rw [h5] at e20
  have HO := HOK.out w2 hb2 h6
  have HO : Hid _ := HO
  have HD : Hid ((loadVar 38 ⟨w.heap.size, 21, none⟩).run Tryz.prog w2 = .ok (.agg ct) w2) := d21
  clear hb2 d21 HOE HOK h6
  go_wp2_with ((with_reducible refine ld_row ?_ ?_ HD.out ?_); rfl; rfl)
  refine (show Calls _ _ _ _ _ from HO.out).mono ?_
  rintro e w3 ⟨v, rfl, hb3, -⟩
  have H3 : Hid (Below w.heap.size w w3) := below_to H2.out hb3
  clear hb3
  go_wp2_with fail
  go_ret
  exact ⟨ret_int HX.out.symm, H3.out⟩
theorem fld_any (h : f.At w B cy ct) (hB : Sub B w) : Calls Tryz.prog 14 #[.agg (fcs f cy ct), .string ah] w fun e w' => e = .returned (.int .i64 (Sp.fR f ah)) ∧ Below w.heap.size w w' := by
  cases h1 : Sp.isNm f.nm with
  | false => exact fld_a f cy ct ah B w h hB h1
  | true =>
    cases h2 : Sp.leS f.nm ah with
    | true => exact fld_b f cy ct ah B w h hB h1 h2
    | false =>
      cases h3 : Sp.nmN f.was with
      | false => exact fld_c f cy ct ah B w h hB h1 h2 h3
      | true =>
        cases h4 : f.ty.can with
        | false => exact fld_d f cy ct ah B w h hB h1 h2 h3 h4
        | true =>
          cases h5 : f.has with
          | false => exact fld_e f cy ct ah B w h hB h1 h2 h3 h4 h5
          | true =>
            by_cases h6 : f.df.all.e = 0
            · exact fld_g f cy ct ah B w h hB h1 h2 h3 h4 h5 h6
            · exact fld_f f cy ct ah B w h hB h1 h2 h3 h4 h5 h6
end
end Go.Proofs.YtbjcabpmndhfmaaGreat

/- classes.Rule: what is wrong with a class. -/
namespace Go.Proofs.YtbjcabpmndhfmaaGreat
open Go.RowKit

section
variable (nm pn : ByteArray) (vr pv : Int) (ab : Bool) (fs : List Fo) (af : Option Addr) (cf : Nat) (B : Nat → Prop) (w : World)
set_option maxRecDepth 100000 in
set_option maxHeartbeats 4000000 in
theorem rul_a (h : (Cl.mk nm vr pn pv ab fs).At w B af) (h1 : Sp.isNm nm = false) : Calls Tryz.prog 6 #[.agg #[.string nm, .int .i64 vr, .string pn, .int .i64 pv, .bool ab, .slice af fs.length cf]] w fun e w' => e = .returned (.int .i64 (Sp.clR ⟨nm, vr, pn, pv, ab, fs⟩)) ∧ Below w.heap.size w w' := by
  have HX : Hid (Sp.clR ⟨nm, vr, pn, pv, ab, fs⟩ = 8) := by
    have e : Sp.hdR ⟨nm, vr, pn, pv, ab, fs⟩ = 8 := by unfold Sp.hdR; rw [if_pos h1]
    show _ = _; unfold Sp.clR; rw [if_pos (by rw [e]; decide), e]
  have HB : Hid (Below w.heap.size w (w.alloc (.cells #[.string nm, .int .i64 vr, .string pn, .int .i64 pv, .bool ab, .slice af fs.length cf] 24))) := (Below.refl _ _).alloc (Nat.le_refl _) _
  have HN : Hid (∀ W, Calls Tryz.prog 11 #[.string nm] W fun e w' => e = .returned (.bool (Sp.isNm nm)) ∧ W = w') := fun W => isName_any nm W (by have : nm.size ≤ 140737488355328 := h.nm; unfold maxLen; omega)
  have HV : Hid (∀ n W, Calls Tryz.prog 12 #[.int .i64 n] W fun e w' => e = .returned (.bool (Sp.vOk n)) ∧ W = w') := fun n W => isVersion_any n W
  have HK : Hid (∀ W, Calls Tryz.prog 13 #[.string pn] W fun e w' => e = .returned (.bool (Sp.nmN pn)) ∧ W = w') := fun W => nameOrNone_any pn W h.pn
  have hvr : -9223372036854775808 ≤ vr ∧ vr ≤ 9223372036854775807 := h.vr
  have hpv : -9223372036854775808 ≤ pv ∧ pv ≤ 9223372036854775807 := h.pv
  have hlen : fs.length ≤ 70368744177664 := h.len
  have HFS : Hid (FosAt w B af fs) := h.fs
  rw [h1] at HN
  clear HV HK
  clear h HFS
  go_enter Tryz.func6, Tryz.ntmps6
  go_wp2_with (first | (go_at_call 11; refine (HN.out _).mono ?_; rintro e w' ⟨rfl, rfl⟩))
  go_ret
  exact ⟨ret_int HX.out.symm, HB.out⟩
set_option maxRecDepth 100000 in
set_option maxHeartbeats 4000000 in
theorem rul_b (h : (Cl.mk nm vr pn pv ab fs).At w B af) (h1 : Sp.isNm nm = true) (h2 : Sp.vOk vr = false) : Calls Tryz.prog 6 #[.agg #[.string nm, .int .i64 vr, .string pn, .int .i64 pv, .bool ab, .slice af fs.length cf]] w fun e w' => e = .returned (.int .i64 (Sp.clR ⟨nm, vr, pn, pv, ab, fs⟩)) ∧ Below w.heap.size w w' := by
  have HX : Hid (Sp.clR ⟨nm, vr, pn, pv, ab, fs⟩ = 1) := by
    have e : Sp.hdR ⟨nm, vr, pn, pv, ab, fs⟩ = 1 := by unfold Sp.hdR; rw [if_neg (by rw [h1]; decide), if_pos h2]
    show _ = _; unfold Sp.clR; rw [if_pos (by rw [e]; decide), e]
  have HB : Hid (Below w.heap.size w (w.alloc (.cells #[.string nm, .int .i64 vr, .string pn, .int .i64 pv, .bool ab, .slice af fs.length cf] 24))) := (Below.refl _ _).alloc (Nat.le_refl _) _
  have HN : Hid (∀ W, Calls Tryz.prog 11 #[.string nm] W fun e w' => e = .returned (.bool (Sp.isNm nm)) ∧ W = w') := fun W => isName_any nm W (by have : nm.size ≤ 140737488355328 := h.nm; unfold maxLen; omega)
  have HV : Hid (∀ n W, Calls Tryz.prog 12 #[.int .i64 n] W fun e w' => e = .returned (.bool (Sp.vOk n)) ∧ W = w') := fun n W => isVersion_any n W
  have HK : Hid (∀ W, Calls Tryz.prog 13 #[.string pn] W fun e w' => e = .returned (.bool (Sp.nmN pn)) ∧ W = w') := fun W => nameOrNone_any pn W h.pn
  have hvr : -9223372036854775808 ≤ vr ∧ vr ≤ 9223372036854775807 := h.vr
  have hpv : -9223372036854775808 ≤ pv ∧ pv ≤ 9223372036854775807 := h.pv
  have hlen : fs.length ≤ 70368744177664 := h.len
  have HFS : Hid (FosAt w B af fs) := h.fs
  rw [h1] at HN
  have HV1 : Hid (∀ W, Calls Tryz.prog 12 #[.int .i64 vr] W fun e w' => e = .returned (.bool false) ∧ W = w') := fun W => by
    have := HV.out vr W
    rw [h2] at this; exact this
  clear HV HK
  clear h HFS
  go_enter Tryz.func6, Tryz.ntmps6
  go_wp2_with (first | (go_at_call 11; refine (HN.out _).mono ?_; rintro e w' ⟨rfl, rfl⟩) | (go_at_call 12; first | (refine (HV1.out _).mono ?_; rintro e w' ⟨rfl, rfl⟩)))
  go_ret
  exact ⟨ret_int HX.out.symm, HB.out⟩
set_option maxRecDepth 100000 in
set_option maxHeartbeats 4000000 in
theorem rul_c (h : (Cl.mk nm vr pn pv ab fs).At w B af) (h1 : Sp.isNm nm = true) (h2 : Sp.vOk vr = true) (h3 : Sp.nmN pn = false) : Calls Tryz.prog 6 #[.agg #[.string nm, .int .i64 vr, .string pn, .int .i64 pv, .bool ab, .slice af fs.length cf]] w fun e w' => e = .returned (.int .i64 (Sp.clR ⟨nm, vr, pn, pv, ab, fs⟩)) ∧ Below w.heap.size w w' := by
  have HX : Hid (Sp.clR ⟨nm, vr, pn, pv, ab, fs⟩ = 8) := by
    have e : Sp.hdR ⟨nm, vr, pn, pv, ab, fs⟩ = 8 := by unfold Sp.hdR; rw [if_neg (by rw [h1]; decide), if_neg (by rw [h2]; decide), if_pos h3]
    show _ = _; unfold Sp.clR; rw [if_pos (by rw [e]; decide), e]
  have HB : Hid (Below w.heap.size w (w.alloc (.cells #[.string nm, .int .i64 vr, .string pn, .int .i64 pv, .bool ab, .slice af fs.length cf] 24))) := (Below.refl _ _).alloc (Nat.le_refl _) _
  have HN : Hid (∀ W, Calls Tryz.prog 11 #[.string nm] W fun e w' => e = .returned (.bool (Sp.isNm nm)) ∧ W = w') := fun W => isName_any nm W (by have : nm.size ≤ 140737488355328 := h.nm; unfold maxLen; omega)
  have HV : Hid (∀ n W, Calls Tryz.prog 12 #[.int .i64 n] W fun e w' => e = .returned (.bool (Sp.vOk n)) ∧ W = w') := fun n W => isVersion_any n W
  have HK : Hid (∀ W, Calls Tryz.prog 13 #[.string pn] W fun e w' => e = .returned (.bool (Sp.nmN pn)) ∧ W = w') := fun W => nameOrNone_any pn W h.pn
  have hvr : -9223372036854775808 ≤ vr ∧ vr ≤ 9223372036854775807 := h.vr
  have hpv : -9223372036854775808 ≤ pv ∧ pv ≤ 9223372036854775807 := h.pv
  have hlen : fs.length ≤ 70368744177664 := h.len
  have HFS : Hid (FosAt w B af fs) := h.fs
  rw [h1] at HN
  have HV1 : Hid (∀ W, Calls Tryz.prog 12 #[.int .i64 vr] W fun e w' => e = .returned (.bool true) ∧ W = w') := fun W => by
    have := HV.out vr W
    rw [h2] at this; exact this
  rw [h3] at HK
  clear HV
  clear h HFS
  go_enter Tryz.func6, Tryz.ntmps6
  go_wp2_with (first | (go_at_call 11; refine (HN.out _).mono ?_; rintro e w' ⟨rfl, rfl⟩) | (go_at_call 12; first | (refine (HV1.out _).mono ?_; rintro e w' ⟨rfl, rfl⟩)) | (go_at_call 13; refine (HK.out _).mono ?_; rintro e w' ⟨rfl, rfl⟩))
  go_ret
  exact ⟨ret_int HX.out.symm, HB.out⟩
set_option maxRecDepth 100000 in
set_option maxHeartbeats 4000000 in
theorem rul_d (h : (Cl.mk nm vr pn pv ab fs).At w B af) (h1 : Sp.isNm nm = true) (h2 : Sp.vOk vr = true) (h3 : Sp.nmN pn = true) (h4 : pn.size = 0) (h5 : pv ≠ 0) : Calls Tryz.prog 6 #[.agg #[.string nm, .int .i64 vr, .string pn, .int .i64 pv, .bool ab, .slice af fs.length cf]] w fun e w' => e = .returned (.int .i64 (Sp.clR ⟨nm, vr, pn, pv, ab, fs⟩)) ∧ Below w.heap.size w w' := by
  have HX : Hid (Sp.clR ⟨nm, vr, pn, pv, ab, fs⟩ = 1) := by
    have e : Sp.hdR ⟨nm, vr, pn, pv, ab, fs⟩ = 1 := by unfold Sp.hdR; rw [if_neg (by rw [h1]; decide), if_neg (by rw [h2]; decide), if_neg (by rw [h3]; decide), if_pos (.inl ⟨h4, h5⟩)]
    show _ = _; unfold Sp.clR; rw [if_pos (by rw [e]; decide), e]
  have HB : Hid (Below w.heap.size w (w.alloc (.cells #[.string nm, .int .i64 vr, .string pn, .int .i64 pv, .bool ab, .slice af fs.length cf] 24))) := (Below.refl _ _).alloc (Nat.le_refl _) _
  have HN : Hid (∀ W, Calls Tryz.prog 11 #[.string nm] W fun e w' => e = .returned (.bool (Sp.isNm nm)) ∧ W = w') := fun W => isName_any nm W (by have : nm.size ≤ 140737488355328 := h.nm; unfold maxLen; omega)
  have HV : Hid (∀ n W, Calls Tryz.prog 12 #[.int .i64 n] W fun e w' => e = .returned (.bool (Sp.vOk n)) ∧ W = w') := fun n W => isVersion_any n W
  have HK : Hid (∀ W, Calls Tryz.prog 13 #[.string pn] W fun e w' => e = .returned (.bool (Sp.nmN pn)) ∧ W = w') := fun W => nameOrNone_any pn W h.pn
  have hvr : -9223372036854775808 ≤ vr ∧ vr ≤ 9223372036854775807 := h.vr
  have hpv : -9223372036854775808 ≤ pv ∧ pv ≤ 9223372036854775807 := h.pv
  have hlen : fs.length ≤ 70368744177664 := h.len
  have HFS : Hid (FosAt w B af fs) := h.fs
  rw [h1] at HN
  have HV1 : Hid (∀ W, Calls Tryz.prog 12 #[.int .i64 vr] W fun e w' => e = .returned (.bool true) ∧ W = w') := fun W => by
    have := HV.out vr W
    rw [h2] at this; exact this
  rw [h3] at HK
  have h5' : (pv == 0) = false := by simp [h5]
  have h5'' : (pv != 0) = true := by simp [h5]
  clear HV h5
  have hpe := ba_none h4
  subst hpe
  clear h HFS
  go_enter Tryz.func6, Tryz.ntmps6
  go_wp2_with (first | (go_at_call 11; refine (HN.out _).mono ?_; rintro e w' ⟨rfl, rfl⟩) | (go_at_call 12; first | (refine (HV1.out _).mono ?_; rintro e w' ⟨rfl, rfl⟩)) | (go_at_call 13; refine (HK.out _).mono ?_; rintro e w' ⟨rfl, rfl⟩))
  go_ret
  exact ⟨ret_int HX.out.symm, HB.out⟩
set_option maxRecDepth 100000 in
set_option maxHeartbeats 4000000 in
theorem rul_e (h : (Cl.mk nm vr pn pv ab fs).At w B af) (h1 : Sp.isNm nm = true) (h2 : Sp.vOk vr = true) (h3 : Sp.nmN pn = true) (h4 : pn.size ≠ 0) (h5 : Sp.vOk pv = false) : Calls Tryz.prog 6 #[.agg #[.string nm, .int .i64 vr, .string pn, .int .i64 pv, .bool ab, .slice af fs.length cf]] w fun e w' => e = .returned (.int .i64 (Sp.clR ⟨nm, vr, pn, pv, ab, fs⟩)) ∧ Below w.heap.size w w' := by
  have HX : Hid (Sp.clR ⟨nm, vr, pn, pv, ab, fs⟩ = 1) := by
    have e : Sp.hdR ⟨nm, vr, pn, pv, ab, fs⟩ = 1 := by unfold Sp.hdR; rw [if_neg (by rw [h1]; decide), if_neg (by rw [h2]; decide), if_neg (by rw [h3]; decide), if_pos (.inr ⟨h4, h5⟩)]
    show _ = _; unfold Sp.clR; rw [if_pos (by rw [e]; decide), e]
  have HB : Hid (Below w.heap.size w (w.alloc (.cells #[.string nm, .int .i64 vr, .string pn, .int .i64 pv, .bool ab, .slice af fs.length cf] 24))) := (Below.refl _ _).alloc (Nat.le_refl _) _
  have HN : Hid (∀ W, Calls Tryz.prog 11 #[.string nm] W fun e w' => e = .returned (.bool (Sp.isNm nm)) ∧ W = w') := fun W => isName_any nm W (by have : nm.size ≤ 140737488355328 := h.nm; unfold maxLen; omega)
  have HV : Hid (∀ n W, Calls Tryz.prog 12 #[.int .i64 n] W fun e w' => e = .returned (.bool (Sp.vOk n)) ∧ W = w') := fun n W => isVersion_any n W
  have HK : Hid (∀ W, Calls Tryz.prog 13 #[.string pn] W fun e w' => e = .returned (.bool (Sp.nmN pn)) ∧ W = w') := fun W => nameOrNone_any pn W h.pn
  have hvr : -9223372036854775808 ≤ vr ∧ vr ≤ 9223372036854775807 := h.vr
  have hpv : -9223372036854775808 ≤ pv ∧ pv ≤ 9223372036854775807 := h.pv
  have hlen : fs.length ≤ 70368744177664 := h.len
  have HFS : Hid (FosAt w B af fs) := h.fs
  rw [h1] at HN
  have HV1 : Hid (∀ W, Calls Tryz.prog 12 #[.int .i64 vr] W fun e w' => e = .returned (.bool true) ∧ W = w') := fun W => by
    have := HV.out vr W
    rw [h2] at this; exact this
  have HV2 : Hid (∀ W, Calls Tryz.prog 12 #[.int .i64 pv] W fun e w' => e = .returned (.bool false) ∧ W = w') := fun W => by
    have := HV.out pv W
    rw [h5] at this; exact this
  rw [h3] at HK
  have hpe := ba_ne h4
  clear HV
  clear h HFS
  go_enter Tryz.func6, Tryz.ntmps6
  go_wp2_with (first | (go_at_call 11; refine (HN.out _).mono ?_; rintro e w' ⟨rfl, rfl⟩) | (go_at_call 12; first | (refine (HV1.out _).mono ?_; rintro e w' ⟨rfl, rfl⟩) | (refine (HV2.out _).mono ?_; rintro e w' ⟨rfl, rfl⟩)) | (go_at_call 13; refine (HK.out _).mono ?_; rintro e w' ⟨rfl, rfl⟩))
  go_ret
  exact ⟨ret_int HX.out.symm, HB.out⟩
set_option maxRecDepth 100000 in
set_option maxHeartbeats 4000000 in
theorem rul_f1 (h : (Cl.mk nm vr pn pv ab fs).At w B af) (h1 : Sp.isNm nm = true) (h2 : Sp.vOk vr = true) (h3 : Sp.nmN pn = true) (h4 : pn.size = 0) (h5 : pv = 0) (h6 : 4096 < fs.length) : Calls Tryz.prog 6 #[.agg #[.string nm, .int .i64 vr, .string pn, .int .i64 pv, .bool ab, .slice af fs.length cf]] w fun e w' => e = .returned (.int .i64 (Sp.clR ⟨nm, vr, pn, pv, ab, fs⟩)) ∧ Below w.heap.size w w' := by
  have HX : Hid (Sp.clR ⟨nm, vr, pn, pv, ab, fs⟩ = 2) := by
    have e : Sp.hdR ⟨nm, vr, pn, pv, ab, fs⟩ = 2 := by unfold Sp.hdR; rw [if_neg (by rw [h1]; decide), if_neg (by rw [h2]; decide), if_neg (by rw [h3]; decide), if_neg (by simp [h4, h5]), if_pos h6]
    show _ = _; unfold Sp.clR; rw [if_pos (by rw [e]; decide), e]
  have HB : Hid (Below w.heap.size w (w.alloc (.cells #[.string nm, .int .i64 vr, .string pn, .int .i64 pv, .bool ab, .slice af fs.length cf] 24))) := (Below.refl _ _).alloc (Nat.le_refl _) _
  have HN : Hid (∀ W, Calls Tryz.prog 11 #[.string nm] W fun e w' => e = .returned (.bool (Sp.isNm nm)) ∧ W = w') := fun W => isName_any nm W (by have : nm.size ≤ 140737488355328 := h.nm; unfold maxLen; omega)
  have HV : Hid (∀ n W, Calls Tryz.prog 12 #[.int .i64 n] W fun e w' => e = .returned (.bool (Sp.vOk n)) ∧ W = w') := fun n W => isVersion_any n W
  have HK : Hid (∀ W, Calls Tryz.prog 13 #[.string pn] W fun e w' => e = .returned (.bool (Sp.nmN pn)) ∧ W = w') := fun W => nameOrNone_any pn W h.pn
  have hvr : -9223372036854775808 ≤ vr ∧ vr ≤ 9223372036854775807 := h.vr
  have hpv : -9223372036854775808 ≤ pv ∧ pv ≤ 9223372036854775807 := h.pv
  have hlen : fs.length ≤ 70368744177664 := h.len
  have HFS : Hid (FosAt w B af fs) := h.fs
  rw [h1] at HN
  have HV1 : Hid (∀ W, Calls Tryz.prog 12 #[.int .i64 vr] W fun e w' => e = .returned (.bool true) ∧ W = w') := fun W => by
    have := HV.out vr W
    rw [h2] at this; exact this
  rw [h3] at HK
  have h6' : (4096 : Int) < (fs.length : Int) := by omega
  clear HV h6
  subst h5
  have hpe := ba_none h4
  subst hpe
  clear h HFS
  go_enter Tryz.func6, Tryz.ntmps6
  go_wp2_with (first | (go_at_call 11; refine (HN.out _).mono ?_; rintro e w' ⟨rfl, rfl⟩) | (go_at_call 12; first | (refine (HV1.out _).mono ?_; rintro e w' ⟨rfl, rfl⟩)) | (go_at_call 13; refine (HK.out _).mono ?_; rintro e w' ⟨rfl, rfl⟩))
  go_ret
  exact ⟨ret_int HX.out.symm, HB.out⟩
set_option maxRecDepth 100000 in
set_option maxHeartbeats 4000000 in
theorem rul_f2 (h : (Cl.mk nm vr pn pv ab fs).At w B af) (h1 : Sp.isNm nm = true) (h2 : Sp.vOk vr = true) (h3 : Sp.nmN pn = true) (h4 : pn.size ≠ 0) (h5 : Sp.vOk pv = true) (h6 : 4096 < fs.length) : Calls Tryz.prog 6 #[.agg #[.string nm, .int .i64 vr, .string pn, .int .i64 pv, .bool ab, .slice af fs.length cf]] w fun e w' => e = .returned (.int .i64 (Sp.clR ⟨nm, vr, pn, pv, ab, fs⟩)) ∧ Below w.heap.size w w' := by
  have HX : Hid (Sp.clR ⟨nm, vr, pn, pv, ab, fs⟩ = 2) := by
    have e : Sp.hdR ⟨nm, vr, pn, pv, ab, fs⟩ = 2 := by unfold Sp.hdR; rw [if_neg (by rw [h1]; decide), if_neg (by rw [h2]; decide), if_neg (by rw [h3]; decide), if_neg (by simp [h4, h5]), if_pos h6]
    show _ = _; unfold Sp.clR; rw [if_pos (by rw [e]; decide), e]
  have HB : Hid (Below w.heap.size w (w.alloc (.cells #[.string nm, .int .i64 vr, .string pn, .int .i64 pv, .bool ab, .slice af fs.length cf] 24))) := (Below.refl _ _).alloc (Nat.le_refl _) _
  have HN : Hid (∀ W, Calls Tryz.prog 11 #[.string nm] W fun e w' => e = .returned (.bool (Sp.isNm nm)) ∧ W = w') := fun W => isName_any nm W (by have : nm.size ≤ 140737488355328 := h.nm; unfold maxLen; omega)
  have HV : Hid (∀ n W, Calls Tryz.prog 12 #[.int .i64 n] W fun e w' => e = .returned (.bool (Sp.vOk n)) ∧ W = w') := fun n W => isVersion_any n W
  have HK : Hid (∀ W, Calls Tryz.prog 13 #[.string pn] W fun e w' => e = .returned (.bool (Sp.nmN pn)) ∧ W = w') := fun W => nameOrNone_any pn W h.pn
  have hvr : -9223372036854775808 ≤ vr ∧ vr ≤ 9223372036854775807 := h.vr
  have hpv : -9223372036854775808 ≤ pv ∧ pv ≤ 9223372036854775807 := h.pv
  have hlen : fs.length ≤ 70368744177664 := h.len
  have HFS : Hid (FosAt w B af fs) := h.fs
  rw [h1] at HN
  have HV1 : Hid (∀ W, Calls Tryz.prog 12 #[.int .i64 vr] W fun e w' => e = .returned (.bool true) ∧ W = w') := fun W => by
    have := HV.out vr W
    rw [h2] at this; exact this
  have HV2 : Hid (∀ W, Calls Tryz.prog 12 #[.int .i64 pv] W fun e w' => e = .returned (.bool true) ∧ W = w') := fun W => by
    have := HV.out pv W
    rw [h5] at this; exact this
  rw [h3] at HK
  have hpe := ba_ne h4
  have h6' : (4096 : Int) < (fs.length : Int) := by omega
  clear HV h6
  clear h HFS
  go_enter Tryz.func6, Tryz.ntmps6
  go_wp2_with (first | (go_at_call 11; refine (HN.out _).mono ?_; rintro e w' ⟨rfl, rfl⟩) | (go_at_call 12; first | (refine (HV1.out _).mono ?_; rintro e w' ⟨rfl, rfl⟩) | (refine (HV2.out _).mono ?_; rintro e w' ⟨rfl, rfl⟩)) | (go_at_call 13; refine (HK.out _).mono ?_; rintro e w' ⟨rfl, rfl⟩))
  go_ret
  exact ⟨ret_int HX.out.symm, HB.out⟩
set_option maxRecDepth 100000 in
set_option maxHeartbeats 4000000 in
theorem rul_g1 (h : (Cl.mk nm vr pn pv ab fs).At w B af) (hB : Sub B w) (h1 : Sp.isNm nm = true) (h2 : Sp.vOk vr = true) (h3 : Sp.nmN pn = true) (h4 : pn.size = 0) (h5 : pv = 0) (h6 : ¬ 4096 < fs.length) : Calls Tryz.prog 6 #[.agg #[.string nm, .int .i64 vr, .string pn, .int .i64 pv, .bool ab, .slice af fs.length cf]] w fun e w' => e = .returned (.int .i64 (Sp.clR ⟨nm, vr, pn, pv, ab, fs⟩)) ∧ Below w.heap.size w w' := by
  have hpe := ba_none h4
  subst hpe
  subst h5
  have h4 : ({ data := #[] } : ByteArray).size = 0 := rfl
  have h5 : (0 : Int) = 0 := rfl
  have HX : Hid (Sp.clR ⟨nm, vr, { data := #[] }, 0, ab, fs⟩ = Sp.fsR ByteArray.empty fs) := by
    have e : Sp.hdR ⟨nm, vr, { data := #[] }, 0, ab, fs⟩ = 0 := by unfold Sp.hdR; rw [if_neg (by rw [h1]; decide), if_neg (by rw [h2]; decide), if_neg (by rw [h3]; decide), if_neg (by simp [h4]), if_neg h6]
    show _ = _; unfold Sp.clR; rw [if_neg (by rw [e]; decide)]
  have HB : Hid (Below w.heap.size w (w.alloc (.cells #[.string nm, .int .i64 vr, .string { data := #[] }, .int .i64 0, .bool ab, .slice af fs.length cf] 24))) := (Below.refl _ _).alloc (Nat.le_refl _) _
  have HN : Hid (∀ W, Calls Tryz.prog 11 #[.string nm] W fun e w' => e = .returned (.bool (Sp.isNm nm)) ∧ W = w') := fun W => isName_any nm W (by have : nm.size ≤ 140737488355328 := h.nm; unfold maxLen; omega)
  have HV : Hid (∀ n W, Calls Tryz.prog 12 #[.int .i64 n] W fun e w' => e = .returned (.bool (Sp.vOk n)) ∧ W = w') := fun n W => isVersion_any n W
  have HK : Hid (∀ W, Calls Tryz.prog 13 #[.string { data := #[] }] W fun e w' => e = .returned (.bool (Sp.nmN { data := #[] })) ∧ W = w') := fun W => nameOrNone_any { data := #[] } W h.pn
  have hvr : -9223372036854775808 ≤ vr ∧ vr ≤ 9223372036854775807 := h.vr
  have hpv : -9223372036854775808 ≤ (0 : Int) ∧ (0 : Int) ≤ 9223372036854775807 := h.pv
  have hlen : fs.length ≤ 70368744177664 := h.len
  have HFS : Hid (FosAt w B af fs) := h.fs
  rw [h1] at HN
  have HV1 : Hid (∀ W, Calls Tryz.prog 12 #[.int .i64 vr] W fun e w' => e = .returned (.bool true) ∧ W = w') := fun W => by
    have := HV.out vr W
    rw [h2] at this; exact this
  rw [h3] at HK
  have h6' : ¬ (4096 : Int) < (fs.length : Int) := by omega
  have HW : Hid (∀ W, Below (w.alloc (.cells #[.string nm, .int .i64 vr, .string { data := #[] }, .int .i64 0, .bool ab, .slice af fs.length cf] 24)).heap.size (w.alloc (.cells #[.string nm, .int .i64 vr, .string { data := #[] }, .int .i64 0, .bool ab, .slice af fs.length cf] 24)) W → Below w.heap.size w W) := fun W hW => below_to HB.out hW
  have HAT : Hid (∀ (W : World) (f : Fo) (g o : Nat) (cy ct : Array Value), Below (w.alloc (.cells #[.string nm, .int .i64 vr, .string { data := #[] }, .int .i64 0, .bool ab, .slice af fs.length cf] 24)).heap.size (w.alloc (.cells #[.string nm, .int .i64 vr, .string { data := #[] }, .int .i64 0, .bool ab, .slice af fs.length cf] 24)) W → g < w.heap.size → (∀ x, x < 32 → w.cell? ⟨g, o + x, none⟩ = (fcs f cy ct)[x]?) → f.At w B cy ct → (loadVar 45 ⟨g, o, none⟩).run Tryz.prog W = .ok (.agg (fcs f cy ct)) W ∧ f.At W B cy ct ∧ Sub B W) := fun W f g o cy ct hW hg hc ha => by
    have hb := HW.out W hW
    refine ⟨fldE (fcs_size (Ty.In_cells ha.ty).1 (Tm.In_one ha.df).1) (fun x hx => by rw [hb.cell (p := ⟨g, o + x, none⟩) hg]; exact hc x hx), ha.same (hB.same hb) (fun _ h => h), hB.later hb⟩
  have HBB : Hid (Sub B w) := hB
  obtain ⟨P, hP⟩ : ∃ P, fs.length = P := ⟨_, rfl⟩
  have HP : Hid (fs.length = P) := hP
  rw [hP] at hlen h6'
  clear h hB
  rw [hP] at HB HW HAT ⊢
  clear hP
  go_enter Tryz.func6, Tryz.ntmps6
  go_wp2_with (first | (go_at_call 11; refine (HN.out _).mono ?_; rintro e w' ⟨rfl, rfl⟩) | (go_at_call 12; first | (refine (HV1.out _).mono ?_; rintro e w' ⟨rfl, rfl⟩)) | (go_at_call 13; refine (HK.out _).mono ?_; rintro e w' ⟨rfl, rfl⟩))
  go_loopw [3, 48] (fun x y wr => ∃ (ah : ByteArray) (j : Nat) (l : List Fo), x = .string ah ∧ y = .int .i64 j ∧ l.length + j = P ∧ Hid (Below (w.alloc (.cells #[.string nm, .int .i64 vr, .string { data := #[] }, .int .i64 0, .bool ab, .slice af P cf] 24)).heap.size (w.alloc (.cells #[.string nm, .int .i64 vr, .string { data := #[] }, .int .i64 0, .bool ab, .slice af P cf] 24)) wr ∧ (∀ i, fs[j + i]? = l[i]?) ∧ Sp.fsR ByteArray.empty fs = Sp.fsR ah l)) (fun _ y _ => P - (intOf y).toNat)
  case atStart => exact ⟨_, 0, fs, rfl, rfl, HP.out, ⟨Below.refl _ _, fun i => by simp, rfl⟩⟩
  case round =>
    obtain ⟨ah, j, l, rfl, rfl, hlj, HI⟩ := hrel
    cases l with
    | nil =>
      have hj' : P ≤ j := by simp at hlj; omega
      have HR : Hid (Sp.clR ⟨nm, vr, { data := #[] }, 0, ab, fs⟩ = 0 ∧ Below w.heap.size w wr) := ⟨by rw [HX.out, HI.out.2.2]; rfl, HW.out wr HI.out.1⟩
      clear hlj HI
      go_wp2_with fail
      go_ret
      exact ⟨ret_int HR.out.1.symm, HR.out.2⟩
    | cons f l =>
      have hi1 : (j : Int) < (P : Int) := by simp at hlj; omega
      have hi0 : (0 : Int) ≤ (j : Int) := Int.natCast_nonneg _
      have ef : fs[j]? = some f := by have := HI.out.2.1 0; simpa using this
      obtain ⟨g, o, cy, ct, rfl, hg, hc, ha⟩ := HFS.out j f ef
      have hg' : g < w.heap.size := HBB.out g hg
      obtain ⟨q1, q2, q3⟩ := HAT.out wr f g (o + j * 32) cy ct HI.out.1 hg' hc ha
      have HLD : Hid ((loadVar 45 ⟨g, o + j * 32, none⟩).run Tryz.prog wr = .ok (.agg (fcs f cy ct)) wr) := q1
      have hy := Ty.In_cells ha.ty
      have ht := Tm.In_one ha.df
      have hbx : Below wr.heap.size wr (wr.alloc (.cells (fcs f cy ct) 45)) := (Below.refl _ _).alloc (Nat.le_refl _) _
      have HSS : Hid (∀ c : Array Value, c.size = 32 → (storeVar 45 ⟨wr.heap.size, 0, none⟩ (.agg (fcs f cy ct))).run Tryz.prog (wr.alloc (.cells c 45)) = .ok () (wr.alloc (.cells (fcs f cy ct) 45))) := fun c hc => fst hc (fcs_size hy.1 ht.1) (fcs_one hy.2 ht.2)
      have HLL : Hid ((loadVar 45 ⟨wr.heap.size, 0, none⟩).run Tryz.prog (wr.alloc (.cells (fcs f cy ct) 45)) = .ok (.agg (fcs f cy ct)) (wr.alloc (.cells (fcs f cy ct) 45))) := fld (fcs_size hy.1 ht.1) (heap_alloc_new wr _)
      have HFR : Hid (Calls Tryz.prog 14 #[.agg (fcs f cy ct), .string ah] (wr.alloc (.cells (fcs f cy ct) 45)) fun e w' => e = .returned (.int .i64 (Sp.fR f ah)) ∧ Below (wr.alloc (.cells (fcs f cy ct) 45)).heap.size (wr.alloc (.cells (fcs f cy ct) 45)) w') := fld_any f cy ct ah B _ (q2.same (q3.same hbx) (fun _ h => h)) (q3.later hbx)
      have HC0 : Hid (∀ W, Below (wr.alloc (.cells (fcs f cy ct) 45)).heap.size (wr.alloc (.cells (fcs f cy ct) 45)) W → W.cell? ⟨wr.heap.size, 0, none⟩ = some (.string f.nm) ∧ Below (w.alloc (.cells #[.string nm, .int .i64 vr, .string { data := #[] }, .int .i64 0, .bool ab, .slice (some ⟨g, o, none⟩) P cf] 24)).heap.size (w.alloc (.cells #[.string nm, .int .i64 vr, .string { data := #[] }, .int .i64 0, .bool ab, .slice (some ⟨g, o, none⟩) P cf] 24)) W) := fun W hW =>
        ⟨(FB.of ((hW.block wr.heap.size (by simp)).trans (heap_alloc_new wr _)) hy.1 ht.1).c0, below_to (below_to HI.out.1 hbx) hW⟩
      have HJ : Hid (l.length + (j + 1) = P ∧ (∀ i, fs[j + 1 + i]? = l[i]?)) := ⟨by simp at hlj; omega, fun i => by rw [show j + 1 + i = j + (i + 1) by omega, HI.out.2.1 (i + 1)]; simp⟩
      have HF : Hid (Sp.clR ⟨nm, vr, { data := #[] }, 0, ab, fs⟩ = if Sp.fR f ah ≠ 0 then Sp.fR f ah else Sp.fsR f.nm l) := by show _ = _; rw [HX.out, HI.out.2.2]; rfl
      have HF2 : Hid (Sp.fsR ByteArray.empty fs = if Sp.fR f ah ≠ 0 then Sp.fR f ah else Sp.fsR f.nm l) := by show _ = _; rw [HI.out.2.2]; rfl
      clear hlj HI ef hg hg' hc ha q1 q2 q3 hy ht hbx
      generalize Sp.fR f ah = x at *
      go_wp2_with (first | ((with_reducible refine ld_row ?_ ?_ HLD.out ?_); rfl; rfl) | ((with_reducible refine st_row ?_ ?_ ?_ (HSS.out _ ?_) ?_); rfl; rfl; rfl; rfl) | ((with_reducible refine ld_row ?_ ?_ HLL.out ?_); rfl; rfl))
      refine HFR.out.mono ?_
      rintro e w4 ⟨rfl, hb4⟩
      obtain ⟨z0, zb⟩ := HC0.out w4 hb4
      have H4 : Hid (Below (w.alloc (.cells #[.string nm, .int .i64 vr, .string { data := #[] }, .int .i64 0, .bool ab, .slice (some ⟨g, o, none⟩) P cf] 24)).heap.size (w.alloc (.cells #[.string nm, .int .i64 vr, .string { data := #[] }, .int .i64 0, .bool ab, .slice (some ⟨g, o, none⟩) P cf] 24)) w4 ∧ Below w.heap.size w w4) := ⟨zb, HW.out _ zb⟩
      clear hb4 zb
      by_cases hx : x = 0
      · subst hx
        have HR : Hid (Sp.fsR ByteArray.empty fs = Sp.fsR f.nm l) := by show _ = _; rw [HF2.out, if_neg (by decide)]
        clear HF HF2
        go_wp2_with fail
        go_roundw
        case rel => exact ⟨f.nm, j + 1, l, rfl, by go_num, HJ.out.1, ⟨H4.out.1, HJ.out.2, HR.out⟩⟩
        case measure => simp [intOf]; omega
      · have hx' : (x == 0) = false := by simp [hx]
        have HR : Hid (Sp.clR ⟨nm, vr, { data := #[] }, 0, ab, fs⟩ = x) := by show _ = _; rw [HF.out, if_pos hx]
        clear HF HF2 hx
        go_wp2_with fail
        go_ret
        exact ⟨ret_int HR.out.symm, H4.out.2⟩
set_option maxRecDepth 100000 in
set_option maxHeartbeats 4000000 in
theorem rul_g2 (h : (Cl.mk nm vr pn pv ab fs).At w B af) (hB : Sub B w) (h1 : Sp.isNm nm = true) (h2 : Sp.vOk vr = true) (h3 : Sp.nmN pn = true) (h4 : pn.size ≠ 0) (h5 : Sp.vOk pv = true) (h6 : ¬ 4096 < fs.length) : Calls Tryz.prog 6 #[.agg #[.string nm, .int .i64 vr, .string pn, .int .i64 pv, .bool ab, .slice af fs.length cf]] w fun e w' => e = .returned (.int .i64 (Sp.clR ⟨nm, vr, pn, pv, ab, fs⟩)) ∧ Below w.heap.size w w' := by
  have HX : Hid (Sp.clR ⟨nm, vr, pn, pv, ab, fs⟩ = Sp.fsR ByteArray.empty fs) := by
    have e : Sp.hdR ⟨nm, vr, pn, pv, ab, fs⟩ = 0 := by unfold Sp.hdR; rw [if_neg (by rw [h1]; decide), if_neg (by rw [h2]; decide), if_neg (by rw [h3]; decide), if_neg (by simp [h4, h5]), if_neg h6]
    show _ = _; unfold Sp.clR; rw [if_neg (by rw [e]; decide)]
  have HB : Hid (Below w.heap.size w (w.alloc (.cells #[.string nm, .int .i64 vr, .string pn, .int .i64 pv, .bool ab, .slice af fs.length cf] 24))) := (Below.refl _ _).alloc (Nat.le_refl _) _
  have HN : Hid (∀ W, Calls Tryz.prog 11 #[.string nm] W fun e w' => e = .returned (.bool (Sp.isNm nm)) ∧ W = w') := fun W => isName_any nm W (by have : nm.size ≤ 140737488355328 := h.nm; unfold maxLen; omega)
  have HV : Hid (∀ n W, Calls Tryz.prog 12 #[.int .i64 n] W fun e w' => e = .returned (.bool (Sp.vOk n)) ∧ W = w') := fun n W => isVersion_any n W
  have HK : Hid (∀ W, Calls Tryz.prog 13 #[.string pn] W fun e w' => e = .returned (.bool (Sp.nmN pn)) ∧ W = w') := fun W => nameOrNone_any pn W h.pn
  have hvr : -9223372036854775808 ≤ vr ∧ vr ≤ 9223372036854775807 := h.vr
  have hpv : -9223372036854775808 ≤ pv ∧ pv ≤ 9223372036854775807 := h.pv
  have hlen : fs.length ≤ 70368744177664 := h.len
  have HFS : Hid (FosAt w B af fs) := h.fs
  rw [h1] at HN
  have HV1 : Hid (∀ W, Calls Tryz.prog 12 #[.int .i64 vr] W fun e w' => e = .returned (.bool true) ∧ W = w') := fun W => by
    have := HV.out vr W
    rw [h2] at this; exact this
  have HV2 : Hid (∀ W, Calls Tryz.prog 12 #[.int .i64 pv] W fun e w' => e = .returned (.bool true) ∧ W = w') := fun W => by
    have := HV.out pv W
    rw [h5] at this; exact this
  rw [h3] at HK
  have hpe := ba_ne h4
  have h6' : ¬ (4096 : Int) < (fs.length : Int) := by omega
  have HW : Hid (∀ W, Below (w.alloc (.cells #[.string nm, .int .i64 vr, .string pn, .int .i64 pv, .bool ab, .slice af fs.length cf] 24)).heap.size (w.alloc (.cells #[.string nm, .int .i64 vr, .string pn, .int .i64 pv, .bool ab, .slice af fs.length cf] 24)) W → Below w.heap.size w W) := fun W hW => below_to HB.out hW
  have HAT : Hid (∀ (W : World) (f : Fo) (g o : Nat) (cy ct : Array Value), Below (w.alloc (.cells #[.string nm, .int .i64 vr, .string pn, .int .i64 pv, .bool ab, .slice af fs.length cf] 24)).heap.size (w.alloc (.cells #[.string nm, .int .i64 vr, .string pn, .int .i64 pv, .bool ab, .slice af fs.length cf] 24)) W → g < w.heap.size → (∀ x, x < 32 → w.cell? ⟨g, o + x, none⟩ = (fcs f cy ct)[x]?) → f.At w B cy ct → (loadVar 45 ⟨g, o, none⟩).run Tryz.prog W = .ok (.agg (fcs f cy ct)) W ∧ f.At W B cy ct ∧ Sub B W) := fun W f g o cy ct hW hg hc ha => by
    have hb := HW.out W hW
    refine ⟨fldE (fcs_size (Ty.In_cells ha.ty).1 (Tm.In_one ha.df).1) (fun x hx => by rw [hb.cell (p := ⟨g, o + x, none⟩) hg]; exact hc x hx), ha.same (hB.same hb) (fun _ h => h), hB.later hb⟩
  have HBB : Hid (Sub B w) := hB
  obtain ⟨P, hP⟩ : ∃ P, fs.length = P := ⟨_, rfl⟩
  have HP : Hid (fs.length = P) := hP
  rw [hP] at hlen h6'
  clear h hB
  rw [hP] at HB HW HAT ⊢
  clear hP
  go_enter Tryz.func6, Tryz.ntmps6
  go_wp2_with (first | (go_at_call 11; refine (HN.out _).mono ?_; rintro e w' ⟨rfl, rfl⟩) | (go_at_call 12; first | (refine (HV1.out _).mono ?_; rintro e w' ⟨rfl, rfl⟩) | (refine (HV2.out _).mono ?_; rintro e w' ⟨rfl, rfl⟩)) | (go_at_call 13; refine (HK.out _).mono ?_; rintro e w' ⟨rfl, rfl⟩))
  go_loopw [3, 48] (fun x y wr => ∃ (ah : ByteArray) (j : Nat) (l : List Fo), x = .string ah ∧ y = .int .i64 j ∧ l.length + j = P ∧ Hid (Below (w.alloc (.cells #[.string nm, .int .i64 vr, .string pn, .int .i64 pv, .bool ab, .slice af P cf] 24)).heap.size (w.alloc (.cells #[.string nm, .int .i64 vr, .string pn, .int .i64 pv, .bool ab, .slice af P cf] 24)) wr ∧ (∀ i, fs[j + i]? = l[i]?) ∧ Sp.fsR ByteArray.empty fs = Sp.fsR ah l)) (fun _ y _ => P - (intOf y).toNat)
  case atStart => exact ⟨_, 0, fs, rfl, rfl, HP.out, ⟨Below.refl _ _, fun i => by simp, rfl⟩⟩
  case round =>
    obtain ⟨ah, j, l, rfl, rfl, hlj, HI⟩ := hrel
    cases l with
    | nil =>
      have hj' : P ≤ j := by simp at hlj; omega
      have HR : Hid (Sp.clR ⟨nm, vr, pn, pv, ab, fs⟩ = 0 ∧ Below w.heap.size w wr) := ⟨by rw [HX.out, HI.out.2.2]; rfl, HW.out wr HI.out.1⟩
      clear hlj HI
      go_wp2_with fail
      go_ret
      exact ⟨ret_int HR.out.1.symm, HR.out.2⟩
    | cons f l =>
      have hi1 : (j : Int) < (P : Int) := by simp at hlj; omega
      have hi0 : (0 : Int) ≤ (j : Int) := Int.natCast_nonneg _
      have ef : fs[j]? = some f := by have := HI.out.2.1 0; simpa using this
      obtain ⟨g, o, cy, ct, rfl, hg, hc, ha⟩ := HFS.out j f ef
      have hg' : g < w.heap.size := HBB.out g hg
      obtain ⟨q1, q2, q3⟩ := HAT.out wr f g (o + j * 32) cy ct HI.out.1 hg' hc ha
      have HLD : Hid ((loadVar 45 ⟨g, o + j * 32, none⟩).run Tryz.prog wr = .ok (.agg (fcs f cy ct)) wr) := q1
      have hy := Ty.In_cells ha.ty
      have ht := Tm.In_one ha.df
      have hbx : Below wr.heap.size wr (wr.alloc (.cells (fcs f cy ct) 45)) := (Below.refl _ _).alloc (Nat.le_refl _) _
      have HSS : Hid (∀ c : Array Value, c.size = 32 → (storeVar 45 ⟨wr.heap.size, 0, none⟩ (.agg (fcs f cy ct))).run Tryz.prog (wr.alloc (.cells c 45)) = .ok () (wr.alloc (.cells (fcs f cy ct) 45))) := fun c hc => fst hc (fcs_size hy.1 ht.1) (fcs_one hy.2 ht.2)
      have HLL : Hid ((loadVar 45 ⟨wr.heap.size, 0, none⟩).run Tryz.prog (wr.alloc (.cells (fcs f cy ct) 45)) = .ok (.agg (fcs f cy ct)) (wr.alloc (.cells (fcs f cy ct) 45))) := fld (fcs_size hy.1 ht.1) (heap_alloc_new wr _)
      have HFR : Hid (Calls Tryz.prog 14 #[.agg (fcs f cy ct), .string ah] (wr.alloc (.cells (fcs f cy ct) 45)) fun e w' => e = .returned (.int .i64 (Sp.fR f ah)) ∧ Below (wr.alloc (.cells (fcs f cy ct) 45)).heap.size (wr.alloc (.cells (fcs f cy ct) 45)) w') := fld_any f cy ct ah B _ (q2.same (q3.same hbx) (fun _ h => h)) (q3.later hbx)
      have HC0 : Hid (∀ W, Below (wr.alloc (.cells (fcs f cy ct) 45)).heap.size (wr.alloc (.cells (fcs f cy ct) 45)) W → W.cell? ⟨wr.heap.size, 0, none⟩ = some (.string f.nm) ∧ Below (w.alloc (.cells #[.string nm, .int .i64 vr, .string pn, .int .i64 pv, .bool ab, .slice (some ⟨g, o, none⟩) P cf] 24)).heap.size (w.alloc (.cells #[.string nm, .int .i64 vr, .string pn, .int .i64 pv, .bool ab, .slice (some ⟨g, o, none⟩) P cf] 24)) W) := fun W hW =>
        ⟨(FB.of ((hW.block wr.heap.size (by simp)).trans (heap_alloc_new wr _)) hy.1 ht.1).c0, below_to (below_to HI.out.1 hbx) hW⟩
      have HJ : Hid (l.length + (j + 1) = P ∧ (∀ i, fs[j + 1 + i]? = l[i]?)) := ⟨by simp at hlj; omega, fun i => by rw [show j + 1 + i = j + (i + 1) by omega, HI.out.2.1 (i + 1)]; simp⟩
      have HF : Hid (Sp.clR ⟨nm, vr, pn, pv, ab, fs⟩ = if Sp.fR f ah ≠ 0 then Sp.fR f ah else Sp.fsR f.nm l) := by show _ = _; rw [HX.out, HI.out.2.2]; rfl
      have HF2 : Hid (Sp.fsR ByteArray.empty fs = if Sp.fR f ah ≠ 0 then Sp.fR f ah else Sp.fsR f.nm l) := by show _ = _; rw [HI.out.2.2]; rfl
      clear hlj HI ef hg hg' hc ha q1 q2 q3 hy ht hbx
      generalize Sp.fR f ah = x at *
      go_wp2_with (first | ((with_reducible refine ld_row ?_ ?_ HLD.out ?_); rfl; rfl) | ((with_reducible refine st_row ?_ ?_ ?_ (HSS.out _ ?_) ?_); rfl; rfl; rfl; rfl) | ((with_reducible refine ld_row ?_ ?_ HLL.out ?_); rfl; rfl))
      refine HFR.out.mono ?_
      rintro e w4 ⟨rfl, hb4⟩
      obtain ⟨z0, zb⟩ := HC0.out w4 hb4
      have H4 : Hid (Below (w.alloc (.cells #[.string nm, .int .i64 vr, .string pn, .int .i64 pv, .bool ab, .slice (some ⟨g, o, none⟩) P cf] 24)).heap.size (w.alloc (.cells #[.string nm, .int .i64 vr, .string pn, .int .i64 pv, .bool ab, .slice (some ⟨g, o, none⟩) P cf] 24)) w4 ∧ Below w.heap.size w w4) := ⟨zb, HW.out _ zb⟩
      clear hb4 zb
      by_cases hx : x = 0
      · subst hx
        have HR : Hid (Sp.fsR ByteArray.empty fs = Sp.fsR f.nm l) := by show _ = _; rw [HF2.out, if_neg (by decide)]
        clear HF HF2
        go_wp2_with fail
        go_roundw
        case rel => exact ⟨f.nm, j + 1, l, rfl, by go_num, HJ.out.1, ⟨H4.out.1, HJ.out.2, HR.out⟩⟩
        case measure => simp [intOf]; omega
      · have hx' : (x == 0) = false := by simp [hx]
        have HR : Hid (Sp.clR ⟨nm, vr, pn, pv, ab, fs⟩ = x) := by show _ = _; rw [HF.out, if_pos hx]
        clear HF HF2 hx
        go_wp2_with fail
        go_ret
        exact ⟨ret_int HR.out.symm, H4.out.2⟩
theorem rul_any (h : (Cl.mk nm vr pn pv ab fs).At w B af) (hB : Sub B w) : Calls Tryz.prog 6 #[.agg #[.string nm, .int .i64 vr, .string pn, .int .i64 pv, .bool ab, .slice af fs.length cf]] w fun e w' => e = .returned (.int .i64 (Sp.clR ⟨nm, vr, pn, pv, ab, fs⟩)) ∧ Below w.heap.size w w' := by
  cases h1 : Sp.isNm nm with
  | false => exact rul_a nm pn vr pv ab fs af cf B w h h1
  | true =>
    cases h2 : Sp.vOk vr with
    | false => exact rul_b nm pn vr pv ab fs af cf B w h h1 h2
    | true =>
      cases h3 : Sp.nmN pn with
      | false => exact rul_c nm pn vr pv ab fs af cf B w h h1 h2 h3
      | true =>
        by_cases h4 : pn.size = 0
        · by_cases h5 : pv = 0
          · by_cases h6 : 4096 < fs.length
            · exact rul_f1 nm pn vr pv ab fs af cf B w h h1 h2 h3 h4 h5 h6
            · exact rul_g1 nm pn vr pv ab fs af cf B w h hB h1 h2 h3 h4 h5 h6
          · exact rul_d nm pn vr pv ab fs af cf B w h h1 h2 h3 h4 h5
        · cases h5 : Sp.vOk pv with
          | false => exact rul_e nm pn vr pv ab fs af cf B w h h1 h2 h3 h4 h5
          | true =>
            by_cases h6 : 4096 < fs.length
            · exact rul_f2 nm pn vr pv ab fs af cf B w h h1 h2 h3 h4 h5 h6
            · exact rul_g2 nm pn vr pv ab fs af cf B w h hB h1 h2 h3 h4 h5 h6
end
end Go.Proofs.YtbjcabpmndhfmaaGreat

/- The leaves of the document's own order: tenonref01's numbers, texts, flag, place. -/
namespace Go.Proofs.YtbjcabpmndhfmaaGreat
open Go.RowKit

set_option maxRecDepth 100000 in
set_option maxHeartbeats 400000 in
theorem numbers_any (a b : Int) (w : World) :
    Calls Tryz.prog 74 #[.int .u64 a, .int .u64 b] w fun e w' => e = .returned (.int .i64 (Sp.cmpI a b)) ∧ w = w' := by
  by_cases h1 : a < b
  · have H : Hid (Sp.cmpI a b = -1) := by show _ = _; simp [Sp.cmpI, h1]
    go_enter Tryz.func74, Tryz.ntmps74
    go_wp2
    go_ret
    exact ⟨ret_int H.out.symm, rfl⟩
  · by_cases h2 : b < a
    · have H : Hid (Sp.cmpI a b = 1) := by show _ = _; simp [Sp.cmpI, h1, h2]
      go_enter Tryz.func74, Tryz.ntmps74
      go_wp2
      go_ret
      exact ⟨ret_int H.out.symm, rfl⟩
    · have H : Hid (Sp.cmpI a b = 0) := by show _ = _; simp [Sp.cmpI, h1, h2]
      go_enter Tryz.func74, Tryz.ntmps74
      go_wp2
      go_ret
      exact ⟨ret_int H.out.symm, rfl⟩

set_option maxRecDepth 100000 in
set_option maxHeartbeats 400000 in
theorem texts_any (a b : ByteArray) (w : World) :
    Calls Tryz.prog 77 #[.string a, .string b] w fun e w' => e = .returned (.int .i64 (Sp.cmpS a b)) ∧ w = w' := by
  have hl := less_of a b
  have he := same_of a b
  rcases cmp_vals a.data.toList b.data.toList with h | h | h
  · have H : Hid (Sp.cmpS a b = -1) := h
    rw [H.out] at hl he; simp at hl he
    go_enter Tryz.func77, Tryz.ntmps77
    go_wp2
    go_ret
    exact ⟨ret_int H.out.symm, rfl⟩
  · have H : Hid (Sp.cmpS a b = 0) := h
    rw [H.out] at hl he; simp at hl he
    have he' : (a.toList == b.toList) = true := by simp [he]
    clear he
    go_enter Tryz.func77, Tryz.ntmps77
    go_wp2
    go_ret
    exact ⟨ret_int H.out.symm, rfl⟩
  · have H : Hid (Sp.cmpS a b = 1) := h
    rw [H.out] at hl he; simp at hl he
    have he' : (a.toList == b.toList) = false := by simp [he]
    clear he
    go_enter Tryz.func77, Tryz.ntmps77
    go_wp2
    go_ret
    exact ⟨ret_int H.out.symm, rfl⟩

set_option maxRecDepth 100000 in
set_option maxHeartbeats 400000 in
theorem flag_any (b : Bool) (w : World) :
    Calls Tryz.prog 75 #[.bool b] w fun e w' => e = .returned (.int .u64 (Sp.rank b)) ∧ w = w' := by
  cases b
  · go_enter Tryz.func75, Tryz.ntmps75
    go_wp2
    go_ret
    exact ⟨rfl, rfl⟩
  · go_enter Tryz.func75, Tryz.ntmps75
    go_wp2
    go_ret
    exact ⟨rfl, rfl⟩

theorem wrapU {n : Int} (h0 : 0 ≤ n) (h1 : n ≤ 18446744073709551615) : IntKind.u64.wrap n = n := by
  rw [IntKind.wrap_u64]; omega

set_option maxRecDepth 100000 in
set_option maxHeartbeats 400000 in
theorem place_any (f : Nat) (w : World) (hf : f < 18446744073709551616) :
    Calls Tryz.prog 76 #[.float .f64 f] w fun e w' => e = .returned (.int .u64 (Sp.frank f)) ∧ w = w' := by
  have hb := bits_run f
  by_cases h : 9223372036854775808 ≤ f
  · have ha : (9223372036854775808 : Int) ≤ (f : Int) := by omega
    have H : Hid (Sp.frank f = bits BinOp.xor IntKind.u64 IntKind.u64.max (f : Int)) := by show _ = _; rw [fr_xor f hf]; unfold Sp.frank; rw [if_pos h]
    clear h
    go_enter Tryz.func76, Tryz.ntmps76
    go_wp2
    go_ret
    exact ⟨ret_int H.out.symm, rfl⟩
  · have ha : ¬ (9223372036854775808 : Int) ≤ (f : Int) := by omega
    have hw : IntKind.u64.wrap ((f : Int) + 9223372036854775808) = (f : Int) + 9223372036854775808 := wrapU (by omega) (by omega)
    have H : Hid (Sp.frank f = (f : Int) + 9223372036854775808) := by show _ = _; unfold Sp.frank; rw [if_neg h]
    clear h
    go_enter Tryz.func76, Tryz.ntmps76
    go_wp2
    go_ret
    exact ⟨ret_int H.out.symm, rfl⟩
end Go.Proofs.YtbjcabpmndhfmaaGreat

/- The document's own order of terms (tenonref01.fields, tenonref01.Compare) is the plain order. -/
namespace Go.Proofs.YtbjcabpmndhfmaaGreat
open Go.RowKit

def CmpC (N : Nat) : Prop := ∀ (s t : Tm), s.sz ≤ N → ∀ (cs ct : Array Value) (S : Nat → Prop) (w : World), s.In w S cs → t.In w S ct → Sub S w → s.Ok → t.Ok →
  Calls Tryz.prog 57 #[.agg cs, .agg ct] w fun e w' => e = .returned (.int .i64 (s.cmp t)) ∧ Below w.heap.size w w'

theorem CmpC.at {N : Nat} (HC : CmpC N) {s t : Tm} (hN : s.sz ≤ N) {cs ct : Array Value} {S : Nat → Prop} {w : World} (hs : s.In w S cs) (ht : t.In w S ct) (hS : Sub S w) (os : s.Ok) (ot : t.Ok) :
    ∀ W, Below w.heap.size w W → Calls Tryz.prog 57 #[.agg cs, .agg ct] W fun e w' => e = .returned (.int .i64 (s.cmp t)) ∧ Below W.heap.size W w' :=
  fun W hW => HC s t hN cs ct S W (s.In_same (hS.same hW) (fun _ h => h) cs hs) (t.In_same (hS.same hW) (fun _ h => h) ct ht) (hS.later hW) os ot

theorem Tm.In_tc {w : World} {B : Nat → Prop} {t : Tm} {cs : Array Value} (h : t.In w B cs) : ∃ k b i f tx vb rf vl vf c vr, cs = tcells k b i f tx vb rf vl vf c vr := by
  cases t; simp only [Tm.In] at h; obtain ⟨_, _, _, _, _, _, rfl, _⟩ := h; exact ⟨_, _, _, _, _, _, _, _, _, _, _, rfl⟩

set_option maxRecDepth 100000 in
set_option maxHeartbeats 2000000 in
theorem fields_any (N : Nat) (HC : CmpC N) (A B : TmF) (hN : A.sz ≤ N) (a b : Option Addr) (ca cb : Nat) (S : Nat → Prop) (w : World) (ha : A.In w S a 0) (hb : B.In w S b 0) (hS : Sub S w) (oa : A.Ok) (ob : B.Ok) (la : A.len * 168 ≤ 140737488355328) (lb : B.len * 168 ≤ 140737488355328) :
    Calls Tryz.prog 78 #[.slice a A.len ca, .slice b B.len cb] w fun e w' => e = .returned (.int .i64 (A.cmp B)) ∧ Below w.heap.size w w' := by
  have HCH : Hid (CmpC N) := HC
  have H0 : Hid (A.In w S a 0 ∧ B.In w S b 0 ∧ A.Ok ∧ B.Ok) := ⟨ha, hb, oa, ob⟩
  clear HC ha hb oa ob
  go_enter Tryz.func78, Tryz.ntmps78
  go_wp2_with fail
  go_loopw [5] (fun x wr => ∃ (k : Nat) (l r : TmF), x = .int .i64 k ∧ l.len + k = A.len ∧ r.len + k = B.len ∧ l.sz ≤ N ∧ Hid (l.In w S a k ∧ r.In w S b k ∧ l.Ok ∧ r.Ok ∧ A.cmp B = l.cmp r) ∧ Hid (Below w.heap.size w wr)) (fun x _ => A.len - (intOf x).toNat)
  case atStart => exact ⟨0, A, B, rfl, rfl, rfl, hN, ⟨H0.out.1, H0.out.2.1, H0.out.2.2.1, H0.out.2.2.2, rfl⟩, Below.refl _ _⟩
  case round =>
    obtain ⟨k, l, r, rfl, hl, hr, hlN, HI, HW⟩ := hrel
    have HK : Hid (IntKind.u64.wrap (A.len : Int) = A.len ∧ IntKind.u64.wrap (B.len : Int) = B.len) := ⟨wrapU (by omega) (by omega), wrapU (by omega) (by omega)⟩
    cases l with
    | nil =>
      have h1 : A.len ≤ k := by simp [TmF.len] at hl; omega
      have H : Hid (A.cmp B = Sp.cmpI A.len B.len) := by
        show _ = _
        rw [HI.out.2.2.2.2]
        cases r with
        | nil => simp only [TmF.len] at hl hr; simp only [TmF.cmp]; unfold Sp.cmpI; rw [if_neg (by omega), if_neg (by omega)]
        | cons n2 u r => simp only [TmF.len] at hl hr; simp only [TmF.cmp]; unfold Sp.cmpI; rw [if_pos (by omega)]
      have hw1 := HK.out.1
      have hw2 := HK.out.2
      clear hl hr
      go_wp2_with (go_at_call 74; refine (numbers_any _ _ _).mono ?_; rintro e w' ⟨rfl, rfl⟩)
      go_ret
      exact ⟨ret_int H.out.symm, HW.out⟩
    | cons n1 t l =>
      cases r with
      | nil =>
        have h1 : B.len ≤ k := by simp [TmF.len] at hr; omega
        have H : Hid (A.cmp B = Sp.cmpI A.len B.len) := by
          show _ = _
          rw [HI.out.2.2.2.2]
          simp only [TmF.len] at hl hr; simp only [TmF.cmp]; unfold Sp.cmpI; rw [if_neg (by omega), if_pos (by omega)]
        have h3 : k < A.len := by simp only [TmF.len] at hl hr; omega
        have hw1 := HK.out.1
        have hw2 := HK.out.2
        clear hl hr
        go_wp2_with (go_at_call 74; refine (numbers_any _ _ _).mono ?_; rintro e w' ⟨rfl, rfl⟩)
        go_ret
        exact ⟨ret_int H.out.symm, HW.out⟩
      | cons n2 u r =>
        obtain ⟨hv1, hv2, ho1, ho2, hc⟩ := HI.out
        simp only [TmF.In] at hv1 hv2
        obtain ⟨g1, o1, cs1, rfl, hg1, a1, _, c1, ht, hl'⟩ := hv1
        obtain ⟨g2, o2, cs2, rfl, hg2, a2, _, c2, hu, hr'⟩ := hv2
        have hk1 : k < A.len := by simp only [TmF.len] at hl; omega
        have hk2 : k < B.len := by simp only [TmF.len] at hr; omega
        have hi0 : (0 : Int) ≤ (k : Int) := Int.natCast_nonneg _
        have hi1 : (k : Int) < (A.len : Int) := by omega
        have hi2 : (k : Int) < (B.len : Int) := by omega
        have HL : Hid (l.len + (k + 1) = A.len ∧ r.len + (k + 1) = B.len) := by show _ ∧ _; simp only [TmF.len] at hl hr; omega
        have htN : t.sz ≤ N ∧ l.sz ≤ N := by simp [TmF.sz] at hlN; omega
        have hs : Same S w wr := hS.same HW.out
        have HO : Hid (∀ W, Below wr.heap.size wr W → Calls Tryz.prog 57 #[.agg cs1, .agg cs2] W fun e w' => e = .returned (.int .i64 (t.cmp u)) ∧ Below W.heap.size W w') :=
          HCH.out.at htN.1 (t.In_same hs (fun _ h => h) cs1 ht) (u.In_same hs (fun _ h => h) cs2 hu) (hS.later HW.out) ho1.head.1 ho2.head.1
        obtain ⟨k1, b1, i1, f1, tx1, vb1, rf1, vl1, vf1, cl1, vr1, rfl⟩ := Tm.In_tc ht
        obtain ⟨k2, b2, i2, f2, tx2, vb2, rf2, vl2, vf2, cl2, vr2, rfl⟩ := Tm.In_tc hu
        obtain ⟨e0, e1, e2, e3, e4, e5, e6, e7, e8, e9, e10⟩ := eleven (w := wr) (g := g1) (o := o1 + k * 12 + 1) (fun x hx => by rw [hs.cell (p := ⟨g1, o1 + k * 12 + 1 + x, none⟩) hg1]; exact c1 x hx)
        obtain ⟨d0, d1, d2, d3, d4, d5, d6, d7, d8, d9, d10⟩ := eleven (w := wr) (g := g2) (o := o2 + k * 12 + 1) (fun x hx => by rw [hs.cell (p := ⟨g2, o2 + k * 12 + 1 + x, none⟩) hg2]; exact c2 x hx)
        have a1 : wr.cell? ⟨g1, o1 + k * 12, none⟩ = some (.string n1) := by rw [hs.cell (p := ⟨g1, o1 + k * 12, none⟩) hg1]; exact a1
        have a2 : wr.cell? ⟨g2, o2 + k * 12, none⟩ = some (.string n2) := by rw [hs.cell (p := ⟨g2, o2 + k * 12, none⟩) hg2]; exact a2
        have HN : Hid (l.In w S (some ⟨g1, o1, none⟩) (k + 1) ∧ r.In w S (some ⟨g2, o2, none⟩) (k + 1) ∧ l.Ok ∧ r.Ok) := ⟨hl', hr', ho1.head.2, ho2.head.2⟩
        have HCC : Hid (A.cmp B = if Sp.cmpS n1 n2 ≠ 0 then Sp.cmpS n1 n2 else if t.cmp u ≠ 0 then t.cmp u else l.cmp r) := by show _ = _; rw [hc, TmF.cmp]
        unfold tcells at HO
        clear hl hr hlN HI hl' hr' ho1 ho2 hc ht hu H0 hs c1 c2 HK
        by_cases hn : Sp.cmpS n1 n2 ≠ 0
        · have hn' := ne_bool hn
          have H : Hid (A.cmp B = Sp.cmpS n1 n2) := by show _ = _; rw [HCC.out, if_pos hn]
          clear hn
          go_wp2_with fail
          go_quiet ((go_at_call 77; exact Calls.quiet_of_same ((texts_any _ _ _).mono (fun e w' h => ⟨h.1, h.2.symm⟩))))
          go_wp2_with fail
          go_ret
          exact ⟨ret_int H.out.symm, HW.out.trans (below_drewN' _ _ _)⟩
        · have hn0 : Sp.cmpS n1 n2 = 0 := Decidable.not_not.1 hn
          have HC2 : Hid (A.cmp B = if t.cmp u ≠ 0 then t.cmp u else l.cmp r) := by show _ = _; rw [HCC.out, if_neg hn]
          clear hn
          go_wp2_with fail
          go_quiet ((go_at_call 77; exact Calls.quiet_of_same ((texts_any _ _ _).mono (fun e w' h => ⟨h.1, h.2.symm⟩))))
          have HW' : Hid (Below w.heap.size w (wr.drewN nq)) := HW.out.trans (below_drewN' _ _ _)
          have HO' : Hid (∀ W, Below (wr.drewN nq).heap.size (wr.drewN nq) W → Calls Tryz.prog 57 #[.agg #[.int .i64 k1, .bool b1, .int .i64 i1, .float .f64 f1, .string tx1, vb1, .int .u64 rf1, vl1, vf1, .string cl1, .int .i64 vr1], .agg #[.int .i64 k2, .bool b2, .int .i64 i2, .float .f64 f2, .string tx2, vb2, .int .u64 rf2, vl2, vf2, .string cl2, .int .i64 vr2]] W fun e w' => e = .returned (.int .i64 (t.cmp u)) ∧ Below W.heap.size W w') := fun W hW =>
            HO.out W ((below_drewN' _ _ _).trans hW)
          have E : Hid ((wr.drewN nq).cell? = wr.cell?) := rfl
          rw [← E.out] at e0 e1 e2 e3 e4 e5 e6 e7 e8 e9 e10 d0 d1 d2 d3 d4 d5 d6 d7 d8 d9 d10
          clear a1 a2 HW HO E
          generalize wr.drewN nq = wq at *
          go_wp2_with fail
          go_region_with ((go_at_call 57; refine (HO'.out _ ?_).mono ?_; exact (Below.refl _ _).drew; rintro e w4 ⟨rfl, hb4⟩; have HB4 : Hid (Below w.heap.size w w4) := HW'.out.trans (((Below.refl _ _).drew.trans hb4).mono HW'.out.size); clear hb4))
          all_goals
            by_cases he : t.cmp u ≠ 0
            · have he' := ne_bool he
              have H : Hid (A.cmp B = t.cmp u) := by show _ = _; rw [HC2.out, if_pos he]
              clear he
              go_wp2_with fail
              go_ret
              exact ⟨ret_int H.out.symm, HB4.out⟩
            · have he0 : t.cmp u = 0 := Decidable.not_not.1 he
              have H : Hid (A.cmp B = l.cmp r) := by show _ = _; rw [HC2.out, if_neg he]
              clear he
              go_wp2_with fail
              go_roundw
              case rel => exact ⟨k + 1, l, r, by go_num, HL.out.1, HL.out.2, htN.2, ⟨HN.out.1, HN.out.2.1, HN.out.2.2.1, HN.out.2.2.2, H.out⟩, HB4.out⟩
              case measure => simp [intOf]; omega
end Go.Proofs.YtbjcabpmndhfmaaGreat


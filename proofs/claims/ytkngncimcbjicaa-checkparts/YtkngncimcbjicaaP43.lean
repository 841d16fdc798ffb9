/- Types and values that tenonlaw07.CheckParts makes, as they lie in memory. -/
import Derived.Test.YtkngncimcbjicaaP32
import Derived.Test.YtkngncimcbjicaaP42
import Derived.Test.YtkngncimcbjicaaP27
import Derived.Laws.Tables
namespace Go.Proofs.Ytkngncimcbjicaa
open Go.RowKit

/-- a type's cells of which only some are told -/
abbrev kcells (k : Int) (vp vn vk : Value) (op : Bool) : Array Value := #[.int .i64 k, .int .i64 0, .int .i64 0, .bool false, .int .i64 0, .float .f64 0, .string { data := #[] }, .slice none 0 0, .int .u64 0, .slice none 0 0, .slice none 0 0, .string { data := #[] }, .int .i64 0, vp, vn, vk, .bool op, .string { data := #[] }]
theorem kcells_in (k : Int) (p : TyL) (n : List ByteArray) (l : List Bool) (op : Bool) (w : World) (B : Nat → Prop) (ap an ak : Option Addr) (cp cn ck : Nat) (hk : -9223372036854775808 ≤ k ∧ k ≤ 9223372036854775807) (hp : p.len ≤ 70368744177664) (hn : n.length ≤ 70368744177664) (hl : l.length ≤ 140737488355328)
    (h1 : p.In w B ap 0) (h2 : NamesAt w B an n) (h3 : BoolsAt w B ak l) : (Ty.mk k 0 tm0 p n l op ⟨#[]⟩).In w B (kcells k (.slice ap p.len cp) (.slice an n.length cn) (.slice ak l.length ck) op) := by
  simp only [tm0, Ty.In, kcells]
  refine ⟨0, false, 0, 0, ⟨#[]⟩, none, 0, 0, 0, none, 0, 0, none, 0, 0, ⟨#[]⟩, 0, ap, cp, an, cn, ak, ck, rfl, ?_, hk, by decide, ⟨hp, hn, hl, by decide⟩, h1, h2, h3⟩
  simp only [Tm.In]
  refine ⟨none, 0, none, 0, none, 0, rfl, ?_, fun j hj => ?_, by simp [TmL.In], by simp [TmF.In]⟩
  · constructor <;> first | decide | simp [TmL.len, TmF.len]
  · simp at hj
theorem names_none {w : World} {B : Nat → Prop} {a : Option Addr} : NamesAt w B a [] := fun j s h => by simp at h
theorem bools_none {w : World} {B : Nat → Prop} {a : Option Addr} : BoolsAt w B a [] := fun j s h => by simp at h

theorem ybs1 (w : World) {ca : Array Value} (ha : ca.size = 18) : (Instr.buildSlice 30 1 #[(0, .agg ca)]).run Try.prog w = .ok (.slice (some ⟨w.heap.size, 0, none⟩) 1 1) (w.alloc (.cells ca 34)) := by
  have h := yzero
  cases hie : Try.prog.info? 34 with
  | none => rw [hie] at h; simp at h
  | some ie =>
    rw [hie] at h
    simp only [Option.map_some, Option.some.injEq, Prod.mk.injEq] at h
    obtain ⟨h1, h2⟩ := h
    cases hz : ie.zero with
    | none => rw [hz] at h2; simp at h2
    | some z =>
      rw [hz] at h2
      simp only [Option.map_some, Option.some.injEq] at h2
      refine run_buildSlice w _ 34 1 _ ca ie z Try.underlying30 hie hz (by rw [h1]; decide) (by rw [h1]; decide) ?_
      rw [h1]
      have := Go.Great.fill_whole (s := 18) (by decide) [.agg ca] ((Array.range (1 * 18)).map (z.cells[· % z.cells.size]!)) (by simp [Value.cells, ha]) (by simp)
      simpa [Value.cells] using this

theorem bd_row {P : Program} {ops : Array Oper} {rest : List Oper} {Q : Exit → Act → World → Prop} {a : Act} {w w' : World} {d : Option Tmp} {ty T : TypeId} {parts : Array (Nat × Operand)} {vs : Array (Nat × Value)} {ps : String} {af : Array Edge} {gd : Option (Nat × Bool)} {v : Value}
    (hw : Region.wanted (Oper.mk d (.build ty parts) T ps af gd) (yielded ops a.tmps) = true) (hx : (parts.toList.map fun x => (x.1, a.eval x.2)) = vs.toList) (hl : (Instr.build ty vs).run P w = .ok v w')
    (h : wpList P ops Q rest (a.put d v) w') : wpList P ops Q (Oper.mk d (.build ty parts) T ps af gd :: rest) a w := by
  rw [wpList, if_pos hw]
  refine .inl ?_
  have hy : (parts.map fun (i, x) => (i, a.eval x)) = vs := Array.ext' (by rw [Array.toList_map]; exact hx)
  unfold Oper.wp execOp
  simp only [hy, Sem.run_bind, Result.andThen_ok, hl]
  exact h
theorem fbuild (x : Value) (hx : x = .nilIface ∨ ∃ T y, x = .iface T y) (n : ByteArray) (W : World) : (Instr.build 55 #[(0, .string n), (1, x)]).run Try.prog W = .ok (.agg #[.string n, x]) W := by
  refine run_build W _ _ _ ?_
  rcases hx with rfl | ⟨T, y, rfl⟩
  · kernel_rfl
  · kernel_rfl
theorem lbuild (x : Value) (hx : x = .nilIface ∨ ∃ T y, x = .iface T y) (W : World) : (Instr.buildSlice 49 1 #[(0, x)]).run Try.prog W = .ok (.slice (some ⟨W.heap.size, 0, none⟩) 1 1) (W.alloc (.cells #[x] 20)) := by
  obtain ⟨i0, hi, hz0, hz1, hz2⟩ := info_parts Try.infoI
  refine run_buildSlice W _ 20 1 _ #[x] i0 _ Try.undL hi hz0 (by rw [hz1]; decide) (by rw [hz1]; decide) ?_
  rw [hz1]
  have h1 : x.cells = #[x] := by rcases hx with rfl | ⟨T, y, rfl⟩ <;> rfl
  have := Go.Great.fill_whole (s := 1) (by decide) [x] ((Array.range (1 * 1)).map (Value.nilIface.cells[· % Value.nilIface.cells.size]!)) (by simp [h1]) (by simp)
  simpa [h1] using this
section
variable {w : World} {B : Nat → Prop} {g : Nat} {a b : Ty} {ca cb : Array Value}
theorem one_in {T : TypeId} {fr : Nat × Nat} (hg : B g) (h : w.heap[g]? = some (.cells ca T fr)) (ha : a.In w B ca) : (TyL.cons a .nil).In w B (some ⟨g, 0, none⟩) 0 := by
  simp only [TyL.In]
  exact ⟨g, 0, ca, rfl, hg, fun x _ => by rw [show 0 + 0 * 18 + x = x by omega]; exact cell_of_row _ _ _ _ _ _ h, ha, trivial⟩
theorem both_in {T : TypeId} {fr : Nat × Nat} (hg : B g) (h : w.heap[g]? = some (.cells (both ca cb) T fr)) (ha : a.In w B ca) (hb : b.In w B cb) : (TyL.cons a (.cons b .nil)).In w B (some ⟨g, 0, none⟩) 0 := by
  obtain ⟨sa, -⟩ := Ty.In_cells ha
  simp only [TyL.In]
  refine ⟨g, 0, ca, rfl, hg, fun x hx => ?_, ha, g, 0, cb, rfl, hg, fun x hx => ?_, hb, trivial⟩
  · rw [show 0 + 0 * 18 + x = x by omega, cell_of_row _ _ _ _ _ _ h]
    have hx' : x < ca.toList.length := by rw [Array.length_toList]; omega
    simp only [both, List.getElem?_toArray]
    rw [List.getElem?_append_left hx', Array.getElem?_toList]
  · rw [show 0 + (0 + 1) * 18 + x = 18 + x by omega, cell_of_row _ _ _ _ _ _ h]
    have hx' : ca.toList.length ≤ 18 + x := by rw [Array.length_toList]; omega
    simp only [both, List.getElem?_toArray]
    rw [List.getElem?_append_right hx', Array.length_toList, sa, Array.getElem?_toList, Nat.add_sub_cancel_left]
end

theorem old_alloc {w : World} {k : Nat} (o : Obj) (hk : k < w.heap.size) : (w.alloc o).heap[k]? = w.heap[k]? := Below.heap_alloc _ _ _ hk
theorem lo_alloc (w : World) (o : Obj) : Same (Lo w.heap.size) w (w.alloc o) := fun _ hk => old_alloc o hk
theorem lo_up (w : World) (o : Obj) : ∀ k, Lo w.heap.size k → Lo (w.alloc o).heap.size k := fun k hk => by simp only [Lo] at hk ⊢; simp; omega

section
variable (v : Tm) (x : Value) (a b : Ty) (ca cb : Array Value) (op : Bool) (W : World)
abbrev Wu (W : World) (ca cb : Array Value) : World := W.alloc (.cells (both ca cb) 34)
theorem is_union (hx : v.V W (Lo W.heap.size) x) (ha : a.In W (Lo W.heap.size) ca) (hb : b.In W (Lo W.heap.size) cb) :
    Calls Try.prog 8 #[x, .agg (kcells 7 (.slice (some ⟨W.heap.size, 0, none⟩) 2 2) (.slice none 0 0) (.slice none 0 0) false)] (Wu W ca cb) fun e w' =>
      e = .returned (.tuple #[.bool (Sp.isA v (tyU a b)).1, .int .i64 (Sp.isA v (tyU a b)).2.1, .int .i64 (Sp.isA v (tyU a b)).2.2]) ∧ Below (Wu W ca cb).heap.size (Wu W ca cb) w' := by
  have hs := lo_alloc W (.cells (both ca cb) 34)
  have hu := lo_up W (.cells (both ca cb) 34)
  have hin := kcells_in 7 (.cons a (.cons b .nil)) [] [] false (Wu W ca cb) (Lo (Wu W ca cb).heap.size) (some ⟨W.heap.size, 0, none⟩) none none 2 0 0 (by decide) (by simp [TyL.len]) (by simp) (by simp) (both_in (by simp [Lo]) (heap_alloc_new W _) (a.In_same hs hu ca ha) (b.In_same hs hu cb hb)) names_none bools_none
  exact Is_all v x (tyU a b) _ (Wu W ca cb).heap.size (Wu W ca cb) (Nat.le_refl _) (v.V_same hs hu x hx) hin
abbrev Wd (W : World) (x : Value) (ca : Array Value) : World := (((W.alloc (.cells #[.string { data := #[97] }, x, .string { data := #[122] }, .iface 4 (.bool true)] 55)).alloc (.cells #[.string { data := #[97] }] 9)).alloc (.cells #[.bool false] 4)).alloc (.cells ca 34)
theorem Wd_size : (Wd W x ca).heap.size = W.heap.size + 4 := by simp [Wd]
theorem Wd_below : Below W.heap.size W (Wd W x ca) := ((((Below.refl _ _).alloc (Nat.le_refl _) _).alloc (by simp) _).alloc (by simp; omega) _).alloc (by simp; omega) _
theorem is_dict (hx : v.V W (Lo W.heap.size) x) (ha : a.In W (Lo W.heap.size) ca) :
    Calls Try.prog 8 #[.iface 57 (.slice (some ⟨W.heap.size, 0, none⟩) 2 2), .agg (kcells 6 (.slice (some ⟨W.heap.size + 1 + 1 + 1, 0, none⟩) 1 1) (.slice (some ⟨W.heap.size + 1, 0, none⟩) 1 1) (.slice (some ⟨W.heap.size + 1 + 1, 0, none⟩) 1 1) op)] (Wd W x ca) fun e w' =>
      e = .returned (.tuple #[.bool (Sp.isA (dT v) (tyDc a op)).1, .int .i64 (Sp.isA (dT v) (tyDc a op)).2.1, .int .i64 (Sp.isA (dT v) (tyDc a op)).2.2]) ∧ Below (Wd W x ca).heap.size (Wd W x ca) w' := by
  have hb := Wd_below x ca W
  have hz := Wd_size x ca W
  have hs : Same (Lo W.heap.size) W (Wd W x ca) := Same.of_below hb (Nat.le_refl _)
  have hu : ∀ k, Lo W.heap.size k → Lo (Wd W x ca).heap.size k := fun k hk => by simp only [Lo] at hk ⊢; omega
  have b0 : (Wd W x ca).heap[W.heap.size]? = some (.cells #[.string { data := #[97] }, x, .string { data := #[122] }, .iface 4 (.bool true)] 55 (0, 0)) := by
    rw [old_alloc _ (by simp; omega), old_alloc _ (by simp; omega), old_alloc _ (by simp)]; exact heap_alloc_new W _
  have b1 : (Wd W x ca).heap[W.heap.size + 1]? = some (.cells #[.string { data := #[97] }] 9 (0, 0)) := by
    rw [old_alloc _ (by simp), old_alloc _ (by simp)]
    have := heap_alloc_new (W.alloc (.cells #[.string { data := #[97] }, x, .string { data := #[122] }, .iface 4 (.bool true)] 55)) (.cells #[.string { data := #[97] }] 9)
    simpa using this
  have b2 : (Wd W x ca).heap[W.heap.size + 1 + 1]? = some (.cells #[.bool false] 4 (0, 0)) := by
    rw [old_alloc _ (by simp)]
    have := heap_alloc_new ((W.alloc (.cells #[.string { data := #[97] }, x, .string { data := #[122] }, .iface 4 (.bool true)] 55)).alloc (.cells #[.string { data := #[97] }] 9)) (.cells #[.bool false] 4)
    simpa using this
  have b3 : (Wd W x ca).heap[W.heap.size + 1 + 1 + 1]? = some (.cells ca 34 (0, 0)) := by
    have := heap_alloc_new (((W.alloc (.cells #[.string { data := #[97] }, x, .string { data := #[122] }, .iface 4 (.bool true)] 55)).alloc (.cells #[.string { data := #[97] }] 9)).alloc (.cells #[.bool false] 4)) (.cells ca 34)
    simpa using this
  have q : ∀ i, i < 4 → Lo (Wd W x ca).heap.size (W.heap.size + i) := fun i hi => by simp only [Lo]; omega
  have hin := kcells_in 6 (.cons a .nil) [nmA] [false] op (Wd W x ca) (Lo (Wd W x ca).heap.size) (some ⟨W.heap.size + 1 + 1 + 1, 0, none⟩) (some ⟨W.heap.size + 1, 0, none⟩) (some ⟨W.heap.size + 1 + 1, 0, none⟩) 1 1 1 (by decide) (by simp [TyL.len]) (by simp) (by simp) (one_in (q 3 (by decide)) b3 (a.In_same hs hu ca ha))
    (fun j s h => by
      have hj : j = 0 := by have := (List.getElem?_eq_some_iff.1 h).1; simp at this; exact this
      subst hj
      simp at h
      subst h
      exact ⟨_, _, rfl, q 1 (by decide), by rw [cell_of_row _ _ _ _ _ _ b1]; rfl, by decide⟩)
    (fun j s h => by
      have hj : j = 0 := by have := (List.getElem?_eq_some_iff.1 h).1; simp at this; exact this
      subst hj
      simp at h
      subst h
      exact ⟨_, _, rfl, q 2 (by decide), by rw [cell_of_row _ _ _ _ _ _ b2]; rfl⟩)
  have hv : (dT v).V (Wd W x ca) (Lo (Wd W x ca).heap.size) (.iface 57 (.slice (some ⟨W.heap.size, 0, none⟩) 2 2)) := by
    refine V9r rfl (by decide) (q 0 (by decide)) ⟨_, b0, rfl⟩ ?_
    simp only [TmF.V]
    refine ⟨W.heap.size, 0, x, rfl, q 0 (by decide), ?_, ?_, by decide, v.V_same hs hu x hx, W.heap.size, 0, .iface 4 (.bool true), rfl, q 0 (by decide), ?_, ?_, by decide, ?_, trivial⟩
    · rw [cell_of_row _ _ _ _ _ _ b0]; rfl
    · rw [cell_of_row _ _ _ _ _ _ b0]; rfl
    · rw [cell_of_row _ _ _ _ _ _ b0]; rfl
    · rw [cell_of_row _ _ _ _ _ _ b0]; rfl
    · simp [tt, Tm.V]
  exact Is_all (dT v) _ (tyDc a op) _ (Wd W x ca).heap.size (Wd W x ca) (Nat.le_refl _) hv hin
theorem is_list (L : TmL) (g cap : Nat) (hx : L.LV W (Lo W.heap.size) (some ⟨g, 0, none⟩) cap) (ha : a.In W (Lo W.heap.size) ca) :
    Calls Try.prog 8 #[.iface 49 (.slice (some ⟨g, 0, none⟩) L.len cap), .agg (kcells 5 (.slice (some ⟨W.heap.size, 0, none⟩) 1 1) (.slice none 0 0) (.slice none 0 0) false)] (W.alloc (.cells ca 34)) fun e w' =>
      e = .returned (.tuple #[.bool (Sp.isA (mkL L) (tyLs a)).1, .int .i64 (Sp.isA (mkL L) (tyLs a)).2.1, .int .i64 (Sp.isA (mkL L) (tyLs a)).2.2]) ∧ Below (W.alloc (.cells ca 34)).heap.size (W.alloc (.cells ca 34)) w' := by
  have hs := lo_alloc W (.cells ca 34)
  have hu := lo_up W (.cells ca 34)
  have hin := kcells_in 5 (.cons a .nil) [] [] false (W.alloc (.cells ca 34)) (Lo (W.alloc (.cells ca 34)).heap.size) (some ⟨W.heap.size, 0, none⟩) none none 1 0 0 (by decide) (by simp [TyL.len]) (by simp) (by simp) (one_in (by simp [Lo]) (heap_alloc_new W _) (a.In_same hs hu ca ha)) names_none bools_none
  exact Is_all (mkL L) _ (tyLs a) _ (W.alloc (.cells ca 34)).heap.size _ (Nat.le_refl _) (Tm.V_of8 (L.LV_same hs hu _ _ hx)) hin
theorem is_none (W : World) : Calls Try.prog 8 #[.iface 49 (.slice (some ⟨W.heap.size, 0, none⟩) 0 0), .agg (kcells 5 (.slice (some ⟨W.heap.size + 1, 0, none⟩) 1 1) (.slice none 0 0) (.slice none 0 0) false)] ((W.alloc (.cells #[] 20)).alloc (.cells (kcells 2 (.slice none 0 0) (.slice none 0 0) (.slice none 0 0) false) 34)) fun e w' =>
      e = .returned (.tuple #[.bool true, .int .i64 0, .int .i64 0]) ∧ Below ((W.alloc (.cells #[] 20)).alloc (.cells (kcells 2 (.slice none 0 0) (.slice none 0 0) (.slice none 0 0) false) 34)).heap.size ((W.alloc (.cells #[] 20)).alloc (.cells (kcells 2 (.slice none 0 0) (.slice none 0 0) (.slice none 0 0) false) 34)) w' := by
  have h0 : (W.alloc (.cells #[] 20)).heap.size = W.heap.size + 1 := by simp
  have h := is_list tyNo (kcells 2 (.slice none 0 0) (.slice none 0 0) (.slice none 0 0) false) (W.alloc (.cells #[] 20)) .nil W.heap.size 0
    ⟨Ln.row ⟨#[], heap_alloc_new W _, rfl⟩ (by decide) (by simp [Lo]), trivial⟩ (kcells_in 2 .nil [] [] false _ _ none none none 0 0 0 (by decide) (by simp [TyL.len]) (by simp) (by simp) (by simp [TyL.In]) names_none bools_none)
  rw [tyLs_none] at h
  simp only [h0] at h
  exact h
end

/-- the values of a list that is being filled: those so far lie in the row of block g -/
structure XL (L : TmL) (w : World) (wr : World) (j g cap : Nat) (xs : List Value) (l : TmL) : Prop where
  own : wr.ownsRow w.heap.size 20 1 (.slice (some ⟨g, 0, none⟩) j cap) j xs
  pre : VPre wr (Own w.heap.size wr g) L xs l
  lt : w.heap.size ≤ g ∧ g < wr.heap.size
  bel : Below w.heap.size w wr
theorem XL.step {L : TmL} {w wr : World} {j g cap : Nat} {xs : List Value} {t : Tm} {l : TmL} (h : XL L w wr j g cap xs (.cons t l)) {w1 w3 : World} {o : Obj} {x : Value} {g' cap' : Nat}
    (hb : Below wr.heap.size wr w1) (hx : t.V w1 (Fr wr w1) x) (ho : w3.ownsRow w.heap.size 20 1 (.slice (some ⟨g', 0, none⟩) (j + 1) cap') (j + 1) (xs ++ [x])) (hg : (w1.alloc o).grownBy w3 (some g)) (hor : some g = some g' ∨ g' = (w1.alloc o).heap.size) :
    XL L w w3 (j + 1) g' cap' (xs ++ [x]) l := by
  have hz1 := hb.size
  have hz3 := hg.size
  have hza : (w1.alloc o).heap.size = w1.heap.size + 1 := by simp
  have hlt := ho.lt g' rfl
  have h31 : ∀ k, k < w1.heap.size → k ≠ g → w3.heap[k]? = w1.heap[k]? := fun k hk hne => by
    rw [hg.block k (by omega) (by simpa using hne)]; exact Below.heap_alloc _ _ _ hk
  have hS : Same (Own w.heap.size wr g) wr w3 := fun k hk => by rw [h31 k (by have := hk.2.1; omega) hk.2.2]; exact hb.block k hk.2.1
  have hS1 : Same (Fr wr w1) w1 w3 := fun k hk => h31 k hk.2 (by have := hk.1; have := h.lt; omega)
  have hg' : ∀ k, k < w1.heap.size → k ≠ g → k ≠ g' := fun k hk hne e => by
    rcases hor with e' | e'
    · injection e' with e'; omega
    · omega
  refine ⟨ho, ?_, hlt, ?_⟩
  · refine VPre.snoc L xs t l x (VPre.same hS (fun k hk => ⟨hk.1, by have := hk.2.1; omega, hg' k (by have := hk.2.1; omega) hk.2.2⟩) L xs _ h.pre) (t.V_same hS1 (fun k hk => ⟨?_, ?_, ?_⟩) x hx)
    · have := hk.1; have := h.lt; omega
    · have := hk.2; omega
    · exact hg' k hk.2 (by have := hk.1; have := h.lt; omega)
  · have hb1 : Below w.heap.size w (w1.alloc o) := (h.bel.trans (hb.mono h.bel.size)).alloc (by have := h.bel.size; omega) _
    exact hb1.grown hg (by have := h.bel.size; omega) (fun k e => by injection e with e; have := h.lt; omega)
theorem XL.done {L : TmL} {w wr : World} {j g cap : Nat} {xs : List Value} (h : XL L w wr j g cap xs .nil) (hj : j = L.len) : L.LV wr (Lo wr.heap.size) (some ⟨g, 0, none⟩) cap := by
  subst hj
  refine ⟨Ln.of h.own (fun g' o p e => by injection e with e; injection e with e; subst e; exact h.lt.2), ?_⟩
  refine VPre.done (S := Own w.heap.size wr g) (fun k hk => hk.2.1) g h.lt.2 L xs 0 h.pre ?_
  intro i x hi
  have := h.own.cells (g := g) rfl i x hi
  rw [Nat.zero_add]
  have e : (⟨g, 0, none⟩ : Addr).add i = ⟨g, i, none⟩ := by
    unfold Addr.add; split
    · rename_i h0; rw [h0]
    · simp
  rw [e] at this; exact this
theorem XL.start (L : TmL) (w : World) : XL L w (w.alloc (.cells #[] 20)) 0 w.heap.size 0 [] L :=
  ⟨⟨rfl, .inr ⟨w.heap.size, 0, #[], rfl, Nat.le_refl _, heap_alloc_new w _, Nat.le_refl _, by simp [maxLen], rfl, rfl⟩⟩, (VPre_nil _ _).2 rfl, by simp, (Below.refl _ _).alloc (Nat.le_refl _) _⟩

/-- the two types of the array in boxes of their own, whichever comes first -/
theorem wp_cut_two {P : Program} {id : Nat} {ops : Array Oper} {Q : Exit → Act → World → Prop} {a : Act} {w : World} (x31 x32 x33 x34 : Value) (F : Nat → Nat → World → Prop)
    (h1 : (Code.region id ops true).wp P (fun e a' W => e = .normal ∧ ∃ ba bb, a' = (((((a.put (some 31) x31).put (some 32) x32).put (some 33) x33).put (some 34) x34).put (some 7) (.pointer (some ⟨ba, 0, none⟩))).put (some 8) (.pointer (some ⟨bb, 0, none⟩)) ∧ F ba bb W) a w)
    (h2 : ∀ ba bb W, F ba bb W → Q .normal ((((((a.put (some 31) x31).put (some 32) x32).put (some 33) x33).put (some 34) x34).put (some 7) (.pointer (some ⟨ba, 0, none⟩))).put (some 8) (.pointer (some ⟨bb, 0, none⟩))) W) : (Code.region id ops true).wp P Q a w :=
  Code.wp_mono (fun e a' W h => by obtain ⟨rfl, ba, bb, rfl, hF⟩ := h; exact h2 ba bb W hF) h1
theorem wp_alloc_type {o : Oper} {a : Act} {w : World} {K : Act → World → Prop} {Q : Exit → Act → World → Prop} (ho : o.op = .alloc 34)
    (h : ∀ z : Array Value, z.size = 18 → K (a.put o.dst (.pointer (some ⟨w.heap.size, 0, none⟩))) (w.alloc (.cells z 34))) : o.wp Try.prog a w K Q := by
  have hz := yzero
  cases hie : Try.prog.info? 34 with
  | none => rw [hie] at hz; simp at hz
  | some ie =>
    rw [hie] at hz
    simp only [Option.map_some, Option.some.injEq, Prod.mk.injEq] at hz
    cases hz0 : ie.zero with
    | none => rw [hz0] at hz; simp at hz
    | some z =>
      rw [hz0] at hz
      simp only [Option.map_some, Option.some.injEq] at hz
      have := h z.cells hz.2
      have hr : (Instr.alloc 34 true (.tuple #[])).run Try.prog w = .ok (.pointer (some ⟨w.heap.size, 0, none⟩)) (w.alloc (.cells z.cells 34)) := by
        simp [Instr.alloc, zeroValue, typeInfo, hie, hz0, newVar, newRow]
      unfold Oper.wp execOp
      simp only [ho, Sem.run_bind, hr, Result.andThen_ok]
      exact this
end Go.Proofs.Ytkngncimcbjicaa


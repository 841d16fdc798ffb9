/- The Go function tenonlaw07.CheckSound returns true. -/
import Derived.Test.YtkmlpdehibameaaK38
import Derived.Test.YtkmlpdehibameaaK37
import Derived.Test.YtkmlpdehibameaaK41
import Derived.Test.YtkmlpdehibameaaK6
import Derived.Great.BuildSlice
namespace Go.Proofs.Ytkmlpdehibameaa
open Go.RowKit

theorem bs_row {P : Program} {ops : Array Oper} {rest : List Oper} {Q : Exit → Act → World → Prop} {a : Act} {w w' : World} {d : Option Tmp} {ty T : TypeId} {n : Nat} {parts : Array (Nat × Operand)} {vs : Array (Nat × Value)} {ps : String} {af : Array Edge} {gd : Option (Nat × Bool)} {v : Value}
    (hw : Region.wanted (Oper.mk d (.buildSlice ty n parts) T ps af gd) (yielded ops a.tmps) = true) (hx : (parts.toList.map fun x => (x.1, a.eval x.2)) = vs.toList) (hl : (Instr.buildSlice ty n vs).run P w = .ok v w')
    (h : wpList P ops Q rest (a.put d v) w') : wpList P ops Q (Oper.mk d (.buildSlice ty n parts) T ps af gd :: rest) a w := by
  rw [wpList, if_pos hw]
  refine .inl ?_
  have hy : (parts.map fun (i, x) => (i, a.eval x)) = vs := Array.ext' (by rw [Array.toList_map]; exact hx)
  unfold Oper.wp execOp
  simp only [hy, Sem.run_bind, Result.andThen_ok, hl]
  exact h
theorem yzero : (Try.prog.info? 34).map (fun i => (i.size, i.zero.map (fun z => z.cells.size))) = some (18, some 18) := by kernel_rfl
abbrev both (ca cb : Array Value) : Array Value := (ca.toList ++ cb.toList).toArray
theorem ybs (w : World) {ca cb : Array Value} (ha : ca.size = 18) (hb : cb.size = 18) : (Instr.buildSlice 30 2 #[(0, .agg ca), (1, .agg cb)]).run Try.prog w = .ok (.slice (some ⟨w.heap.size, 0, none⟩) 2 2) (w.alloc (.cells (both ca cb) 34)) := by
  have h := yzero
  cases hie : Try.prog.info? 34 with
  | none => rw [hie] at h; simp at h
  | some ie =>
    rw [hie] at h
    simp only [Option.map_some, Option.some.injEq, Prod.mk.injEq] at h
    obtain ⟨h1, h2⟩ := h
    cases hz : ie.zero with
    | none => rw [hz] at h2; simp at h2
    | some z =>
      rw [hz] at h2
      simp only [Option.map_some, Option.some.injEq] at h2
      refine run_buildSlice w _ 34 2 _ (both ca cb) ie z Try.underlying30 hie hz (by rw [h1]; decide) (by rw [h1]; decide) ?_
      rw [h1]
      have := Go.Great.fill_whole (s := 18) (by decide) [.agg ca, .agg cb] ((Array.range (2 * 18)).map (z.cells[· % z.cells.size]!)) (by simp [Value.cells, ha, hb]) (by simp)
      simpa [Value.cells] using this
theorem yboth_a (w : World) {ca cb : Array Value} (ha : ca.size = 18) : (loadVar 34 ⟨w.heap.size, 0, none⟩).run Try.prog (w.alloc (.cells (both ca cb) 34)) = .ok (.agg ca) (w.alloc (.cells (both ca cb) 34)) :=
  yldE ha (fun x hx => by
    rw [cell_of_row _ _ _ _ _ _ (heap_alloc_new w _)]
    have hx' : 0 + x < ca.toList.length := by rw [Array.length_toList]; omega
    simp only [both, List.getElem?_toArray]
    rw [List.getElem?_append_left hx', Nat.zero_add, Array.getElem?_toList])
theorem yboth_b (w : World) {ca cb : Array Value} (ha : ca.size = 18) (hb : cb.size = 18) : (loadVar 34 ⟨w.heap.size, 18, none⟩).run Try.prog (w.alloc (.cells (both ca cb) 34)) = .ok (.agg cb) (w.alloc (.cells (both ca cb) 34)) :=
  yldE hb (fun x hx => by
    rw [cell_of_row _ _ _ _ _ _ (heap_alloc_new w _)]
    have hx' : ca.toList.length ≤ 18 + x := by rw [Array.length_toList]; omega
    simp only [both, List.getElem?_toArray]
    rw [List.getElem?_append_right hx', Array.length_toList, ha, Array.getElem?_toList, Nat.add_sub_cancel_left])

def tyNil : Ty := .mk 3 1 (.mk 0 false 0 0 ⟨#[]⟩ ByteArray.empty 0 .nil .nil ⟨#[]⟩ 0) .nil [] [] false ⟨#[]⟩
def tyOnl : Ty := .mk 4 0 (.mk 1 false 0 0 ⟨#[]⟩ ByteArray.empty 0 .nil .nil ⟨#[]⟩ 0) .nil [] [] false ⟨#[]⟩
abbrev ncells : Array Value := #[.int .i64 3, .int .i64 1, .int .i64 0, .bool false, .int .i64 0, .float .f64 0, .string { data := #[] }, .slice none 0 0, .int .u64 0, .slice none 0 0, .slice none 0 0, .string { data := #[] }, .int .i64 0, .slice none 0 0, .slice none 0 0, .slice none 0 0, .bool false, .string { data := #[] }]
abbrev ocells : Array Value := #[.int .i64 4, .int .i64 0, .int .i64 1, .bool false, .int .i64 0, .float .f64 0, .string { data := #[] }, .slice none 0 0, .int .u64 0, .slice none 0 0, .slice none 0 0, .string { data := #[] }, .int .i64 0, .slice none 0 0, .slice none 0 0, .slice none 0 0, .bool false, .string { data := #[] }]
theorem tyNil_in (w : World) (B : Nat → Prop) : tyNil.In w B ncells := by
  simp only [tyNil, Ty.In, ncells]
  refine ⟨0, false, 0, 0, ⟨#[]⟩, none, 0, 0, 0, none, 0, 0, none, 0, 0, ⟨#[]⟩, 0, none, 0, none, 0, none, 0, rfl, ?_, by decide, by decide, ⟨by simp [TyL.len], by simp, by simp, by decide⟩, by simp [TyL.In], fun j s h => by simp at h, fun j s h => by simp at h⟩
  simp only [Tm.In]
  refine ⟨none, 0, none, 0, none, 0, rfl, ?_, fun j hj => ?_, by simp [TmL.In], by simp [TmF.In]⟩
  · constructor <;> first | decide | simp [TmL.len, TmF.len]
  · simp at hj
theorem tyOnl_in (w : World) (B : Nat → Prop) : tyOnl.In w B ocells := by
  simp only [tyOnl, Ty.In, ocells]
  refine ⟨1, false, 0, 0, ⟨#[]⟩, none, 0, 0, 0, none, 0, 0, none, 0, 0, ⟨#[]⟩, 0, none, 0, none, 0, none, 0, rfl, ?_, by decide, by decide, ⟨by simp [TyL.len], by simp, by simp, by decide⟩, by simp [TyL.In], fun j s h => by simp at h, fun j s h => by simp at h⟩
  simp only [Tm.In]
  refine ⟨none, 0, none, 0, none, 0, rfl, ?_, fun j hj => ?_, by simp [TmL.In], by simp [TmF.In]⟩
  · constructor <;> first | decide | simp [TmL.len, TmF.len]
  · simp at hj
theorem sub_nil (W : World) : Calls Try.prog 12 #[.agg ocells, .agg ncells] W fun e w' => e = .returned (.tuple #[.bool true, .int .i64 0]) ∧ Below W.heap.size W w' := by
  have h := Sub_any tyOnl tyNil ocells ncells W.heap.size W (Nat.le_refl _) (tyOnl_in W _) (tyNil_in W _)
  have e : Sp.subA tyOnl tyNil = (true, 0) := by
    have h1 : tyOnl.can = true := by decide +kernel
    have h2 : tyNil.can = true := by decide +kernel
    unfold Sp.subA
    rw [h1, h2]
    simp [tyOnl, tyNil, Ty.sub, Ty.reach, Ty.has, Tm.knd, Ty.kind]
  rw [e] at h; exact h
theorem Sp.subA_refl {a : Ty} (h : a.can = true) : Sp.subA a a = (true, 0) := by
  obtain ⟨o, -, -⟩ := Ty.can_ok h
  unfold Sp.subA
  rw [h, Ty.sub_refl a o]; rfl

set_option maxRecDepth 100000 in
set_option maxHeartbeats 4000000 in
theorem CheckSound_no (a b : Ty) (ca cb : Array Value) (L : TmL) (al : Option Addr) (cl : Nat) (w : World) (ha : a.In w (Lo w.heap.size) ca) (hb : b.In w (Lo w.heap.size) cb) (hL : L.In w (Lo w.heap.size) al 0) (hlen : L.len ≤ 70368744177664) (hcan : (a.can && b.can) = false) :
    Calls Try.prog 4 #[.agg ca, .agg cb, .slice al L.len cl] w fun e w' => e = .returned (.bool true) ∧ Below w.heap.size w w' := by
  obtain ⟨hsa, hoa⟩ := Ty.In_cells ha
  obtain ⟨hsb, hob⟩ := Ty.In_cells hb
  obtain ⟨W2, hW2⟩ : ∃ W2, tb w ca cb = W2 := ⟨_, rfl⟩
  have hbw : Below w.heap.size w W2 := hW2 ▸ tb_below ca cb w
  have HLo : Hid (∀ W, Below W2.heap.size W2 W → Below w.heap.size w W) := fun W hW => below_to hbw hW
  have HA : Hid (∀ W, Below W2.heap.size W2 W → (loadVar 34 ⟨w.heap.size, 0, none⟩).run Try.prog W = .ok (.agg ca) W) := fun W hW => by subst hW2; exact tb_a ca cb w W hsa hW
  have HB : Hid (∀ W, Below W2.heap.size W2 W → (loadVar 34 ⟨w.heap.size + 1, 0, none⟩).run Try.prog W = .ok (.agg cb) W) := fun W hW => by subst hW2; have := tb_b ca cb w W hsb hW; simpa using this
  have hSm : ∀ W, Below W2.heap.size W2 W → Same (Lo w.heap.size) w W := fun W hW => Same.of_below (HLo.out W hW) (Nat.le_refl _)
  have HAI : Hid (∀ W, Below W2.heap.size W2 W → a.In W (Lo w.heap.size) ca ∧ b.In W (Lo w.heap.size) cb ∧ w.heap.size ≤ W.heap.size) := fun W hW => ⟨a.In_same (hSm W hW) (fun _ h => h) ca ha, b.In_same (hSm W hW) (fun _ h => h) cb hb, (HLo.out W hW).size⟩
  have HS0 : Hid (Calls Try.prog 12 #[.agg ca, .agg cb] W2 fun e w' => e = .returned (.tuple #[.bool (Sp.subA a b).1, .int .i64 (Sp.subA a b).2]) ∧ Below W2.heap.size W2 w') :=
    Sub_any a b ca cb w.heap.size W2 hbw.size (HAI.out W2 (Below.refl _ _)).1 (HAI.out W2 (Below.refl _ _)).2.1
  have HBU : Hid (∀ (v : Tm) (ct : Array Value) (W : World), v.In w (Lo w.heap.size) ct → Below W2.heap.size W2 W → Calls Try.prog 7 #[.agg ct] W fun e w' => ∃ x, e = .returned x ∧ Below W.heap.size W w' ∧ v.V w' (Fr W w') x) := fun v ct W hv hW =>
    built_any v.sz v (Nat.le_refl _) ct (Lo w.heap.size) W (v.In_same (hSm W hW) (fun _ h => h) ct hv) (Sub.lo (HLo.out W hW).size)
  have HIA : Hid (∀ (v : Tm) (x : Value) (W : World), v.V W (Lo W.heap.size) x → Below W2.heap.size W2 W → Calls Try.prog 8 #[x, .agg ca] W fun e w' => e = .returned (.tuple #[.bool (Sp.isA v a).1, .int .i64 (Sp.isA v a).2.1, .int .i64 (Sp.isA v a).2.2]) ∧ Below W.heap.size W w') := fun v x W hv hW =>
    Is_all v x a ca W.heap.size W (Nat.le_refl _) hv (a.In_same (Same.refl _ _) (fun k hk => Nat.lt_of_lt_of_le hk (HAI.out W hW).2.2) ca (HAI.out W hW).1)
  have HIB : Hid (∀ (v : Tm) (x : Value) (W : World), v.V W (Lo W.heap.size) x → Below W2.heap.size W2 W → Calls Try.prog 8 #[x, .agg cb] W fun e w' => e = .returned (.tuple #[.bool (Sp.isA v b).1, .int .i64 (Sp.isA v b).2.1, .int .i64 (Sp.isA v b).2.2]) ∧ Below W.heap.size W w') := fun v x W hv hW =>
    Is_all v x b cb W.heap.size W (Nat.le_refl _) hv (b.In_same (Same.refl _ _) (fun k hk => Nat.lt_of_lt_of_le hk (HAI.out W hW).2.2) cb (HAI.out W hW).2.1)
  have HTD : Hid (∀ (g q : Nat) (ct : Array Value) (W : World), ct.size = 11 → g < w.heap.size → (∀ x, x < 11 → w.cell? ⟨g, q + x, none⟩ = ct[x]?) → Below W2.heap.size W2 W → (loadVar 29 ⟨g, q, none⟩).run Try.prog W = .ok (.agg ct) W) := fun g q ct W hs hg hc hW =>
    yldT hs (fun x hx => by rw [(HLo.out W hW).cell (p := ⟨g, q + x, none⟩) hg]; exact hc x hx)
  have HF : Hid (∀ W, Calls Try.prog 12 #[.agg ocells, .agg ncells] W fun e w' => e = .returned (.tuple #[.bool true, .int .i64 0]) ∧ Below W.heap.size W w') := sub_nil
  have HLI : Hid (L.In w (Lo w.heap.size) al 0) := hL
  have hsA : Sp.subA a b = (false, 70) := by unfold Sp.subA; rw [hcan]; rfl
  rw [hsA] at HS0
  clear hsA
  have HA0 : Hid ((loadVar 34 ⟨w.heap.size, 0, none⟩).run Try.prog W2 = .ok (.agg ca) W2) := HA.out W2 (Below.refl _ _)
  have HB0 : Hid ((loadVar 34 ⟨w.heap.size + 1, 0, none⟩).run Try.prog W2 = .ok (.agg cb) W2) := HB.out W2 (Below.refl _ _)
  subst hW2
  clear ha hb hL hcan hsa hsb hoa hob hbw hSm
  go_enter Try.func4, Try.ntmps4
  go_wp2_with (first | ((with_reducible refine ld_row ?_ ?_ HA0.out ?_); rfl; rfl) | ((with_reducible refine ld_row ?_ ?_ HB0.out ?_); rfl; rfl))
  refine HS0.out.mono ?_
  rintro e w1 ⟨rfl, hb1⟩
  have HB1 : Hid (Below (tb w ca cb).heap.size (tb w ca cb) w1) := hb1
  clear hb1
  go_wp2_with fail
  go_loopw [9] (fun i wr => ∃ (k : Nat) (r : TmL), i = .int .i64 (k : Int) ∧ k ≤ L.len ∧ Hid (r.len + k = L.len ∧ r.In w (Lo w.heap.size) al k ∧ Below (tb w ca cb).heap.size (tb w ca cb) wr)) (fun i _ => L.len - (intOf i).toNat)
  case atStart => exact ⟨0, L, rfl, Nat.zero_le _, ⟨by omega, HLI.out, HB1.out⟩⟩
  case round =>
    obtain ⟨k, r, rfl, hkl, HK⟩ := hrel
    cases r with
    | nil =>
      have hk' : L.len ≤ k := by have := HK.out.1; simp [TmL.len] at this; omega
      have HBR : Hid (Below (tb w ca cb).heap.size (tb w ca cb) wr) := HK.out.2.2
      clear HK
      go_wp2_with fail
      refine (HF.out _).mono ?_
      rintro e w9 ⟨rfl, hb9⟩
      have HB9 : Hid (Below (tb w ca cb).heap.size (tb w ca cb) w9) := below_to HBR.out hb9
      clear hb9
      go_wp2_with fail
      go_ret
      exact ⟨rfl, HLo.out _ HB9.out⟩
    | cons v r =>
      have hk1 : k < L.len := by have := HK.out.1; simp only [TmL.len] at this; omega
      have hi0 : (0 : Int) ≤ (k : Int) := Int.natCast_nonneg _
      have hi1 : (k : Int) < (L.len : Int) := by omega
      have hin := HK.out.2.1
      simp only [TmL.In] at hin
      obtain ⟨g, o, ct, rfl, hg, hc, hvi, hin'⟩ := hin
      have HBR : Hid (Below (tb w ca cb).heap.size (tb w ca cb) wr) := HK.out.2.2
      have HN : Hid (r.len + (k + 1) = L.len ∧ r.In w (Lo w.heap.size) (some ⟨g, o, none⟩) (k + 1)) := ⟨by have := HK.out.1; simp only [TmL.len] at this; omega, hin'⟩
      have HTL : Hid ((loadVar 29 ⟨g, o + k * 11, none⟩).run Try.prog wr = .ok (.agg ct) wr) := HTD.out g (o + k * 11) ct wr (Tm.In_size hvi) hg hc HBR.out
      have HBC : Hid (Calls Try.prog 7 #[.agg ct] wr fun e w' => ∃ x, e = .returned x ∧ Below wr.heap.size wr w' ∧ v.V w' (Fr wr w') x) := HBU.out v ct wr hvi HBR.out
      clear hg hc hvi hin' HK
      go_wp2_with ((with_reducible refine ld_row ?_ ?_ HTL.out ?_); rfl; rfl)
      refine HBC.out.mono ?_
      rintro e w3 ⟨x, rfl, hb3, hx⟩
      have HB3 : Hid (Below (tb w ca cb).heap.size (tb w ca cb) w3) := below_to HBR.out hb3
      have HX3 : Hid (v.V w3 (Lo w3.heap.size) x) := v.V_same (Same.refl _ _) (fun k hk => hk.2) x hx
      have HA3 : Hid ((loadVar 34 ⟨w.heap.size, 0, none⟩).run Try.prog w3 = .ok (.agg ca) w3) := HA.out w3 HB3.out
      have hxs := v.V_shape x hx
      clear hb3 hx
      rcases hxs with rfl | ⟨T0, y0, rfl⟩
      all_goals
        go_wp2_with ((with_reducible refine ld_row ?_ ?_ HA3.out ?_); rfl; rfl)
        refine (HIA.out v _ w3 HX3.out HB3.out).mono ?_
        rintro e w4 ⟨rfl, hb4⟩
        have HB4 : Hid (Below (tb w ca cb).heap.size (tb w ca cb) w4) := below_to HB3.out hb4
        have HX4 := v.V_same (Same.of_below hb4 (Nat.le_refl _)) (fun k (hk : k < w3.heap.size) => Nat.lt_of_lt_of_le hk hb4.size) _ HX3.out
        have HI4 := HIB.out v _ w4 HX4 HB4.out
        have HBB4 : Hid ((loadVar 34 ⟨w.heap.size + 1, 0, none⟩).run Try.prog w4 = .ok (.agg cb) w4) := HB.out w4 HB4.out
        have hide : Hid _ := HI4
        clear hb4 HX4 HI4
        go_wp2_with ((with_reducible refine ld_row ?_ ?_ HBB4.out ?_); rfl; rfl)
        refine (show Calls _ _ _ _ _ from hide.out).mono ?_
        rintro e w5 ⟨rfl, hb5⟩
        have HB5 : Hid (Below (tb w ca cb).heap.size (tb w ca cb) w5) := below_to HB4.out hb5
        clear hb5 hide
        go_wp2_with fail
        go_roundw
        case rel => exact ⟨k + 1, r, by go_num, by omega, ⟨HN.out.1, HN.out.2, HB5.out⟩⟩
        case measure => simp [intOf]; omega

set_option maxRecDepth 100000 in
set_option maxHeartbeats 4000000 in
theorem CheckSound_yes (a b : Ty) (ca cb : Array Value) (L : TmL) (al : Option Addr) (cl : Nat) (w : World) (ha : a.In w (Lo w.heap.size) ca) (hb : b.In w (Lo w.heap.size) cb) (hL : L.In w (Lo w.heap.size) al 0) (hlen : L.len ≤ 70368744177664) (hcan : (a.can && b.can) = true) :
    Calls Try.prog 4 #[.agg ca, .agg cb, .slice al L.len cl] w fun e w' => e = .returned (.bool true) ∧ Below w.heap.size w w' := by
  obtain ⟨hsa, hoa⟩ := Ty.In_cells ha
  obtain ⟨hsb, hob⟩ := Ty.In_cells hb
  obtain ⟨W2, hW2⟩ : ∃ W2, tb w ca cb = W2 := ⟨_, rfl⟩
  have hbw : Below w.heap.size w W2 := hW2 ▸ tb_below ca cb w
  have HLo : Hid (∀ W, Below W2.heap.size W2 W → Below w.heap.size w W) := fun W hW => below_to hbw hW
  have HA : Hid (∀ W, Below W2.heap.size W2 W → (loadVar 34 ⟨w.heap.size, 0, none⟩).run Try.prog W = .ok (.agg ca) W) := fun W hW => by subst hW2; exact tb_a ca cb w W hsa hW
  have HB : Hid (∀ W, Below W2.heap.size W2 W → (loadVar 34 ⟨w.heap.size + 1, 0, none⟩).run Try.prog W = .ok (.agg cb) W) := fun W hW => by subst hW2; have := tb_b ca cb w W hsb hW; simpa using this
  have hSm : ∀ W, Below W2.heap.size W2 W → Same (Lo w.heap.size) w W := fun W hW => Same.of_below (HLo.out W hW) (Nat.le_refl _)
  have HAI : Hid (∀ W, Below W2.heap.size W2 W → a.In W (Lo w.heap.size) ca ∧ b.In W (Lo w.heap.size) cb ∧ w.heap.size ≤ W.heap.size) := fun W hW => ⟨a.In_same (hSm W hW) (fun _ h => h) ca ha, b.In_same (hSm W hW) (fun _ h => h) cb hb, (HLo.out W hW).size⟩
  have HS0 : Hid (Calls Try.prog 12 #[.agg ca, .agg cb] W2 fun e w' => e = .returned (.tuple #[.bool (Sp.subA a b).1, .int .i64 (Sp.subA a b).2]) ∧ Below W2.heap.size W2 w') :=
    Sub_any a b ca cb w.heap.size W2 hbw.size (HAI.out W2 (Below.refl _ _)).1 (HAI.out W2 (Below.refl _ _)).2.1
  have HBU : Hid (∀ (v : Tm) (ct : Array Value) (W : World), v.In w (Lo w.heap.size) ct → Below W2.heap.size W2 W → Calls Try.prog 7 #[.agg ct] W fun e w' => ∃ x, e = .returned x ∧ Below W.heap.size W w' ∧ v.V w' (Fr W w') x) := fun v ct W hv hW =>
    built_any v.sz v (Nat.le_refl _) ct (Lo w.heap.size) W (v.In_same (hSm W hW) (fun _ h => h) ct hv) (Sub.lo (HLo.out W hW).size)
  have HIA : Hid (∀ (v : Tm) (x : Value) (W : World), v.V W (Lo W.heap.size) x → Below W2.heap.size W2 W → Calls Try.prog 8 #[x, .agg ca] W fun e w' => e = .returned (.tuple #[.bool (Sp.isA v a).1, .int .i64 (Sp.isA v a).2.1, .int .i64 (Sp.isA v a).2.2]) ∧ Below W.heap.size W w') := fun v x W hv hW =>
    Is_all v x a ca W.heap.size W (Nat.le_refl _) hv (a.In_same (Same.refl _ _) (fun k hk => Nat.lt_of_lt_of_le hk (HAI.out W hW).2.2) ca (HAI.out W hW).1)
  have HIB : Hid (∀ (v : Tm) (x : Value) (W : World), v.V W (Lo W.heap.size) x → Below W2.heap.size W2 W → Calls Try.prog 8 #[x, .agg cb] W fun e w' => e = .returned (.tuple #[.bool (Sp.isA v b).1, .int .i64 (Sp.isA v b).2.1, .int .i64 (Sp.isA v b).2.2]) ∧ Below W.heap.size W w') := fun v x W hv hW =>
    Is_all v x b cb W.heap.size W (Nat.le_refl _) hv (b.In_same (Same.refl _ _) (fun k hk => Nat.lt_of_lt_of_le hk (HAI.out W hW).2.2) cb (HAI.out W hW).2.1)
  have HTD : Hid (∀ (g q : Nat) (ct : Array Value) (W : World), ct.size = 11 → g < w.heap.size → (∀ x, x < 11 → w.cell? ⟨g, q + x, none⟩ = ct[x]?) → Below W2.heap.size W2 W → (loadVar 29 ⟨g, q, none⟩).run Try.prog W = .ok (.agg ct) W) := fun g q ct W hs hg hc hW =>
    yldT hs (fun x hx => by rw [(HLo.out W hW).cell (p := ⟨g, q + x, none⟩) hg]; exact hc x hx)
  have HF : Hid (∀ W, Calls Try.prog 12 #[.agg ocells, .agg ncells] W fun e w' => e = .returned (.tuple #[.bool true, .int .i64 0]) ∧ Below W.heap.size W w') := sub_nil
  have HLI : Hid (L.In w (Lo w.heap.size) al 0) := hL
  obtain ⟨hc, hd⟩ := Bool.and_eq_true_iff.1 hcan
  obtain ⟨oa, -, -⟩ := Ty.can_ok hc
  obtain ⟨ob, -, -⟩ := Ty.can_ok hd
  have hsA : Sp.subA a b = (a.sub b, 0) := by unfold Sp.subA; rw [hcan]; rfl
  rw [hsA] at HS0
  have HQ : Hid (∀ v : Tm, (v.all.e ≠ 0 ∧ Sp.isA v a = (false, 0, v.all.e)) ∨ ∃ p q i j, Sp.isA v a = (p, i, 0) ∧ Sp.isA v b = (q, j, 0) ∧ (a.sub b = false ∨ p = false ∨ q = true)) := fun v => by
    by_cases he : v.all.e = 0
    · refine .inr ⟨(a.has v).1, (b.has v).1, (a.has v).2, (b.has v).2, ?_, ?_, ?_⟩
      · unfold Sp.isA; rw [if_neg (by simp [he]), if_neg (by simp [hc])]
      · unfold Sp.isA; rw [if_neg (by simp [he]), if_neg (by simp [hd])]
      · cases h1 : a.sub b with
        | false => exact .inl rfl
        | true =>
          cases h2 : (a.has v).1 with
          | false => exact .inr (.inl rfl)
          | true => exact .inr (.inr (a.sub_snd b oa ob h1 v he h2))
    · exact .inl ⟨he, by unfold Sp.isA; rw [if_pos he]⟩
  have HAA : Hid (∀ W, Below W2.heap.size W2 W → Calls Try.prog 12 #[.agg ca, .agg ca] W fun e w' => e = .returned (.tuple #[.bool true, .int .i64 0]) ∧ Below W.heap.size W w') := fun W hW => by
    have := Sub_any a a ca ca w.heap.size W (HAI.out W hW).2.2 (HAI.out W hW).1 (HAI.out W hW).1
    rw [Sp.subA_refl hc] at this; exact this
  have HBB : Hid (∀ W, Below W2.heap.size W2 W → Calls Try.prog 12 #[.agg cb, .agg cb] W fun e w' => e = .returned (.tuple #[.bool true, .int .i64 0]) ∧ Below W.heap.size W w') := fun W hW => by
    have := Sub_any b b cb cb w.heap.size W (HAI.out W hW).2.2 (HAI.out W hW).2.1 (HAI.out W hW).2.1
    rw [Sp.subA_refl hd] at this; exact this
  have HYB : Hid (∀ W : World, (Instr.buildSlice 30 2 #[(0, .agg ca), (1, .agg cb)]).run Try.prog W = .ok (.slice (some ⟨W.heap.size, 0, none⟩) 2 2) (W.alloc (.cells (both ca cb) 34))) := fun W => ybs W hsa hsb
  have HYa : Hid (∀ W : World, (loadVar 34 ⟨W.heap.size, 0, none⟩).run Try.prog (W.alloc (.cells (both ca cb) 34)) = .ok (.agg ca) (W.alloc (.cells (both ca cb) 34))) := fun W => yboth_a W hsa
  have HYb : Hid (∀ W : World, (loadVar 34 ⟨W.heap.size, 18, none⟩).run Try.prog (W.alloc (.cells (both ca cb) 34)) = .ok (.agg cb) (W.alloc (.cells (both ca cb) 34))) := fun W => yboth_b W hsa hsb
  have HSa : Hid (∀ (W : World) (c : Array Value), c.size = 18 → (storeVar 34 ⟨W.heap.size, 0, none⟩ (.agg ca)).run Try.prog (W.alloc (.cells c 34)) = .ok () (W.alloc (.cells ca 34))) := fun W c h => yst h hsa hoa
  have HSb : Hid (∀ (W : World) (c : Array Value), c.size = 18 → (storeVar 34 ⟨W.heap.size, 0, none⟩ (.agg cb)).run Try.prog (W.alloc (.cells c 34)) = .ok () (W.alloc (.cells cb 34))) := fun W c h => yst h hsb hob
  have HLa : Hid (∀ W : World, (loadVar 34 ⟨W.heap.size, 0, none⟩).run Try.prog (W.alloc (.cells ca 34)) = .ok (.agg ca) (W.alloc (.cells ca 34))) := fun W => yld hsa (heap_alloc_new W _)
  have HLb : Hid (∀ W : World, (loadVar 34 ⟨W.heap.size, 0, none⟩).run Try.prog (W.alloc (.cells cb 34)) = .ok (.agg cb) (W.alloc (.cells cb 34))) := fun W => yld hsb (heap_alloc_new W _)
  clear hsA hc hd oa ob
  generalize a.sub b = s at *
  have HA0 : Hid ((loadVar 34 ⟨w.heap.size, 0, none⟩).run Try.prog W2 = .ok (.agg ca) W2) := HA.out W2 (Below.refl _ _)
  have HB0 : Hid ((loadVar 34 ⟨w.heap.size + 1, 0, none⟩).run Try.prog W2 = .ok (.agg cb) W2) := HB.out W2 (Below.refl _ _)
  subst hW2
  clear ha hb hL hcan hsa hsb hoa hob hbw hSm
  go_enter Try.func4, Try.ntmps4
  go_wp2_with (first | ((with_reducible refine ld_row ?_ ?_ HA0.out ?_); rfl; rfl) | ((with_reducible refine ld_row ?_ ?_ HB0.out ?_); rfl; rfl))
  refine HS0.out.mono ?_
  rintro e w1 ⟨rfl, hb1⟩
  have HB1 : Hid (Below (tb w ca cb).heap.size (tb w ca cb) w1) := hb1
  clear hb1
  go_wp2_with fail
  go_loopw [9] (fun i wr => ∃ (k : Nat) (r : TmL), i = .int .i64 (k : Int) ∧ k ≤ L.len ∧ Hid (r.len + k = L.len ∧ r.In w (Lo w.heap.size) al k ∧ Below (tb w ca cb).heap.size (tb w ca cb) wr)) (fun i _ => L.len - (intOf i).toNat)
  case atStart => exact ⟨0, L, rfl, Nat.zero_le _, ⟨by omega, HLI.out, HB1.out⟩⟩
  case round =>
    obtain ⟨k, r, rfl, hkl, HK⟩ := hrel
    cases r with
    | nil =>
      have hk' : L.len ≤ k := by have := HK.out.1; simp [TmL.len] at this; omega
      have HBR : Hid (Below (tb w ca cb).heap.size (tb w ca cb) wr) := HK.out.2.2
      clear HK
      go_wp2_with fail
      have hdec : decide (k < L.len) = false := by simp; omega
      try simp only [hdec]
      clear hk' hdec
      go_loopw [17] (fun i wr => ∃ j : Nat, i = .int .i64 (j : Int) ∧ j ≤ 2 ∧ Hid (Below (tb w ca cb).heap.size (tb w ca cb) wr)) (fun i _ => 2 - (intOf i).toNat)
      case atStart => exact ⟨0, rfl, by omega, HBR.out⟩
      case round =>
        obtain ⟨j, rfl, hj, HBQ⟩ := hrel
        obtain rfl | rfl | rfl : j = 0 ∨ j = 1 ∨ j = 2 := by omega
        · clear hj
          have HAR : Hid ((loadVar 34 ⟨w.heap.size, 0, none⟩).run Try.prog wr = .ok (.agg ca) wr) := HA.out wr HBQ.out
          have HBRq : Hid ((loadVar 34 ⟨w.heap.size + 1, 0, none⟩).run Try.prog wr = .ok (.agg cb) wr) := HB.out wr HBQ.out
          have HY0 := HYB.out wr
          have HE0 := HYa.out wr
          obtain ⟨Wb, hWb⟩ : ∃ Wb, wr.alloc (.cells (both ca cb) 34) = Wb := ⟨_, rfl⟩
          have HBW : Hid (Below wr.heap.size wr Wb) := hWb ▸ ((Below.refl _ _).alloc (Nat.le_refl _) _)
          rw [hWb] at HY0 HE0
          have HY : Hid ((Instr.buildSlice 30 2 #[(0, .agg ca), (1, .agg cb)]).run Try.prog wr = .ok (.slice (some ⟨wr.heap.size, 0, none⟩) 2 2) Wb) := HY0
          have HE : Hid ((loadVar 34 ⟨wr.heap.size, 0, none⟩).run Try.prog Wb = .ok (.agg ca) Wb) := HE0
          have HSS : Hid (∀ c : Array Value, c.size = 18 → (storeVar 34 ⟨Wb.heap.size, 0, none⟩ (.agg ca)).run Try.prog (Wb.alloc (.cells c 34)) = .ok () (Wb.alloc (.cells ca 34))) := HSa.out Wb
          have HLL : Hid ((loadVar 34 ⟨Wb.heap.size, 0, none⟩).run Try.prog (Wb.alloc (.cells ca 34)) = .ok (.agg ca) (Wb.alloc (.cells ca 34))) := HLa.out Wb
          have HBV : Hid (Below (tb w ca cb).heap.size (tb w ca cb) (Wb.alloc (.cells ca 34))) := below_to (below_to HBQ.out HBW.out) ((Below.refl _ _).alloc (Nat.le_refl _) _)
          clear HY0 HE0 hWb
          go_wp2_with (first | ((with_reducible refine ld_row ?_ ?_ HAR.out ?_); rfl; rfl) | ((with_reducible refine ld_row ?_ ?_ HBRq.out ?_); rfl; rfl) | ((with_reducible refine bs_row ?_ ?_ HY.out ?_); rfl; rfl) | ((with_reducible refine ld_row ?_ ?_ HE.out ?_); rfl; rfl) | ((with_reducible refine st_row ?_ ?_ ?_ (HSS.out _ ?_) ?_); rfl; rfl; rfl; rfl) | ((with_reducible refine ld_row ?_ ?_ HLL.out ?_); rfl; rfl))
          refine (HAA.out _ HBV.out).mono ?_
          rintro e w8 ⟨rfl, hb8⟩
          have HB8 : Hid (Below (tb w ca cb).heap.size (tb w ca cb) w8) := below_to HBV.out hb8
          clear hb8
          go_wp2_with fail
          go_roundw
          case rel => exact ⟨1, rfl, by omega, HB8.out⟩
          case measure => simp [intOf]
        · clear hj
          have HAR : Hid ((loadVar 34 ⟨w.heap.size, 0, none⟩).run Try.prog wr = .ok (.agg ca) wr) := HA.out wr HBQ.out
          have HBRq : Hid ((loadVar 34 ⟨w.heap.size + 1, 0, none⟩).run Try.prog wr = .ok (.agg cb) wr) := HB.out wr HBQ.out
          have HY0 := HYB.out wr
          have HE0 := HYb.out wr
          obtain ⟨Wb, hWb⟩ : ∃ Wb, wr.alloc (.cells (both ca cb) 34) = Wb := ⟨_, rfl⟩
          have HBW : Hid (Below wr.heap.size wr Wb) := hWb ▸ ((Below.refl _ _).alloc (Nat.le_refl _) _)
          rw [hWb] at HY0 HE0
          have HY : Hid ((Instr.buildSlice 30 2 #[(0, .agg ca), (1, .agg cb)]).run Try.prog wr = .ok (.slice (some ⟨wr.heap.size, 0, none⟩) 2 2) Wb) := HY0
          have HE : Hid ((loadVar 34 ⟨wr.heap.size, 18, none⟩).run Try.prog Wb = .ok (.agg cb) Wb) := HE0
          have HSS : Hid (∀ c : Array Value, c.size = 18 → (storeVar 34 ⟨Wb.heap.size, 0, none⟩ (.agg cb)).run Try.prog (Wb.alloc (.cells c 34)) = .ok () (Wb.alloc (.cells cb 34))) := HSb.out Wb
          have HLL : Hid ((loadVar 34 ⟨Wb.heap.size, 0, none⟩).run Try.prog (Wb.alloc (.cells cb 34)) = .ok (.agg cb) (Wb.alloc (.cells cb 34))) := HLb.out Wb
          have HBV : Hid (Below (tb w ca cb).heap.size (tb w ca cb) (Wb.alloc (.cells cb 34))) := below_to (below_to HBQ.out HBW.out) ((Below.refl _ _).alloc (Nat.le_refl _) _)
          clear HY0 HE0 hWb
          go_wp2_with (first | ((with_reducible refine ld_row ?_ ?_ HAR.out ?_); rfl; rfl) | ((with_reducible refine ld_row ?_ ?_ HBRq.out ?_); rfl; rfl) | ((with_reducible refine bs_row ?_ ?_ HY.out ?_); rfl; rfl) | ((with_reducible refine ld_row ?_ ?_ HE.out ?_); rfl; rfl) | ((with_reducible refine st_row ?_ ?_ ?_ (HSS.out _ ?_) ?_); rfl; rfl; rfl; rfl) | ((with_reducible refine ld_row ?_ ?_ HLL.out ?_); rfl; rfl))
          refine (HBB.out _ HBV.out).mono ?_
          rintro e w8 ⟨rfl, hb8⟩
          have HB8 : Hid (Below (tb w ca cb).heap.size (tb w ca cb) w8) := below_to HBV.out hb8
          clear hb8
          go_wp2_with fail
          go_roundw
          case rel => exact ⟨2, rfl, by omega, HB8.out⟩
          case measure => simp [intOf]
        · clear hj
          go_wp2_with fail
          refine (HF.out _).mono ?_
          rintro e w9 ⟨rfl, hb9⟩
          have HB9 : Hid (Below (tb w ca cb).heap.size (tb w ca cb) w9) := below_to HBQ.out hb9
          clear hb9
          go_wp2_with fail
          go_ret
          exact ⟨rfl, HLo.out _ HB9.out⟩
    | cons v r =>
      have hk1 : k < L.len := by have := HK.out.1; simp only [TmL.len] at this; omega
      have hi0 : (0 : Int) ≤ (k : Int) := Int.natCast_nonneg _
      have hi1 : (k : Int) < (L.len : Int) := by omega
      have hin := HK.out.2.1
      simp only [TmL.In] at hin
      obtain ⟨g, o, ct, rfl, hg, hc, hvi, hin'⟩ := hin
      have HBR : Hid (Below (tb w ca cb).heap.size (tb w ca cb) wr) := HK.out.2.2
      have HN : Hid (r.len + (k + 1) = L.len ∧ r.In w (Lo w.heap.size) (some ⟨g, o, none⟩) (k + 1)) := ⟨by have := HK.out.1; simp only [TmL.len] at this; omega, hin'⟩
      have HTL : Hid ((loadVar 29 ⟨g, o + k * 11, none⟩).run Try.prog wr = .ok (.agg ct) wr) := HTD.out g (o + k * 11) ct wr (Tm.In_size hvi) hg hc HBR.out
      have HBC : Hid (Calls Try.prog 7 #[.agg ct] wr fun e w' => ∃ x, e = .returned x ∧ Below wr.heap.size wr w' ∧ v.V w' (Fr wr w') x) := HBU.out v ct wr hvi HBR.out
      clear hg hc hvi hin' HK
      go_wp2_with ((with_reducible refine ld_row ?_ ?_ HTL.out ?_); rfl; rfl)
      refine HBC.out.mono ?_
      rintro e w3 ⟨x, rfl, hb3, hx⟩
      have HB3 : Hid (Below (tb w ca cb).heap.size (tb w ca cb) w3) := below_to HBR.out hb3
      have HX3 : Hid (v.V w3 (Lo w3.heap.size) x) := v.V_same (Same.refl _ _) (fun k hk => hk.2) x hx
      have HA3 : Hid ((loadVar 34 ⟨w.heap.size, 0, none⟩).run Try.prog w3 = .ok (.agg ca) w3) := HA.out w3 HB3.out
      have hxs := v.V_shape x hx
      clear hb3 hx
      rcases hxs with rfl | ⟨T0, y0, rfl⟩
      all_goals
        go_wp2_with ((with_reducible refine ld_row ?_ ?_ HA3.out ?_); rfl; rfl)
        refine (HIA.out v _ w3 HX3.out HB3.out).mono ?_
        rintro e w4 ⟨rfl, hb4⟩
        have HB4 : Hid (Below (tb w ca cb).heap.size (tb w ca cb) w4) := below_to HB3.out hb4
        have HX4 := v.V_same (Same.of_below hb4 (Nat.le_refl _)) (fun k (hk : k < w3.heap.size) => Nat.lt_of_lt_of_le hk hb4.size) _ HX3.out
        have HI4 := HIB.out v _ w4 HX4 HB4.out
        have HBB4 : Hid ((loadVar 34 ⟨w.heap.size + 1, 0, none⟩).run Try.prog w4 = .ok (.agg cb) w4) := HB.out w4 HB4.out
        have hide : Hid _ := HI4
        clear hb4 HX4 HI4
        go_wp2_with ((with_reducible refine ld_row ?_ ?_ HBB4.out ?_); rfl; rfl)
        refine (show Calls _ _ _ _ _ from hide.out).mono ?_
        rintro e w5 ⟨rfl, hb5⟩
        have HB5 : Hid (Below (tb w ca cb).heap.size (tb w ca cb) w5) := below_to HB4.out hb5
        clear hb5 hide
        rcases HQ.out v with ⟨hne, he⟩ | ⟨p, q, i0, j0, h1, h2, h3⟩
        · rw [he]
          have hne' : (v.all.e == 0) = false := by simp [hne]
          generalize Sp.isA v b = rb at *
          generalize v.all.e = ev at *
          clear he
          go_wp2_with fail
          go_roundw
          case rel => exact ⟨k + 1, r, by go_num, by omega, ⟨HN.out.1, HN.out.2, HB5.out⟩⟩
          case measure => simp [intOf]; omega
        · rw [h1, h2]
          clear h1 h2
          cases s <;> cases p <;> cases q <;> first | (exfalso; simp at h3; done) | skip
          all_goals
            clear h3
            go_wp2_with fail
            go_roundw
            case rel => exact ⟨k + 1, r, by go_num, by omega, ⟨HN.out.1, HN.out.2, HB5.out⟩⟩
            case measure => simp [intOf]; omega

end Go.Proofs.Ytkmlpdehibameaa


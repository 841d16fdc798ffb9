/- wrap.parts.filledBy, partsOf. -/
import Derived.Test.YtcelbkkgjnfblaaR7
import Derived.Deep.DeepCutAuto
import Derived.Test.YtcelbkkgjnfblaaR5
import Derived.Deep.WholeRow
import Derived.Deep.MidRow
namespace Go.Proofs.Ytcelbkkgjnfblaa
open Go.RowKit

theorem pto_none : pto none = .nilIface := rfl
theorem pdo_none : pdo none = .nilFunc := rfl
theorem pto_some (g : Go) : pto (some g) = .iface g.T g.v := rfl
theorem pdo_some (g : Go) : pdo (some g) = .func (.func g.f) g.fs g.cs := rfl
/-- whether a part is filled -/
def fwB (b : Bool) (x : Option Go) : Bool := match x with
  | some _ => false
  | none => b

set_option maxRecDepth 100000 in
set_option maxHeartbeats 4000000 in
theorem filledBy_w (p g : Go) (b0 b1 b2 b3 : Bool) (x0 x1 x2 x3 r0 r1 r2 r3 : Option Go) (F0 : Hid (Fw g b0 x0 r0)) (F1 : Hid (Fw g b1 x1 r1)) (F2 : Hid (Fw g b2 x2 r2)) (F3 : Hid (Fw g b3 x3 r3)) (w : World)
    (H0 : Hid (∀ W, Calls Try.prog 42 #[.iface g.T g.v] W fun e w' => e = .returned (.tuple #[if b0 then .iface g.T g.v else .nilIface, .bool b0]) ∧ W = w'))
    (H1 : Hid (∀ W, Calls Try.prog 43 #[.iface g.T g.v] W fun e w' => e = .returned (.tuple #[if b1 then .iface g.T g.v else .nilIface, .bool b1]) ∧ W = w'))
    (H2 : Hid (∀ W, Calls Try.prog 44 #[.iface g.T g.v] W fun e w' => e = .returned (.tuple #[if b2 then .iface g.T g.v else .nilIface, .bool b2]) ∧ W = w'))
    (H3 : Hid (∀ W, Calls Try.prog 45 #[.iface g.T g.v] W fun e w' => e = .returned (.tuple #[if b3 then .iface g.T g.v else .nilIface, .bool b3]) ∧ W = w')) :
    Calls Try.prog 46 #[.agg (pcs p x0 x1 x2 x3), g.to, g.does] w fun e w' => e = .returned (.agg (pcs p r0 r1 r2 r3)) ∧ Below w.heap.size w w' := by
  have q0 := eqn_v
  have z0 := eqg_v
  have q1 := eqn_i
  have z1 := eqg_i
  have q2 := eqn_o
  have z2 := eqg_o
  have q3 := eqn_l
  have z3 := eqg_l
  generalize hX0 : (if b0 then Value.iface g.T g.v else Value.nilIface) = X0 at H0
  replace hX0 : Hid (_ = _) := hX0
  generalize hX1 : (if b1 then Value.iface g.T g.v else Value.nilIface) = X1 at H1
  replace hX1 : Hid (_ = _) := hX1
  generalize hX2 : (if b2 then Value.iface g.T g.v else Value.nilIface) = X2 at H2
  replace hX2 : Hid (_ = _) := hX2
  generalize hX3 : (if b3 then Value.iface g.T g.v else Value.nilIface) = X3 at H3
  replace hX3 : Hid (_ = _) := hX3
  unfold Go.to Go.does
  go_enter Try.func46, Try.ntmps46
  go_upto_region 2 with (go_at_call 42; refine (H0.out _).mono ?_; rintro e w' ⟨rfl, rfl⟩)
  go_cut [26] (fun s wx => s = .bool (fwB b0 x0) ∧ wx = ((w.alloc (.cells (pcs p x0 x1 x2 x3) 126)).alloc (.cells #[.nilIface, .nilFunc, .nilIface, .nilFunc, .nilIface, .nilFunc, .nilIface, .nilFunc, .nilIface, .nilFunc] 126)))
  case first =>
    clear H0 H1 H2 H3
    cases F0.out with
    | no => simp only [pcs, pto_none, pdo_none, Go.to, Go.does]; go_wp2_with fail; go_meet; exact ⟨rfl, rfl⟩
    | yes => simp only [pcs, pto_none, pdo_none, Go.to, Go.does]; go_wp2_with fail; go_meet; exact ⟨rfl, rfl⟩
    | had _ y => simp only [pcs, pto_some, pdo_some, Go.to, Go.does]; cases b0 <;> (go_wp2_with fail; go_meet; exact ⟨rfl, rfl⟩)
  case rest =>
  obtain ⟨rfl, rfl⟩ := hcut
  go_upto_if 26 with fail
  go_cut [] (fun wx => wx = ((w.alloc (.cells (pcs p r0 x1 x2 x3) 126)).alloc (.cells #[.nilIface, .nilFunc, .nilIface, .nilFunc, .nilIface, .nilFunc, .nilIface, .nilFunc, .nilIface, .nilFunc] 126)))
  case first =>
    clear H0 H1 H2 H3
    cases F0.out with
    | no => simp only [fwB]; go_wp2_with fail; go_meet; rfl
    | yes => obtain rfl := hX0.out; simp only [fwB, if_true]; simp only [pcs, pto_none, pdo_none, Go.to, Go.does]; go_wp2_with fail; go_meet; rfl
    | had _ y => simp only [fwB]; go_wp2_with fail; go_meet; rfl
  case rest =>
  obtain rfl := hcut
  clear F0 H0 q0 z0 hX0
  go_upto_region 5 with (go_at_call 43; refine (H1.out _).mono ?_; rintro e w' ⟨rfl, rfl⟩)
  go_cut [42] (fun s wx => s = .bool (fwB b1 x1) ∧ wx = ((w.alloc (.cells (pcs p r0 x1 x2 x3) 126)).alloc (.cells #[.nilIface, .nilFunc, .nilIface, .nilFunc, .nilIface, .nilFunc, .nilIface, .nilFunc, .nilIface, .nilFunc] 126)))
  case first =>
    clear H1 H2 H3
    cases F1.out with
    | no => simp only [pcs, pto_none, pdo_none, Go.to, Go.does]; go_wp2_with fail; go_meet; exact ⟨rfl, rfl⟩
    | yes => simp only [pcs, pto_none, pdo_none, Go.to, Go.does]; go_wp2_with fail; go_meet; exact ⟨rfl, rfl⟩
    | had _ y => simp only [pcs, pto_some, pdo_some, Go.to, Go.does]; cases b1 <;> (go_wp2_with fail; go_meet; exact ⟨rfl, rfl⟩)
  case rest =>
  obtain ⟨rfl, rfl⟩ := hcut
  go_upto_if 42 with fail
  go_cut [] (fun wx => wx = ((w.alloc (.cells (pcs p r0 r1 x2 x3) 126)).alloc (.cells #[.nilIface, .nilFunc, .nilIface, .nilFunc, .nilIface, .nilFunc, .nilIface, .nilFunc, .nilIface, .nilFunc] 126)))
  case first =>
    clear H1 H2 H3
    cases F1.out with
    | no => simp only [fwB]; go_wp2_with fail; go_meet; rfl
    | yes => obtain rfl := hX1.out; simp only [fwB, if_true]; simp only [pcs, pto_none, pdo_none, Go.to, Go.does]; go_wp2_with fail; go_meet; rfl
    | had _ y => simp only [fwB]; go_wp2_with fail; go_meet; rfl
  case rest =>
  obtain rfl := hcut
  clear F1 H1 q1 z1 hX1
  go_upto_region 8 with (go_at_call 44; refine (H2.out _).mono ?_; rintro e w' ⟨rfl, rfl⟩)
  go_cut [58] (fun s wx => s = .bool (fwB b2 x2) ∧ wx = ((w.alloc (.cells (pcs p r0 r1 x2 x3) 126)).alloc (.cells #[.nilIface, .nilFunc, .nilIface, .nilFunc, .nilIface, .nilFunc, .nilIface, .nilFunc, .nilIface, .nilFunc] 126)))
  case first =>
    clear H2 H3
    cases F2.out with
    | no => simp only [pcs, pto_none, pdo_none, Go.to, Go.does]; go_wp2_with fail; go_meet; exact ⟨rfl, rfl⟩
    | yes => simp only [pcs, pto_none, pdo_none, Go.to, Go.does]; go_wp2_with fail; go_meet; exact ⟨rfl, rfl⟩
    | had _ y => simp only [pcs, pto_some, pdo_some, Go.to, Go.does]; cases b2 <;> (go_wp2_with fail; go_meet; exact ⟨rfl, rfl⟩)
  case rest =>
  obtain ⟨rfl, rfl⟩ := hcut
  go_upto_if 58 with fail
  go_cut [] (fun wx => wx = ((w.alloc (.cells (pcs p r0 r1 r2 x3) 126)).alloc (.cells #[.nilIface, .nilFunc, .nilIface, .nilFunc, .nilIface, .nilFunc, .nilIface, .nilFunc, .nilIface, .nilFunc] 126)))
  case first =>
    clear H2 H3
    cases F2.out with
    | no => simp only [fwB]; go_wp2_with fail; go_meet; rfl
    | yes => obtain rfl := hX2.out; simp only [fwB, if_true]; simp only [pcs, pto_none, pdo_none, Go.to, Go.does]; go_wp2_with fail; go_meet; rfl
    | had _ y => simp only [fwB]; go_wp2_with fail; go_meet; rfl
  case rest =>
  obtain rfl := hcut
  clear F2 H2 q2 z2 hX2
  go_upto_region 11 with (go_at_call 45; refine (H3.out _).mono ?_; rintro e w' ⟨rfl, rfl⟩)
  go_cut [74] (fun s wx => s = .bool (fwB b3 x3) ∧ wx = ((w.alloc (.cells (pcs p r0 r1 r2 x3) 126)).alloc (.cells #[.nilIface, .nilFunc, .nilIface, .nilFunc, .nilIface, .nilFunc, .nilIface, .nilFunc, .nilIface, .nilFunc] 126)))
  case first =>
    clear H3
    cases F3.out with
    | no => simp only [pcs, pto_none, pdo_none, Go.to, Go.does]; go_wp2_with fail; go_meet; exact ⟨rfl, rfl⟩
    | yes => simp only [pcs, pto_none, pdo_none, Go.to, Go.does]; go_wp2_with fail; go_meet; exact ⟨rfl, rfl⟩
    | had _ y => simp only [pcs, pto_some, pdo_some, Go.to, Go.does]; cases b3 <;> (go_wp2_with fail; go_meet; exact ⟨rfl, rfl⟩)
  case rest =>
  obtain ⟨rfl, rfl⟩ := hcut
  go_upto_if 74 with fail
  go_cut [] (fun wx => wx = ((w.alloc (.cells (pcs p r0 r1 r2 r3) 126)).alloc (.cells #[.nilIface, .nilFunc, .nilIface, .nilFunc, .nilIface, .nilFunc, .nilIface, .nilFunc, .nilIface, .nilFunc] 126)))
  case first =>
    clear H3
    cases F3.out with
    | no => simp only [fwB]; go_wp2_with fail; go_meet; rfl
    | yes => obtain rfl := hX3.out; simp only [fwB, if_true]; simp only [pcs, pto_none, pdo_none, Go.to, Go.does]; go_wp2_with fail; go_meet; rfl
    | had _ y => simp only [fwB]; go_wp2_with fail; go_meet; rfl
  case rest =>
  obtain rfl := hcut
  clear F3 H3 q3 z3 hX3
  cases r0 <;> cases r1 <;> cases r2 <;> cases r3 <;> (
    simp only [pcs, pto_none, pdo_none, pto_some, pdo_some, Go.to, Go.does]
    go_wp2_with fail
    refine bodyPost_ret (by simp [results, Try.results46, go_sem] <;> rfl) rfl ?_
    exact ⟨rfl, ((Below.refl _ _).alloc (Nat.le_refl _) _).alloc (by simp) _⟩)
end Go.Proofs.Ytcelbkkgjnfblaa

/- Many cells loaded and stored in one step. -/
namespace Go.Proofs.Ytcelbkkgjnfblaa
open Go.RowKit

theorem ldr {P : Program} {ops : Array Oper} {rest : List Oper} {Q : Exit → Act → World → Prop} {a : Act} {w : World} {d : Option Tmp} {ty T : TypeId} {x : Operand} {ps : String} {af : Array Edge} {gd : Option (Nat × Bool)} {p : Addr} {v : Value}
    (hw : Region.wanted (Oper.mk d (.load ty x) T ps af gd) (yielded ops a.tmps) = true) (hx : a.eval x = .pointer (some p)) (hl : (loadVar ty p).run P w = .ok v w)
    (h : wpList P ops Q rest (a.put d v) w) : wpList P ops Q (Oper.mk d (.load ty x) T ps af gd :: rest) a w := by
  rw [wpList, if_pos hw]
  refine .inl ?_
  unfold Oper.wp execOp
  simp only [hx, Instr.loadAt, Instr.sureAddr, Sem.run_bind, Sem.run_pure, Result.andThen_ok, hl]
  exact h
theorem str {P : Program} {ops : Array Oper} {rest : List Oper} {Q : Exit → Act → World → Prop} {a : Act} {w w' : World} {d : Option Tmp} {ty T : TypeId} {x y : Operand} {ps : String} {af : Array Edge} {gd : Option (Nat × Bool)} {p : Addr} {v : Value}
    (hw : Region.wanted (Oper.mk d (.store ty x y) T ps af gd) (yielded ops a.tmps) = true) (hx : a.eval x = .pointer (some p)) (hy : a.eval y = v) (hl : (storeVar ty p v).run P w = .ok () w')
    (h : wpList P ops Q rest (a.put d undef) w') : wpList P ops Q (Oper.mk d (.store ty x y) T ps af gd :: rest) a w := by
  rw [wpList, if_pos hw]
  refine .inl ?_
  unfold Oper.wp execOp
  simp only [hx, hy, Instr.storeAt, Instr.sureAddr, Sem.run_bind, Sem.run_pure, Result.andThen_ok, hl]
  exact h

end Go.Proofs.Ytcelbkkgjnfblaa

/- wrap.partsOf; wrap.parts.showing, showingLazy. -/
namespace Go.Proofs.Ytcelbkkgjnfblaa
open Go.RowKit

theorem mod_bit (m n k : Nat) (h : m % 16 = n) (hk : k < 4) : m.testBit k = n.testBit k := by
  subst h
  rw [show (16 : Nat) = 2 ^ 4 by rfl, Nat.testBit_mod_two_pow]
  simp [hk]
theorem AsOb_0 {w : World} {T : Nat} {v : Value} {n d : Nat} (h : Ob w (.iface T v) n d) (W : World) : Calls Try.prog 42 #[.iface T v] W fun e w' => e = .returned (.tuple #[if n.testBit 0 then .iface T v else .nilIface, .bool (n.testBit 0)]) ∧ W = w' := by
  obtain ⟨T', v', m, e, hA, hT, hm⟩ := h.ty
  simp only [Value.iface.injEq] at e
  obtain ⟨rfl, rfl⟩ := e
  have := As_Versioned hA (v := v) (.inr hT) W
  rw [mod_bit m n 0 hm (by decide)] at this
  exact this
theorem AsOb_1 {w : World} {T : Nat} {v : Value} {n d : Nat} (h : Ob w (.iface T v) n d) (W : World) : Calls Try.prog 43 #[.iface T v] W fun e w' => e = .returned (.tuple #[if n.testBit 1 then .iface T v else .nilIface, .bool (n.testBit 1)]) ∧ W = w' := by
  obtain ⟨T', v', m, e, hA, hT, hm⟩ := h.ty
  simp only [Value.iface.injEq] at e
  obtain ⟨rfl, rfl⟩ := e
  have := As_Indexed hA (v := v) (.inr hT) W
  rw [mod_bit m n 1 hm (by decide)] at this
  exact this
theorem AsOb_2 {w : World} {T : Nat} {v : Value} {n d : Nat} (h : Ob w (.iface T v) n d) (W : World) : Calls Try.prog 44 #[.iface T v] W fun e w' => e = .returned (.tuple #[if n.testBit 2 then .iface T v else .nilIface, .bool (n.testBit 2)]) ∧ W = w' := by
  obtain ⟨T', v', m, e, hA, hT, hm⟩ := h.ty
  simp only [Value.iface.injEq] at e
  obtain ⟨rfl, rfl⟩ := e
  have := As_Owned hA (v := v) (.inr hT) W
  rw [mod_bit m n 2 hm (by decide)] at this
  exact this
theorem AsOb_3 {w : World} {T : Nat} {v : Value} {n d : Nat} (h : Ob w (.iface T v) n d) (W : World) : Calls Try.prog 45 #[.iface T v] W fun e w' => e = .returned (.tuple #[if n.testBit 3 then .iface T v else .nilIface, .bool (n.testBit 3)]) ∧ W = w' := by
  obtain ⟨T', v', m, e, hA, hT, hm⟩ := h.ty
  simp only [Value.iface.injEq] at e
  obtain ⟨rfl, rfl⟩ := e
  have := As_Lazy hA (v := v) (.inr hT) W
  rw [mod_bit m n 3 hm (by decide)] at this
  exact this
theorem one_pto (r : Option Go) : (pto r).oneCell' = true := by cases r <;> rfl
theorem one_pdo (r : Option Go) : (pdo r).oneCell' = true := by cases r <;> rfl
theorem pt_st {w : World} {b : Nat} {T : TypeId} {old : Array Value} (g : Go) (r0 r1 r2 r3 : Option Go) (hb : w.heap[b]? = some (.cells old T (0, 0))) (ho : old.size = 10) : (storeVar 126 ⟨b, 0, none⟩ (.agg (pcs g r0 r1 r2 r3))).run Try.prog w = .ok () (w.setRow b (pcs g r0 r1 r2 r3)) :=
  run_storeVar_row w b T 126 old _ hb (by kernel_rfl) (by rw [ho]; rfl) (by
    rw [Array.all_eq_true_iff_forall_mem]; intro v hv
    simp only [pcs, List.mem_toArray, List.mem_cons, List.not_mem_nil, or_false] at hv
    rcases hv with rfl | rfl | rfl | rfl | rfl | rfl | rfl | rfl | rfl | rfl <;> first | exact one_pto _ | exact one_pdo _ | rfl)
/-- a part that goes to g, if the bit is set -/
def ownP (b : Bool) (g : Go) : Option Go := if b then some g else none
theorem filledBy_any {w : World} {n d : Nat} (p g : Go) (hg : Ob w g.to n d) (x0 x1 x2 x3 : Option Go) (W : World) :
    Calls Try.prog 46 #[.agg (pcs p x0 x1 x2 x3), g.to, g.does] W fun e w' => e = .returned (.agg (pcs p (fillP (n.testBit 0) x0 g) (fillP (n.testBit 1) x1 g) (fillP (n.testBit 2) x2 g) (fillP (n.testBit 3) x3 g))) ∧ Below W.heap.size W w' :=
  filledBy_w p g _ _ _ _ x0 x1 x2 x3 _ _ _ _ (fw_any _ _ _) (fw_any _ _ _) (fw_any _ _ _) (fw_any _ _ _) W (fun W => AsOb_0 hg W) (fun W => AsOb_1 hg W) (fun W => AsOb_2 hg W) (fun W => AsOb_3 hg W)

set_option maxRecDepth 100000 in
set_option maxHeartbeats 1000000 in
theorem partsOf_any {w : World} {n d : Nat} (g : Go) (hg : Ob w g.to n d) (W : World) :
    Calls Try.prog 37 #[g.to, g.does] W fun e w' => e = .returned (.agg (pcs g (ownP (n.testBit 0) g) (ownP (n.testBit 1) g) (ownP (n.testBit 2) g) (ownP (n.testBit 3) g))) ∧ Below W.heap.size W w' := by
  have HF : Hid (∀ V, Calls Try.prog 46 #[.agg (pcs g none none none none), g.to, g.does] V fun e w' => e = .returned (.agg (pcs g (ownP (n.testBit 0) g) (ownP (n.testBit 1) g) (ownP (n.testBit 2) g) (ownP (n.testBit 3) g))) ∧ Below V.heap.size V w') := fun V => filledBy_any g g hg none none none none V
  have HA : Hid (∀ o, (W.alloc o).heap[W.heap.size]? = some o) := fun o => heap_alloc_last W o
  clear hg
  generalize ownP (n.testBit 0) g = r0 at HF ⊢
  generalize ownP (n.testBit 1) g = r1 at HF ⊢
  generalize ownP (n.testBit 2) g = r2 at HF ⊢
  generalize ownP (n.testBit 3) g = r3 at HF ⊢
  have HZ : Hid (pcs g none none none none = #[.iface g.T g.v, .func (.func g.f) g.fs g.cs, .nilIface, .nilFunc, .nilIface, .nilFunc, .nilIface, .nilFunc, .nilIface, .nilFunc]) := rfl
  rw [HZ.out] at HF
  unfold Go.to Go.does at HF ⊢
  go_enter Try.func37, Try.ntmps37
  go_wp2_with fail
  refine (HF.out _).mono ?_
  rintro e w1 ⟨rfl, hb⟩
  have k1 := (hb.block W.heap.size (by simp)).trans (HA.out _)
  have HB : Hid (Below W.heap.size W w1) := ((Below.refl _ _).alloc (Nat.le_refl _) _).trans (hb.mono (by simp))
  have HST : Hid ((storeVar 126 ⟨W.heap.size, 0, none⟩ (.agg (pcs g r0 r1 r2 r3))).run Try.prog w1 = .ok () (w1.setRow W.heap.size (pcs g r0 r1 r2 r3))) := pt_st g r0 r1 r2 r3 k1 rfl
  have k2 := setRow_heap _ _ _ (pcs g r0 r1 r2 r3) _ _ k1
  have HB2 : Hid (Below W.heap.size W (w1.setRow W.heap.size (pcs g r0 r1 r2 r3))) := HB.out.trans ⟨rfl, rfl, rfl, by rw [setRow_size]; exact Nat.le_refl _, fun k hk => setRow_other _ _ _ _ (by omega)⟩
  generalize w1.setRow W.heap.size (pcs g r0 r1 r2 r3) = w2 at HST k2 HB2
  have e0 : w2.cell? ⟨W.heap.size, 0, none⟩ = some (g.to) := by rw [cell_of_row _ _ 0 _ _ _ k2]; rfl
  have e1 : w2.cell? ⟨W.heap.size, 1, none⟩ = some (g.does) := by rw [cell_of_row _ _ 1 _ _ _ k2]; rfl
  have e2 : w2.cell? ⟨W.heap.size, 2, none⟩ = some (pto r0) := by rw [cell_of_row _ _ 2 _ _ _ k2]; rfl
  have e3 : w2.cell? ⟨W.heap.size, 3, none⟩ = some (pdo r0) := by rw [cell_of_row _ _ 3 _ _ _ k2]; rfl
  have e4 : w2.cell? ⟨W.heap.size, 4, none⟩ = some (pto r1) := by rw [cell_of_row _ _ 4 _ _ _ k2]; rfl
  have e5 : w2.cell? ⟨W.heap.size, 5, none⟩ = some (pdo r1) := by rw [cell_of_row _ _ 5 _ _ _ k2]; rfl
  have e6 : w2.cell? ⟨W.heap.size, 6, none⟩ = some (pto r2) := by rw [cell_of_row _ _ 6 _ _ _ k2]; rfl
  have e7 : w2.cell? ⟨W.heap.size, 7, none⟩ = some (pdo r2) := by rw [cell_of_row _ _ 7 _ _ _ k2]; rfl
  have e8 : w2.cell? ⟨W.heap.size, 8, none⟩ = some (pto r3) := by rw [cell_of_row _ _ 8 _ _ _ k2]; rfl
  have e9 : w2.cell? ⟨W.heap.size, 9, none⟩ = some (pdo r3) := by rw [cell_of_row _ _ 9 _ _ _ k2]; rfl
  replace k2 : Hid (w2.heap[W.heap.size]? = _) := k2
  clear hb HF k1 HB HA HZ
  go_wp2_with ((with_reducible refine str ?_ ?_ ?_ HST.out ?_); rfl; rfl; rfl)
  refine bodyPost_ret (v := .agg #[g.to, g.does, pto r0, pdo r0, pto r1, pdo r1, pto r2, pdo r2, pto r3, pdo r3]) (by simp [results, Try.results37, go_sem, e0, e1, e2, e3, e4, e5, e6, e7, e8, e9] <;> rfl) rfl ?_
  exact ⟨rfl, HB2.out⟩
/-- a wrapper's cells -/
def wcs (p : Go) (v i o l : Option Go) : Nat → Array Value
  | 0 => #[p.to, p.does]
  | 1 => #[p.to, p.does, pto v, pdo v]
  | 2 => #[p.to, p.does, pto i, pdo i]
  | 3 => #[p.to, p.does, pto v, pdo v, pto i, pdo i]
  | 4 => #[p.to, p.does, pto o, pdo o]
  | 5 => #[p.to, p.does, pto v, pdo v, pto o, pdo o]
  | 6 => #[p.to, p.does, pto i, pdo i, pto o, pdo o]
  | 7 => #[p.to, p.does, pto v, pdo v, pto i, pdo i, pto o, pdo o]
  | 8 => #[p.to, p.does, pto l, pdo l]
  | 9 => #[p.to, p.does, pto v, pdo v, pto l, pdo l]
  | 10 => #[p.to, p.does, pto i, pdo i, pto l, pdo l]
  | 11 => #[p.to, p.does, pto v, pdo v, pto i, pdo i, pto l, pdo l]
  | 12 => #[p.to, p.does, pto o, pdo o, pto l, pdo l]
  | 13 => #[p.to, p.does, pto v, pdo v, pto o, pdo o, pto l, pdo l]
  | 14 => #[p.to, p.does, pto i, pdo i, pto o, pdo o, pto l, pdo l]
  | _ => #[p.to, p.does, pto v, pdo v, pto i, pdo i, pto o, pdo o, pto l, pdo l]
/-- the type of what it points to -/
def WU : Nat → Nat
  | 0 => 210
  | 1 => 189
  | 2 => 192
  | 3 => 195
  | 4 => 198
  | 5 => 201
  | 6 => 204
  | 7 => 207
  | 8 => 239
  | 9 => 218
  | 10 => 221
  | 11 => 224
  | 12 => 227
  | 13 => 230
  | 14 => 233
  | _ => 236
set_option maxRecDepth 100000 in
set_option maxHeartbeats 1000000 in
theorem showing_8 (p : Go) (v i o l : Option Go) (w : World) :
    Calls Try.prog 49 #[.agg (pcs p v i o l), .int .i64 0] w fun e w' => e = .returned (.iface 237 (.pointer (some ⟨w.heap.size + 1, 0, none⟩))) ∧ w' = (w.alloc (.cells (pcs p v i o l) 126)).alloc (.cells #[p.to, p.does, pto l, pdo l] 239) := by
  unfold pcs
  go_enter Try.func49, Try.ntmps49
  go_wp2_with fail
  go_ret
  exact ⟨rfl, rfl⟩

set_option maxRecDepth 100000 in
set_option maxHeartbeats 1000000 in
theorem showing_9 (p : Go) (v i o l : Option Go) (w : World) :
    Calls Try.prog 49 #[.agg (pcs p v i o l), .int .i64 1] w fun e w' => e = .returned (.iface 216 (.pointer (some ⟨w.heap.size + 1, 0, none⟩))) ∧ w' = (w.alloc (.cells (pcs p v i o l) 126)).alloc (.cells #[p.to, p.does, pto v, pdo v, pto l, pdo l] 218) := by
  unfold pcs
  go_enter Try.func49, Try.ntmps49
  go_wp2_with fail
  go_ret
  exact ⟨rfl, rfl⟩

set_option maxRecDepth 100000 in
set_option maxHeartbeats 1000000 in
theorem showing_10 (p : Go) (v i o l : Option Go) (w : World) :
    Calls Try.prog 49 #[.agg (pcs p v i o l), .int .i64 2] w fun e w' => e = .returned (.iface 219 (.pointer (some ⟨w.heap.size + 1, 0, none⟩))) ∧ w' = (w.alloc (.cells (pcs p v i o l) 126)).alloc (.cells #[p.to, p.does, pto i, pdo i, pto l, pdo l] 221) := by
  unfold pcs
  go_enter Try.func49, Try.ntmps49
  go_wp2_with fail
  go_ret
  exact ⟨rfl, rfl⟩

set_option maxRecDepth 100000 in
set_option maxHeartbeats 1000000 in
theorem showing_11 (p : Go) (v i o l : Option Go) (w : World) :
    Calls Try.prog 49 #[.agg (pcs p v i o l), .int .i64 3] w fun e w' => e = .returned (.iface 222 (.pointer (some ⟨w.heap.size + 1, 0, none⟩))) ∧ w' = (w.alloc (.cells (pcs p v i o l) 126)).alloc (.cells #[p.to, p.does, pto v, pdo v, pto i, pdo i, pto l, pdo l] 224) := by
  unfold pcs
  go_enter Try.func49, Try.ntmps49
  go_wp2_with fail
  go_ret
  exact ⟨rfl, rfl⟩

set_option maxRecDepth 100000 in
set_option maxHeartbeats 1000000 in
theorem showing_12 (p : Go) (v i o l : Option Go) (w : World) :
    Calls Try.prog 49 #[.agg (pcs p v i o l), .int .i64 4] w fun e w' => e = .returned (.iface 225 (.pointer (some ⟨w.heap.size + 1, 0, none⟩))) ∧ w' = (w.alloc (.cells (pcs p v i o l) 126)).alloc (.cells #[p.to, p.does, pto o, pdo o, pto l, pdo l] 227) := by
  unfold pcs
  go_enter Try.func49, Try.ntmps49
  go_wp2_with fail
  go_ret
  exact ⟨rfl, rfl⟩

set_option maxRecDepth 100000 in
set_option maxHeartbeats 1000000 in
theorem showing_13 (p : Go) (v i o l : Option Go) (w : World) :
    Calls Try.prog 49 #[.agg (pcs p v i o l), .int .i64 5] w fun e w' => e = .returned (.iface 228 (.pointer (some ⟨w.heap.size + 1, 0, none⟩))) ∧ w' = (w.alloc (.cells (pcs p v i o l) 126)).alloc (.cells #[p.to, p.does, pto v, pdo v, pto o, pdo o, pto l, pdo l] 230) := by
  unfold pcs
  go_enter Try.func49, Try.ntmps49
  go_wp2_with fail
  go_ret
  exact ⟨rfl, rfl⟩

set_option maxRecDepth 100000 in
set_option maxHeartbeats 1000000 in
theorem showing_14 (p : Go) (v i o l : Option Go) (w : World) :
    Calls Try.prog 49 #[.agg (pcs p v i o l), .int .i64 6] w fun e w' => e = .returned (.iface 231 (.pointer (some ⟨w.heap.size + 1, 0, none⟩))) ∧ w' = (w.alloc (.cells (pcs p v i o l) 126)).alloc (.cells #[p.to, p.does, pto i, pdo i, pto o, pdo o, pto l, pdo l] 233) := by
  unfold pcs
  go_enter Try.func49, Try.ntmps49
  go_wp2_with fail
  go_ret
  exact ⟨rfl, rfl⟩

set_option maxRecDepth 100000 in
set_option maxHeartbeats 1000000 in
theorem showing_15 (p : Go) (v i o l : Option Go) (w : World) :
    Calls Try.prog 49 #[.agg (pcs p v i o l), .int .i64 7] w fun e w' => e = .returned (.iface 234 (.pointer (some ⟨w.heap.size + 1, 0, none⟩))) ∧ w' = (w.alloc (.cells (pcs p v i o l) 126)).alloc (.cells #[p.to, p.does, pto v, pdo v, pto i, pdo i, pto o, pdo o, pto l, pdo l] 236) := by
  unfold pcs
  go_enter Try.func49, Try.ntmps49
  go_wp2_with fail
  go_ret
  exact ⟨rfl, rfl⟩

set_option maxRecDepth 100000 in
set_option maxHeartbeats 1000000 in
theorem showing_0 (p : Go) (v i o l : Option Go) (w : World) :
    Calls Try.prog 39 #[.agg (pcs p v i o l), .int .i64 0] w fun e w' => e = .returned (.iface 208 (.pointer (some ⟨w.heap.size + 1, 0, none⟩))) ∧ w' = (w.alloc (.cells (pcs p v i o l) 126)).alloc (.cells #[p.to, p.does] 210) := by
  unfold pcs
  go_enter Try.func39, Try.ntmps39
  go_wp2_with fail
  go_ret
  exact ⟨rfl, rfl⟩

set_option maxRecDepth 100000 in
set_option maxHeartbeats 1000000 in
theorem showing_1 (p : Go) (v i o l : Option Go) (w : World) :
    Calls Try.prog 39 #[.agg (pcs p v i o l), .int .i64 1] w fun e w' => e = .returned (.iface 187 (.pointer (some ⟨w.heap.size + 1, 0, none⟩))) ∧ w' = (w.alloc (.cells (pcs p v i o l) 126)).alloc (.cells #[p.to, p.does, pto v, pdo v] 189) := by
  unfold pcs
  go_enter Try.func39, Try.ntmps39
  go_wp2_with fail
  go_ret
  exact ⟨rfl, rfl⟩

set_option maxRecDepth 100000 in
set_option maxHeartbeats 1000000 in
theorem showing_2 (p : Go) (v i o l : Option Go) (w : World) :
    Calls Try.prog 39 #[.agg (pcs p v i o l), .int .i64 2] w fun e w' => e = .returned (.iface 190 (.pointer (some ⟨w.heap.size + 1, 0, none⟩))) ∧ w' = (w.alloc (.cells (pcs p v i o l) 126)).alloc (.cells #[p.to, p.does, pto i, pdo i] 192) := by
  unfold pcs
  go_enter Try.func39, Try.ntmps39
  go_wp2_with fail
  go_ret
  exact ⟨rfl, rfl⟩

set_option maxRecDepth 100000 in
set_option maxHeartbeats 1000000 in
theorem showing_3 (p : Go) (v i o l : Option Go) (w : World) :
    Calls Try.prog 39 #[.agg (pcs p v i o l), .int .i64 3] w fun e w' => e = .returned (.iface 193 (.pointer (some ⟨w.heap.size + 1, 0, none⟩))) ∧ w' = (w.alloc (.cells (pcs p v i o l) 126)).alloc (.cells #[p.to, p.does, pto v, pdo v, pto i, pdo i] 195) := by
  unfold pcs
  go_enter Try.func39, Try.ntmps39
  go_wp2_with fail
  go_ret
  exact ⟨rfl, rfl⟩

set_option maxRecDepth 100000 in
set_option maxHeartbeats 1000000 in
theorem showing_4 (p : Go) (v i o l : Option Go) (w : World) :
    Calls Try.prog 39 #[.agg (pcs p v i o l), .int .i64 4] w fun e w' => e = .returned (.iface 196 (.pointer (some ⟨w.heap.size + 1, 0, none⟩))) ∧ w' = (w.alloc (.cells (pcs p v i o l) 126)).alloc (.cells #[p.to, p.does, pto o, pdo o] 198) := by
  unfold pcs
  go_enter Try.func39, Try.ntmps39
  go_wp2_with fail
  go_ret
  exact ⟨rfl, rfl⟩

set_option maxRecDepth 100000 in
set_option maxHeartbeats 1000000 in
theorem showing_5 (p : Go) (v i o l : Option Go) (w : World) :
    Calls Try.prog 39 #[.agg (pcs p v i o l), .int .i64 5] w fun e w' => e = .returned (.iface 199 (.pointer (some ⟨w.heap.size + 1, 0, none⟩))) ∧ w' = (w.alloc (.cells (pcs p v i o l) 126)).alloc (.cells #[p.to, p.does, pto v, pdo v, pto o, pdo o] 201) := by
  unfold pcs
  go_enter Try.func39, Try.ntmps39
  go_wp2_with fail
  go_ret
  exact ⟨rfl, rfl⟩

set_option maxRecDepth 100000 in
set_option maxHeartbeats 1000000 in
theorem showing_6 (p : Go) (v i o l : Option Go) (w : World) :
    Calls Try.prog 39 #[.agg (pcs p v i o l), .int .i64 6] w fun e w' => e = .returned (.iface 202 (.pointer (some ⟨w.heap.size + 1, 0, none⟩))) ∧ w' = (w.alloc (.cells (pcs p v i o l) 126)).alloc (.cells #[p.to, p.does, pto i, pdo i, pto o, pdo o] 204) := by
  unfold pcs
  go_enter Try.func39, Try.ntmps39
  go_wp2_with fail
  go_ret
  exact ⟨rfl, rfl⟩

set_option maxRecDepth 100000 in
set_option maxHeartbeats 1000000 in
theorem showing_7 (p : Go) (v i o l : Option Go) (w : World) :
    Calls Try.prog 39 #[.agg (pcs p v i o l), .int .i64 7] w fun e w' => e = .returned (.iface 205 (.pointer (some ⟨w.heap.size + 1, 0, none⟩))) ∧ w' = (w.alloc (.cells (pcs p v i o l) 126)).alloc (.cells #[p.to, p.does, pto v, pdo v, pto i, pdo i, pto o, pdo o] 207) := by
  unfold pcs
  go_enter Try.func39, Try.ntmps39
  go_wp2_with fail
  go_ret
  exact ⟨rfl, rfl⟩

set_option maxRecDepth 100000 in
set_option maxHeartbeats 1000000 in
theorem showings_8 (p : Go) (v i o l : Option Go) (w : World) :
    Calls Try.prog 39 #[.agg (pcs p v i o l), .int .i64 8] w fun e w' => e = .returned (.iface 237 (.pointer (some ⟨w.heap.size + 2, 0, none⟩))) ∧ w' = ((w.alloc (.cells (pcs p v i o l) 126)).alloc (.cells (pcs p v i o l) 126)).alloc (.cells #[p.to, p.does, pto l, pdo l] 239) := by
  have HS : Hid (∀ W, Calls Try.prog 49 #[.agg (pcs p v i o l), .int .i64 0] W fun e w' => e = .returned (.iface 237 (.pointer (some ⟨W.heap.size + 1, 0, none⟩))) ∧ w' = (W.alloc (.cells (pcs p v i o l) 126)).alloc (.cells #[p.to, p.does, pto l, pdo l] 239)) := fun W => showing_8 p v i o l W
  unfold pcs at *
  go_enter Try.func39, Try.ntmps39
  go_wp2_with (go_at_call 49; refine (HS.out _).mono ?_; rintro e w' ⟨rfl, rfl⟩)
  go_ret
  exact ⟨rfl, rfl⟩

set_option maxRecDepth 100000 in
set_option maxHeartbeats 1000000 in
theorem showings_9 (p : Go) (v i o l : Option Go) (w : World) :
    Calls Try.prog 39 #[.agg (pcs p v i o l), .int .i64 9] w fun e w' => e = .returned (.iface 216 (.pointer (some ⟨w.heap.size + 2, 0, none⟩))) ∧ w' = ((w.alloc (.cells (pcs p v i o l) 126)).alloc (.cells (pcs p v i o l) 126)).alloc (.cells #[p.to, p.does, pto v, pdo v, pto l, pdo l] 218) := by
  have HS : Hid (∀ W, Calls Try.prog 49 #[.agg (pcs p v i o l), .int .i64 1] W fun e w' => e = .returned (.iface 216 (.pointer (some ⟨W.heap.size + 1, 0, none⟩))) ∧ w' = (W.alloc (.cells (pcs p v i o l) 126)).alloc (.cells #[p.to, p.does, pto v, pdo v, pto l, pdo l] 218)) := fun W => showing_9 p v i o l W
  unfold pcs at *
  go_enter Try.func39, Try.ntmps39
  go_wp2_with (go_at_call 49; refine (HS.out _).mono ?_; rintro e w' ⟨rfl, rfl⟩)
  go_ret
  exact ⟨rfl, rfl⟩

set_option maxRecDepth 100000 in
set_option maxHeartbeats 1000000 in
theorem showings_10 (p : Go) (v i o l : Option Go) (w : World) :
    Calls Try.prog 39 #[.agg (pcs p v i o l), .int .i64 10] w fun e w' => e = .returned (.iface 219 (.pointer (some ⟨w.heap.size + 2, 0, none⟩))) ∧ w' = ((w.alloc (.cells (pcs p v i o l) 126)).alloc (.cells (pcs p v i o l) 126)).alloc (.cells #[p.to, p.does, pto i, pdo i, pto l, pdo l] 221) := by
  have HS : Hid (∀ W, Calls Try.prog 49 #[.agg (pcs p v i o l), .int .i64 2] W fun e w' => e = .returned (.iface 219 (.pointer (some ⟨W.heap.size + 1, 0, none⟩))) ∧ w' = (W.alloc (.cells (pcs p v i o l) 126)).alloc (.cells #[p.to, p.does, pto i, pdo i, pto l, pdo l] 221)) := fun W => showing_10 p v i o l W
  unfold pcs at *
  go_enter Try.func39, Try.ntmps39
  go_wp2_with (go_at_call 49; refine (HS.out _).mono ?_; rintro e w' ⟨rfl, rfl⟩)
  go_ret
  exact ⟨rfl, rfl⟩

set_option maxRecDepth 100000 in
set_option maxHeartbeats 1000000 in
theorem showings_11 (p : Go) (v i o l : Option Go) (w : World) :
    Calls Try.prog 39 #[.agg (pcs p v i o l), .int .i64 11] w fun e w' => e = .returned (.iface 222 (.pointer (some ⟨w.heap.size + 2, 0, none⟩))) ∧ w' = ((w.alloc (.cells (pcs p v i o l) 126)).alloc (.cells (pcs p v i o l) 126)).alloc (.cells #[p.to, p.does, pto v, pdo v, pto i, pdo i, pto l, pdo l] 224) := by
  have HS : Hid (∀ W, Calls Try.prog 49 #[.agg (pcs p v i o l), .int .i64 3] W fun e w' => e = .returned (.iface 222 (.pointer (some ⟨W.heap.size + 1, 0, none⟩))) ∧ w' = (W.alloc (.cells (pcs p v i o l) 126)).alloc (.cells #[p.to, p.does, pto v, pdo v, pto i, pdo i, pto l, pdo l] 224)) := fun W => showing_11 p v i o l W
  unfold pcs at *
  go_enter Try.func39, Try.ntmps39
  go_wp2_with (go_at_call 49; refine (HS.out _).mono ?_; rintro e w' ⟨rfl, rfl⟩)
  go_ret
  exact ⟨rfl, rfl⟩

set_option maxRecDepth 100000 in
set_option maxHeartbeats 1000000 in
theorem showings_12 (p : Go) (v i o l : Option Go) (w : World) :
    Calls Try.prog 39 #[.agg (pcs p v i o l), .int .i64 12] w fun e w' => e = .returned (.iface 225 (.pointer (some ⟨w.heap.size + 2, 0, none⟩))) ∧ w' = ((w.alloc (.cells (pcs p v i o l) 126)).alloc (.cells (pcs p v i o l) 126)).alloc (.cells #[p.to, p.does, pto o, pdo o, pto l, pdo l] 227) := by
  have HS : Hid (∀ W, Calls Try.prog 49 #[.agg (pcs p v i o l), .int .i64 4] W fun e w' => e = .returned (.iface 225 (.pointer (some ⟨W.heap.size + 1, 0, none⟩))) ∧ w' = (W.alloc (.cells (pcs p v i o l) 126)).alloc (.cells #[p.to, p.does, pto o, pdo o, pto l, pdo l] 227)) := fun W => showing_12 p v i o l W
  unfold pcs at *
  go_enter Try.func39, Try.ntmps39
  go_wp2_with (go_at_call 49; refine (HS.out _).mono ?_; rintro e w' ⟨rfl, rfl⟩)
  go_ret
  exact ⟨rfl, rfl⟩

set_option maxRecDepth 100000 in
set_option maxHeartbeats 1000000 in
theorem showings_13 (p : Go) (v i o l : Option Go) (w : World) :
    Calls Try.prog 39 #[.agg (pcs p v i o l), .int .i64 13] w fun e w' => e = .returned (.iface 228 (.pointer (some ⟨w.heap.size + 2, 0, none⟩))) ∧ w' = ((w.alloc (.cells (pcs p v i o l) 126)).alloc (.cells (pcs p v i o l) 126)).alloc (.cells #[p.to, p.does, pto v, pdo v, pto o, pdo o, pto l, pdo l] 230) := by
  have HS : Hid (∀ W, Calls Try.prog 49 #[.agg (pcs p v i o l), .int .i64 5] W fun e w' => e = .returned (.iface 228 (.pointer (some ⟨W.heap.size + 1, 0, none⟩))) ∧ w' = (W.alloc (.cells (pcs p v i o l) 126)).alloc (.cells #[p.to, p.does, pto v, pdo v, pto o, pdo o, pto l, pdo l] 230)) := fun W => showing_13 p v i o l W
  unfold pcs at *
  go_enter Try.func39, Try.ntmps39
  go_wp2_with (go_at_call 49; refine (HS.out _).mono ?_; rintro e w' ⟨rfl, rfl⟩)
  go_ret
  exact ⟨rfl, rfl⟩

set_option maxRecDepth 100000 in
set_option maxHeartbeats 1000000 in
theorem showings_14 (p : Go) (v i o l : Option Go) (w : World) :
    Calls Try.prog 39 #[.agg (pcs p v i o l), .int .i64 14] w fun e w' => e = .returned (.iface 231 (.pointer (some ⟨w.heap.size + 2, 0, none⟩))) ∧ w' = ((w.alloc (.cells (pcs p v i o l) 126)).alloc (.cells (pcs p v i o l) 126)).alloc (.cells #[p.to, p.does, pto i, pdo i, pto o, pdo o, pto l, pdo l] 233) := by
  have HS : Hid (∀ W, Calls Try.prog 49 #[.agg (pcs p v i o l), .int .i64 6] W fun e w' => e = .returned (.iface 231 (.pointer (some ⟨W.heap.size + 1, 0, none⟩))) ∧ w' = (W.alloc (.cells (pcs p v i o l) 126)).alloc (.cells #[p.to, p.does, pto i, pdo i, pto o, pdo o, pto l, pdo l] 233)) := fun W => showing_14 p v i o l W
  unfold pcs at *
  go_enter Try.func39, Try.ntmps39
  go_wp2_with (go_at_call 49; refine (HS.out _).mono ?_; rintro e w' ⟨rfl, rfl⟩)
  go_ret
  exact ⟨rfl, rfl⟩

set_option maxRecDepth 100000 in
set_option maxHeartbeats 1000000 in
theorem showings_15 (p : Go) (v i o l : Option Go) (w : World) :
    Calls Try.prog 39 #[.agg (pcs p v i o l), .int .i64 15] w fun e w' => e = .returned (.iface 234 (.pointer (some ⟨w.heap.size + 2, 0, none⟩))) ∧ w' = ((w.alloc (.cells (pcs p v i o l) 126)).alloc (.cells (pcs p v i o l) 126)).alloc (.cells #[p.to, p.does, pto v, pdo v, pto i, pdo i, pto o, pdo o, pto l, pdo l] 236) := by
  have HS : Hid (∀ W, Calls Try.prog 49 #[.agg (pcs p v i o l), .int .i64 7] W fun e w' => e = .returned (.iface 234 (.pointer (some ⟨W.heap.size + 1, 0, none⟩))) ∧ w' = (W.alloc (.cells (pcs p v i o l) 126)).alloc (.cells #[p.to, p.does, pto v, pdo v, pto i, pdo i, pto o, pdo o, pto l, pdo l] 236)) := fun W => showing_15 p v i o l W
  unfold pcs at *
  go_enter Try.func39, Try.ntmps39
  go_wp2_with (go_at_call 49; refine (HS.out _).mono ?_; rintro e w' ⟨rfl, rfl⟩)
  go_ret
  exact ⟨rfl, rfl⟩

/-- what showing hands back -/
def ShE (s : Nat) (p : Go) (v i o l : Option Go) (w : World) (e : Ending) (w' : World) : Prop :=
  ∃ b, e = .returned (.iface (WT s) (.pointer (some ⟨b, 0, none⟩))) ∧ w.heap.size ≤ b ∧ w'.heap[b]? = some (.cells (wcs p v i o l s) (WU s)) ∧ Below w.heap.size w w'
theorem showing_any (s : Nat) (hs : s < 16) (p : Go) (v i o l : Option Go) (w : World) :
    Calls Try.prog 39 #[.agg (pcs p v i o l), .int .i64 (s : Int)] w fun e w' => ShE s p v i o l w e w' := by
  have B2 : ∀ o1 o2, Below w.heap.size w ((w.alloc o1).alloc o2) := fun o1 o2 => ((Below.refl _ _).alloc (Nat.le_refl _) _).alloc (by simp) _
  have B3 : ∀ o1 o2 o3, Below w.heap.size w (((w.alloc o1).alloc o2).alloc o3) := fun o1 o2 o3 => (B2 o1 o2).alloc (by simp only [World.size_alloc]; omega) _
  have N2 : ∀ o1 o2, ((w.alloc o1).alloc o2).heap[w.heap.size + 1]? = some o2 := fun o1 o2 => al2_new _ _ _
  have N3 : ∀ o1 o2 o3, (((w.alloc o1).alloc o2).alloc o3).heap[w.heap.size + 2]? = some o3 := fun o1 o2 o3 => by
    have := heap_alloc_last ((w.alloc o1).alloc o2) o3
    simpa only [World.size_alloc] using this
  match s, hs with
  | 0, _ => exact (showing_0 p v i o l w).mono fun e w' ⟨h1, h2⟩ => by subst h1; subst h2; exact ⟨_, rfl, by omega, N2 _ _, B2 _ _⟩
  | 1, _ => exact (showing_1 p v i o l w).mono fun e w' ⟨h1, h2⟩ => by subst h1; subst h2; exact ⟨_, rfl, by omega, N2 _ _, B2 _ _⟩
  | 2, _ => exact (showing_2 p v i o l w).mono fun e w' ⟨h1, h2⟩ => by subst h1; subst h2; exact ⟨_, rfl, by omega, N2 _ _, B2 _ _⟩
  | 3, _ => exact (showing_3 p v i o l w).mono fun e w' ⟨h1, h2⟩ => by subst h1; subst h2; exact ⟨_, rfl, by omega, N2 _ _, B2 _ _⟩
  | 4, _ => exact (showing_4 p v i o l w).mono fun e w' ⟨h1, h2⟩ => by subst h1; subst h2; exact ⟨_, rfl, by omega, N2 _ _, B2 _ _⟩
  | 5, _ => exact (showing_5 p v i o l w).mono fun e w' ⟨h1, h2⟩ => by subst h1; subst h2; exact ⟨_, rfl, by omega, N2 _ _, B2 _ _⟩
  | 6, _ => exact (showing_6 p v i o l w).mono fun e w' ⟨h1, h2⟩ => by subst h1; subst h2; exact ⟨_, rfl, by omega, N2 _ _, B2 _ _⟩
  | 7, _ => exact (showing_7 p v i o l w).mono fun e w' ⟨h1, h2⟩ => by subst h1; subst h2; exact ⟨_, rfl, by omega, N2 _ _, B2 _ _⟩
  | 8, _ => exact (showings_8 p v i o l w).mono fun e w' ⟨h1, h2⟩ => by subst h1; subst h2; exact ⟨_, rfl, by omega, N3 _ _ _, B3 _ _ _⟩
  | 9, _ => exact (showings_9 p v i o l w).mono fun e w' ⟨h1, h2⟩ => by subst h1; subst h2; exact ⟨_, rfl, by omega, N3 _ _ _, B3 _ _ _⟩
  | 10, _ => exact (showings_10 p v i o l w).mono fun e w' ⟨h1, h2⟩ => by subst h1; subst h2; exact ⟨_, rfl, by omega, N3 _ _ _, B3 _ _ _⟩
  | 11, _ => exact (showings_11 p v i o l w).mono fun e w' ⟨h1, h2⟩ => by subst h1; subst h2; exact ⟨_, rfl, by omega, N3 _ _ _, B3 _ _ _⟩
  | 12, _ => exact (showings_12 p v i o l w).mono fun e w' ⟨h1, h2⟩ => by subst h1; subst h2; exact ⟨_, rfl, by omega, N3 _ _ _, B3 _ _ _⟩
  | 13, _ => exact (showings_13 p v i o l w).mono fun e w' ⟨h1, h2⟩ => by subst h1; subst h2; exact ⟨_, rfl, by omega, N3 _ _ _, B3 _ _ _⟩
  | 14, _ => exact (showings_14 p v i o l w).mono fun e w' ⟨h1, h2⟩ => by subst h1; subst h2; exact ⟨_, rfl, by omega, N3 _ _ _, B3 _ _ _⟩
  | 15, _ => exact (showings_15 p v i o l w).mono fun e w' ⟨h1, h2⟩ => by subst h1; subst h2; exact ⟨_, rfl, by omega, N3 _ _ _, B3 _ _ _⟩
  | k + 16, h => omega
end Go.Proofs.Ytcelbkkgjnfblaa

/- wrap.Show, Add, Guard, Count. -/
namespace Go.Proofs.Ytcelbkkgjnfblaa
open Go.RowKit

theorem and_nat : ∀ n : Nat, n < 16 → ∀ m : Nat, m < 16 → bits BinOp.and IntKind.i64 (n : Int) (m : Int) = ((n &&& m : Nat) : Int) := by decide +kernel
theorem or_nat : ∀ n : Nat, n < 16 → ∀ m : Nat, m < 16 → bits BinOp.or IntKind.i64 (n : Int) (m : Int) = ((n ||| m : Nat) : Int) := by decide +kernel
theorem and_lt (n m : Nat) (h : n < 16) : n &&& m < 16 := Nat.lt_of_le_of_lt Nat.and_le_left h
theorem or_lt (n m : Nat) (h : n < 16) (h' : m < 16) : n ||| m < 16 := Nat.or_lt_two_pow (n := 4) h h'

/-- what the makers hand back -/
def MkE (s : Nat) (p : Go) (v i o l : Option Go) (w : World) (e : Ending) (w' : World) : Prop :=
  ∃ b, e = .returned (.tuple #[.iface (WT s) (.pointer (some ⟨b, 0, none⟩)), .int .i64 0]) ∧ w.heap.size ≤ b ∧ w'.heap[b]? = some (.cells (wcs p v i o l s) (WU s)) ∧ Below w.heap.size w w'
theorem wcs_01 (s : Nat) (hs : s < 16) (p : Go) (v i o l : Option Go) : (wcs p v i o l s)[0]? = some p.to ∧ (wcs p v i o l s)[1]? = some p.does := by
  match s, hs with
  | 0, _ => exact ⟨rfl, rfl⟩
  | 1, _ => exact ⟨rfl, rfl⟩
  | 2, _ => exact ⟨rfl, rfl⟩
  | 3, _ => exact ⟨rfl, rfl⟩
  | 4, _ => exact ⟨rfl, rfl⟩
  | 5, _ => exact ⟨rfl, rfl⟩
  | 6, _ => exact ⟨rfl, rfl⟩
  | 7, _ => exact ⟨rfl, rfl⟩
  | 8, _ => exact ⟨rfl, rfl⟩
  | 9, _ => exact ⟨rfl, rfl⟩
  | 10, _ => exact ⟨rfl, rfl⟩
  | 11, _ => exact ⟨rfl, rfl⟩
  | 12, _ => exact ⟨rfl, rfl⟩
  | 13, _ => exact ⟨rfl, rfl⟩
  | 14, _ => exact ⟨rfl, rfl⟩
  | 15, _ => exact ⟨rfl, rfl⟩
  | k + 16, h => omega
theorem Ob.made {s : Nat} {p : Go} {v i o l : Option Go} {w w' : World} {b n d : Nat} (hs : s < 16) (hp : Ob w p.to n d) (hb : w'.heap[b]? = some (.cells (wcs p v i o l s) (WU s))) (hw : Below w.heap.size w w') :
    Ob w' (.iface (WT s) (.pointer (some ⟨b, 0, none⟩))) s (d + 1) :=
  .wrap (does := p.does) hs (by rw [cell_of_row _ _ 0 _ _ _ hb]; exact (wcs_01 s hs p v i o l).1) (by rw [cell_of_row _ _ 1 _ _ _ hb]; exact (wcs_01 s hs p v i o l).2) (hp.of_below hw)

set_option maxRecDepth 100000 in
set_option maxHeartbeats 1000000 in
theorem Show_ok {w : World} {n d : Nat} (g : Go) (hf : g.does = .func (.func 38) #[] #[]) (hg : Ob w g.to n d) (hd : d < 64) (m : Nat) (hm : m < 16) :
    Calls Try.prog 18 #[g.to, .int .i64 (m : Int)] w fun e w' => MkE (n &&& m) g (ownP (n.testBit 0) g) (ownP (n.testBit 1) g) (ownP (n.testBit 2) g) (ownP (n.testBit 3) g) w e w' := by
  have HW : Hid (∀ W, Below w.heap.size w W → Calls Try.prog 36 #[g.to] W fun e w' => e = .returned (.tuple #[.int .i64 (n : Int), .int .i64 0]) ∧ Below W.heap.size W w') := fun W hW => wrappable_any W (hg.of_below hW) hd
  have HP : Hid (∀ W, Calls Try.prog 37 #[g.to, g.does] W fun e w' => e = .returned (.agg (pcs g (ownP (n.testBit 0) g) (ownP (n.testBit 1) g) (ownP (n.testBit 2) g) (ownP (n.testBit 3) g))) ∧ Below W.heap.size W w') := fun W => partsOf_any g hg W
  have HI : Hid (∀ W, Calls Try.prog 29 #[.int .i64 (m : Int)] W fun e w' => e = .returned (.bool true) ∧ W = w') := fun W => isSet_yes m hm W
  have hand := and_nat n hg.lt m hm
  have HS : Hid (∀ W, Calls Try.prog 39 #[.agg (pcs g (ownP (n.testBit 0) g) (ownP (n.testBit 1) g) (ownP (n.testBit 2) g) (ownP (n.testBit 3) g)), .int .i64 ((n &&& m : Nat) : Int)] W fun e w' => ShE (n &&& m) g (ownP (n.testBit 0) g) (ownP (n.testBit 1) g) (ownP (n.testBit 2) g) (ownP (n.testBit 3) g) W e w') := fun W => showing_any _ (and_lt n m hg.lt) g _ _ _ _ W
  clear hg hm hd
  generalize ownP (n.testBit 0) g = r0 at HP HS ⊢
  generalize ownP (n.testBit 1) g = r1 at HP HS ⊢
  generalize ownP (n.testBit 2) g = r2 at HP HS ⊢
  generalize ownP (n.testBit 3) g = r3 at HP HS ⊢
  rw [hf] at HP
  clear hf
  generalize n &&& m = s at HS hand ⊢
  generalize pcs g r0 r1 r2 r3 = ps at HP HS
  generalize g.to = go at HP HW ⊢
  go_enter Try.func18, Try.ntmps18
  go_wp2_with fail
  refine (HW.out _ (Below.refl _ _)).mono ?_
  rintro e w1 ⟨rfl, HB1⟩
  replace HB1 : Hid (Below w.heap.size w w1) := HB1
  go_wp2_with (go_at_call 29; refine (HI.out _).mono ?_; rintro e w' ⟨rfl, rfl⟩)
  refine (HP.out _).mono ?_
  rintro e w2 ⟨rfl, hb⟩
  replace hb : Hid (Below w.heap.size w w2) := HB1.out.trans (hb.mono HB1.out.size)
  go_wp2_with fail
  refine (HS.out _).mono ?_
  rintro e w3 ⟨b, rfl, h1, h2, h3⟩
  replace h1 : Hid (w.heap.size ≤ b) := Nat.le_trans hb.out.size h1
  replace h2 : Hid (_ = _) := h2
  replace h3 : Hid (Below w.heap.size w w3) := hb.out.trans (h3.mono hb.out.size)
  go_wp2_with fail
  go_ret2
  exact ⟨b, rfl, h1.out, h2.out, h3.out⟩

set_option maxRecDepth 100000 in
set_option maxHeartbeats 1000000 in
theorem Guard_ok {w : World} {n d : Nat} (g : Go) (hf : g.does = .func (.func 47) #[] #[]) (hg : Ob w g.to n d) (hd : d < 64) :
    Calls Try.prog 22 #[g.to] w fun e w' => MkE n g (ownP (n.testBit 0) g) (ownP (n.testBit 1) g) (ownP (n.testBit 2) g) (ownP (n.testBit 3) g) w e w' := by
  have HW : Hid (∀ W, Below w.heap.size w W → Calls Try.prog 36 #[g.to] W fun e w' => e = .returned (.tuple #[.int .i64 (n : Int), .int .i64 0]) ∧ Below W.heap.size W w') := fun W hW => wrappable_any W (hg.of_below hW) hd
  have HP : Hid (∀ W, Calls Try.prog 37 #[g.to, g.does] W fun e w' => e = .returned (.agg (pcs g (ownP (n.testBit 0) g) (ownP (n.testBit 1) g) (ownP (n.testBit 2) g) (ownP (n.testBit 3) g))) ∧ Below W.heap.size W w') := fun W => partsOf_any g hg W
  have HS : Hid (∀ W, Calls Try.prog 39 #[.agg (pcs g (ownP (n.testBit 0) g) (ownP (n.testBit 1) g) (ownP (n.testBit 2) g) (ownP (n.testBit 3) g)), .int .i64 (n : Int)] W fun e w' => ShE n g (ownP (n.testBit 0) g) (ownP (n.testBit 1) g) (ownP (n.testBit 2) g) (ownP (n.testBit 3) g) W e w') := fun W => showing_any _ hg.lt g _ _ _ _ W
  clear hg hd
  generalize ownP (n.testBit 0) g = r0 at HP HS ⊢
  generalize ownP (n.testBit 1) g = r1 at HP HS ⊢
  generalize ownP (n.testBit 2) g = r2 at HP HS ⊢
  generalize ownP (n.testBit 3) g = r3 at HP HS ⊢
  rw [hf] at HP
  clear hf
  generalize pcs g r0 r1 r2 r3 = ps at HP HS
  generalize g.to = go at HP HW ⊢
  go_enter Try.func22, Try.ntmps22
  go_wp2_with fail
  refine (HW.out _ (Below.refl _ _)).mono ?_
  rintro e w1 ⟨rfl, HB1⟩
  replace HB1 : Hid (Below w.heap.size w w1) := HB1
  go_wp2_with fail
  refine (HP.out _).mono ?_
  rintro e w2 ⟨rfl, hb⟩
  replace hb : Hid (Below w.heap.size w w2) := HB1.out.trans (hb.mono HB1.out.size)
  go_wp2_with fail
  refine (HS.out _).mono ?_
  rintro e w3 ⟨b, rfl, h1, h2, h3⟩
  replace h1 : Hid (w.heap.size ≤ b) := Nat.le_trans hb.out.size h1
  replace h2 : Hid (_ = _) := h2
  replace h3 : Hid (Below w.heap.size w w3) := hb.out.trans (h3.mono hb.out.size)
  go_wp2_with fail
  go_ret2
  exact ⟨b, rfl, h1.out, h2.out, h3.out⟩

set_option maxRecDepth 100000 in
set_option maxHeartbeats 1000000 in
theorem Count_ok {w : World} {n d : Nat} (g : Go) (hf : g.does = .func (.func 48) #[] #[.pointer (some ⟨w.heap.size, 0, none⟩)]) (hg : Ob w g.to n d) (hd : d < 64) (f : Fn) (fs cs : Array Value) :
    Calls Try.prog 23 #[g.to, .func f fs cs] w fun e w' => MkE n g (ownP (n.testBit 0) g) (ownP (n.testBit 1) g) (ownP (n.testBit 2) g) (ownP (n.testBit 3) g) w e w' ∧ w'.cell? ⟨w.heap.size, 0, none⟩ = some (.func f fs cs) := by
  have HW : Hid (∀ W, Below w.heap.size w W → Calls Try.prog 36 #[g.to] W fun e w' => e = .returned (.tuple #[.int .i64 (n : Int), .int .i64 0]) ∧ Below W.heap.size W w') := fun W hW => wrappable_any W (hg.of_below hW) hd
  have HP : Hid (∀ W, Calls Try.prog 37 #[g.to, g.does] W fun e w' => e = .returned (.agg (pcs g (ownP (n.testBit 0) g) (ownP (n.testBit 1) g) (ownP (n.testBit 2) g) (ownP (n.testBit 3) g))) ∧ Below W.heap.size W w') := fun W => partsOf_any g hg W
  have HS : Hid (∀ W, Calls Try.prog 39 #[.agg (pcs g (ownP (n.testBit 0) g) (ownP (n.testBit 1) g) (ownP (n.testBit 2) g) (ownP (n.testBit 3) g)), .int .i64 (n : Int)] W fun e w' => ShE n g (ownP (n.testBit 0) g) (ownP (n.testBit 1) g) (ownP (n.testBit 2) g) (ownP (n.testBit 3) g) W e w') := fun W => showing_any _ hg.lt g _ _ _ _ W
  have hmf : ∀ (fn : Fn) (first cap : Array Value) (w : World), (Instr.makeFunc fn first cap).run Try.prog w = .ok (.func fn first cap) w := fun _ _ _ _ => rfl
  have hq : ∀ W : World, (binOp .eql 66 (.func f fs cs) .nilFunc).run Try.prog W = .ok (.bool false) W := fun W => by kernel_rfl
  have HA : Hid (∀ o, Below w.heap.size w (w.alloc o)) := fun o => (Below.refl _ _).alloc (Nat.le_refl _) _
  have HC : Hid (∀ o, (w.alloc o).heap[w.heap.size]? = some o) := fun o => heap_alloc_last w o
  clear hg hd
  generalize ownP (n.testBit 0) g = r0 at HP HS ⊢
  generalize ownP (n.testBit 1) g = r1 at HP HS ⊢
  generalize ownP (n.testBit 2) g = r2 at HP HS ⊢
  generalize ownP (n.testBit 3) g = r3 at HP HS ⊢
  rw [hf] at HP
  clear hf
  generalize pcs g r0 r1 r2 r3 = ps at HP HS
  generalize g.to = go at HP HW ⊢
  go_enter Try.func23, Try.ntmps23
  go_wp2_with fail
  refine (HW.out _ (HA.out _)).mono ?_
  rintro e w1 ⟨rfl, HB1⟩
  have k1 := (HB1.block w.heap.size (by simp)).trans (HC.out _)
  replace HB1 : Hid (Below w.heap.size w w1) := (HA.out _).trans (HB1.mono (by simp))
  have c1 : w1.cell? ⟨w.heap.size, 0, none⟩ = some (.func f fs cs) := by rw [cell_of_row _ _ 0 _ _ _ k1]; rfl
  have HZ : Hid (w.heap.size < w1.heap.size) := (Array.getElem?_eq_some_iff.1 k1).1
  clear k1 HA HC
  go_wp2_with fail
  refine (HP.out _).mono ?_
  rintro e w2 ⟨rfl, hb⟩
  have HC2 : Hid (w2.cell? ⟨w.heap.size, 0, none⟩ = some (.func f fs cs)) := (hb.cell (p := ⟨w.heap.size, 0, none⟩) HZ.out).trans c1
  replace HZ : Hid (w.heap.size < w2.heap.size) := Nat.lt_of_lt_of_le HZ.out hb.size
  replace hb : Hid (Below w.heap.size w w2) := HB1.out.trans (hb.mono HB1.out.size)
  clear c1 HB1
  go_wp2_with fail
  refine (HS.out _).mono ?_
  rintro e w3 ⟨b, rfl, h1, h2, h3⟩
  have HC3 : Hid (w3.cell? ⟨w.heap.size, 0, none⟩ = some (.func f fs cs)) := (h3.cell (p := ⟨w.heap.size, 0, none⟩) HZ.out).trans HC2.out
  replace h1 : Hid (w.heap.size ≤ b) := Nat.le_trans hb.out.size h1
  replace h2 : Hid (_ = _) := h2
  replace h3 : Hid (Below w.heap.size w w3) := hb.out.trans (h3.mono hb.out.size)
  go_wp2_with fail
  go_ret2
  exact ⟨⟨b, rfl, h1.out, h2.out, h3.out⟩, HC3.out⟩

set_option maxRecDepth 100000 in
set_option maxHeartbeats 1000000 in
theorem Add_ok {w : World} {n d m c : Nat} (g y : Go) (hf : g.does = .func (.func 38) #[] #[]) (hy : y.does = .func (.func 38) #[] #[]) (hg : Ob w g.to n d) (hd : d < 64) (hb : Ob w y.to m c) :
    Calls Try.prog 21 #[g.to, y.to] w fun e w' => MkE (n ||| m) g (fillP (m.testBit 0) (ownP (n.testBit 0) g) y) (fillP (m.testBit 1) (ownP (n.testBit 1) g) y) (fillP (m.testBit 2) (ownP (n.testBit 2) g) y) (fillP (m.testBit 3) (ownP (n.testBit 3) g) y) w e w' := by
  have HW : Hid (∀ W, Below w.heap.size w W → Calls Try.prog 36 #[g.to] W fun e w' => e = .returned (.tuple #[.int .i64 (n : Int), .int .i64 0]) ∧ Below W.heap.size W w') := fun W hW => wrappable_any W (hg.of_below hW) hd
  have HP : Hid (∀ W, Calls Try.prog 37 #[g.to, g.does] W fun e w' => e = .returned (.agg (pcs g (ownP (n.testBit 0) g) (ownP (n.testBit 1) g) (ownP (n.testBit 2) g) (ownP (n.testBit 3) g))) ∧ Below W.heap.size W w') := fun W => partsOf_any g hg W
  have HA : Hid (∀ W, Calls Try.prog 19 #[y.to] W fun e w' => e = .returned (.tuple #[.int .i64 (m : Int), .int .i64 0]) ∧ W = w') := fun W => Abilities_ob hb W
  have HF : Hid (∀ W, Calls Try.prog 46 #[.agg (pcs g (ownP (n.testBit 0) g) (ownP (n.testBit 1) g) (ownP (n.testBit 2) g) (ownP (n.testBit 3) g)), y.to, y.does] W fun e w' => e = .returned (.agg (pcs g (fillP (m.testBit 0) (ownP (n.testBit 0) g) y) (fillP (m.testBit 1) (ownP (n.testBit 1) g) y) (fillP (m.testBit 2) (ownP (n.testBit 2) g) y) (fillP (m.testBit 3) (ownP (n.testBit 3) g) y))) ∧ Below W.heap.size W w') := fun W => filledBy_any g y hb _ _ _ _ W
  have hor := or_nat n hg.lt m hb.lt
  have HS : Hid (∀ W, Calls Try.prog 39 #[.agg (pcs g (fillP (m.testBit 0) (ownP (n.testBit 0) g) y) (fillP (m.testBit 1) (ownP (n.testBit 1) g) y) (fillP (m.testBit 2) (ownP (n.testBit 2) g) y) (fillP (m.testBit 3) (ownP (n.testBit 3) g) y)), .int .i64 ((n ||| m : Nat) : Int)] W fun e w' => ShE (n ||| m) g (fillP (m.testBit 0) (ownP (n.testBit 0) g) y) (fillP (m.testBit 1) (ownP (n.testBit 1) g) y) (fillP (m.testBit 2) (ownP (n.testBit 2) g) y) (fillP (m.testBit 3) (ownP (n.testBit 3) g) y) W e w') := fun W => showing_any _ (or_lt n m hg.lt hb.lt) g _ _ _ _ W
  clear hg hd hb
  generalize fillP (m.testBit 0) (ownP (n.testBit 0) g) y = r0 at HF HS ⊢
  generalize fillP (m.testBit 1) (ownP (n.testBit 1) g) y = r1 at HF HS ⊢
  generalize fillP (m.testBit 2) (ownP (n.testBit 2) g) y = r2 at HF HS ⊢
  generalize fillP (m.testBit 3) (ownP (n.testBit 3) g) y = r3 at HF HS ⊢
  rw [hf] at HP
  rw [hy] at HF
  clear hf hy
  generalize n ||| m = s at HS hor ⊢
  generalize pcs g r0 r1 r2 r3 = ps at HF HS
  generalize pcs g (ownP (n.testBit 0) g) (ownP (n.testBit 1) g) (ownP (n.testBit 2) g) (ownP (n.testBit 3) g) = qs at HP HF
  generalize g.to = go at HP HW ⊢
  generalize y.to = yo at HF HA ⊢
  go_enter Try.func21, Try.ntmps21
  go_wp2_with (go_at_call 19; refine (HA.out _).mono ?_; rintro e w' ⟨rfl, rfl⟩)
  refine (HW.out _ (Below.refl _ _)).mono ?_
  rintro e w0 ⟨rfl, HB0⟩
  replace HB0 : Hid (Below w.heap.size w w0) := HB0
  go_wp2_with fail
  refine (HP.out _).mono ?_
  rintro e w1 ⟨rfl, HB1⟩
  replace HB1 : Hid (Below w.heap.size w w1) := HB0.out.trans (HB1.mono HB0.out.size)
  clear HB0
  go_wp2_with fail
  refine (HF.out _).mono ?_
  rintro e w2 ⟨rfl, hb⟩
  replace hb : Hid (Below w.heap.size w w2) := HB1.out.trans (hb.mono HB1.out.size)
  go_wp2_with fail
  refine (HS.out _).mono ?_
  rintro e w3 ⟨b, rfl, h1, h2, h3⟩
  replace h1 : Hid (w.heap.size ≤ b) := Nat.le_trans hb.out.size h1
  replace h2 : Hid (_ = _) := h2
  replace h3 : Hid (Below w.heap.size w w3) := hb.out.trans (h3.mono hb.out.size)
  go_wp2_with fail
  go_ret2
  exact ⟨b, rfl, h1.out, h2.out, h3.out⟩

end Go.Proofs.Ytcelbkkgjnfblaa

/- tenonlaw11.sets. -/
namespace Go.Proofs.Ytcelbkkgjnfblaa
open Go.RowKit

set_option maxRecDepth 100000 in
set_option maxHeartbeats 4000000 in
theorem sets_bits (o : Value) (b0 b1 b2 b3 : Bool) (w : World)
    (H0 : Hid (∀ W, ∃ X, Calls Try.prog 42 #[o] W fun e w' => e = .returned (.tuple #[X, .bool b0]) ∧ W = w'))
    (H1 : Hid (∀ W, ∃ X, Calls Try.prog 43 #[o] W fun e w' => e = .returned (.tuple #[X, .bool b1]) ∧ W = w'))
    (H2 : Hid (∀ W, ∃ X, Calls Try.prog 44 #[o] W fun e w' => e = .returned (.tuple #[X, .bool b2]) ∧ W = w'))
    (H3 : Hid (∀ W, ∃ X, Calls Try.prog 45 #[o] W fun e w' => e = .returned (.tuple #[X, .bool b3]) ∧ W = w')) :
    Calls Try.prog 20 #[o] w fun e w' => e = .returned (.int .i64 (addUp b0 b1 b2 b3)) ∧ w = w' := by
  obtain ⟨X0, HX0⟩ := H0.out w
  obtain ⟨X1, HX1⟩ := H1.out w
  obtain ⟨X2, HX2⟩ := H2.out w
  obtain ⟨X3, HX3⟩ := H3.out w
  replace HX0 : Hid (Calls Try.prog 42 #[o] w fun e w' => e = .returned (.tuple #[X0, .bool b0]) ∧ w = w') := HX0
  replace HX1 : Hid (Calls Try.prog 43 #[o] w fun e w' => e = .returned (.tuple #[X1, .bool b1]) ∧ w = w') := HX1
  replace HX2 : Hid (Calls Try.prog 44 #[o] w fun e w' => e = .returned (.tuple #[X2, .bool b2]) ∧ w = w') := HX2
  replace HX3 : Hid (Calls Try.prog 45 #[o] w fun e w' => e = .returned (.tuple #[X3, .bool b3]) ∧ w = w') := HX3
  clear H0 H1 H2 H3
  cases b0 <;> cases b1 <;> cases b2 <;> cases b3 <;> (
    go_enter Try.func20, Try.ntmps20
    go_wp2_with (first | (go_at_call 42; refine HX0.out.mono ?_; rintro e w' ⟨rfl, rfl⟩) | (go_at_call 43; refine HX1.out.mono ?_; rintro e w' ⟨rfl, rfl⟩) | (go_at_call 44; refine HX2.out.mono ?_; rintro e w' ⟨rfl, rfl⟩) | (go_at_call 45; refine HX3.out.mono ?_; rintro e w' ⟨rfl, rfl⟩))
    go_ret
    exact ⟨rfl, rfl⟩)
theorem sets_ob {w : World} {o : Value} {n d : Nat} (h : Ob w o n d) (W : World) : Calls Try.prog 20 #[o] W fun e w' => e = .returned (.int .i64 (n : Int)) ∧ W = w' := by
  obtain ⟨T, v, m, rfl, _⟩ := h.ty
  have := sets_bits (.iface T v) _ _ _ _ W (fun W => ⟨_, AsOb_0 h W⟩) (fun W => ⟨_, AsOb_1 h W⟩) (fun W => ⟨_, AsOb_2 h W⟩) (fun W => ⟨_, AsOb_3 h W⟩)
  rw [addUp_bits n h.lt] at this
  exact this
end Go.Proofs.Ytcelbkkgjnfblaa


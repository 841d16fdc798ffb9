/- Two descriptions in boxes, made to fit; what the law's regions need. -/
import Derived.Test.YtcelbkkgjnfblaaR8
import Derived.Deep.RegionHeld3
import Derived.Deep.DeepCutAuto
namespace Go.Proofs.Ytcelbkkgjnfblaa
open Go.RowKit

theorem sp_ld {w : World} {b : Nat} {T : TypeId} {fr : Nat × Nat} (r : Sr) (h n sh : Int) (hb : w.heap[b]? = some (.cells (r.cs h n sh) T fr)) : (loadVar 28 ⟨b, 0, none⟩).run Try.prog w = .ok (.agg (r.cs h n sh)) w :=
  run_loadVar_row w b T 28 _ fr _ hb Try.underlying28 rfl (by kernel_rfl)
theorem sp_st {w : World} {b : Nat} {T : TypeId} {old : Array Value} (r : Sr) (h n sh : Int) (hb : w.heap[b]? = some (.cells old T (0, 0))) (ho : old.size = 14) : (storeVar 28 ⟨b, 0, none⟩ (.agg (r.cs h n sh))).run Try.prog w = .ok () (w.setRow b (r.cs h n sh)) :=
  run_storeVar_row w b T 28 old _ hb (by kernel_rfl) (by rw [ho]; rfl) (by simp [Sr.cs, Value.oneCell'])
theorem calls_ld {r : Sr} {h sh : Int} {n c : Nat} {w : World} (hc : Core r h n sh c w) : (loadVar 68 ⟨c, 14, none⟩).run Try.prog w = .ok (.agg #[.int .i64 0, .int .i64 0, .int .i64 0, .int .i64 0, .int .i64 0, .int .i64 0, .int .i64 0, .int .i64 0, .int .i64 0]) w := by
  have := run_loadVar_mid (P := Try.prog) w c 14 68 zs.toList _ (fun j v hj => by
    have hj' : j < 9 := (List.getElem?_eq_some_iff.1 hj).1
    rw [cell_of_row _ _ _ _ _ _ hc]
    rw [Array.getElem?_append_right (by show 14 ≤ _; omega)]
    simpa [Sr.cs] using hj) Try.underlying68 rfl (by kernel_rfl)
  simpa [zs] using this

/-- an operation that loads, or stores, many cells, in a region that draws -/
theorem ld_up {P : Program} {Q : Exit → Act → World → Prop} {K : Act → World → Prop} {a : Act} {w : World} {ops : Array Oper} {d : Option Tmp} {ty T : TypeId} {x : Operand} {ps : String} {af : Array Edge} {gd : Option (Nat × Bool)} {p : Addr} {v : Value} {Z : Prop}
    (hw : Region.wanted (Oper.mk d (.load ty x) T ps af gd) (yielded ops a.tmps) = true) (hx : a.eval x = .pointer (some p)) (hl : (loadVar ty p).run P w = .ok v w) (h : K (a.put d v) w) :
    if Region.wanted (Oper.mk d (.load ty x) T ps af gd) (yielded ops a.tmps) = true then Oper.wp P (Oper.mk d (.load ty x) T ps af gd) a w K Q else Z := by
  rw [if_pos hw]
  unfold Oper.wp execOp
  simp only [hx, Instr.loadAt, Instr.sureAddr, Sem.run_bind, Sem.run_pure, Result.andThen_ok, hl]
  exact h
theorem st_up {P : Program} {Q : Exit → Act → World → Prop} {K : Act → World → Prop} {a : Act} {w w' : World} {ops : Array Oper} {d : Option Tmp} {ty T : TypeId} {x y : Operand} {ps : String} {af : Array Edge} {gd : Option (Nat × Bool)} {p : Addr} {v : Value} {Z : Prop}
    (hw : Region.wanted (Oper.mk d (.store ty x y) T ps af gd) (yielded ops a.tmps) = true) (hx : a.eval x = .pointer (some p)) (hy : a.eval y = v) (hl : (storeVar ty p v).run P w = .ok () w') (h : K (a.put d undef) w') :
    if Region.wanted (Oper.mk d (.store ty x y) T ps af gd) (yielded ops a.tmps) = true then Oper.wp P (Oper.mk d (.store ty x y) T ps af gd) a w K Q else Z := by
  rw [if_pos hw]
  unfold Oper.wp execOp
  simp only [hx, hy, Instr.storeAt, Instr.sureAddr, Sem.run_bind, Sem.run_pure, Result.andThen_ok, hl]
  exact h

/-- the two boxes, and all below as it was -/
def R2 (B : Nat) (w W : World) (x y : Array Value) : Prop := W.heap[B]? = some (.cells x 28) ∧ W.heap[B + 1]? = some (.cells y 28) ∧ Below B w W
theorem R2.sz {B : Nat} {w W : World} {x y : Array Value} (h : R2 B w W x y) : B + 2 ≤ W.heap.size := (Array.getElem?_eq_some_iff.1 h.2.1).1
theorem R2.below {B : Nat} {w W W' : World} {x y : Array Value} (h : R2 B w W x y) (hb : Below W.heap.size W W') : R2 B w W' x y :=
  ⟨(hb.block _ (by have := h.sz; omega)).trans h.1, (hb.block _ (by have := h.sz; omega)).trans h.2.1, h.2.2.trans (hb.mono (by have := h.sz; omega))⟩
theorem R2.drew {B : Nat} {w W : World} {x y : Array Value} (h : R2 B w W x y) : R2 B w W.drew x y := h.below (Below.refl _ _).drew
theorem R2.set0 {B : Nat} {w W : World} {x y : Array Value} (h : R2 B w W x y) (z : Array Value) : R2 B w (W.setRow B z) z y :=
  ⟨setRow_heap _ _ _ _ _ _ h.1, (setRow_other _ _ _ _ (by omega)).trans h.2.1, h.2.2.trans ⟨rfl, rfl, rfl, by rw [setRow_size]; exact Nat.le_refl _, fun k hk => setRow_other _ _ _ _ (by omega)⟩⟩
theorem R2.set1 {B : Nat} {w W : World} {x y : Array Value} (h : R2 B w W x y) (z : Array Value) : R2 B w (W.setRow (B + 1) z) x z :=
  ⟨(setRow_other _ _ _ _ (by omega)).trans h.1, setRow_heap _ _ _ _ _ _ h.2.1, h.2.2.trans ⟨rfl, rfl, rfl, by rw [setRow_size]; exact Nat.le_refl _, fun k hk => setRow_other _ _ _ _ (by omega)⟩⟩
theorem R2.new {w : World} (x y : Array Value) : R2 w.heap.size w ((w.alloc (.cells x 28)).alloc (.cells y 28)) x y :=
  ⟨al2_old _ _ _, al2_new _ _ _, ((Below.refl _ _).alloc (Nat.le_refl _) _).alloc (by simp) _⟩
theorem R2.cell0 {B : Nat} {w W : World} {x y : Array Value} (h : R2 B w W x y) (j : Nat) (v : Value) : R2 B w (W.setCell ⟨B, j, none⟩ v) (x.setIfInBounds j v) y := by
  rw [setCell_eq_setRow _ _ _ _ _ _ _ h.1]; exact h.set0 _
theorem R2.cell1 {B : Nat} {w W : World} {x y : Array Value} (h : R2 B w W x y) (j : Nat) (v : Value) : R2 B w (W.setCell ⟨B + 1, j, none⟩ v) x (y.setIfInBounds j v) := by
  rw [setCell_eq_setRow _ _ _ _ _ _ _ h.2.1]; exact h.set1 _
theorem take_ld {P : Program} {ops : Array Oper} {S : World → Prop} {op : Oper} {a : Act} {ty : TypeId} {x : Operand} {p : Addr} {v : Value} (hw : Region.wanted op (yielded ops a.tmps) = true) (ho : op.op = .load ty x) (hx : a.eval x = .pointer (some p)) (hS : ∀ w, S w → (loadVar ty p).run P w = .ok v w) : YieldsIf P ops S op v a :=
  .inl ⟨hw, fun w hw' => by
    unfold execOp
    simp only [ho, hx, Instr.loadAt, Instr.sureAddr, Sem.run_bind, Sem.run_pure, Result.andThen_ok, hS w hw']⟩
theorem zero15 : ∀ k : Nat, k < 16 → ∀ j : Nat, j < 16 → (k &&& j) &&& (15 - j) = 0 := by decide +kernel
end Go.Proofs.Ytcelbkkgjnfblaa

/- tenonlaw11.WrapShown returns true at every two descriptions. -/
namespace Go.Proofs.Ytcelbkkgjnfblaa
open Go.RowKit

set_option maxRecDepth 100000 in
set_option maxHeartbeats 4000000 in
theorem WrapShown_any (r q : Sr) (h n sh h2 n2 sh2 : Int) (w : World) :
    Calls Try.prog 4 #[.agg (r.cs h n sh), .agg (q.cs h2 n2 sh2)] w fun e w' => e = .returned (.bool true) ∧ Below w.heap.size w w' := by
  have HF : Hid (∀ W, Calls Try.prog 16 #[.agg (r.cs h n sh)] W fun e w' => e = .returned (.agg (r.cs (fitM 4 h) (fitM 16 n) sh)) ∧ Below W.heap.size W w') := fun W => Fit_any r h n sh W
  have HG : Hid (∀ W, Calls Try.prog 16 #[.agg (q.cs h2 n2 sh2)] W fun e w' => e = .returned (.agg (q.cs (fitM 4 h2) (fitM 16 n2) sh2)) ∧ Below W.heap.size W w') := fun W => Fit_any q h2 n2 sh2 W
  have HR0 : Hid (R2 w.heap.size w ((w.alloc (.cells (r.cs h n sh) 28)).alloc (.cells (q.cs h2 n2 sh2) 28)) (r.cs h n sh) (q.cs h2 n2 sh2)) := R2.new _ _
  have HM : Hid (0 ≤ fitM 16 n2 ∧ fitM 16 n2 < 16) := (fitM_eq 16 n2 (by decide) (by decide)).1
  go_enter Try.func4, Try.ntmps4
  unfold Sr.cs
  go_upto_region 1 with fail
  go_cut [] (fun wx => Hid (R2 w.heap.size w wx (r.cs (fitM 4 h) (fitM 16 n) sh) (q.cs (fitM 4 h2) (fitM 16 n2) sh2)))
  case first =>
    clear HM
    generalize hV0 : (w.alloc (.cells #[.int .i64 h, .int .i64 n, .int .i64 sh, .int .u64 r.id, .slice r.fa r.fl r.fc, .string r.cl, .int .i64 r.ve, .slice r.ka r.kl r.kc, .string r.ow, .int .i64 r.gv, .bool r.ld, .int .i64 r.lo, .int .i64 r.pa, .int .i64 r.wi] 28)).alloc (.cells #[.int .i64 h2, .int .i64 n2, .int .i64 sh2, .int .u64 q.id, .slice q.fa q.fl q.fc, .string q.cl, .int .i64 q.ve, .slice q.ka q.kl q.kc, .string q.ow, .int .i64 q.gv, .bool q.ld, .int .i64 q.lo, .int .i64 q.pa, .int .i64 q.wi] 28) = V0
    replace HR0 : Hid (R2 w.heap.size w V0 (r.cs h n sh) (q.cs h2 n2 sh2)) := by rw [← hV0]; exact HR0.out
    clear hV0
    have HW0 : Hid (R2 w.heap.size w V0.drew (r.cs h n sh) (q.cs h2 n2 sh2)) := HR0.out.drew
    refine wp_region_held_drew (S := fun _ => True) (by kernel_rfl) trivial (fun _ => ?_)
    generalize V0.drew = W0 at HW0 ⊢
    clear HR0
    refine wpAnyH_ready (rs := [0, 2]) (by kernel_rfl) (by simp) ?_
    refine (AllReadyH.cons (o := { dst := some 22, op := Go.Op.load 28 (Go.Operand.tmp 2), type := 28, pos := "law.go:288", after := #[], guard := none }) rfl (fun K hK => ?_) (AllReadyH.cons (o := { dst := some 24, op := Go.Op.load 28 (Go.Operand.tmp 3), type := 28, pos := "law.go:288", after := #[], guard := none }) rfl (fun K hK => ?_) AllReadyH.nil))
    · refine ld_up (by rfl) rfl (sp_ld r h n sh HW0.out.1) ?_
      refine hK.out _ _ trivial (fun _ => ?_)
      clear hK K
      simp only [Act.put, List.setIfInBounds_toArray, List.set_cons_zero, List.set_cons_succ]
      refine wpAnyH_ready (rs := [1, 2]) (by kernel_rfl) (by simp) ?_
      refine (AllReadyH.cons (o := { dst := some 23, op := Go.Op.call { callee := Go.Callee.value (Go.Operand.func 16), args := #[Go.Operand.tmp 22], argTypes := #[28] }, type := 28, pos := "law.go:288", after := #[{ on := 0, ground := Go.Ground.data }], guard := none }) rfl (fun K hK => ?_) (AllReadyH.cons (o := { dst := some 24, op := Go.Op.load 28 (Go.Operand.tmp 3), type := 28, pos := "law.go:288", after := #[], guard := none }) rfl (fun K hK => ?_) AllReadyH.nil))
      · go_simp
        refine (HF.out _).mono ?_
        rintro e Wa ⟨rfl, hbWa⟩
        have HWa : Hid (R2 w.heap.size w Wa (r.cs h n sh) (q.cs h2 n2 sh2)) := HW0.out.below hbWa
        clear hbWa
        go_wp2_with fail
        refine hK.out _ _ trivial (fun _ => ?_)
        clear hK K
        refine wpAnyH_ready (rs := [2]) (by kernel_rfl) (by simp) ?_
        refine (AllReadyH.cons (o := { dst := some 24, op := Go.Op.load 28 (Go.Operand.tmp 3), type := 28, pos := "law.go:288", after := #[], guard := none }) rfl (fun K hK => ?_) AllReadyH.nil)
        refine ld_up (by rfl) rfl (sp_ld q h2 n2 sh2 HWa.out.2.1) ?_
        refine hK.out _ _ trivial (fun _ => ?_)
        clear hK K
        simp only [Act.put, List.setIfInBounds_toArray, List.set_cons_zero, List.set_cons_succ]
        refine wpAnyH_ready (rs := [3]) (by kernel_rfl) (by simp) ?_
        refine (AllReadyH.cons (o := { dst := some 25, op := Go.Op.call { callee := Go.Callee.value (Go.Operand.func 16), args := #[Go.Operand.tmp 24], argTypes := #[28] }, type := 28, pos := "law.go:288", after := #[{ on := 2, ground := Go.Ground.data }, { on := 1, ground := Go.Ground.chain }], guard := none }) rfl (fun K hK => ?_) AllReadyH.nil)
        go_simp
        refine (HG.out _).mono ?_
        rintro e Wb ⟨rfl, hbWb⟩
        have HWb : Hid (R2 w.heap.size w Wb (r.cs h n sh) (q.cs h2 n2 sh2)) := HWa.out.below hbWb
        clear hbWb
        go_wp2_with fail
        refine hK.out _ _ trivial (fun _ => ?_)
        clear hK K
        refine wpAnyH_ready (rs := [4]) (by kernel_rfl) (by simp) ?_
        refine (AllReadyH.cons (o := { dst := none, op := Go.Op.store 28 (Go.Operand.tmp 2) (Go.Operand.tmp 23), type := 0, pos := "law.go:288", after := #[{ on := 1, ground := Go.Ground.data }, { on := 3, ground := Go.Ground.chain }, { on := 0, ground := Go.Ground.phase }, { on := 1, ground := Go.Ground.phase }, { on := 2, ground := Go.Ground.textOnly Go.Departure.lateStores }, { on := 3, ground := Go.Ground.textOnly Go.Departure.lateStoresUnsure }], guard := none }) rfl (fun K hK => ?_) AllReadyH.nil)
        refine st_up (by rfl) rfl rfl (sp_st r (fitM 4 h) (fitM 16 n) sh HWb.out.1 rfl) ?_
        refine hK.out _ _ trivial (fun _ => ?_)
        clear hK K
        simp only [Act.put]
        refine wpAnyH_ready (rs := [5]) (by kernel_rfl) (by simp) ?_
        refine (AllReadyH.cons (o := { dst := none, op := Go.Op.store 28 (Go.Operand.tmp 3) (Go.Operand.tmp 25), type := 0, pos := "law.go:288", after := #[{ on := 3, ground := Go.Ground.data }, { on := 4, ground := Go.Ground.chain }, { on := 0, ground := Go.Ground.phase }, { on := 1, ground := Go.Ground.phase }, { on := 2, ground := Go.Ground.phase }, { on := 3, ground := Go.Ground.phase }, { on := 4, ground := Go.Ground.phase }], guard := none }) rfl (fun K hK => ?_) AllReadyH.nil)
        refine st_up (by rfl) rfl rfl (sp_st q (fitM 4 h2) (fitM 16 n2) sh2 (HWb.out.set0 (r.cs (fitM 4 h) (fitM 16 n) sh)).2.1 rfl) ?_
        refine hK.out _ _ trivial (fun _ => ?_)
        clear hK K
        simp only [Act.put]
        refine wpAnyH_done (by kernel_rfl) ?_ _
        go_wp2_with fail
        go_meet
        exact (HWb.out.set0 (r.cs (fitM 4 h) (fitM 16 n) sh)).set1 (q.cs (fitM 4 h2) (fitM 16 n2) sh2)
      · refine ld_up (by rfl) rfl (sp_ld q h2 n2 sh2 HW0.out.2.1) ?_
        refine hK.out _ _ trivial (fun _ => ?_)
        clear hK K
        simp only [Act.put, List.setIfInBounds_toArray, List.set_cons_zero, List.set_cons_succ]
        refine wpAnyH_ready (rs := [1]) (by kernel_rfl) (by simp) ?_
        refine (AllReadyH.cons (o := { dst := some 23, op := Go.Op.call { callee := Go.Callee.value (Go.Operand.func 16), args := #[Go.Operand.tmp 22], argTypes := #[28] }, type := 28, pos := "law.go:288", after := #[{ on := 0, ground := Go.Ground.data }], guard := none }) rfl (fun K hK => ?_) AllReadyH.nil)
        go_simp
        refine (HF.out _).mono ?_
        rintro e Wa ⟨rfl, hbWa⟩
        have HWa : Hid (R2 w.heap.size w Wa (r.cs h n sh) (q.cs h2 n2 sh2)) := HW0.out.below hbWa
        clear hbWa
        go_wp2_with fail
        refine hK.out _ _ trivial (fun _ => ?_)
        clear hK K
        refine wpAnyH_ready (rs := [3]) (by kernel_rfl) (by simp) ?_
        refine (AllReadyH.cons (o := { dst := some 25, op := Go.Op.call { callee := Go.Callee.value (Go.Operand.func 16), args := #[Go.Operand.tmp 24], argTypes := #[28] }, type := 28, pos := "law.go:288", after := #[{ on := 2, ground := Go.Ground.data }, { on := 1, ground := Go.Ground.chain }], guard := none }) rfl (fun K hK => ?_) AllReadyH.nil)
        go_simp
        refine (HG.out _).mono ?_
        rintro e Wb ⟨rfl, hbWb⟩
        have HWb : Hid (R2 w.heap.size w Wb (r.cs h n sh) (q.cs h2 n2 sh2)) := HWa.out.below hbWb
        clear hbWb
        go_wp2_with fail
        refine hK.out _ _ trivial (fun _ => ?_)
        clear hK K
        refine wpAnyH_ready (rs := [4]) (by kernel_rfl) (by simp) ?_
        refine (AllReadyH.cons (o := { dst := none, op := Go.Op.store 28 (Go.Operand.tmp 2) (Go.Operand.tmp 23), type := 0, pos := "law.go:288", after := #[{ on := 1, ground := Go.Ground.data }, { on := 3, ground := Go.Ground.chain }, { on := 0, ground := Go.Ground.phase }, { on := 1, ground := Go.Ground.phase }, { on := 2, ground := Go.Ground.textOnly Go.Departure.lateStores }, { on := 3, ground := Go.Ground.textOnly Go.Departure.lateStoresUnsure }], guard := none }) rfl (fun K hK => ?_) AllReadyH.nil)
        refine st_up (by rfl) rfl rfl (sp_st r (fitM 4 h) (fitM 16 n) sh HWb.out.1 rfl) ?_
        refine hK.out _ _ trivial (fun _ => ?_)
        clear hK K
        simp only [Act.put]
        refine wpAnyH_ready (rs := [5]) (by kernel_rfl) (by simp) ?_
        refine (AllReadyH.cons (o := { dst := none, op := Go.Op.store 28 (Go.Operand.tmp 3) (Go.Operand.tmp 25), type := 0, pos := "law.go:288", after := #[{ on := 3, ground := Go.Ground.data }, { on := 4, ground := Go.Ground.chain }, { on := 0, ground := Go.Ground.phase }, { on := 1, ground := Go.Ground.phase }, { on := 2, ground := Go.Ground.phase }, { on := 3, ground := Go.Ground.phase }, { on := 4, ground := Go.Ground.phase }], guard := none }) rfl (fun K hK => ?_) AllReadyH.nil)
        refine st_up (by rfl) rfl rfl (sp_st q (fitM 4 h2) (fitM 16 n2) sh2 (HWb.out.set0 (r.cs (fitM 4 h) (fitM 16 n) sh)).2.1 rfl) ?_
        refine hK.out _ _ trivial (fun _ => ?_)
        clear hK K
        simp only [Act.put]
        refine wpAnyH_done (by kernel_rfl) ?_ _
        go_wp2_with fail
        go_meet
        exact (HWb.out.set0 (r.cs (fitM 4 h) (fitM 16 n) sh)).set1 (q.cs (fitM 4 h2) (fitM 16 n2) sh2)
    · refine ld_up (by rfl) rfl (sp_ld q h2 n2 sh2 HW0.out.2.1) ?_
      refine hK.out _ _ trivial (fun _ => ?_)
      clear hK K
      simp only [Act.put, List.setIfInBounds_toArray, List.set_cons_zero, List.set_cons_succ]
      refine wpAnyH_ready (rs := [0]) (by kernel_rfl) (by simp) ?_
      refine (AllReadyH.cons (o := { dst := some 22, op := Go.Op.load 28 (Go.Operand.tmp 2), type := 28, pos := "law.go:288", after := #[], guard := none }) rfl (fun K hK => ?_) AllReadyH.nil)
      refine ld_up (by rfl) rfl (sp_ld r h n sh HW0.out.1) ?_
      refine hK.out _ _ trivial (fun _ => ?_)
      clear hK K
      simp only [Act.put, List.setIfInBounds_toArray, List.set_cons_zero, List.set_cons_succ]
      refine wpAnyH_ready (rs := [1]) (by kernel_rfl) (by simp) ?_
      refine (AllReadyH.cons (o := { dst := some 23, op := Go.Op.call { callee := Go.Callee.value (Go.Operand.func 16), args := #[Go.Operand.tmp 22], argTypes := #[28] }, type := 28, pos := "law.go:288", after := #[{ on := 0, ground := Go.Ground.data }], guard := none }) rfl (fun K hK => ?_) AllReadyH.nil)
      go_simp
      refine (HF.out _).mono ?_
      rintro e Wa ⟨rfl, hbWa⟩
      have HWa : Hid (R2 w.heap.size w Wa (r.cs h n sh) (q.cs h2 n2 sh2)) := HW0.out.below hbWa
      clear hbWa
      go_wp2_with fail
      refine hK.out _ _ trivial (fun _ => ?_)
      clear hK K
      refine wpAnyH_ready (rs := [3]) (by kernel_rfl) (by simp) ?_
      refine (AllReadyH.cons (o := { dst := some 25, op := Go.Op.call { callee := Go.Callee.value (Go.Operand.func 16), args := #[Go.Operand.tmp 24], argTypes := #[28] }, type := 28, pos := "law.go:288", after := #[{ on := 2, ground := Go.Ground.data }, { on := 1, ground := Go.Ground.chain }], guard := none }) rfl (fun K hK => ?_) AllReadyH.nil)
      go_simp
      refine (HG.out _).mono ?_
      rintro e Wb ⟨rfl, hbWb⟩
      have HWb : Hid (R2 w.heap.size w Wb (r.cs h n sh) (q.cs h2 n2 sh2)) := HWa.out.below hbWb
      clear hbWb
      go_wp2_with fail
      refine hK.out _ _ trivial (fun _ => ?_)
      clear hK K
      refine wpAnyH_ready (rs := [4]) (by kernel_rfl) (by simp) ?_
      refine (AllReadyH.cons (o := { dst := none, op := Go.Op.store 28 (Go.Operand.tmp 2) (Go.Operand.tmp 23), type := 0, pos := "law.go:288", after := #[{ on := 1, ground := Go.Ground.data }, { on := 3, ground := Go.Ground.chain }, { on := 0, ground := Go.Ground.phase }, { on := 1, ground := Go.Ground.phase }, { on := 2, ground := Go.Ground.textOnly Go.Departure.lateStores }, { on := 3, ground := Go.Ground.textOnly Go.Departure.lateStoresUnsure }], guard := none }) rfl (fun K hK => ?_) AllReadyH.nil)
      refine st_up (by rfl) rfl rfl (sp_st r (fitM 4 h) (fitM 16 n) sh HWb.out.1 rfl) ?_
      refine hK.out _ _ trivial (fun _ => ?_)
      clear hK K
      simp only [Act.put]
      refine wpAnyH_ready (rs := [5]) (by kernel_rfl) (by simp) ?_
      refine (AllReadyH.cons (o := { dst := none, op := Go.Op.store 28 (Go.Operand.tmp 3) (Go.Operand.tmp 25), type := 0, pos := "law.go:288", after := #[{ on := 3, ground := Go.Ground.data }, { on := 4, ground := Go.Ground.chain }, { on := 0, ground := Go.Ground.phase }, { on := 1, ground := Go.Ground.phase }, { on := 2, ground := Go.Ground.phase }, { on := 3, ground := Go.Ground.phase }, { on := 4, ground := Go.Ground.phase }], guard := none }) rfl (fun K hK => ?_) AllReadyH.nil)
      refine st_up (by rfl) rfl rfl (sp_st q (fitM 4 h2) (fitM 16 n2) sh2 (HWb.out.set0 (r.cs (fitM 4 h) (fitM 16 n) sh)).2.1 rfl) ?_
      refine hK.out _ _ trivial (fun _ => ?_)
      clear hK K
      simp only [Act.put]
      refine wpAnyH_done (by kernel_rfl) ?_ _
      go_wp2_with fail
      go_meet
      exact (HWb.out.set0 (r.cs (fitM 4 h) (fitM 16 n) sh)).set1 (q.cs (fitM 4 h2) (fitM 16 n2) sh2)
  case rest =>
  clear HF HG HR0
  replace hcut : Hid (R2 w.heap.size w wc (r.cs (fitM 4 h) (fitM 16 n) sh) (q.cs (fitM 4 h2) (fitM 16 n2) sh2)) := hcut
  obtain ⟨m, hm⟩ : ∃ m : Nat, fitM 16 n2 = (m : Int) := ⟨(fitM 16 n2).toNat, by have := HM.out; omega⟩
  have hm16 : m < 16 := by have := HM.out; omega
  rw [hm] at hcut
  clear HM hm
  generalize fitM 4 h = a1 at hcut
  generalize fitM 16 n = a2 at hcut
  generalize fitM 4 h2 = a3 at hcut
  have c0 : wc.cell? ⟨w.heap.size, 0, none⟩ = some (.int .i64 a1) := by rw [cell_of_row _ _ 0 _ _ _ hcut.out.1]; rfl
  have f0 : wc.frozen? ⟨w.heap.size, 0, none⟩ = false := frozen_of_row _ _ 0 _ _ hcut.out.1
  have c1 : wc.cell? ⟨w.heap.size + 1, 0, none⟩ = some (.int .i64 a3) := by rw [cell_of_row _ _ 0 _ _ _ hcut.out.2.1]; rfl
  have f1 : wc.frozen? ⟨w.heap.size + 1, 0, none⟩ = false := frozen_of_row _ _ 0 _ _ hcut.out.2.1
  have HR : Hid (R2 w.heap.size w ((wc.setCell ⟨w.heap.size, 0, none⟩ (.int .i64 0)).setCell ⟨w.heap.size + 1, 0, none⟩ (.int .i64 0)) (r.cs 0 a2 sh) (q.cs 0 m sh2)) := (hcut.out.cell0 0 (.int .i64 0)).cell1 0 (.int .i64 0)
  go_upto_region 3 with fail
  generalize (wc.setCell ⟨w.heap.size, 0, none⟩ (.int .i64 0)).setCell ⟨w.heap.size + 1, 0, none⟩ (.int .i64 0) = wd at HR ⊢
  clear hcut c0 c1 f0 f1
  go_wp2_with fail
  go_loopw [5] (fun x wr => ∃ (k : Nat) (z : Int), k ≤ 16 ∧ x = .int .i64 (k : Int) ∧ Hid (R2 w.heap.size w wr (r.cs 0 z sh) (q.cs 0 m sh2))) (fun x _ => 16 - (intOf x).toNat)
  case atStart => exact ⟨0, a2, by omega, rfl, HR⟩
  case round =>
    obtain ⟨k, z, hk, rfl, HI⟩ := hrel
    clear HR
    rcases Nat.lt_or_ge k 16 with hlt | hge
    · have hi1 : (k : Int) < 16 := by omega
      have c1 : wr.cell? ⟨w.heap.size, 1, none⟩ = some (.int .i64 z) := by rw [cell_of_row _ _ 1 _ _ _ HI.out.1]; rfl
      have f1 : wr.frozen? ⟨w.heap.size, 1, none⟩ = false := frozen_of_row _ _ 1 _ _ HI.out.1
      have HI1 : Hid (R2 w.heap.size w (wr.setCell ⟨w.heap.size, 1, none⟩ (.int .i64 (k : Int))) (r.cs 0 (k : Int) sh) (q.cs 0 m sh2)) := HI.out.cell0 1 (.int .i64 (k : Int))
      obtain ⟨V, hV⟩ : ∃ V, wr.setCell ⟨w.heap.size, 1, none⟩ (.int .i64 (k : Int)) = V := ⟨_, rfl⟩
      rw [hV] at HI1
      have HLD : Hid ((loadVar 28 ⟨w.heap.size, 0, none⟩).run Try.prog V = .ok (.agg (r.cs 0 (k : Int) sh)) V) := sp_ld r 0 k sh HI1.out.1
      clear HI
      go_wp2_with ((with_reducible refine ldr ?_ ?_ HLD.out ?_); rfl; rfl)
      refine (Object_some r 0 sh k hlt (.inl rfl) V).mono ?_
      rintro e V1 ⟨T, v, rfl, hA, hT, hb1, hC⟩
      replace HI1 : Hid (R2 w.heap.size w V1 (r.cs 0 (k : Int) sh) (q.cs 0 m sh2)) := HI1.out.below hb1
      have HLD1 : Hid ((loadVar 28 ⟨w.heap.size + 1, 0, none⟩).run Try.prog V1 = .ok (.agg (q.cs 0 (m : Int) sh2)) V1) := sp_ld q 0 m sh2 HI1.out.2.1
      replace hA : Hid (Ab T k) := hA
      replace hT : Hid (T ≠ 136) := hT
      obtain ⟨c, hc⟩ : ∃ c, c = V.heap.size + 1 := ⟨_, rfl⟩
      rw [← hc] at hC ⊢
      replace hC : Hid (Core r 0 k sh c V1) := hC
      clear HLD hb1 c1 f1 hV hc
      clear wr
      go_wp2_with ((with_reducible refine ldr ?_ ?_ HLD1.out ?_); rfl; rfl)
      refine (Object_some q 0 sh2 m hm16 (.inl rfl) V1).mono ?_
      rintro e V2 ⟨T2, v2, rfl, hA2, hT2, hb2, _⟩
      replace HI1 : Hid (R2 w.heap.size w V2 (r.cs 0 (k : Int) sh) (q.cs 0 m sh2)) := HI1.out.below hb2
      replace hC : Hid (Core r 0 k sh c V2) := (hb2.block _ (Array.getElem?_eq_some_iff.1 hC.out).1).trans hC.out
      replace hA2 : Hid (Ab T2 m) := hA2
      replace hT2 : Hid (T2 ≠ 136) := hT2
      clear HLD1 hb2
      obtain ⟨c2, hc2⟩ : ∃ c2, c2 = V1.heap.size + 1 := ⟨_, rfl⟩
      rw [← hc2]
      clear hc2
      go_wp2_with fail
      go_loopw [10] (fun x wi => ∃ (j : Nat), j ≤ 16 ∧ x = .int .i64 (j : Int) ∧ Hid (Below V2.heap.size V2 wi)) (fun x _ => 16 - (intOf x).toNat)
      case atStart => exact ⟨0, by omega, rfl, Below.refl _ _⟩
      case round =>
        obtain ⟨j, hj, rfl, HB⟩ := hrel
        rcases Nat.lt_or_ge j 16 with hjl | hjg
        · have hj1 : (j : Int) < 16 := by omega
          have hand := and_nat k hlt j hjl
          have hw1 : IntKind.i64.wrap ((j : Int) + 1) = ((j + 1 : Nat) : Int) := by rw [IntKind.wrap_i64]; omega
          have hw2 : IntKind.i64.wrap (15 - (j : Int)) = ((15 - j : Nat) : Int) := by rw [IntKind.wrap_i64]; omega
          go_wp2_with fail
          refine (Show_ok (w := wr) ⟨T, v, 38, #[], #[]⟩ rfl (.base hA.out hlt hT.out) (by omega) j hjl).mono ?_
          rintro e W1 ⟨b1, rfl, g1, g2, g3⟩
          have HX : Hid (Ob W1 (.iface (WT (k &&& j)) (.pointer (some ⟨b1, 0, none⟩))) (k &&& j) 1) := Ob.made (w := wr) (n := k) (and_lt k j hlt) (.base hA.out hlt hT.out) g2 g3
          replace HB : Hid (Below V2.heap.size V2 W1) := HB.out.trans (g3.mono HB.out.size)
          have HZ : Hid ((k &&& j) &&& (15 - j) = 0) := zero15 k hlt j hjl
          clear g1 g2 g3
          generalize k &&& j = s at HX hand HZ ⊢
          go_wp2_with (first | (go_at_call 19; refine (Abilities_ob HX.out _).mono ?_; rintro e w' ⟨rfl, rfl⟩) | (go_at_call 20; refine (sets_ob HX.out _).mono ?_; rintro e w' ⟨rfl, rfl⟩))
          refine (Show_ok (w := W1) ⟨WT s, .pointer (some ⟨b1, 0, none⟩), 38, #[], #[]⟩ rfl HX.out (by omega) (15 - j) (by omega)).mono ?_
          rintro e W2 ⟨b2, rfl, g1, g2, g3⟩
          have HY : Hid (Ob W2 (.iface (WT (s &&& (15 - j))) (.pointer (some ⟨b2, 0, none⟩))) (s &&& (15 - j)) 2) := Ob.made (w := W1) (p := ⟨WT s, .pointer (some ⟨b1, 0, none⟩), 38, #[], #[]⟩) (and_lt _ _ HX.out.lt) HX.out g2 g3
          replace HB : Hid (Below V2.heap.size V2 W2) := HB.out.trans (g3.mono HB.out.size)
          clear g1 g2 g3
          rw [HZ.out] at HY ⊢
          go_wp2_with (go_at_call 20; refine (sets_ob HY.out _).mono ?_; rintro e w' ⟨rfl, rfl⟩)
          go_roundw
          case rel => exact ⟨j + 1, by omega, by go_num, HB⟩
          case measure => simp [intOf]; omega
        · obtain rfl : j = 16 := by omega
          go_wp2_with fail
          refine (Add_ok (w := wr) ⟨T, v, 38, #[], #[]⟩ ⟨T2, v2, 38, #[], #[]⟩ rfl rfl (.base hA.out hlt hT.out) (by omega) (.base hA2.out hm16 hT2.out)).mono ?_
          rintro e W1 ⟨b1, rfl, g1, g2, g3⟩
          have HX1 : Hid (Ob W1 (.iface (WT (k ||| m)) (.pointer (some ⟨b1, 0, none⟩))) (k ||| m) 1) := Ob.made (w := wr) (n := k) (or_lt k m hlt hm16) (.base hA.out hlt hT.out) g2 g3
          replace HB : Hid (Below V2.heap.size V2 W1) := HB.out.trans (g3.mono HB.out.size)
          clear g1 g2 g3
          go_wp2_with fail
          refine (Guard_ok (w := W1) ⟨T, v, 47, #[], #[]⟩ rfl (.base hA.out hlt hT.out) (by omega)).mono ?_
          rintro e W2 ⟨b2, rfl, g1, g2, g3⟩
          have HX2 : Hid (Ob W2 (.iface (WT k) (.pointer (some ⟨b2, 0, none⟩))) k 1) := Ob.made (w := W1) (n := k) hlt (.base hA.out hlt hT.out) g2 g3
          replace HB : Hid (Below V2.heap.size V2 W2) := HB.out.trans (g3.mono HB.out.size)
          clear g1 g2 g3
          go_wp2_with fail
          refine (Count_ok (w := W2) ⟨T, v, 48, #[], #[.pointer (some ⟨W2.heap.size, 0, none⟩)]⟩ rfl (.base hA.out hlt hT.out) (by omega) (.func 24) #[] #[]).mono ?_
          rintro e W3 ⟨⟨b3, rfl, g1, g2, g3⟩, _⟩
          have HX3 : Hid (Ob W3 (.iface (WT k) (.pointer (some ⟨b3, 0, none⟩))) k 1) := Ob.made (w := W2) (n := k) hlt (.base hA.out hlt hT.out) g2 g3
          replace HB : Hid (Below V2.heap.size V2 W3) := HB.out.trans (g3.mono HB.out.size)
          clear g1 g2 g3
          have HI3 : Hid (R2 w.heap.size w W3 (r.cs 0 (k : Int) sh) (q.cs 0 m sh2)) := HI1.out.below HB.out
          have hC3 : Hid (Core r 0 k sh c W3) := (HB.out.block _ (Array.getElem?_eq_some_iff.1 hC.out).1).trans hC.out
          have hor := or_nat k hlt m hm16
          have hw1 : IntKind.i64.wrap ((k : Int) + 1) = ((k + 1 : Nat) : Int) := by rw [IntKind.wrap_i64]; omega
          generalize k ||| m = s at HX1 hor ⊢
          clear HI1 hC HB
          clear hA hT hA2 hT2
          go_upto_region 22 with fail
          go_cut [146] (fun x wx => x = .bool false ∧ Hid (R2 w.heap.size w wx (r.cs 0 (k : Int) sh) (q.cs 0 m sh2)))
          case first =>
            have HS0 : Hid (∀ W : World, W.heap = W3.heap → W.cell? ⟨w.heap.size + 1, 1, none⟩ = some (.int .i64 (m : Int)) ∧ (loadVar 68 ⟨c, 14, none⟩).run Try.prog W = .ok (.agg #[.int .i64 0, .int .i64 0, .int .i64 0, .int .i64 0, .int .i64 0, .int .i64 0, .int .i64 0, .int .i64 0, .int .i64 0]) W) := fun W hW =>
              ⟨by rw [cell_of_row W _ 1 (q.cs 0 (m : Int) sh2) 28 _ (by rw [hW]; exact HI3.out.2.1)]; rfl, calls_ld (r := r) (h := 0) (n := k) (sh := sh) (by show W.heap[c]? = _; rw [hW]; exact hC3.out)⟩
            have hne : ∀ W : World, (binOp .neq 68 (.agg #[.int .i64 0, .int .i64 0, .int .i64 0, .int .i64 0, .int .i64 0, .int .i64 0, .int .i64 0, .int .i64 0, .int .i64 0]) (.agg #[.int .i64 0, .int .i64 0, .int .i64 0, .int .i64 0, .int .i64 0, .int .i64 0, .int .i64 0, .int .i64 0, .int .i64 0])).run Try.prog W = .ok (.bool false) W := fun W => by kernel_rfl
            refine wp_region_held_drew (S := fun W => Hid (W.heap = W3.heap ∧ Below W3.heap.size W3 W) ∧ W.cell? ⟨w.heap.size + 1, 1, none⟩ = some (.int .i64 (m : Int))) (by kernel_rfl) ⟨⟨rfl, (Below.refl _ _).drew⟩, (HS0.out _ rfl).1⟩ (fun hHeld => ?_)
            refine wpAnyH_take (i := 0) (oi := { dst := some 108, op := Go.Op.move (Go.Operand.tmp 17), type := 26, pos := "law.go:308", after := #[], guard := none }) (v := ?_) rfl (by kernel_rfl) (by kernel_rfl) (by kernel_rfl) (fun _ _ _ h => h) (Or.inl ⟨by rfl, ?_⟩) (by assumption) ?_
            rotate_left
            · intro w hSw; (try dsimp only at hSw); go_simp; try (with_reducible rfl)
            simp only [Act.put, List.setIfInBounds_toArray, List.set_cons_zero, List.set_cons_succ]
            refine wpAnyH_take (i := 1) (oi := { dst := some 109, op := Go.Op.binOp Go.BinOp.neq 26 (Go.Operand.tmp 108) (Go.Operand.const (Go.Value.int Go.IntKind.i64 0)) 26, type := 4, pos := "law.go:308", after := #[{ on := 0, ground := Go.Ground.data }], guard := none }) (v := ?_) rfl (by kernel_rfl) (by kernel_rfl) (by kernel_rfl) (fun _ _ _ h => h) (Or.inl ⟨by rfl, ?_⟩) (by assumption) ?_
            rotate_left
            · intro w hSw; (try dsimp only at hSw); go_simp; try (with_reducible rfl)
            simp only [Act.put, List.setIfInBounds_toArray, List.set_cons_zero, List.set_cons_succ]
            refine wpAnyH_take (i := 2) (oi := { dst := some 110, op := Go.Op.move (Go.Operand.tmp 109), type := 4, pos := "law.go:308", after := #[{ on := 1, ground := Go.Ground.data }], guard := none }) (v := ?_) rfl (by kernel_rfl) (by kernel_rfl) (by kernel_rfl) (fun _ _ _ h => h) (Or.inl ⟨by rfl, ?_⟩) (by assumption) ?_
            rotate_left
            · intro w hSw; (try dsimp only at hSw); go_simp; try (with_reducible rfl)
            simp only [Act.put, List.setIfInBounds_toArray, List.set_cons_zero, List.set_cons_succ]
            refine wpAnyH_take (i := 3) (oi := { dst := some 111, op := Go.Op.move (Go.Operand.tmp 19), type := 26, pos := "law.go:308", after := #[{ on := 2, ground := Go.Ground.guard }], guard := some (2, false) }) (v := ?_) rfl (by kernel_rfl) (by kernel_rfl) (by kernel_rfl) (fun _ _ _ h => h) (Or.inl ⟨by rfl, ?_⟩) (by assumption) ?_
            rotate_left
            · intro w hSw; (try dsimp only at hSw); go_simp; try (with_reducible rfl)
            simp only [Act.put, List.setIfInBounds_toArray, List.set_cons_zero, List.set_cons_succ]
            refine wpAnyH_take (i := 4) (oi := { dst := some 112, op := Go.Op.binOp Go.BinOp.neq 26 (Go.Operand.tmp 111) (Go.Operand.const (Go.Value.int Go.IntKind.i64 0)) 26, type := 4, pos := "law.go:308", after := #[{ on := 3, ground := Go.Ground.data }, { on := 2, ground := Go.Ground.guard }], guard := some (2, false) }) (v := ?_) rfl (by kernel_rfl) (by kernel_rfl) (by kernel_rfl) (fun _ _ _ h => h) (Or.inl ⟨by rfl, ?_⟩) (by assumption) ?_
            rotate_left
            · intro w hSw; (try dsimp only at hSw); go_simp; try (with_reducible rfl)
            simp only [Act.put, List.setIfInBounds_toArray, List.set_cons_zero, List.set_cons_succ]
            refine wpAnyH_take (i := 5) (oi := { dst := some 113, op := Go.Op.pick (Go.Operand.tmp 110) (Go.Operand.const (Go.Value.bool true)) (Go.Operand.tmp 112), type := 4, pos := "law.go:308", after := #[{ on := 2, ground := Go.Ground.data }, { on := 4, ground := Go.Ground.data }], guard := none }) (v := ?_) rfl (by kernel_rfl) (by kernel_rfl) (by kernel_rfl) (fun _ _ _ h => h) (Or.inl ⟨by rfl, ?_⟩) (by assumption) ?_
            rotate_left
            · intro w hSw; (try dsimp only at hSw); go_simp; try (with_reducible rfl)
            simp only [Act.put, List.setIfInBounds_toArray, List.set_cons_zero, List.set_cons_succ]
            refine wpAnyH_take (i := 6) (oi := { dst := some 114, op := Go.Op.move (Go.Operand.tmp 113), type := 4, pos := "law.go:308", after := #[{ on := 5, ground := Go.Ground.data }, { on := 2, ground := Go.Ground.chain }], guard := none }) (v := ?_) rfl (by kernel_rfl) (by kernel_rfl) (by kernel_rfl) (fun _ _ _ h => h) (Or.inl ⟨by rfl, ?_⟩) (by assumption) ?_
            rotate_left
            · intro w hSw; (try dsimp only at hSw); go_simp; try (with_reducible rfl)
            simp only [Act.put, List.setIfInBounds_toArray, List.set_cons_zero, List.set_cons_succ]
            refine wpAnyH_take (i := 7) (oi := { dst := some 115, op := Go.Op.move (Go.Operand.tmp 21), type := 26, pos := "law.go:308", after := #[{ on := 6, ground := Go.Ground.guard }], guard := some (6, false) }) (v := ?_) rfl (by kernel_rfl) (by kernel_rfl) (by kernel_rfl) (fun _ _ _ h => h) (Or.inl ⟨by rfl, ?_⟩) (by assumption) ?_
            rotate_left
            · intro w hSw; (try dsimp only at hSw); go_simp; try (with_reducible rfl)
            simp only [Act.put, List.setIfInBounds_toArray, List.set_cons_zero, List.set_cons_succ]
            refine wpAnyH_take (i := 8) (oi := { dst := some 116, op := Go.Op.binOp Go.BinOp.neq 26 (Go.Operand.tmp 115) (Go.Operand.const (Go.Value.int Go.IntKind.i64 0)) 26, type := 4, pos := "law.go:308", after := #[{ on := 7, ground := Go.Ground.data }, { on := 6, ground := Go.Ground.guard }], guard := some (6, false) }) (v := ?_) rfl (by kernel_rfl) (by kernel_rfl) (by kernel_rfl) (fun _ _ _ h => h) (Or.inl ⟨by rfl, ?_⟩) (by assumption) ?_
            rotate_left
            · intro w hSw; (try dsimp only at hSw); go_simp; try (with_reducible rfl)
            simp only [Act.put, List.setIfInBounds_toArray, List.set_cons_zero, List.set_cons_succ]
            refine wpAnyH_take (i := 9) (oi := { dst := some 117, op := Go.Op.pick (Go.Operand.tmp 114) (Go.Operand.const (Go.Value.bool true)) (Go.Operand.tmp 116), type := 4, pos := "law.go:308", after := #[{ on := 6, ground := Go.Ground.data }, { on := 8, ground := Go.Ground.data }], guard := none }) (v := ?_) rfl (by kernel_rfl) (by kernel_rfl) (by kernel_rfl) (fun _ _ _ h => h) (Or.inl ⟨by rfl, ?_⟩) (by assumption) ?_
            rotate_left
            · intro w hSw; (try dsimp only at hSw); go_simp; try (with_reducible rfl)
            simp only [Act.put, List.setIfInBounds_toArray, List.set_cons_zero, List.set_cons_succ]
            refine wpAnyH_take (i := 10) (oi := { dst := some 118, op := Go.Op.move (Go.Operand.tmp 117), type := 4, pos := "law.go:308", after := #[{ on := 9, ground := Go.Ground.data }, { on := 6, ground := Go.Ground.chain }], guard := none }) (v := ?_) rfl (by kernel_rfl) (by kernel_rfl) (by kernel_rfl) (fun _ _ _ h => h) (Or.inl ⟨by rfl, ?_⟩) (by assumption) ?_
            rotate_left
            · intro w hSw; (try dsimp only at hSw); go_simp; try (with_reducible rfl)
            simp only [Act.put, List.setIfInBounds_toArray, List.set_cons_zero, List.set_cons_succ]
            refine wpAnyH_take (i := 11) (oi := { dst := some 119, op := Go.Op.move (Go.Operand.tmp 16), type := 40, pos := "law.go:308", after := #[{ on := 10, ground := Go.Ground.guard }], guard := some (10, false) }) (v := ?_) rfl (by kernel_rfl) (by kernel_rfl) (by kernel_rfl) (fun _ _ _ h => h) (Or.inl ⟨by rfl, ?_⟩) (by assumption) ?_
            rotate_left
            · intro w hSw; (try dsimp only at hSw); go_simp; try (with_reducible rfl)
            simp only [Act.put, List.setIfInBounds_toArray, List.set_cons_zero, List.set_cons_succ]
            refine wpAnyH_take (i := 13) (oi := { dst := some 121, op := Go.Op.move (Go.Operand.tmp 5), type := 3, pos := "law.go:308", after := #[{ on := 10, ground := Go.Ground.guard }], guard := some (10, false) }) (v := ?_) rfl (by kernel_rfl) (by kernel_rfl) (by kernel_rfl) (fun _ _ _ h => h) (Or.inl ⟨by rfl, ?_⟩) (by assumption) ?_
            rotate_left
            · intro w hSw; (try dsimp only at hSw); go_simp; try (with_reducible rfl)
            simp only [Act.put, List.setIfInBounds_toArray, List.set_cons_zero, List.set_cons_succ]
            refine wpAnyH_take (i := 14) (oi := { dst := some 122, op := Go.Op.fieldAddr 28 (Go.Operand.tmp 3) 1, type := 0, pos := "law.go:308", after := #[{ on := 10, ground := Go.Ground.guard }], guard := some (10, false) }) (v := ?_) rfl (by kernel_rfl) (by kernel_rfl) (by kernel_rfl) (fun _ _ _ h => h) (Or.inl ⟨by rfl, ?_⟩) (by assumption) ?_
            rotate_left
            · intro w hSw; (try dsimp only at hSw); go_simp; try (with_reducible rfl)
            simp only [Act.put, List.setIfInBounds_toArray, List.set_cons_zero, List.set_cons_succ]
            refine wpAnyH_take (i := 15) (oi := { dst := some 123, op := Go.Op.load 3 (Go.Operand.tmp 122), type := 3, pos := "law.go:308", after := #[{ on := 14, ground := Go.Ground.data }, { on := 10, ground := Go.Ground.guard }], guard := some (10, false) }) (v := ?_) rfl (by kernel_rfl) (by kernel_rfl) (by kernel_rfl) (fun _ _ _ h => h) (Or.inl ⟨by rfl, ?_⟩) (by assumption) ?_
            rotate_left
            · intro w hSw; (try dsimp only at hSw); go_simp; try (with_reducible rfl)
            simp only [Act.put, List.setIfInBounds_toArray, List.set_cons_zero, List.set_cons_succ]
            refine wpAnyH_take (i := 16) (oi := { dst := some 124, op := Go.Op.binOp Go.BinOp.or 3 (Go.Operand.tmp 121) (Go.Operand.tmp 123) 3, type := 3, pos := "law.go:308", after := #[{ on := 13, ground := Go.Ground.data }, { on := 15, ground := Go.Ground.data }, { on := 10, ground := Go.Ground.guard }], guard := some (10, false) }) (v := ?_) rfl (by kernel_rfl) (by kernel_rfl) (by kernel_rfl) (fun _ _ _ h => h) (Or.inl ⟨by rfl, ?_⟩) (by assumption) ?_
            rotate_left
            · intro w hSw; (try dsimp only at hSw); go_simp; try (with_reducible rfl)
            simp only [Act.put, List.setIfInBounds_toArray, List.set_cons_zero, List.set_cons_succ]
            refine wpAnyH_ready (rs := [12]) (by kernel_rfl) (by simp) ?_
            refine AllReadyH.cons (o := { dst := some 120, op := Go.Op.call { callee := Go.Callee.value (Go.Operand.func 20), args := #[Go.Operand.tmp 119], argTypes := #[40] }, type := 3, pos := "law.go:308", after := #[{ on := 11, ground := Go.Ground.data }, { on := 10, ground := Go.Ground.chain }, { on := 10, ground := Go.Ground.guard }], guard := some (10, false) }) rfl (fun K hK => ?_) AllReadyH.nil
            go_simp
            refine (sets_ob HX1.out _).mono ?_
            rintro e w' ⟨rfl, rfl⟩
            go_wp2_with fail
            refine hK.out _ _ (by assumption) (fun hHeld => ?_)
            clear hK K
            refine wpAnyH_take (i := 17) (oi := { dst := some 125, op := Go.Op.binOp Go.BinOp.neq 3 (Go.Operand.tmp 120) (Go.Operand.tmp 124) 3, type := 4, pos := "law.go:308", after := #[{ on := 12, ground := Go.Ground.data }, { on := 16, ground := Go.Ground.data }, { on := 10, ground := Go.Ground.guard }], guard := some (10, false) }) (v := ?_) rfl (by kernel_rfl) (by kernel_rfl) (by kernel_rfl) (fun _ _ _ h => h) (Or.inl ⟨by rfl, ?_⟩) (by assumption) ?_
            rotate_left
            · intro w hSw; (try dsimp only at hSw); go_simp; try (with_reducible rfl)
            simp only [Act.put, List.setIfInBounds_toArray, List.set_cons_zero, List.set_cons_succ]
            refine wpAnyH_take (i := 18) (oi := { dst := some 126, op := Go.Op.pick (Go.Operand.tmp 118) (Go.Operand.const (Go.Value.bool true)) (Go.Operand.tmp 125), type := 4, pos := "law.go:308", after := #[{ on := 10, ground := Go.Ground.data }, { on := 17, ground := Go.Ground.data }], guard := none }) (v := ?_) rfl (by kernel_rfl) (by kernel_rfl) (by kernel_rfl) (fun _ _ _ h => h) (Or.inl ⟨by rfl, ?_⟩) (by assumption) ?_
            rotate_left
            · intro w hSw; (try dsimp only at hSw); go_simp; try (with_reducible rfl)
            simp only [Act.put, List.setIfInBounds_toArray, List.set_cons_zero, List.set_cons_succ]
            refine wpAnyH_take (i := 19) (oi := { dst := some 127, op := Go.Op.move (Go.Operand.tmp 126), type := 4, pos := "law.go:308", after := #[{ on := 18, ground := Go.Ground.data }, { on := 12, ground := Go.Ground.chain }], guard := none }) (v := ?_) rfl (by kernel_rfl) (by kernel_rfl) (by kernel_rfl) (fun _ _ _ h => h) (Or.inl ⟨by rfl, ?_⟩) (by assumption) ?_
            rotate_left
            · intro w hSw; (try dsimp only at hSw); go_simp; try (with_reducible rfl)
            simp only [Act.put, List.setIfInBounds_toArray, List.set_cons_zero, List.set_cons_succ]
            refine wpAnyH_take (i := 20) (oi := { dst := some 128, op := Go.Op.move (Go.Operand.tmp 18), type := 40, pos := "law.go:308", after := #[{ on := 19, ground := Go.Ground.guard }], guard := some (19, false) }) (v := ?_) rfl (by kernel_rfl) (by kernel_rfl) (by kernel_rfl) (fun _ _ _ h => h) (Or.inl ⟨by rfl, ?_⟩) (by assumption) ?_
            rotate_left
            · intro w hSw; (try dsimp only at hSw); go_simp; try (with_reducible rfl)
            simp only [Act.put, List.setIfInBounds_toArray, List.set_cons_zero, List.set_cons_succ]
            refine wpAnyH_take (i := 22) (oi := { dst := some 130, op := Go.Op.move (Go.Operand.tmp 5), type := 3, pos := "law.go:308", after := #[{ on := 19, ground := Go.Ground.guard }], guard := some (19, false) }) (v := ?_) rfl (by kernel_rfl) (by kernel_rfl) (by kernel_rfl) (fun _ _ _ h => h) (Or.inl ⟨by rfl, ?_⟩) (by assumption) ?_
            rotate_left
            · intro w hSw; (try dsimp only at hSw); go_simp; try (with_reducible rfl)
            simp only [Act.put, List.setIfInBounds_toArray, List.set_cons_zero, List.set_cons_succ]
            refine wpAnyH_ready (rs := [21]) (by kernel_rfl) (by simp) ?_
            refine AllReadyH.cons (o := { dst := some 129, op := Go.Op.call { callee := Go.Callee.value (Go.Operand.func 20), args := #[Go.Operand.tmp 128], argTypes := #[40] }, type := 3, pos := "law.go:308", after := #[{ on := 20, ground := Go.Ground.data }, { on := 19, ground := Go.Ground.chain }, { on := 19, ground := Go.Ground.guard }], guard := some (19, false) }) rfl (fun K hK => ?_) AllReadyH.nil
            go_simp
            refine (sets_ob HX2.out _).mono ?_
            rintro e w' ⟨rfl, rfl⟩
            go_wp2_with fail
            refine hK.out _ _ (by assumption) (fun hHeld => ?_)
            clear hK K
            refine wpAnyH_take (i := 23) (oi := { dst := some 131, op := Go.Op.binOp Go.BinOp.neq 3 (Go.Operand.tmp 129) (Go.Operand.tmp 130) 3, type := 4, pos := "law.go:308", after := #[{ on := 21, ground := Go.Ground.data }, { on := 22, ground := Go.Ground.data }, { on := 19, ground := Go.Ground.guard }], guard := some (19, false) }) (v := ?_) rfl (by kernel_rfl) (by kernel_rfl) (by kernel_rfl) (fun _ _ _ h => h) (Or.inl ⟨by rfl, ?_⟩) (by assumption) ?_
            rotate_left
            · intro w hSw; (try dsimp only at hSw); go_simp; try (with_reducible rfl)
            simp only [Act.put, List.setIfInBounds_toArray, List.set_cons_zero, List.set_cons_succ]
            refine wpAnyH_take (i := 24) (oi := { dst := some 132, op := Go.Op.pick (Go.Operand.tmp 127) (Go.Operand.const (Go.Value.bool true)) (Go.Operand.tmp 131), type := 4, pos := "law.go:308", after := #[{ on := 19, ground := Go.Ground.data }, { on := 23, ground := Go.Ground.data }], guard := none }) (v := ?_) rfl (by kernel_rfl) (by kernel_rfl) (by kernel_rfl) (fun _ _ _ h => h) (Or.inl ⟨by rfl, ?_⟩) (by assumption) ?_
            rotate_left
            · intro w hSw; (try dsimp only at hSw); go_simp; try (with_reducible rfl)
            simp only [Act.put, List.setIfInBounds_toArray, List.set_cons_zero, List.set_cons_succ]
            refine wpAnyH_take (i := 25) (oi := { dst := some 133, op := Go.Op.move (Go.Operand.tmp 132), type := 4, pos := "law.go:308", after := #[{ on := 24, ground := Go.Ground.data }, { on := 21, ground := Go.Ground.chain }], guard := none }) (v := ?_) rfl (by kernel_rfl) (by kernel_rfl) (by kernel_rfl) (fun _ _ _ h => h) (Or.inl ⟨by rfl, ?_⟩) (by assumption) ?_
            rotate_left
            · intro w hSw; (try dsimp only at hSw); go_simp; try (with_reducible rfl)
            simp only [Act.put, List.setIfInBounds_toArray, List.set_cons_zero, List.set_cons_succ]
            refine wpAnyH_take (i := 26) (oi := { dst := some 134, op := Go.Op.move (Go.Operand.tmp 20), type := 40, pos := "law.go:308", after := #[{ on := 25, ground := Go.Ground.guard }], guard := some (25, false) }) (v := ?_) rfl (by kernel_rfl) (by kernel_rfl) (by kernel_rfl) (fun _ _ _ h => h) (Or.inl ⟨by rfl, ?_⟩) (by assumption) ?_
            rotate_left
            · intro w hSw; (try dsimp only at hSw); go_simp; try (with_reducible rfl)
            simp only [Act.put, List.setIfInBounds_toArray, List.set_cons_zero, List.set_cons_succ]
            refine wpAnyH_take (i := 28) (oi := { dst := some 136, op := Go.Op.move (Go.Operand.tmp 5), type := 3, pos := "law.go:308", after := #[{ on := 25, ground := Go.Ground.guard }], guard := some (25, false) }) (v := ?_) rfl (by kernel_rfl) (by kernel_rfl) (by kernel_rfl) (fun _ _ _ h => h) (Or.inl ⟨by rfl, ?_⟩) (by assumption) ?_
            rotate_left
            · intro w hSw; (try dsimp only at hSw); go_simp; try (with_reducible rfl)
            simp only [Act.put, List.setIfInBounds_toArray, List.set_cons_zero, List.set_cons_succ]
            refine wpAnyH_ready (rs := [27]) (by kernel_rfl) (by simp) ?_
            refine AllReadyH.cons (o := { dst := some 135, op := Go.Op.call { callee := Go.Callee.value (Go.Operand.func 20), args := #[Go.Operand.tmp 134], argTypes := #[40] }, type := 3, pos := "law.go:308", after := #[{ on := 26, ground := Go.Ground.data }, { on := 25, ground := Go.Ground.chain }, { on := 25, ground := Go.Ground.guard }], guard := some (25, false) }) rfl (fun K hK => ?_) AllReadyH.nil
            go_simp
            refine (sets_ob HX3.out _).mono ?_
            rintro e w' ⟨rfl, rfl⟩
            go_wp2_with fail
            refine hK.out _ _ (by assumption) (fun hHeld => ?_)
            clear hK K
            refine wpAnyH_take (i := 29) (oi := { dst := some 137, op := Go.Op.binOp Go.BinOp.neq 3 (Go.Operand.tmp 135) (Go.Operand.tmp 136) 3, type := 4, pos := "law.go:308", after := #[{ on := 27, ground := Go.Ground.data }, { on := 28, ground := Go.Ground.data }, { on := 25, ground := Go.Ground.guard }], guard := some (25, false) }) (v := ?_) rfl (by kernel_rfl) (by kernel_rfl) (by kernel_rfl) (fun _ _ _ h => h) (Or.inl ⟨by rfl, ?_⟩) (by assumption) ?_
            rotate_left
            · intro w hSw; (try dsimp only at hSw); go_simp; try (with_reducible rfl)
            simp only [Act.put, List.setIfInBounds_toArray, List.set_cons_zero, List.set_cons_succ]
            refine wpAnyH_take (i := 30) (oi := { dst := some 138, op := Go.Op.pick (Go.Operand.tmp 133) (Go.Operand.const (Go.Value.bool true)) (Go.Operand.tmp 137), type := 4, pos := "law.go:308", after := #[{ on := 25, ground := Go.Ground.data }, { on := 29, ground := Go.Ground.data }], guard := none }) (v := ?_) rfl (by kernel_rfl) (by kernel_rfl) (by kernel_rfl) (fun _ _ _ h => h) (Or.inl ⟨by rfl, ?_⟩) (by assumption) ?_
            rotate_left
            · intro w hSw; (try dsimp only at hSw); go_simp; try (with_reducible rfl)
            simp only [Act.put, List.setIfInBounds_toArray, List.set_cons_zero, List.set_cons_succ]
            refine wpAnyH_take (i := 31) (oi := { dst := some 139, op := Go.Op.move (Go.Operand.tmp 138), type := 4, pos := "law.go:308", after := #[{ on := 30, ground := Go.Ground.data }, { on := 27, ground := Go.Ground.chain }], guard := none }) (v := ?_) rfl (by kernel_rfl) (by kernel_rfl) (by kernel_rfl) (fun _ _ _ h => h) (Or.inl ⟨by rfl, ?_⟩) (by assumption) ?_
            rotate_left
            · intro w hSw; (try dsimp only at hSw); go_simp; try (with_reducible rfl)
            simp only [Act.put, List.setIfInBounds_toArray, List.set_cons_zero, List.set_cons_succ]
            refine wpAnyH_take (i := 32) (oi := { dst := some 140, op := Go.Op.move (Go.Operand.tmp 7), type := 57, pos := "law.go:308", after := #[{ on := 31, ground := Go.Ground.guard }], guard := some (31, false) }) (v := ?_) rfl (by kernel_rfl) (by kernel_rfl) (by kernel_rfl) (fun _ _ _ h => h) (Or.inl ⟨by rfl, ?_⟩) (by assumption) ?_
            rotate_left
            · intro w hSw; (try dsimp only at hSw); go_simp; try (with_reducible rfl)
            simp only [Act.put, List.setIfInBounds_toArray, List.set_cons_zero, List.set_cons_succ]
            refine wpAnyH_take (i := 33) (oi := { dst := some 141, op := Go.Op.nilCheck (Go.Operand.tmp 140), type := 0, pos := "law.go:308", after := #[{ on := 32, ground := Go.Ground.data }, { on := 31, ground := Go.Ground.guard }], guard := some (31, false) }) (v := ?_) rfl (by kernel_rfl) (by kernel_rfl) (by kernel_rfl) (fun _ _ _ h => h) (Or.inl ⟨by rfl, ?_⟩) (by assumption) ?_
            rotate_left
            · intro w hSw; (try dsimp only at hSw); go_simp; try (with_reducible rfl)
            simp only [Act.put, List.setIfInBounds_toArray, List.set_cons_zero, List.set_cons_succ]
            refine wpAnyH_take (i := 34) (oi := { dst := some 142, op := Go.Op.fieldAddr 70 (Go.Operand.tmp 141) 1, type := 0, pos := "law.go:308", after := #[{ on := 33, ground := Go.Ground.data }, { on := 31, ground := Go.Ground.guard }], guard := some (31, false) }) (v := ?_) rfl (by kernel_rfl) (by kernel_rfl) (by kernel_rfl) (fun _ _ _ h => h) (Or.inl ⟨by rfl, ?_⟩) (by assumption) ?_
            rotate_left
            · intro w hSw; (try dsimp only at hSw); go_simp; try (with_reducible rfl)
            simp only [Act.put, List.setIfInBounds_toArray, List.set_cons_zero, List.set_cons_succ]
            refine wpAnyH_take (i := 35) (oi := { dst := some 143, op := Go.Op.load 68 (Go.Operand.tmp 142), type := 68, pos := "law.go:308", after := #[{ on := 34, ground := Go.Ground.data }, { on := 31, ground := Go.Ground.guard }], guard := some (31, false) }) (v := (.agg #[.int .i64 0, .int .i64 0, .int .i64 0, .int .i64 0, .int .i64 0, .int .i64 0, .int .i64 0, .int .i64 0, .int .i64 0])) rfl (by kernel_rfl) (by kernel_rfl) (by kernel_rfl) (fun _ _ _ h => h) (take_ld rfl rfl rfl (fun w hSw => (HS0.out _ hSw.1.out.1).2)) (by assumption) ?_
            simp only [Act.put, List.setIfInBounds_toArray, List.set_cons_zero, List.set_cons_succ]
            refine wpAnyH_take (i := 36) (oi := { dst := some 144, op := Go.Op.build 68 #[], type := 68, pos := "law.go:308", after := #[{ on := 31, ground := Go.Ground.guard }], guard := some (31, false) }) (v := ?_) rfl (by kernel_rfl) (by kernel_rfl) (by kernel_rfl) (fun _ _ _ h => h) (Or.inl ⟨by rfl, ?_⟩) (by assumption) ?_
            rotate_left
            · intro w hSw; (try dsimp only at hSw); go_simp; try (with_reducible rfl)
            simp only [Act.put, List.setIfInBounds_toArray, List.set_cons_zero, List.set_cons_succ]
            refine wpAnyH_take (i := 37) (oi := { dst := some 145, op := Go.Op.binOp Go.BinOp.neq 68 (Go.Operand.tmp 143) (Go.Operand.tmp 144) 68, type := 4, pos := "law.go:308", after := #[{ on := 35, ground := Go.Ground.data }, { on := 36, ground := Go.Ground.data }, { on := 31, ground := Go.Ground.guard }], guard := some (31, false) }) (v := ?_) rfl (by kernel_rfl) (by kernel_rfl) (by kernel_rfl) (fun _ _ _ h => h) (Or.inl ⟨by rfl, ?_⟩) (by assumption) ?_
            rotate_left
            · intro w hSw; (try dsimp only at hSw); go_simp; try (with_reducible rfl)
            simp only [Act.put, List.setIfInBounds_toArray, List.set_cons_zero, List.set_cons_succ]
            refine wpAnyH_take (i := 38) (oi := { dst := some 146, op := Go.Op.pick (Go.Operand.tmp 139) (Go.Operand.const (Go.Value.bool true)) (Go.Operand.tmp 145), type := 4, pos := "law.go:308", after := #[{ on := 31, ground := Go.Ground.data }, { on := 37, ground := Go.Ground.data }], guard := none }) (v := ?_) rfl (by kernel_rfl) (by kernel_rfl) (by kernel_rfl) (fun _ _ _ h => h) (Or.inl ⟨by rfl, ?_⟩) (by assumption) ?_
            rotate_left
            · intro w hSw; (try dsimp only at hSw); go_simp; try (with_reducible rfl)
            simp only [Act.put, List.setIfInBounds_toArray, List.set_cons_zero, List.set_cons_succ]
            refine wpAnyH_done (by kernel_rfl) ?_ _
            go_wp2_with fail
            go_meet
            exact ⟨rfl, HI3.out.below hHeld.1.out.2⟩
          case rest =>
          obtain ⟨rfl, HR⟩ := hcut
          replace HR : Hid (R2 w.heap.size w wc (r.cs 0 (k : Int) sh) (q.cs 0 m sh2)) := HR
          go_wp2_with fail
          go_roundw
          case rel => first | exact ⟨k + 1, (k : Int), by omega, by go_num, HR⟩ | ((repeat apply Exists.intro); exact ⟨⟨k + 1, (k : Int), by omega, by go_num, HR⟩, rfl⟩)
          case measure => simp [intOf]; omega
    · obtain rfl : k = 16 := by omega
      go_wp2_with fail
      go_ret
      exact ⟨rfl, HI.out.2.2⟩
end Go.Proofs.Ytcelbkkgjnfblaa


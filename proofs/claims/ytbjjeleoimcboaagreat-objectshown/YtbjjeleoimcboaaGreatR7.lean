/- tenonlaw10.made: an object of a description that is made to fit. -/
import Derived.Test.YtbjjeleoimcboaaGreatR6
import Derived.Deep.WholeRow
import Derived.Deep.MidRow
namespace Go.Proofs.YtbjjeleoimcboaaGreat
open Go.RowKit

theorem ldr {P : Program} {ops : Array Oper} {rest : List Oper} {Q : Exit → Act → World → Prop} {a : Act} {w : World} {d : Option Tmp} {ty T : TypeId} {x : Operand} {ps : String} {af : Array Edge} {gd : Option (Nat × Bool)} {p : Addr} {v : Value}
    (hw : Region.wanted (Oper.mk d (.load ty x) T ps af gd) (yielded ops a.tmps) = true) (hx : a.eval x = .pointer (some p)) (hl : (loadVar ty p).run P w = .ok v w)
    (h : wpList P ops Q rest (a.put d v) w) : wpList P ops Q (Oper.mk d (.load ty x) T ps af gd :: rest) a w := by
  rw [wpList, if_pos hw]
  refine .inl ?_
  unfold Oper.wp execOp
  simp only [hx, Instr.loadAt, Instr.sureAddr, Sem.run_bind, Sem.run_pure, Result.andThen_ok, hl]
  exact h
theorem str {P : Program} {ops : Array Oper} {rest : List Oper} {Q : Exit → Act → World → Prop} {a : Act} {w w' : World} {d : Option Tmp} {ty T : TypeId} {x y : Operand} {ps : String} {af : Array Edge} {gd : Option (Nat × Bool)} {p : Addr} {v : Value}
    (hw : Region.wanted (Oper.mk d (.store ty x y) T ps af gd) (yielded ops a.tmps) = true) (hx : a.eval x = .pointer (some p)) (hy : a.eval y = v) (hl : (storeVar ty p v).run P w = .ok () w')
    (h : wpList P ops Q rest (a.put d undef) w') : wpList P ops Q (Oper.mk d (.store ty x y) T ps af gd :: rest) a w := by
  rw [wpList, if_pos hw]
  refine .inl ?_
  unfold Oper.wp execOp
  simp only [hx, hy, Instr.storeAt, Instr.sureAddr, Sem.run_bind, Sem.run_pure, Result.andThen_ok, hl]
  exact h

theorem sp_ld {w : World} {b : Nat} {T : TypeId} {fr : Nat × Nat} (r : Sr) (h n sh : Int) (hb : w.heap[b]? = some (.cells (r.cs h n sh) T fr)) : (loadVar 28 ⟨b, 0, none⟩).run Tryz.prog w = .ok (.agg (r.cs h n sh)) w :=
  run_loadVar_row w b T 28 _ fr _ hb Tryz.underlying28 rfl (by kernel_rfl)
theorem sp_st {w : World} {b : Nat} {T : TypeId} {old : Array Value} (r : Sr) (h n sh : Int) (hb : w.heap[b]? = some (.cells old T (0, 0))) (ho : old.size = 14) : (storeVar 28 ⟨b, 0, none⟩ (.agg (r.cs h n sh))).run Tryz.prog w = .ok () (w.setRow b (r.cs h n sh)) :=
  run_storeVar_row w b T 28 old _ hb (by kernel_rfl) (by rw [ho]; rfl) (by simp [Sr.cs, Value.oneCell'])

/-- the object of a description that fits -/
def ObjOf (r : Sr) (sh h : Int) (n : Nat) (o : Value) (c : Nat) (w : World) : Prop :=
  (h = 1 ∧ o = .nilIface) ∨ (h = 2 ∧ o = .iface 66 (.pointer none)) ∨ ((h = 0 ∨ h = 3) ∧ ∃ T v, o = .iface T v ∧ Ab T n ∧ T ≠ 66 ∧ Core r h n sh c w)

/-- what made hands back -/
def MadeE (r : Sr) (h n sh : Int) (w : World) (e : Ending) (w' : World) : Prop :=
  ∃ (h' : Int) (n' : Nat) (o : Value) (c d : Nat), e = .returned (.agg #[o, .pointer (some ⟨c, 0, none⟩), .pointer (some ⟨d, 0, none⟩)]) ∧ Below w.heap.size w w' ∧ (0 ≤ h' ∧ h' < 4) ∧ n' < 16 ∧ (0 ≤ h → h < 4 → h' = h) ∧ (0 ≤ n → n < 16 → (n' : Int) = n) ∧ ObjOf r sh h' n' o c w'

theorem one_st {w : World} {b : Nat} (o : Value) (c d : Option Addr) (hb : w.heap[b]? = some (.cells #[.nilIface, .pointer none, .pointer none] 36)) (ho : o.oneCell' = true) : (storeVar 36 ⟨b, 0, none⟩ (.agg #[o, .pointer c, .pointer d])).run Tryz.prog w = .ok () (w.setRow b #[o, .pointer c, .pointer d]) :=
  run_storeVar_row w b 36 36 _ _ hb (by kernel_rfl) rfl (by rw [Array.all_eq_true_iff_forall_mem]; intro v hv; simp at hv; rcases hv with rfl | rfl | rfl <;> first | exact ho | rfl)

set_option maxRecDepth 100000 in
set_option maxHeartbeats 2000000 in
theorem made_any (r : Sr) (h n sh : Int) (w : World) :
    Calls Tryz.prog 6 #[.agg (r.cs h n sh)] w fun e w' => MadeE r h n sh w e w' := by
  have HA : Hid (∀ o, Below w.heap.size w ((w.alloc (.cells (r.cs h n sh) 28)).alloc o)) := fun o => ((Below.refl _ _).alloc (Nat.le_refl _) _).alloc (by simp) _
  have HG0 : Hid (∀ o, ((w.alloc (.cells (r.cs h n sh) 28)).alloc o).heap[w.heap.size]? = some (.cells (r.cs h n sh) 28)) := fun o => al2_old _ _ _
  have HG1 : Hid (∀ o o', ((w.alloc o).alloc o').heap[w.heap.size + 1]? = some o') := fun o o' => al2_new _ _ _
  have HF : Hid (∀ W, Calls Tryz.prog 5 #[.agg (r.cs h n sh)] W fun e w' => ∃ h' n', e = .returned (.agg (r.cs h' n' sh)) ∧ Below W.heap.size W w' ∧ (0 ≤ h' ∧ h' < 4) ∧ (0 ≤ n' ∧ n' < 16) ∧ (0 ≤ h → h < 4 → h' = h) ∧ (0 ≤ n → n < 16 → n' = n)) := fun W => Fit_ex r h n sh W
  unfold Sr.cs
  go_enter Tryz.func6, Tryz.ntmps6
  go_wp2_with fail
  refine (HF.out _).mono ?_
  rintro e w1 ⟨h', n0, rfl, hb1, hh', hn0, eh, en⟩
  obtain ⟨n', rfl⟩ : ∃ n' : Nat, n0 = (n' : Int) := ⟨n0.toNat, by omega⟩
  have g0 := (hb1.block w.heap.size (by simp only [World.size_alloc]; omega)).trans (HG0.out _)
  have g1 := (hb1.block (w.heap.size + 1) (by simp only [World.size_alloc]; omega)).trans (HG1.out _ _)
  have HB1 : Hid (Below w.heap.size w w1) := (HA.out _).trans (hb1.mono (by simp only [World.size_alloc]; omega))
  have HZ : Hid (w.heap.size + 2 ≤ w1.heap.size) := by have := hb1.size; simp only [World.size_alloc] at this; show _ ≤ _; omega
  have HST : Hid ((storeVar 28 ⟨w.heap.size, 0, none⟩ (.agg (r.cs h' n' sh))).run Tryz.prog w1 = .ok () (w1.setRow w.heap.size (r.cs h' n' sh))) := sp_st r h' n' sh g0 rfl
  have k0 : Hid ((w1.setRow w.heap.size (r.cs h' n' sh)).heap[w.heap.size]? = some (.cells (r.cs h' n' sh) 28)) := setRow_heap _ _ _ _ _ _ g0
  have k1 := (setRow_other w1 w.heap.size (w.heap.size + 1) (r.cs h' n' sh) (by omega)).trans g1
  have HB2 : Hid (Below w.heap.size w (w1.setRow w.heap.size (r.cs h' n' sh))) := HB1.out.trans ⟨rfl, rfl, rfl, by rw [setRow_size]; exact Nat.le_refl _, fun k hk => setRow_other _ _ _ _ (by omega)⟩
  have HZ2 : Hid (w.heap.size + 2 ≤ (w1.setRow w.heap.size (r.cs h' n' sh)).heap.size) := by show _ ≤ _; rw [setRow_size]; exact HZ.out
  have HX : Hid ((0 ≤ h' ∧ h' < 4) ∧ n' < 16 ∧ (0 ≤ h → h < 4 → h' = h) ∧ (0 ≤ n → n < 16 → (n' : Int) = n)) := ⟨hh', by omega, eh, en⟩
  generalize w1.setRow w.heap.size (r.cs h' n' sh) = w2 at HST k0 k1 HB2 HZ2
  have HLD : Hid ((loadVar 28 ⟨w.heap.size, 0, none⟩).run Tryz.prog w2 = .ok (.agg (r.cs h' n' sh)) w2) := sp_ld r h' n' sh k0.out
  replace k1 : Hid (w2.heap[w.heap.size + 1]? = some (.cells #[.nilIface, .pointer none, .pointer none] 36)) := k1
  clear hb1 hh' hn0 eh en g0 g1 HB1 HZ HF HA HG0 HG1
  go_wp2_with (first | ((with_reducible refine str ?_ ?_ ?_ HST.out ?_); rfl; rfl; rfl) | ((with_reducible refine ldr ?_ ?_ HLD.out ?_); rfl; rfl))
  by_cases h1 : h' = 1
  · subst h1
    refine (Object_nil r 1 sh n' (.inl rfl) w2).mono ?_
    rintro e w3 ⟨rfl, hb3⟩
    have d0 := (hb3.block w.heap.size (by have := HZ2.out; omega)).trans k0.out
    have d1 := (hb3.block (w.heap.size + 1) (by have := HZ2.out; omega)).trans k1.out
    have HB3 : Hid (Below w.heap.size w w3) := HB2.out.trans (hb3.mono (by have := HZ2.out; omega))
    have HZ3 : Hid (w.heap.size + 2 ≤ w3.heap.size) := Nat.le_trans HZ2.out hb3.size
    have c0 : w3.cell? ⟨w.heap.size, 0, none⟩ = some (.int .i64 1) := by rw [cell_of_row _ _ 0 _ _ _ d0]; rfl
    have HLD3 : Hid ((loadVar 28 ⟨w.heap.size, 0, none⟩).run Tryz.prog w3 = .ok (.agg (r.cs 1 n' sh)) w3) := sp_ld r 1 n' sh d0
    unfold Sr.cs at HLD3
    have HST3 : Hid (∀ o c d X, o.oneCell' = true → (storeVar 36 ⟨w.heap.size + 1, 0, none⟩ (.agg #[o, .pointer c, .pointer d])).run Tryz.prog (w3.alloc X) = .ok () ((w3.alloc X).setRow (w.heap.size + 1) #[o, .pointer c, .pointer d])) := fun o c d X ho => one_st o c d ((Below.heap_alloc _ _ _ (by have := HZ3.out; omega)).trans d1) ho
    have HR : Hid (∀ o c d X, Below w.heap.size w ((w3.alloc X).setRow (w.heap.size + 1) #[o, .pointer c, .pointer d]) ∧ ((w3.alloc X).setRow (w.heap.size + 1) #[o, .pointer c, .pointer d]).heap[w.heap.size + 1]? = some (.cells #[o, .pointer c, .pointer d] 36)) := fun o c d X =>
      ⟨(HB3.out.alloc (by have := HZ3.out; omega) _).trans ⟨rfl, rfl, rfl, by rw [setRow_size]; exact Nat.le_refl _, fun k hk => setRow_other _ _ _ _ (by omega)⟩, setRow_heap _ _ _ _ _ _ ((Below.heap_alloc _ _ _ (by have := HZ3.out; omega)).trans d1)⟩
    clear d0 d1
    have HS3 : Hid (∀ c d X, (storeVar 36 ⟨w.heap.size + 1, 0, none⟩ (.agg #[.nilIface, .pointer c, .pointer d])).run Tryz.prog (w3.alloc X) = .ok () ((w3.alloc X).setRow (w.heap.size + 1) #[.nilIface, .pointer c, .pointer d])) := fun c d X => HST3.out (.nilIface) c d X rfl
    go_wp2_with (first | ((with_reducible refine ldr ?_ ?_ HLD3.out ?_); rfl; rfl) | ((with_reducible refine str ?_ ?_ ?_ (HS3.out (some ⟨w2.heap.size + 1, 0, none⟩) (some ⟨w3.heap.size, 0, none⟩) _) ?_); rfl; rfl; rfl))
    show bodyPost Tryz.prog Tryz.f6 _ _ _ ((w3.alloc (.cells (r.cs 1 n' sh ++ zs) 85)).setRow (w.heap.size + 1) #[.nilIface, .pointer (some ⟨w2.heap.size + 1, 0, none⟩), .pointer (some ⟨w3.heap.size, 0, none⟩)])
    generalize hW4 : (w3.alloc (.cells (r.cs 1 n' sh ++ zs) 85)).setRow (w.heap.size + 1) #[.nilIface, .pointer (some ⟨w2.heap.size + 1, 0, none⟩), .pointer (some ⟨w3.heap.size, 0, none⟩)] = w4
    have hr4 : w4.heap[w.heap.size + 1]? = some (.cells #[.nilIface, .pointer (some ⟨w2.heap.size + 1, 0, none⟩), .pointer (some ⟨w3.heap.size, 0, none⟩)] 36) := by rw [← hW4]; exact (HR.out _ _ _ _).2
    have HB4 : Hid (Below w.heap.size w w4) := by show Below _ _ _; rw [← hW4]; exact (HR.out _ _ _ _).1
    have e0 : w4.cell? ⟨w.heap.size + 1, 0, none⟩ = some (.nilIface) := by rw [cell_of_row _ _ 0 _ _ _ hr4]; rfl
    have e1 : w4.cell? ⟨w.heap.size + 1, 1, none⟩ = some (.pointer (some ⟨w2.heap.size + 1, 0, none⟩)) := by rw [cell_of_row _ _ 1 _ _ _ hr4]; rfl
    have e2 : w4.cell? ⟨w.heap.size + 1, 2, none⟩ = some (.pointer (some ⟨w3.heap.size, 0, none⟩)) := by rw [cell_of_row _ _ 2 _ _ _ hr4]; rfl
    refine bodyPost_ret (v := .agg #[.nilIface, .pointer (some ⟨w2.heap.size + 1, 0, none⟩), .pointer (some ⟨w3.heap.size, 0, none⟩)]) (by simp [results, Tryz.results6, go_sem, e0, e1, e2] <;> rfl) rfl ?_
    exact ⟨1, n', .nilIface, _, _, rfl, HB4.out, HX.out.1, HX.out.2.1, HX.out.2.2.1, HX.out.2.2.2, .inl ⟨rfl, rfl⟩⟩
  by_cases h2 : h' = 2
  · subst h2
    refine (Object_nil r 2 sh n' (.inr rfl) w2).mono ?_
    rintro e w3 ⟨rfl, hb3⟩
    have d0 := (hb3.block w.heap.size (by have := HZ2.out; omega)).trans k0.out
    have d1 := (hb3.block (w.heap.size + 1) (by have := HZ2.out; omega)).trans k1.out
    have HB3 : Hid (Below w.heap.size w w3) := HB2.out.trans (hb3.mono (by have := HZ2.out; omega))
    have HZ3 : Hid (w.heap.size + 2 ≤ w3.heap.size) := Nat.le_trans HZ2.out hb3.size
    have c0 : w3.cell? ⟨w.heap.size, 0, none⟩ = some (.int .i64 2) := by rw [cell_of_row _ _ 0 _ _ _ d0]; rfl
    have HLD3 : Hid ((loadVar 28 ⟨w.heap.size, 0, none⟩).run Tryz.prog w3 = .ok (.agg (r.cs 2 n' sh)) w3) := sp_ld r 2 n' sh d0
    unfold Sr.cs at HLD3
    have HST3 : Hid (∀ o c d X, o.oneCell' = true → (storeVar 36 ⟨w.heap.size + 1, 0, none⟩ (.agg #[o, .pointer c, .pointer d])).run Tryz.prog (w3.alloc X) = .ok () ((w3.alloc X).setRow (w.heap.size + 1) #[o, .pointer c, .pointer d])) := fun o c d X ho => one_st o c d ((Below.heap_alloc _ _ _ (by have := HZ3.out; omega)).trans d1) ho
    have HR : Hid (∀ o c d X, Below w.heap.size w ((w3.alloc X).setRow (w.heap.size + 1) #[o, .pointer c, .pointer d]) ∧ ((w3.alloc X).setRow (w.heap.size + 1) #[o, .pointer c, .pointer d]).heap[w.heap.size + 1]? = some (.cells #[o, .pointer c, .pointer d] 36)) := fun o c d X =>
      ⟨(HB3.out.alloc (by have := HZ3.out; omega) _).trans ⟨rfl, rfl, rfl, by rw [setRow_size]; exact Nat.le_refl _, fun k hk => setRow_other _ _ _ _ (by omega)⟩, setRow_heap _ _ _ _ _ _ ((Below.heap_alloc _ _ _ (by have := HZ3.out; omega)).trans d1)⟩
    clear d0 d1
    have HS3 : Hid (∀ c d X, (storeVar 36 ⟨w.heap.size + 1, 0, none⟩ (.agg #[.iface 66 (.pointer none), .pointer c, .pointer d])).run Tryz.prog (w3.alloc X) = .ok () ((w3.alloc X).setRow (w.heap.size + 1) #[.iface 66 (.pointer none), .pointer c, .pointer d])) := fun c d X => HST3.out (.iface 66 (.pointer none)) c d X rfl
    go_wp2_with (first | ((with_reducible refine ldr ?_ ?_ HLD3.out ?_); rfl; rfl) | ((with_reducible refine str ?_ ?_ ?_ (HS3.out (some ⟨w2.heap.size + 1, 0, none⟩) (some ⟨w3.heap.size, 0, none⟩) _) ?_); rfl; rfl; rfl))
    show bodyPost Tryz.prog Tryz.f6 _ _ _ ((w3.alloc (.cells (r.cs 2 n' sh ++ zs) 85)).setRow (w.heap.size + 1) #[.iface 66 (.pointer none), .pointer (some ⟨w2.heap.size + 1, 0, none⟩), .pointer (some ⟨w3.heap.size, 0, none⟩)])
    generalize hW4 : (w3.alloc (.cells (r.cs 2 n' sh ++ zs) 85)).setRow (w.heap.size + 1) #[.iface 66 (.pointer none), .pointer (some ⟨w2.heap.size + 1, 0, none⟩), .pointer (some ⟨w3.heap.size, 0, none⟩)] = w4
    have hr4 : w4.heap[w.heap.size + 1]? = some (.cells #[.iface 66 (.pointer none), .pointer (some ⟨w2.heap.size + 1, 0, none⟩), .pointer (some ⟨w3.heap.size, 0, none⟩)] 36) := by rw [← hW4]; exact (HR.out _ _ _ _).2
    have HB4 : Hid (Below w.heap.size w w4) := by show Below _ _ _; rw [← hW4]; exact (HR.out _ _ _ _).1
    have e0 : w4.cell? ⟨w.heap.size + 1, 0, none⟩ = some (.iface 66 (.pointer none)) := by rw [cell_of_row _ _ 0 _ _ _ hr4]; rfl
    have e1 : w4.cell? ⟨w.heap.size + 1, 1, none⟩ = some (.pointer (some ⟨w2.heap.size + 1, 0, none⟩)) := by rw [cell_of_row _ _ 1 _ _ _ hr4]; rfl
    have e2 : w4.cell? ⟨w.heap.size + 1, 2, none⟩ = some (.pointer (some ⟨w3.heap.size, 0, none⟩)) := by rw [cell_of_row _ _ 2 _ _ _ hr4]; rfl
    refine bodyPost_ret (v := .agg #[.iface 66 (.pointer none), .pointer (some ⟨w2.heap.size + 1, 0, none⟩), .pointer (some ⟨w3.heap.size, 0, none⟩)]) (by simp [results, Tryz.results6, go_sem, e0, e1, e2] <;> rfl) rfl ?_
    exact ⟨2, n', .iface 66 (.pointer none), _, _, rfl, HB4.out, HX.out.1, HX.out.2.1, HX.out.2.2.1, HX.out.2.2.2, .inr (.inl ⟨rfl, rfl⟩)⟩
  have HO : Hid (h' = 0 ∨ h' = 3) := by have := HX.out.1; show _ ∨ _; omega
  have b2 : (h' == 2) = false := by simp [h2]
  clear h1 h2
  refine (Object_some r h' sh n' HX.out.2.1 HO.out w2).mono ?_
  rintro e w3 ⟨T, v, rfl, hA, hT, hb3, hc3⟩
  have HC3 : Hid (Core r h' n' sh (w2.heap.size + 1) w3) := hc3
  replace hA : Hid (Ab T n') := hA
  replace hT : Hid (T ≠ 66) := hT
  clear hc3
  have d0 := (hb3.block w.heap.size (by have := HZ2.out; omega)).trans k0.out
  have d1 := (hb3.block (w.heap.size + 1) (by have := HZ2.out; omega)).trans k1.out
  have HB3 : Hid (Below w.heap.size w w3) := HB2.out.trans (hb3.mono (by have := HZ2.out; omega))
  have HZ3 : Hid (w.heap.size + 2 ≤ w3.heap.size) := Nat.le_trans HZ2.out hb3.size
  have c0 : w3.cell? ⟨w.heap.size, 0, none⟩ = some (.int .i64 h') := by rw [cell_of_row _ _ 0 _ _ _ d0]; rfl
  have HLD3 : Hid ((loadVar 28 ⟨w.heap.size, 0, none⟩).run Tryz.prog w3 = .ok (.agg (r.cs h' n' sh)) w3) := sp_ld r h' n' sh d0
  unfold Sr.cs at HLD3
  have HST3 : Hid (∀ o c d X, o.oneCell' = true → (storeVar 36 ⟨w.heap.size + 1, 0, none⟩ (.agg #[o, .pointer c, .pointer d])).run Tryz.prog (w3.alloc X) = .ok () ((w3.alloc X).setRow (w.heap.size + 1) #[o, .pointer c, .pointer d])) := fun o c d X ho => one_st o c d ((Below.heap_alloc _ _ _ (by have := HZ3.out; omega)).trans d1) ho
  have HR : Hid (∀ o c d X, Below w.heap.size w ((w3.alloc X).setRow (w.heap.size + 1) #[o, .pointer c, .pointer d]) ∧ ((w3.alloc X).setRow (w.heap.size + 1) #[o, .pointer c, .pointer d]).heap[w.heap.size + 1]? = some (.cells #[o, .pointer c, .pointer d] 36)) := fun o c d X =>
    ⟨(HB3.out.alloc (by have := HZ3.out; omega) _).trans ⟨rfl, rfl, rfl, by rw [setRow_size]; exact Nat.le_refl _, fun k hk => setRow_other _ _ _ _ (by omega)⟩, setRow_heap _ _ _ _ _ _ ((Below.heap_alloc _ _ _ (by have := HZ3.out; omega)).trans d1)⟩
  clear d0 d1
  have HS3 : Hid (∀ c d X, (storeVar 36 ⟨w.heap.size + 1, 0, none⟩ (.agg #[.iface T v, .pointer c, .pointer d])).run Tryz.prog (w3.alloc X) = .ok () ((w3.alloc X).setRow (w.heap.size + 1) #[.iface T v, .pointer c, .pointer d])) := fun c d X => HST3.out (.iface T v) c d X rfl
  go_wp2_with (first | ((with_reducible refine ldr ?_ ?_ HLD3.out ?_); rfl; rfl) | ((with_reducible refine str ?_ ?_ ?_ (HS3.out (some ⟨w2.heap.size + 1, 0, none⟩) (some ⟨w3.heap.size, 0, none⟩) _) ?_); rfl; rfl; rfl))
  show bodyPost Tryz.prog Tryz.f6 _ _ _ ((w3.alloc (.cells (r.cs h' n' sh ++ zs) 85)).setRow (w.heap.size + 1) #[.iface T v, .pointer (some ⟨w2.heap.size + 1, 0, none⟩), .pointer (some ⟨w3.heap.size, 0, none⟩)])
  generalize hW4 : (w3.alloc (.cells (r.cs h' n' sh ++ zs) 85)).setRow (w.heap.size + 1) #[.iface T v, .pointer (some ⟨w2.heap.size + 1, 0, none⟩), .pointer (some ⟨w3.heap.size, 0, none⟩)] = w4
  have hr4 : w4.heap[w.heap.size + 1]? = some (.cells #[.iface T v, .pointer (some ⟨w2.heap.size + 1, 0, none⟩), .pointer (some ⟨w3.heap.size, 0, none⟩)] 36) := by rw [← hW4]; exact (HR.out _ _ _ _).2
  have HB4 : Hid (Below w.heap.size w w4) := by show Below _ _ _; rw [← hW4]; exact (HR.out _ _ _ _).1
  have e0 : w4.cell? ⟨w.heap.size + 1, 0, none⟩ = some (.iface T v) := by rw [cell_of_row _ _ 0 _ _ _ hr4]; rfl
  have e1 : w4.cell? ⟨w.heap.size + 1, 1, none⟩ = some (.pointer (some ⟨w2.heap.size + 1, 0, none⟩)) := by rw [cell_of_row _ _ 1 _ _ _ hr4]; rfl
  have e2 : w4.cell? ⟨w.heap.size + 1, 2, none⟩ = some (.pointer (some ⟨w3.heap.size, 0, none⟩)) := by rw [cell_of_row _ _ 2 _ _ _ hr4]; rfl
  refine bodyPost_ret (v := .agg #[.iface T v, .pointer (some ⟨w2.heap.size + 1, 0, none⟩), .pointer (some ⟨w3.heap.size, 0, none⟩)]) (by simp [results, Tryz.results6, go_sem, e0, e1, e2] <;> rfl) rfl ?_
  exact ⟨h', n', .iface T v, _, _, rfl, HB4.out, HX.out.1, HX.out.2.1, HX.out.2.2.1, HX.out.2.2.2, (by
    refine .inr (.inr ⟨HO.out, T, v, rfl, hA, hT, ?_⟩)
    show w4.heap[_]? = _
    rw [← hW4, setRow_other _ _ _ _ (by have := HZ2.out; omega), Below.heap_alloc _ _ _ (Array.getElem?_eq_some_iff.1 HC3.out).1]
    exact HC3.out)⟩
end Go.Proofs.YtbjjeleoimcboaaGreat


/- tenonmake.Object of what is something, with how its methods are found. -/
import Derived.Test.YtbjjeleoimcboaaQ8
import Derived.Test.YtbjjeleoimcboaaQ7
import Derived.Test.YtbjjeleoimcboaaQ6
import Derived.Deep.WholeRow
import Derived.Deep.MidRow
namespace Go.Proofs.Ytbjjeleoimcboaa
open Go.RowKit

/-- what Object hands back -/
def ObjG (r : Sr) (n : Nat) (sh : Int) (w : World) (e : Ending) (w' : World) : Prop :=
  ∃ T v, e = .returned (.tuple #[.iface T v, .pointer (some ⟨w.heap.size + 1, 0, none⟩)]) ∧ Ab T n ∧ T ≠ 55 ∧ Below w.heap.size w w' ∧ Core r 0 n sh (w.heap.size + 1) w' ∧ Dx T v n (w.heap.size + 1) w'

set_option maxRecDepth 100000 in
set_option maxHeartbeats 2000000 in
theorem ObjectG_pointer (r : Sr) (n : Nat) (hn : n < 16) (w : World) :
    Calls Try.prog 24 #[.agg (r.cs 0 n 0)] w fun e w' => ObjG r n 0 w e w' := by
  have HF : Hid (∀ W, W.cell? ⟨w.heap.size + 1, 1, none⟩ = some (.int .i64 (n : Int)) → Calls Try.prog 39 #[.pointer (some ⟨w.heap.size + 1, 0, none⟩)] W fun e w' => ∃ T v, e = .returned (.iface T v) ∧ Ab T n ∧ T ≠ 55 ∧ Dx T v n (w.heap.size + 1) w' ∧ Below W.heap.size W w') := fun W hc => mx_pointer_any n hn _ W hc
  have HC : Hid (∀ o, Core r 0 n 0 (w.heap.size + 1) ((w.alloc o).alloc (.cells (r.cs 0 n 0 ++ zs) 45))) := fun o => core_al r 0 n 0 w o
  clear hn
  unfold Sr.cs
  go_enter Try.func24, Try.ntmps24
  go_wp2_with fail
  refine (HF.out _ (by simp)).mono ?_
  rintro e w1 ⟨T, v, rfl, hA, hT, hD, hb⟩
  have HB : Hid (Below w.heap.size w w1) := (((Below.refl _ _).alloc (Nat.le_refl _) _).alloc (by simp) _).trans (hb.mono (by simp only [World.size_alloc]; omega))
  have HC1 : Hid (Core r 0 n 0 (w.heap.size + 1) w1) := (hb.block _ (by simp only [World.size_alloc]; omega)).trans (HC.out _)
  replace hA : Hid (Ab T n) := hA
  have HD : Hid (Dx T v n (w.heap.size + 1) w1) := hD
  clear hD
  replace hT : Hid (T ≠ 55) := hT
  clear hb
  go_wp2_with fail
  go_ret2
  exact ⟨T, v, rfl, hA, hT, HB.out, HC1.out, HD.out⟩

set_option maxRecDepth 100000 in
set_option maxHeartbeats 2000000 in
theorem ObjectG_value (r : Sr) (sh : Int) (n : Nat) (hn : n < 16) (b0 : (sh == 0) = false) (b2 : (sh == 2) = false) (w : World) :
    Calls Try.prog 24 #[.agg (r.cs 0 n sh)] w fun e w' => ObjG r n sh w e w' := by
  have HF : Hid (∀ W, W.cell? ⟨w.heap.size + 1, 1, none⟩ = some (.int .i64 (n : Int)) → Calls Try.prog 38 #[.pointer (some ⟨w.heap.size + 1, 0, none⟩)] W fun e w' => ∃ T v, e = .returned (.iface T v) ∧ Ab T n ∧ T ≠ 55 ∧ Dx T v n (w.heap.size + 1) w' ∧ W = w') := fun W hc => mx_value_any n hn _ W hc
  have HC : Hid (∀ o, Core r 0 n sh (w.heap.size + 1) ((w.alloc o).alloc (.cells (r.cs 0 n sh ++ zs) 45))) := fun o => core_al r 0 n sh w o
  clear hn
  unfold Sr.cs
  go_enter Try.func24, Try.ntmps24
  go_wp2_with fail
  refine (HF.out _ (by simp)).mono ?_
  rintro e w1 ⟨T, v, rfl, hA, hT, hD, rfl⟩
  replace hA : Hid (Ab T n) := hA
  have HD : Hid (Dx T v n (w.heap.size + 1) _) := hD
  clear hD
  replace hT : Hid (T ≠ 55) := hT
  go_wp2_with fail
  go_ret2
  exact ⟨T, v, rfl, hA, hT, ((Below.refl _ _).alloc (Nat.le_refl _) _).alloc (by simp) _, HC.out _, HD.out⟩

set_option maxRecDepth 100000 in
set_option maxHeartbeats 2000000 in
theorem ObjectG_two (r : Sr) (n : Nat) (hn : n < 16) (n0 : n ≠ 0) (n15 : n ≠ 15) (w : World) :
    Calls Try.prog 24 #[.agg (r.cs 0 n 2)] w fun e w' => ObjG r n 2 w e w' := by
  have HF : Hid (∀ W, W.cell? ⟨w.heap.size + 1, 1, none⟩ = some (.int .i64 (n : Int)) → Calls Try.prog 38 #[.pointer (some ⟨w.heap.size + 1, 0, none⟩)] W fun e w' => ∃ T v, e = .returned (.iface T v) ∧ Ab T n ∧ T ≠ 55 ∧ Dx T v n (w.heap.size + 1) w' ∧ W = w') := fun W hc => mx_value_any n hn _ W hc
  have HC : Hid (∀ o, Core r 0 n 2 (w.heap.size + 1) ((w.alloc o).alloc (.cells (r.cs 0 n 2 ++ zs) 45))) := fun o => core_al r 0 n 2 w o
  have z0 : (bits BinOp.and IntKind.i64 (n : Int) 15 == 0) = false := and_no n hn 0 n0
  have z15 : (bits BinOp.and IntKind.i64 (n : Int) 15 == 15) = false := and_no n hn 15 n15
  clear hn n0 n15
  unfold Sr.cs
  go_enter Try.func24, Try.ntmps24
  go_wp2_with fail
  refine (HF.out _ (by simp)).mono ?_
  rintro e w1 ⟨T, v, rfl, hA, hT, hD, rfl⟩
  replace hA : Hid (Ab T n) := hA
  have HD : Hid (Dx T v n (w.heap.size + 1) _) := hD
  clear hD
  replace hT : Hid (T ≠ 55) := hT
  go_wp2_with fail
  go_ret2
  exact ⟨T, v, rfl, hA, hT, ((Below.refl _ _).alloc (Nat.le_refl _) _).alloc (by simp) _, HC.out _, HD.out⟩

set_option maxRecDepth 100000 in
set_option maxHeartbeats 2000000 in
theorem ObjectG_u0 (r : Sr) (w : World) :
    Calls Try.prog 24 #[.agg (r.cs 0 0 2)] w fun e w' => ObjG r 0 2 w e w' := by
  have HC : Hid (∀ o, Core r 0 0 2 (w.heap.size + 1) ((w.alloc o).alloc (.cells (r.cs 0 0 2 ++ zs) 45))) := fun o => core_al r 0 0 2 w o
  unfold Sr.cs
  go_enter Try.func24, Try.ntmps24
  go_wp2_with fail
  go_ret2
  exact ⟨_, _, rfl, Ab_u0, by decide, (((Below.refl _ _).alloc (Nat.le_refl _) _).alloc (by simp) _).alloc (by simp only [World.size_alloc]; omega) _, (Below.heap_alloc _ _ _ (by simp only [World.size_alloc]; omega)).trans (HC.out _), ⟨fun h => absurd h (by decide), fun h => absurd h (by decide)⟩⟩

set_option maxRecDepth 100000 in
set_option maxHeartbeats 2000000 in
theorem ObjectG_u15 (r : Sr) (w : World) :
    Calls Try.prog 24 #[.agg (r.cs 0 15 2)] w fun e w' => ObjG r 15 2 w e w' := by
  have HC : Hid (∀ o, Core r 0 15 2 (w.heap.size + 1) ((w.alloc o).alloc (.cells (r.cs 0 15 2 ++ zs) 45))) := fun o => core_al r 0 15 2 w o
  have HF : Hid (∀ W, W.cell? ⟨w.heap.size + 1, 1, none⟩ = some (.int .i64 15) → Calls Try.prog 38 #[.pointer (some ⟨w.heap.size + 1, 0, none⟩)] W fun e w' => e = .returned (.iface 109 (.agg #[.pointer (some ⟨w.heap.size + 1, 0, none⟩), .pointer (some ⟨w.heap.size + 1, 0, none⟩), .pointer (some ⟨w.heap.size + 1, 0, none⟩), .pointer (some ⟨w.heap.size + 1, 0, none⟩), .pointer (some ⟨w.heap.size + 1, 0, none⟩)])) ∧ W = w') := fun W hc => mk_value_15s _ W hc
  have ht : ∀ v W, (Instr.typeAssert (.iface 109 v) 35 109 true).run Try.prog W = .ok (.tuple #[v, .bool true]) W := fun v W => by kernel_rfl
  unfold Sr.cs
  go_enter Try.func24, Try.ntmps24
  go_wp2_with fail
  refine (HF.out _ (by simp)).mono ?_
  rintro e w1 ⟨rfl, rfl⟩
  go_wp2_with fail
  go_ret2
  refine ⟨_, _, rfl, Ab_u15, by decide, ((((Below.refl _ _).alloc (Nat.le_refl _) _).alloc (by simp) _).alloc (by simp only [World.size_alloc]; omega) _).alloc (by simp only [World.size_alloc]; omega) _, ?_, ⟨fun _ => DxO_u15 _ _ _, fun _ => DxL_u15 _ _ _⟩⟩
  exact (Below.heap_alloc _ _ _ (by simp only [World.size_alloc]; omega)).trans ((Below.heap_alloc _ _ _ (by simp only [World.size_alloc]; omega)).trans (HC.out _))

theorem ObjectG_some (r : Sr) (sh : Int) (n : Nat) (hn : n < 16) (w : World) :
    Calls Try.prog 24 #[.agg (r.cs 0 n sh)] w fun e w' => ObjG r n sh w e w' := by
  by_cases s0 : sh = 0
  · subst s0; exact ObjectG_pointer r n hn w
  · by_cases s2 : sh = 2
    · subst s2
      by_cases n0 : n = 0
      · subst n0; exact ObjectG_u0 r w
      · by_cases n15 : n = 15
        · subst n15; exact ObjectG_u15 r w
        · exact ObjectG_two r n hn n0 n15 w
    · exact ObjectG_value r sh n hn (by simp [s0]) (by simp [s2]) w
end Go.Proofs.Ytbjjeleoimcboaa

/- tenonlaw10.made: an object of a description that is made to fit. -/
namespace Go.Proofs.Ytbjjeleoimcboaa
open Go.RowKit

theorem ldr {P : Program} {ops : Array Oper} {rest : List Oper} {Q : Exit → Act → World → Prop} {a : Act} {w : World} {d : Option Tmp} {ty T : TypeId} {x : Operand} {ps : String} {af : Array Edge} {gd : Option (Nat × Bool)} {p : Addr} {v : Value}
    (hw : Region.wanted (Oper.mk d (.load ty x) T ps af gd) (yielded ops a.tmps) = true) (hx : a.eval x = .pointer (some p)) (hl : (loadVar ty p).run P w = .ok v w)
    (h : wpList P ops Q rest (a.put d v) w) : wpList P ops Q (Oper.mk d (.load ty x) T ps af gd :: rest) a w := by
  rw [wpList, if_pos hw]
  refine .inl ?_
  unfold Oper.wp execOp
  simp only [hx, Instr.loadAt, Instr.sureAddr, Sem.run_bind, Sem.run_pure, Result.andThen_ok, hl]
  exact h
theorem str {P : Program} {ops : Array Oper} {rest : List Oper} {Q : Exit → Act → World → Prop} {a : Act} {w w' : World} {d : Option Tmp} {ty T : TypeId} {x y : Operand} {ps : String} {af : Array Edge} {gd : Option (Nat × Bool)} {p : Addr} {v : Value}
    (hw : Region.wanted (Oper.mk d (.store ty x y) T ps af gd) (yielded ops a.tmps) = true) (hx : a.eval x = .pointer (some p)) (hy : a.eval y = v) (hl : (storeVar ty p v).run P w = .ok () w')
    (h : wpList P ops Q rest (a.put d undef) w') : wpList P ops Q (Oper.mk d (.store ty x y) T ps af gd :: rest) a w := by
  rw [wpList, if_pos hw]
  refine .inl ?_
  unfold Oper.wp execOp
  simp only [hx, hy, Instr.storeAt, Instr.sureAddr, Sem.run_bind, Sem.run_pure, Result.andThen_ok, hl]
  exact h

theorem sp_ld {w : World} {b : Nat} {T : TypeId} {fr : Nat × Nat} (r : Sr) (h n sh : Int) (hb : w.heap[b]? = some (.cells (r.cs h n sh) T fr)) : (loadVar 32 ⟨b, 0, none⟩).run Try.prog w = .ok (.agg (r.cs h n sh)) w :=
  run_loadVar_row w b T 32 _ fr _ hb Try.underlying32 rfl (by kernel_rfl)
theorem sp_st {w : World} {b : Nat} {T : TypeId} {old : Array Value} (r : Sr) (h n sh : Int) (hb : w.heap[b]? = some (.cells old T (0, 0))) (ho : old.size = 14) : (storeVar 32 ⟨b, 0, none⟩ (.agg (r.cs h n sh))).run Try.prog w = .ok () (w.setRow b (r.cs h n sh)) :=
  run_storeVar_row w b T 32 old _ hb (by kernel_rfl) (by rw [ho]; rfl) (by simp [Sr.cs, Value.oneCell'])

/-- the object of a description that fits -/
def ObjOf (r : Sr) (sh h : Int) (n : Nat) (o : Value) (c : Nat) (w : World) : Prop :=
  (h = 1 ∧ o = .nilIface) ∨ (h = 2 ∧ o = .iface 55 (.pointer none)) ∨ ((h = 0 ∨ h = 3) ∧ ∃ T v, o = .iface T v ∧ Ab T n ∧ T ≠ 55 ∧ Core r h n sh c w)

/-- what made hands back -/
def MadeE (r : Sr) (h n sh : Int) (w : World) (e : Ending) (w' : World) : Prop :=
  ∃ (h' : Int) (n' : Nat) (o : Value) (c d : Nat), e = .returned (.agg #[o, .pointer (some ⟨c, 0, none⟩), .pointer (some ⟨d, 0, none⟩)]) ∧ Below w.heap.size w w' ∧ (0 ≤ h' ∧ h' < 4) ∧ n' < 16 ∧ (0 ≤ h → h < 4 → h' = h) ∧ (0 ≤ n → n < 16 → (n' : Int) = n) ∧ ObjOf r sh h' n' o c w'

theorem one_st {w : World} {b : Nat} (o : Value) (c d : Option Addr) (hb : w.heap[b]? = some (.cells #[.nilIface, .pointer none, .pointer none] 39)) (ho : o.oneCell' = true) : (storeVar 39 ⟨b, 0, none⟩ (.agg #[o, .pointer c, .pointer d])).run Try.prog w = .ok () (w.setRow b #[o, .pointer c, .pointer d]) :=
  run_storeVar_row w b 39 39 _ _ hb (by kernel_rfl) rfl (by rw [Array.all_eq_true_iff_forall_mem]; intro v hv; simp at hv; rcases hv with rfl | rfl | rfl <;> first | exact ho | rfl)

end Go.Proofs.Ytbjjeleoimcboaa

/- tenonlaw10.made of what is something. -/
namespace Go.Proofs.Ytbjjeleoimcboaa
open Go.RowKit

/-- what made hands back of something -/
def MadeG (r : Sr) (n sh : Int) (w : World) (e : Ending) (w' : World) : Prop :=
  ∃ n' : Nat, fitM 16 n = (n' : Int) ∧ n' < 16 ∧ ∃ T v c d, e = .returned (.agg #[.iface T v, .pointer (some ⟨c, 0, none⟩), .pointer (some ⟨d, 0, none⟩)]) ∧ Below w.heap.size w w' ∧ w.heap.size ≤ c ∧ Ab T n' ∧ T ≠ 55 ∧ Core r 0 n' sh c w' ∧ Dx T v n' c w'

set_option maxRecDepth 100000 in
set_option maxHeartbeats 2000000 in
theorem madeG_any (r : Sr) (n sh : Int) (w : World) :
    Calls Try.prog 11 #[.agg (r.cs 0 n sh)] w fun e w' => MadeG r n sh w e w' := by
  have HA : Hid (∀ o, Below w.heap.size w ((w.alloc (.cells (r.cs 0 n sh) 32)).alloc o)) := fun o => ((Below.refl _ _).alloc (Nat.le_refl _) _).alloc (by simp) _
  have HG0 : Hid (∀ o, ((w.alloc (.cells (r.cs 0 n sh) 32)).alloc o).heap[w.heap.size]? = some (.cells (r.cs 0 n sh) 32)) := fun o => al2_old _ _ _
  have HG1 : Hid (∀ o o', ((w.alloc o).alloc o').heap[w.heap.size + 1]? = some o') := fun o o' => al2_new _ _ _
  obtain ⟨n', hn', hl'⟩ : ∃ n' : Nat, fitM 16 n = (n' : Int) ∧ n' < 16 := ⟨(fitM 16 n).toNat, by have := (fitM_eq 16 n (by decide) (by decide)).1; omega, by have := (fitM_eq 16 n (by decide) (by decide)).1; omega⟩
  have h04 : fitM 4 0 = 0 := (fitM_eq 4 0 (by decide) (by decide)).2 (by decide) (by decide)
  have HF : Hid (∀ W, Calls Try.prog 23 #[.agg (r.cs 0 n sh)] W fun e w' => e = .returned (.agg (r.cs 0 n' sh)) ∧ Below W.heap.size W w') := fun W => by have := Fit_any r 0 n sh W; rw [hn', h04] at this; exact this
  have HX : Hid (fitM 16 n = (n' : Int) ∧ n' < 16) := ⟨hn', hl'⟩
  clear hn' hl' h04
  unfold Sr.cs
  go_enter Try.func11, Try.ntmps11
  go_wp2_with fail
  refine (HF.out _).mono ?_
  rintro e w1 ⟨rfl, hb1⟩
  have g0 := (hb1.block w.heap.size (by simp only [World.size_alloc]; omega)).trans (HG0.out _)
  have g1 := (hb1.block (w.heap.size + 1) (by simp only [World.size_alloc]; omega)).trans (HG1.out _ _)
  have HB1 : Hid (Below w.heap.size w w1) := (HA.out _).trans (hb1.mono (by simp only [World.size_alloc]; omega))
  have HZ : Hid (w.heap.size + 2 ≤ w1.heap.size) := by have := hb1.size; simp only [World.size_alloc] at this; show _ ≤ _; omega
  have HST : Hid ((storeVar 32 ⟨w.heap.size, 0, none⟩ (.agg (r.cs 0 n' sh))).run Try.prog w1 = .ok () (w1.setRow w.heap.size (r.cs 0 n' sh))) := sp_st r 0 n' sh g0 rfl
  have k0 : Hid ((w1.setRow w.heap.size (r.cs 0 n' sh)).heap[w.heap.size]? = some (.cells (r.cs 0 n' sh) 32)) := setRow_heap _ _ _ _ _ _ g0
  have k1 := (setRow_other w1 w.heap.size (w.heap.size + 1) (r.cs 0 n' sh) (by omega)).trans g1
  have HB2 : Hid (Below w.heap.size w (w1.setRow w.heap.size (r.cs 0 n' sh))) := HB1.out.trans ⟨rfl, rfl, rfl, by rw [setRow_size]; exact Nat.le_refl _, fun k hk => setRow_other _ _ _ _ (by omega)⟩
  have HZ2 : Hid (w.heap.size + 2 ≤ (w1.setRow w.heap.size (r.cs 0 n' sh)).heap.size) := by show _ ≤ _; rw [setRow_size]; exact HZ.out
  generalize w1.setRow w.heap.size (r.cs 0 n' sh) = w2 at HST k0 k1 HB2 HZ2
  have HLD : Hid ((loadVar 32 ⟨w.heap.size, 0, none⟩).run Try.prog w2 = .ok (.agg (r.cs 0 n' sh)) w2) := sp_ld r 0 n' sh k0.out
  replace k1 : Hid (w2.heap[w.heap.size + 1]? = some (.cells #[.nilIface, .pointer none, .pointer none] 39)) := k1
  clear hb1 g0 g1 HB1 HZ HF HA HG0 HG1
  go_wp2_with (first | ((with_reducible refine str ?_ ?_ ?_ HST.out ?_); rfl; rfl; rfl) | ((with_reducible refine ldr ?_ ?_ HLD.out ?_); rfl; rfl))
  refine (ObjectG_some r sh n' HX.out.2 w2).mono ?_
  rintro e w3 ⟨T, v, rfl, hA, hT, hb3, hc3, hD3⟩
  have HC3 : Hid (Core r 0 n' sh (w2.heap.size + 1) w3) := hc3
  replace hA : Hid (Ab T n') := hA
  replace hT : Hid (T ≠ 55) := hT
  have HD3 : Hid (Dx T v n' (w2.heap.size + 1) w3) := hD3
  clear hc3 hD3
  have d0 := (hb3.block w.heap.size (by have := HZ2.out; omega)).trans k0.out
  have d1 := (hb3.block (w.heap.size + 1) (by have := HZ2.out; omega)).trans k1.out
  have HB3 : Hid (Below w.heap.size w w3) := HB2.out.trans (hb3.mono (by have := HZ2.out; omega))
  have HZ3 : Hid (w.heap.size + 2 ≤ w3.heap.size) := Nat.le_trans HZ2.out hb3.size
  have c0 : w3.cell? ⟨w.heap.size, 0, none⟩ = some (.int .i64 0) := by rw [cell_of_row _ _ 0 _ _ _ d0]; rfl
  have HLD3 : Hid ((loadVar 32 ⟨w.heap.size, 0, none⟩).run Try.prog w3 = .ok (.agg (r.cs 0 n' sh)) w3) := sp_ld r 0 n' sh d0
  unfold Sr.cs at HLD3
  have HST3 : Hid (∀ o c d X, o.oneCell' = true → (storeVar 39 ⟨w.heap.size + 1, 0, none⟩ (.agg #[o, .pointer c, .pointer d])).run Try.prog (w3.alloc X) = .ok () ((w3.alloc X).setRow (w.heap.size + 1) #[o, .pointer c, .pointer d])) := fun o c d X ho => one_st o c d ((Below.heap_alloc _ _ _ (by have := HZ3.out; omega)).trans d1) ho
  have HR : Hid (∀ o c d X, Below w.heap.size w ((w3.alloc X).setRow (w.heap.size + 1) #[o, .pointer c, .pointer d]) ∧ ((w3.alloc X).setRow (w.heap.size + 1) #[o, .pointer c, .pointer d]).heap[w.heap.size + 1]? = some (.cells #[o, .pointer c, .pointer d] 39)) := fun o c d X =>
    ⟨(HB3.out.alloc (by have := HZ3.out; omega) _).trans ⟨rfl, rfl, rfl, by rw [setRow_size]; exact Nat.le_refl _, fun k hk => setRow_other _ _ _ _ (by omega)⟩, setRow_heap _ _ _ _ _ _ ((Below.heap_alloc _ _ _ (by have := HZ3.out; omega)).trans d1)⟩
  clear d0 d1
  have HS3 : Hid (∀ c d X, (storeVar 39 ⟨w.heap.size + 1, 0, none⟩ (.agg #[.iface T v, .pointer c, .pointer d])).run Try.prog (w3.alloc X) = .ok () ((w3.alloc X).setRow (w.heap.size + 1) #[.iface T v, .pointer c, .pointer d])) := fun c d X => HST3.out (.iface T v) c d X rfl
  go_wp2_with (first | ((with_reducible refine ldr ?_ ?_ HLD3.out ?_); rfl; rfl) | ((with_reducible refine str ?_ ?_ ?_ (HS3.out (some ⟨w2.heap.size + 1, 0, none⟩) (some ⟨w3.heap.size, 0, none⟩) _) ?_); rfl; rfl; rfl))
  show bodyPost Try.prog Try.f11 _ _ _ ((w3.alloc (.cells (r.cs 0 n' sh ++ zs) 71)).setRow (w.heap.size + 1) #[.iface T v, .pointer (some ⟨w2.heap.size + 1, 0, none⟩), .pointer (some ⟨w3.heap.size, 0, none⟩)])
  generalize hW4 : (w3.alloc (.cells (r.cs 0 n' sh ++ zs) 71)).setRow (w.heap.size + 1) #[.iface T v, .pointer (some ⟨w2.heap.size + 1, 0, none⟩), .pointer (some ⟨w3.heap.size, 0, none⟩)] = w4
  have hr4 : w4.heap[w.heap.size + 1]? = some (.cells #[.iface T v, .pointer (some ⟨w2.heap.size + 1, 0, none⟩), .pointer (some ⟨w3.heap.size, 0, none⟩)] 39) := by rw [← hW4]; exact (HR.out _ _ _ _).2
  have HB4 : Hid (Below w.heap.size w w4) := by show Below _ _ _; rw [← hW4]; exact (HR.out _ _ _ _).1
  have e0 : w4.cell? ⟨w.heap.size + 1, 0, none⟩ = some (.iface T v) := by rw [cell_of_row _ _ 0 _ _ _ hr4]; rfl
  have e1 : w4.cell? ⟨w.heap.size + 1, 1, none⟩ = some (.pointer (some ⟨w2.heap.size + 1, 0, none⟩)) := by rw [cell_of_row _ _ 1 _ _ _ hr4]; rfl
  have e2 : w4.cell? ⟨w.heap.size + 1, 2, none⟩ = some (.pointer (some ⟨w3.heap.size, 0, none⟩)) := by rw [cell_of_row _ _ 2 _ _ _ hr4]; rfl
  refine bodyPost_ret (v := .agg #[.iface T v, .pointer (some ⟨w2.heap.size + 1, 0, none⟩), .pointer (some ⟨w3.heap.size, 0, none⟩)]) (by simp [results, Try.results11, go_sem, e0, e1, e2] <;> rfl) rfl ?_
  have kk : Kp (w2.heap.size + 1) w3 w4 := fun j h1 h2 => by rw [← hW4, setRow_other _ _ _ _ (by have := HZ2.out; omega), Below.heap_alloc _ _ _ h2]
  have hs4 : w3.heap.size ≤ w4.heap.size := by rw [← hW4, setRow_size]; simp
  refine ⟨n', HX.out.1, HX.out.2, T, v, w2.heap.size + 1, w3.heap.size, rfl, HB4.out, by have := HZ2.out; omega, hA, hT, ?_, ?_⟩
  · show w4.heap[_]? = _
    rw [← hW4, setRow_other _ _ _ _ (by have := HZ2.out; omega), Below.heap_alloc _ _ _ (Array.getElem?_eq_some_iff.1 HC3.out).1]
    exact HC3.out
  · exact HD3.out.keep kk hs4
end Go.Proofs.Ytbjjeleoimcboaa


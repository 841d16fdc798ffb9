/- object.caught: what a function panicked with is told. -/
import Derived.Test.YtjlhmgopmdcopaaGreatProg
import Derived.WalkKit
import Derived.WalkSpells
import Derived.WalkLawsBesides
import Derived.Defers
import Derived.Recover
import Derived.Below
namespace Go.Proofs.YtjlhmgopmdcopaaGreat
open Go.RowKit

/-- What a type assertion of a panic's value tells, whatever the world. -/
def TA (v : Value) (t : Nat) (b : Bool) : Prop := ∃ x, ∀ W, Sem.run Tryz.prog (Instr.typeAssert v 20 t true) W = .ok (.tuple #[x, .bool b]) W

/-- What is told of a panic's value: kind and error. -/
def Kd (v : Value) (k er : Int) : Prop :=
  (v = .nilIface ∧ k = 1 ∧ er = 9) ∨
  (∃ T pv, v = .iface T pv) ∧
  ((TA v 165 true ∧ k = 1 ∧ er = 9) ∨
   (TA v 165 false ∧ (∀ W, Sem.run Tryz.prog (Instr.typeAssert v 20 33 true) W = .ok (.tuple #[.int .i64 er, .bool true]) W) ∧ k = 2) ∨
   (TA v 165 false ∧ TA v 33 false ∧ TA v 167 true ∧ k = 3 ∧ er = 9) ∨
   (TA v 165 false ∧ TA v 33 false ∧ TA v 167 false ∧ TA v 9 true ∧ k = 4 ∧ er = 9) ∨
   (TA v 165 false ∧ TA v 33 false ∧ TA v 167 false ∧ TA v 9 false ∧ k = 5 ∧ er = 9))

set_option maxRecDepth 100000 in
set_option maxHeartbeats 1000000 in
theorem caught_idle (pa pw : Addr) (w : World) :
    CallsD Tryz.prog 92 #[.pointer (some pa), .pointer (some pw)] .returning w fun e u' w' => e = .returned (.tuple #[]) ∧ u' = .returning ∧ w' = w := by
  refine callsD_of_wpS Tryz.func92 rfl fun c₀ cs hu => ?_
  apply wpS_seq
  apply wpS_region
  simp [wpOpsS, go_sem, recoverD, hu, Tryz.ntmps92, Exit.thenS]
  refine wpS_of_wp ?_
  simp only [Array.replicate, List.replicate]
  simp
  go_wp2_with fail
  cases c₀
  simp_all [bodyPostS, results, Tryz.results92]

set_option maxRecDepth 100000 in
set_option maxHeartbeats 1000000 in
theorem caught_run (T : Nat) (pv : Value) (ga gw : Nat) (x y : Int) (older : List PanicEntry) (w : World) (hga : w.cell? ⟨ga, 0, none⟩ = some (.int .i64 x)) (hgw : w.cell? ⟨gw, 0, none⟩ = some (.int .i64 y)) (hfa : w.frozen? ⟨ga, 0, none⟩ = false) (hfw : w.frozen? ⟨gw, 0, none⟩ = false) (hne : ga ≠ gw) (x1 : Value) (h1 : ∀ W, Sem.run Tryz.prog (Instr.typeAssert (.iface T pv) 20 165 true) W = .ok (.tuple #[x1, .bool true]) W) :
    CallsD Tryz.prog 92 #[.pointer (some ⟨ga, 0, none⟩), .pointer (some ⟨gw, 0, none⟩)] (.panicking ({ v := .iface T pv, recovered := false } :: older)) w fun e u' w' => e = .returned (.tuple #[]) ∧ u' = .panicking ({ v := .iface T pv, recovered := true } :: older) ∧ w' = (w.setCell ⟨ga, 0, none⟩ (.int .i64 1)).setCell ⟨gw, 0, none⟩ (.int .i64 9) := by
  have hwb : (w.setCell ⟨ga, 0, none⟩ (.int .i64 1)).cell? ⟨gw, 0, none⟩ = some (.int .i64 y) := by rw [World.cell?_setCell_other _ _ _ _ (by intro e; injection e with e1 _; exact hne e1)]; exact hgw
  refine callsD_of_wpS Tryz.func92 rfl fun c₀ cs hu => ?_
  apply wpS_seq
  apply wpS_region
  simp [wpOpsS, go_sem, recoverD, hu, Tryz.ntmps92, Exit.thenS]
  refine wpS_of_wp ?_
  simp only [Array.replicate, List.replicate]
  simp
  go_wp2_with fail
  simp [bodyPostS, results, Tryz.results92]

set_option maxRecDepth 100000 in
set_option maxHeartbeats 1000000 in
theorem caught_errno (T : Nat) (pv : Value) (er : Int) (ga gw : Nat) (x y : Int) (older : List PanicEntry) (w : World) (hga : w.cell? ⟨ga, 0, none⟩ = some (.int .i64 x)) (hgw : w.cell? ⟨gw, 0, none⟩ = some (.int .i64 y)) (hfa : w.frozen? ⟨ga, 0, none⟩ = false) (hfw : w.frozen? ⟨gw, 0, none⟩ = false) (hne : ga ≠ gw) (x1 : Value) (h1 : ∀ W, Sem.run Tryz.prog (Instr.typeAssert (.iface T pv) 20 165 true) W = .ok (.tuple #[x1, .bool false]) W) (h2 : ∀ W, Sem.run Tryz.prog (Instr.typeAssert (.iface T pv) 20 33 true) W = .ok (.tuple #[.int .i64 er, .bool true]) W) :
    CallsD Tryz.prog 92 #[.pointer (some ⟨ga, 0, none⟩), .pointer (some ⟨gw, 0, none⟩)] (.panicking ({ v := .iface T pv, recovered := false } :: older)) w fun e u' w' => e = .returned (.tuple #[]) ∧ u' = .panicking ({ v := .iface T pv, recovered := true } :: older) ∧ w' = (w.setCell ⟨ga, 0, none⟩ (.int .i64 2)).setCell ⟨gw, 0, none⟩ (.int .i64 er) := by
  have hwb : (w.setCell ⟨ga, 0, none⟩ (.int .i64 2)).cell? ⟨gw, 0, none⟩ = some (.int .i64 y) := by rw [World.cell?_setCell_other _ _ _ _ (by intro e; injection e with e1 _; exact hne e1)]; exact hgw
  refine callsD_of_wpS Tryz.func92 rfl fun c₀ cs hu => ?_
  apply wpS_seq
  apply wpS_region
  simp [wpOpsS, go_sem, recoverD, hu, Tryz.ntmps92, Exit.thenS]
  refine wpS_of_wp ?_
  simp only [Array.replicate, List.replicate]
  simp
  go_wp2_with fail
  simp [bodyPostS, results, Tryz.results92]

set_option maxRecDepth 100000 in
set_option maxHeartbeats 1000000 in
theorem caught_error (T : Nat) (pv : Value) (ga gw : Nat) (x y : Int) (older : List PanicEntry) (w : World) (hga : w.cell? ⟨ga, 0, none⟩ = some (.int .i64 x)) (hgw : w.cell? ⟨gw, 0, none⟩ = some (.int .i64 y)) (hfa : w.frozen? ⟨ga, 0, none⟩ = false) (hfw : w.frozen? ⟨gw, 0, none⟩ = false) (hne : ga ≠ gw) (x1 : Value) (h1 : ∀ W, Sem.run Tryz.prog (Instr.typeAssert (.iface T pv) 20 165 true) W = .ok (.tuple #[x1, .bool false]) W) (x2 : Value) (h2 : ∀ W, Sem.run Tryz.prog (Instr.typeAssert (.iface T pv) 20 33 true) W = .ok (.tuple #[x2, .bool false]) W) (x3 : Value) (h3 : ∀ W, Sem.run Tryz.prog (Instr.typeAssert (.iface T pv) 20 167 true) W = .ok (.tuple #[x3, .bool true]) W) :
    CallsD Tryz.prog 92 #[.pointer (some ⟨ga, 0, none⟩), .pointer (some ⟨gw, 0, none⟩)] (.panicking ({ v := .iface T pv, recovered := false } :: older)) w fun e u' w' => e = .returned (.tuple #[]) ∧ u' = .panicking ({ v := .iface T pv, recovered := true } :: older) ∧ w' = (w.setCell ⟨ga, 0, none⟩ (.int .i64 3)).setCell ⟨gw, 0, none⟩ (.int .i64 9) := by
  have hwb : (w.setCell ⟨ga, 0, none⟩ (.int .i64 3)).cell? ⟨gw, 0, none⟩ = some (.int .i64 y) := by rw [World.cell?_setCell_other _ _ _ _ (by intro e; injection e with e1 _; exact hne e1)]; exact hgw
  refine callsD_of_wpS Tryz.func92 rfl fun c₀ cs hu => ?_
  apply wpS_seq
  apply wpS_region
  simp [wpOpsS, go_sem, recoverD, hu, Tryz.ntmps92, Exit.thenS]
  refine wpS_of_wp ?_
  simp only [Array.replicate, List.replicate]
  simp
  go_wp2_with fail
  simp [bodyPostS, results, Tryz.results92]

set_option maxRecDepth 100000 in
set_option maxHeartbeats 1000000 in
theorem caught_text (T : Nat) (pv : Value) (ga gw : Nat) (x y : Int) (older : List PanicEntry) (w : World) (hga : w.cell? ⟨ga, 0, none⟩ = some (.int .i64 x)) (hgw : w.cell? ⟨gw, 0, none⟩ = some (.int .i64 y)) (hfa : w.frozen? ⟨ga, 0, none⟩ = false) (hfw : w.frozen? ⟨gw, 0, none⟩ = false) (hne : ga ≠ gw) (x1 : Value) (h1 : ∀ W, Sem.run Tryz.prog (Instr.typeAssert (.iface T pv) 20 165 true) W = .ok (.tuple #[x1, .bool false]) W) (x2 : Value) (h2 : ∀ W, Sem.run Tryz.prog (Instr.typeAssert (.iface T pv) 20 33 true) W = .ok (.tuple #[x2, .bool false]) W) (x3 : Value) (h3 : ∀ W, Sem.run Tryz.prog (Instr.typeAssert (.iface T pv) 20 167 true) W = .ok (.tuple #[x3, .bool false]) W) (x4 : Value) (h4 : ∀ W, Sem.run Tryz.prog (Instr.typeAssert (.iface T pv) 20 9 true) W = .ok (.tuple #[x4, .bool true]) W) :
    CallsD Tryz.prog 92 #[.pointer (some ⟨ga, 0, none⟩), .pointer (some ⟨gw, 0, none⟩)] (.panicking ({ v := .iface T pv, recovered := false } :: older)) w fun e u' w' => e = .returned (.tuple #[]) ∧ u' = .panicking ({ v := .iface T pv, recovered := true } :: older) ∧ w' = (w.setCell ⟨ga, 0, none⟩ (.int .i64 4)).setCell ⟨gw, 0, none⟩ (.int .i64 9) := by
  have hwb : (w.setCell ⟨ga, 0, none⟩ (.int .i64 4)).cell? ⟨gw, 0, none⟩ = some (.int .i64 y) := by rw [World.cell?_setCell_other _ _ _ _ (by intro e; injection e with e1 _; exact hne e1)]; exact hgw
  refine callsD_of_wpS Tryz.func92 rfl fun c₀ cs hu => ?_
  apply wpS_seq
  apply wpS_region
  simp [wpOpsS, go_sem, recoverD, hu, Tryz.ntmps92, Exit.thenS]
  refine wpS_of_wp ?_
  simp only [Array.replicate, List.replicate]
  simp
  go_wp2_with fail
  simp [bodyPostS, results, Tryz.results92]

set_option maxRecDepth 100000 in
set_option maxHeartbeats 1000000 in
theorem caught_other (T : Nat) (pv : Value) (ga gw : Nat) (x y : Int) (older : List PanicEntry) (w : World) (hga : w.cell? ⟨ga, 0, none⟩ = some (.int .i64 x)) (hgw : w.cell? ⟨gw, 0, none⟩ = some (.int .i64 y)) (hfa : w.frozen? ⟨ga, 0, none⟩ = false) (hfw : w.frozen? ⟨gw, 0, none⟩ = false) (hne : ga ≠ gw) (x1 : Value) (h1 : ∀ W, Sem.run Tryz.prog (Instr.typeAssert (.iface T pv) 20 165 true) W = .ok (.tuple #[x1, .bool false]) W) (x2 : Value) (h2 : ∀ W, Sem.run Tryz.prog (Instr.typeAssert (.iface T pv) 20 33 true) W = .ok (.tuple #[x2, .bool false]) W) (x3 : Value) (h3 : ∀ W, Sem.run Tryz.prog (Instr.typeAssert (.iface T pv) 20 167 true) W = .ok (.tuple #[x3, .bool false]) W) (x4 : Value) (h4 : ∀ W, Sem.run Tryz.prog (Instr.typeAssert (.iface T pv) 20 9 true) W = .ok (.tuple #[x4, .bool false]) W) :
    CallsD Tryz.prog 92 #[.pointer (some ⟨ga, 0, none⟩), .pointer (some ⟨gw, 0, none⟩)] (.panicking ({ v := .iface T pv, recovered := false } :: older)) w fun e u' w' => e = .returned (.tuple #[]) ∧ u' = .panicking ({ v := .iface T pv, recovered := true } :: older) ∧ w' = (w.setCell ⟨ga, 0, none⟩ (.int .i64 5)).setCell ⟨gw, 0, none⟩ (.int .i64 9) := by
  have hwb : (w.setCell ⟨ga, 0, none⟩ (.int .i64 5)).cell? ⟨gw, 0, none⟩ = some (.int .i64 y) := by rw [World.cell?_setCell_other _ _ _ _ (by intro e; injection e with e1 _; exact hne e1)]; exact hgw
  refine callsD_of_wpS Tryz.func92 rfl fun c₀ cs hu => ?_
  apply wpS_seq
  apply wpS_region
  simp [wpOpsS, go_sem, recoverD, hu, Tryz.ntmps92, Exit.thenS]
  refine wpS_of_wp ?_
  simp only [Array.replicate, List.replicate]
  simp
  go_wp2_with fail
  simp [bodyPostS, results, Tryz.results92]

set_option maxRecDepth 100000 in
set_option maxHeartbeats 1000000 in
theorem caught_nil (pa pw : Addr) (older : List PanicEntry) (w : World) :
    CallsD Tryz.prog 92 #[.pointer (some pa), .pointer (some pw)] (.panicking ({ v := .nilIface, recovered := false } :: older)) w fun e u' w' => e = .returned (.tuple #[]) ∧ u' = .panicking ({ v := .nilIface, recovered := true } :: older) ∧ w' = w := by
  refine callsD_of_wpS Tryz.func92 rfl fun c₀ cs hu => ?_
  apply wpS_seq
  apply wpS_region
  simp [wpOpsS, go_sem, recoverD, hu, Tryz.ntmps92, Exit.thenS]
  refine wpS_of_wp ?_
  simp only [Array.replicate, List.replicate]
  simp
  go_wp2_with fail
  simp [bodyPostS, results, Tryz.results92]

theorem sc_eq' {w : World} {p : Addr} {v u : Value} (h : w.cell? p = some v) : (w.setCell p u).cell? p = some u := by
  exact World.cell?_setCell_same w p u h

theorem caught_kd {v : Value} {k er : Int} (hk : Kd v k er) (ga gw : Nat) (older : List PanicEntry) (w : World) (hga : w.cell? ⟨ga, 0, none⟩ = some (.int .i64 1)) (hgw : w.cell? ⟨gw, 0, none⟩ = some (.int .i64 9)) (hfa : w.frozen? ⟨ga, 0, none⟩ = false) (hfw : w.frozen? ⟨gw, 0, none⟩ = false) (hne : ga ≠ gw) :
    CallsD Tryz.prog 92 #[.pointer (some ⟨ga, 0, none⟩), .pointer (some ⟨gw, 0, none⟩)] (.panicking ({ v := v, recovered := false } :: older)) w fun e u' w' => e = .returned (.tuple #[]) ∧ u' = .panicking ({ v := v, recovered := true } :: older) ∧ w'.cell? ⟨ga, 0, none⟩ = some (.int .i64 k) ∧ w'.cell? ⟨gw, 0, none⟩ = some (.int .i64 er) ∧ ∀ B, B ≤ ga → B ≤ gw → Below B w w' := by
  rcases hk with ⟨rfl, rfl, rfl⟩ | ⟨⟨T, pv, rfl⟩, h⟩
  · refine (caught_nil _ _ older w).mono ?_
    rintro e u' w' ⟨rfl, rfl, rfl⟩
    exact ⟨rfl, rfl, hga, hgw, fun B _ _ => Below.refl _ _⟩
  · have fin : ∀ (a b : Value), ((w.setCell ⟨ga, 0, none⟩ a).setCell ⟨gw, 0, none⟩ b).cell? ⟨ga, 0, none⟩ = some a ∧ ((w.setCell ⟨ga, 0, none⟩ a).setCell ⟨gw, 0, none⟩ b).cell? ⟨gw, 0, none⟩ = some b ∧ ∀ B, B ≤ ga → B ≤ gw → Below B w ((w.setCell ⟨ga, 0, none⟩ a).setCell ⟨gw, 0, none⟩ b) := by
      intro a b
      refine ⟨?_, ?_, fun B h1 h2 => ((Below.refl _ _).setCell (p := ⟨ga, 0, none⟩) h1 _).setCell (p := ⟨gw, 0, none⟩) h2 _⟩
      · rw [World.cell?_setCell_other _ _ _ _ (by intro e; injection e with e1 _; exact hne e1.symm)]
        exact sc_eq' hga
      · exact sc_eq' (by rw [World.cell?_setCell_other _ _ _ _ (by intro e; injection e with e1 _; exact hne e1)]; exact hgw)
    rcases h with ⟨⟨x1, h1⟩, rfl, rfl⟩ | ⟨⟨x1, h1⟩, h2, rfl⟩ | ⟨⟨x1, h1⟩, ⟨x2, h2⟩, ⟨x3, h3⟩, rfl, rfl⟩ | ⟨⟨x1, h1⟩, ⟨x2, h2⟩, ⟨x3, h3⟩, ⟨x4, h4⟩, rfl, rfl⟩ | ⟨⟨x1, h1⟩, ⟨x2, h2⟩, ⟨x3, h3⟩, ⟨x4, h4⟩, rfl, rfl⟩
    · exact (caught_run T pv ga gw 1 9 older w hga hgw hfa hfw hne x1 h1).mono fun e u' w' ⟨h1, h2, h3⟩ => ⟨h1, h2, h3 ▸ fin _ _⟩
    · exact (caught_errno T pv er ga gw 1 9 older w hga hgw hfa hfw hne x1 h1 h2).mono fun e u' w' ⟨h1, h2, h3⟩ => ⟨h1, h2, h3 ▸ fin _ _⟩
    · exact (caught_error T pv ga gw 1 9 older w hga hgw hfa hfw hne x1 h1 x2 h2 x3 h3).mono fun e u' w' ⟨h1, h2, h3⟩ => ⟨h1, h2, h3 ▸ fin _ _⟩
    · exact (caught_text T pv ga gw 1 9 older w hga hgw hfa hfw hne x1 h1 x2 h2 x3 h3 x4 h4).mono fun e u' w' ⟨h1, h2, h3⟩ => ⟨h1, h2, h3 ▸ fin _ _⟩
    · exact (caught_other T pv ga gw 1 9 older w hga hgw hfa hfw hne x1 h1 x2 h2 x3 h3 x4 h4).mono fun e u' w' ⟨h1, h2, h3⟩ => ⟨h1, h2, h3 ▸ fin _ _⟩

theorem al2_new (Q : World) (o o' : Obj) : ((Q.alloc o).alloc o').heap[Q.heap.size + 1]? = some o' := by
  show ((Q.heap.push o).push o')[Q.heap.size + 1]? = _
  rw [Array.getElem?_push, if_pos (by simp)]
theorem al2_old (Q : World) (o o' : Obj) : ((Q.alloc o).alloc o').heap[Q.heap.size]? = some o := by
  show ((Q.heap.push o).push o')[Q.heap.size]? = _
  rw [Array.getElem?_push, if_neg (by simp), Array.getElem?_push, if_pos rfl]
/-- How a function that was handed in ends: kind and error. -/
def Ends (k er : Int) (e : Ending) : Prop := (e = .returned (.tuple #[]) ∧ k = 0 ∧ er = 0) ∨ ∃ v, e = .panicked [{ v := v, recovered := false }] ∧ Kd v k er

set_option maxRecDepth 100000 in
set_option maxHeartbeats 1000000 in
theorem caught_any (f : Nat) (cap : Array Value) (k er : Int) (w : World) (Q : World → Prop) (hcf : ∀ W, Sem.run Tryz.prog (callFunc f cap) W = .ok (.enter f cap) W) (hQ : Hid (∀ W W', Below w.heap.size W W' → Q W → Q W'))
    (HC : Hid (∀ W1, Below w.heap.size w W1 → W1.heap.size = w.heap.size + 2 → Calls Tryz.prog f cap W1 fun e w' => Ends k er e ∧ w'.heap[w.heap.size]? = W1.heap[w.heap.size]? ∧ w'.heap[w.heap.size + 1]? = W1.heap[w.heap.size + 1]? ∧ Q w')) :
    Calls Tryz.prog 69 #[.func (.func f) #[] cap] w fun e w' => e = .returned (.tuple #[.int .i64 k, .int .i64 er]) ∧ Q w' := by
  have hmf : ∀ (fn : Fn) (first cap : Array Value) (w : World), (Instr.makeFunc fn first cap).run Tryz.prog w = .ok (.func fn first cap) w := fun _ _ _ _ => rfl
  go_enter_defers Tryz.func69, Tryz.ntmps69
  go_wp2_with fail
  refine (HC.out _ (((Below.refl _ _).alloc (Nat.le_refl _) _).alloc (by simp) _) (by show ((w.heap.push _).push _).size = _; simp)).mono ?_
  rintro e w1 ⟨he, hB0, hB1, hq⟩
  rw [al2_old] at hB0
  rw [al2_new] at hB1
  have HQ : Hid (Q w1) := hq
  have e0 : w1.cell? ⟨w.heap.size, 0, none⟩ = some (.int .i64 1) := by rw [cell_of_row _ _ 0 _ _ _ hB0]; rfl
  have e1 : w1.cell? ⟨w.heap.size + 1, 0, none⟩ = some (.int .i64 9) := by rw [cell_of_row _ _ 0 _ _ _ hB1]; rfl
  have z0 : w1.frozen? ⟨w.heap.size, 0, none⟩ = false := frozen_of_row _ _ 0 _ _ hB0
  have z1 : w1.frozen? ⟨w.heap.size + 1, 0, none⟩ = false := frozen_of_row _ _ 0 _ _ hB1
  have hx : ∀ v v', ((w1.setCell ⟨w.heap.size, 0, none⟩ v).setCell ⟨w.heap.size + 1, 0, none⟩ v').cell? ⟨w.heap.size, 0, none⟩ = some v := fun v v' => by
    rw [World.cell?_setCell_other _ _ _ _ (by intro e; injection e with e1 _; omega)]
    exact sc_eq' e0
  have hy : ∀ v v', ((w1.setCell ⟨w.heap.size, 0, none⟩ v).setCell ⟨w.heap.size + 1, 0, none⟩ v').cell? ⟨w.heap.size + 1, 0, none⟩ = some v' := fun v v' =>
    sc_eq' (by rw [World.cell?_setCell_other _ _ _ _ (by intro e; injection e with e1 _; omega)]; exact e1)
  have HB : Hid (∀ v v', Below w.heap.size w1 ((w1.setCell ⟨w.heap.size, 0, none⟩ v).setCell ⟨w.heap.size + 1, 0, none⟩ v')) := fun v v' => ((Below.refl _ _).setCell (p := ⟨w.heap.size, 0, none⟩) (Nat.le_refl _) _).setCell (p := ⟨w.heap.size + 1, 0, none⟩) (Nat.le_succ _) _
  clear hB0 hB1 hq
  rcases he with ⟨rfl, rfl, rfl⟩ | ⟨v, rfl, hk⟩
  · have e2 : (w1.setCell ⟨w.heap.size, 0, none⟩ (.int .i64 0)).cell? ⟨w.heap.size + 1, 0, none⟩ = some (.int .i64 9) := by rw [World.cell?_setCell_other _ _ _ _ (by intro e; injection e with e1 _; omega)]; exact e1
    go_wp2_with fail
    refine leaves_cons (f := 92) (args := #[.pointer (some ⟨w.heap.size, 0, none⟩), .pointer (some ⟨w.heap.size + 1, 0, none⟩)]) (by simp) (by simp [go_sem]) ?_
    refine (caught_idle _ _ _).mono ?_
    rintro e u' w2 ⟨rfl, rfl, rfl⟩
    simp [Leaves, settle, results, Tryz.results69, go_sem, hx, hy]
    exact hQ.out _ _ (HB.out _ _) HQ.out
  · refine leaves_cons (f := 92) (args := #[.pointer (some ⟨w.heap.size, 0, none⟩), .pointer (some ⟨w.heap.size + 1, 0, none⟩)]) (by simp) (by simp [go_sem]) ?_
    refine (caught_kd hk w.heap.size (w.heap.size + 1) [] w1 e0 e1 z0 z1 (by omega)).mono ?_
    rintro e u' w2 ⟨rfl, rfl, d0, d1, hb⟩
    simp [Leaves, settle, results, Tryz.results69, go_sem, d0, d1]
    exact hQ.out _ _ (hb _ (Nat.le_refl _) (Nat.le_succ _)) HQ.out
end Go.Proofs.YtjlhmgopmdcopaaGreat


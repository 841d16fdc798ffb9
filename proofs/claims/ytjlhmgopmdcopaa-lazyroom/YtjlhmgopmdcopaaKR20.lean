/- object.caught: what a function panicked with is told. -/
import Derived.Test.YtjlhmgopmdcopaaProg
import Derived.WalkKit
import Derived.WalkSpells
import Derived.WalkLawsBesides
import Derived.Defers
import Derived.Recover
import Derived.Below
namespace Go.Proofs.Ytjlhmgopmdcopaa
open Go.RowKit

/-- What a type assertion of a panic's value tells, whatever the world. -/
def TA (v : Value) (t : Nat) (b : Bool) : Prop := ∃ x, ∀ W, Sem.run Try.prog (Instr.typeAssert v 20 t true) W = .ok (.tuple #[x, .bool b]) W

/-- What is told of a panic's value: kind and error. -/
def Kd (v : Value) (k er : Int) : Prop :=
  (v = .nilIface ∧ k = 1 ∧ er = 9) ∨
  (∃ T pv, v = .iface T pv) ∧
  ((TA v 139 true ∧ k = 1 ∧ er = 9) ∨
   (TA v 139 false ∧ (∀ W, Sem.run Try.prog (Instr.typeAssert v 20 34 true) W = .ok (.tuple #[.int .i64 er, .bool true]) W) ∧ k = 2) ∨
   (TA v 139 false ∧ TA v 34 false ∧ TA v 81 true ∧ k = 3 ∧ er = 9) ∨
   (TA v 139 false ∧ TA v 34 false ∧ TA v 81 false ∧ TA v 9 true ∧ k = 4 ∧ er = 9) ∨
   (TA v 139 false ∧ TA v 34 false ∧ TA v 81 false ∧ TA v 9 false ∧ k = 5 ∧ er = 9))

set_option maxRecDepth 100000 in
set_option maxHeartbeats 1000000 in
theorem caught_idle (pa pw : Addr) (w : World) :
    CallsD Try.prog 77 #[.pointer (some pa), .pointer (some pw)] .returning w fun e u' w' => e = .returned (.tuple #[]) ∧ u' = .returning ∧ w' = w := by
  refine callsD_of_wpS Try.func77 rfl fun c₀ cs hu => ?_
  apply wpS_seq
  apply wpS_region
  simp [wpOpsS, go_sem, recoverD, hu, Try.ntmps77, Exit.thenS]
  refine wpS_of_wp ?_
  simp only [Array.replicate, List.replicate]
  simp
  go_wp2_with fail
  cases c₀
  simp_all [bodyPostS, results, Try.results77]

set_option maxRecDepth 100000 in
set_option maxHeartbeats 1000000 in
theorem caught_run (T : Nat) (pv : Value) (ga gw : Nat) (x y : Int) (older : List PanicEntry) (w : World) (hga : w.cell? ⟨ga, 0, none⟩ = some (.int .i64 x)) (hgw : w.cell? ⟨gw, 0, none⟩ = some (.int .i64 y)) (hfa : w.frozen? ⟨ga, 0, none⟩ = false) (hfw : w.frozen? ⟨gw, 0, none⟩ = false) (hne : ga ≠ gw) (x1 : Value) (h1 : ∀ W, Sem.run Try.prog (Instr.typeAssert (.iface T pv) 20 139 true) W = .ok (.tuple #[x1, .bool true]) W) :
    CallsD Try.prog 77 #[.pointer (some ⟨ga, 0, none⟩), .pointer (some ⟨gw, 0, none⟩)] (.panicking ({ v := .iface T pv, recovered := false } :: older)) w fun e u' w' => e = .returned (.tuple #[]) ∧ u' = .panicking ({ v := .iface T pv, recovered := true } :: older) ∧ w' = (w.setCell ⟨ga, 0, none⟩ (.int .i64 1)).setCell ⟨gw, 0, none⟩ (.int .i64 9) := by
  have hwb : (w.setCell ⟨ga, 0, none⟩ (.int .i64 1)).cell? ⟨gw, 0, none⟩ = some (.int .i64 y) := by rw [World.cell?_setCell_other _ _ _ _ (by intro e; injection e with e1 _; exact hne e1)]; exact hgw
  refine callsD_of_wpS Try.func77 rfl fun c₀ cs hu => ?_
  apply wpS_seq
  apply wpS_region
  simp [wpOpsS, go_sem, recoverD, hu, Try.ntmps77, Exit.thenS]
  refine wpS_of_wp ?_
  simp only [Array.replicate, List.replicate]
  simp
  go_wp2_with fail
  simp [bodyPostS, results, Try.results77]

set_option maxRecDepth 100000 in
set_option maxHeartbeats 1000000 in
theorem caught_errno (T : Nat) (pv : Value) (er : Int) (ga gw : Nat) (x y : Int) (older : List PanicEntry) (w : World) (hga : w.cell? ⟨ga, 0, none⟩ = some (.int .i64 x)) (hgw : w.cell? ⟨gw, 0, none⟩ = some (.int .i64 y)) (hfa : w.frozen? ⟨ga, 0, none⟩ = false) (hfw : w.frozen? ⟨gw, 0, none⟩ = false) (hne : ga ≠ gw) (x1 : Value) (h1 : ∀ W, Sem.run Try.prog (Instr.typeAssert (.iface T pv) 20 139 true) W = .ok (.tuple #[x1, .bool false]) W) (h2 : ∀ W, Sem.run Try.prog (Instr.typeAssert (.iface T pv) 20 34 true) W = .ok (.tuple #[.int .i64 er, .bool true]) W) :
    CallsD Try.prog 77 #[.pointer (some ⟨ga, 0, none⟩), .pointer (some ⟨gw, 0, none⟩)] (.panicking ({ v := .iface T pv, recovered := false } :: older)) w fun e u' w' => e = .returned (.tuple #[]) ∧ u' = .panicking ({ v := .iface T pv, recovered := true } :: older) ∧ w' = (w.setCell ⟨ga, 0, none⟩ (.int .i64 2)).setCell ⟨gw, 0, none⟩ (.int .i64 er) := by
  have hwb : (w.setCell ⟨ga, 0, none⟩ (.int .i64 2)).cell? ⟨gw, 0, none⟩ = some (.int .i64 y) := by rw [World.cell?_setCell_other _ _ _ _ (by intro e; injection e with e1 _; exact hne e1)]; exact hgw
  refine callsD_of_wpS Try.func77 rfl fun c₀ cs hu => ?_
  apply wpS_seq
  apply wpS_region
  simp [wpOpsS, go_sem, recoverD, hu, Try.ntmps77, Exit.thenS]
  refine wpS_of_wp ?_
  simp only [Array.replicate, List.replicate]
  simp
  go_wp2_with fail
  simp [bodyPostS, results, Try.results77]

set_option maxRecDepth 100000 in
set_option maxHeartbeats 1000000 in
theorem caught_error (T : Nat) (pv : Value) (ga gw : Nat) (x y : Int) (older : List PanicEntry) (w : World) (hga : w.cell? ⟨ga, 0, none⟩ = some (.int .i64 x)) (hgw : w.cell? ⟨gw, 0, none⟩ = some (.int .i64 y)) (hfa : w.frozen? ⟨ga, 0, none⟩ = false) (hfw : w.frozen? ⟨gw, 0, none⟩ = false) (hne : ga ≠ gw) (x1 : Value) (h1 : ∀ W, Sem.run Try.prog (Instr.typeAssert (.iface T pv) 20 139 true) W = .ok (.tuple #[x1, .bool false]) W) (x2 : Value) (h2 : ∀ W, Sem.run Try.prog (Instr.typeAssert (.iface T pv) 20 34 true) W = .ok (.tuple #[x2, .bool false]) W) (x3 : Value) (h3 : ∀ W, Sem.run Try.prog (Instr.typeAssert (.iface T pv) 20 81 true) W = .ok (.tuple #[x3, .bool true]) W) :
    CallsD Try.prog 77 #[.pointer (some ⟨ga, 0, none⟩), .pointer (some ⟨gw, 0, none⟩)] (.panicking ({ v := .iface T pv, recovered := false } :: older)) w fun e u' w' => e = .returned (.tuple #[]) ∧ u' = .panicking ({ v := .iface T pv, recovered := true } :: older) ∧ w' = (w.setCell ⟨ga, 0, none⟩ (.int .i64 3)).setCell ⟨gw, 0, none⟩ (.int .i64 9) := by
  have hwb : (w.setCell ⟨ga, 0, none⟩ (.int .i64 3)).cell? ⟨gw, 0, none⟩ = some (.int .i64 y) := by rw [World.cell?_setCell_other _ _ _ _ (by intro e; injection e with e1 _; exact hne e1)]; exact hgw
  refine callsD_of_wpS Try.func77 rfl fun c₀ cs hu => ?_
  apply wpS_seq
  apply wpS_region
  simp [wpOpsS, go_sem, recoverD, hu, Try.ntmps77, Exit.thenS]
  refine wpS_of_wp ?_
  simp only [Array.replicate, List.replicate]
  simp
  go_wp2_with fail
  simp [bodyPostS, results, Try.results77]

set_option maxRecDepth 100000 in
set_option maxHeartbeats 1000000 in
theorem caught_text (T : Nat) (pv : Value) (ga gw : Nat) (x y : Int) (older : List PanicEntry) (w : World) (hga : w.cell? ⟨ga, 0, none⟩ = some (.int .i64 x)) (hgw : w.cell? ⟨gw, 0, none⟩ = some (.int .i64 y)) (hfa : w.frozen? ⟨ga, 0, none⟩ = false) (hfw : w.frozen? ⟨gw, 0, none⟩ = false) (hne : ga ≠ gw) (x1 : Value) (h1 : ∀ W, Sem.run Try.prog (Instr.typeAssert (.iface T pv) 20 139 true) W = .ok (.tuple #[x1, .bool false]) W) (x2 : Value) (h2 : ∀ W, Sem.run Try.prog (Instr.typeAssert (.iface T pv) 20 34 true) W = .ok (.tuple #[x2, .bool false]) W) (x3 : Value) (h3 : ∀ W, Sem.run Try.prog (Instr.typeAssert (.iface T pv) 20 81 true) W = .ok (.tuple #[x3, .bool false]) W) (x4 : Value) (h4 : ∀ W, Sem.run Try.prog (Instr.typeAssert (.iface T pv) 20 9 true) W = .ok (.tuple #[x4, .bool true]) W) :
    CallsD Try.prog 77 #[.pointer (some ⟨ga, 0, none⟩), .pointer (some ⟨gw, 0, none⟩)] (.panicking ({ v := .iface T pv, recovered := false } :: older)) w fun e u' w' => e = .returned (.tuple #[]) ∧ u' = .panicking ({ v := .iface T pv, recovered := true } :: older) ∧ w' = (w.setCell ⟨ga, 0, none⟩ (.int .i64 4)).setCell ⟨gw, 0, none⟩ (.int .i64 9) := by
  have hwb : (w.setCell ⟨ga, 0, none⟩ (.int .i64 4)).cell? ⟨gw, 0, none⟩ = some (.int .i64 y) := by rw [World.cell?_setCell_other _ _ _ _ (by intro e; injection e with e1 _; exact hne e1)]; exact hgw
  refine callsD_of_wpS Try.func77 rfl fun c₀ cs hu => ?_
  apply wpS_seq
  apply wpS_region
  simp [wpOpsS, go_sem, recoverD, hu, Try.ntmps77, Exit.thenS]
  refine wpS_of_wp ?_
  simp only [Array.replicate, List.replicate]
  simp
  go_wp2_with fail
  simp [bodyPostS, results, Try.results77]

set_option maxRecDepth 100000 in
set_option maxHeartbeats 1000000 in
theorem caught_other (T : Nat) (pv : Value) (ga gw : Nat) (x y : Int) (older : List PanicEntry) (w : World) (hga : w.cell? ⟨ga, 0, none⟩ = some (.int .i64 x)) (hgw : w.cell? ⟨gw, 0, none⟩ = some (.int .i64 y)) (hfa : w.frozen? ⟨ga, 0, none⟩ = false) (hfw : w.frozen? ⟨gw, 0, none⟩ = false) (hne : ga ≠ gw) (x1 : Value) (h1 : ∀ W, Sem.run Try.prog (Instr.typeAssert (.iface T pv) 20 139 true) W = .ok (.tuple #[x1, .bool false]) W) (x2 : Value) (h2 : ∀ W, Sem.run Try.prog (Instr.typeAssert (.iface T pv) 20 34 true) W = .ok (.tuple #[x2, .bool false]) W) (x3 : Value) (h3 : ∀ W, Sem.run Try.prog (Instr.typeAssert (.iface T pv) 20 81 true) W = .ok (.tuple #[x3, .bool false]) W) (x4 : Value) (h4 : ∀ W, Sem.run Try.prog (Instr.typeAssert (.iface T pv) 20 9 true) W = .ok (.tuple #[x4, .bool false]) W) :
    CallsD Try.prog 77 #[.pointer (some ⟨ga, 0, none⟩), .pointer (some ⟨gw, 0, none⟩)] (.panicking ({ v := .iface T pv, recovered := false } :: older)) w fun e u' w' => e = .returned (.tuple #[]) ∧ u' = .panicking ({ v := .iface T pv, recovered := true } :: older) ∧ w' = (w.setCell ⟨ga, 0, none⟩ (.int .i64 5)).setCell ⟨gw, 0, none⟩ (.int .i64 9) := by
  have hwb : (w.setCell ⟨ga, 0, none⟩ (.int .i64 5)).cell? ⟨gw, 0, none⟩ = some (.int .i64 y) := by rw [World.cell?_setCell_other _ _ _ _ (by intro e; injection e with e1 _; exact hne e1)]; exact hgw
  refine callsD_of_wpS Try.func77 rfl fun c₀ cs hu => ?_
  apply wpS_seq
  apply wpS_region
  simp [wpOpsS, go_sem, recoverD, hu, Try.ntmps77, Exit.thenS]
  refine wpS_of_wp ?_
  simp only [Array.replicate, List.replicate]
  simp
  go_wp2_with fail
  simp [bodyPostS, results, Try.results77]

set_option maxRecDepth 100000 in
set_option maxHeartbeats 1000000 in
theorem caught_nil (pa pw : Addr) (older : List PanicEntry) (w : World) :
    CallsD Try.prog 77 #[.pointer (some pa), .pointer (some pw)] (.panicking ({ v := .nilIface, recovered := false } :: older)) w fun e u' w' => e = .returned (.tuple #[]) ∧ u' = .panicking ({ v := .nilIface, recovered := true } :: older) ∧ w' = w := by
  refine callsD_of_wpS Try.func77 rfl fun c₀ cs hu => ?_
  apply wpS_seq
  apply wpS_region
  simp [wpOpsS, go_sem, recoverD, hu, Try.ntmps77, Exit.thenS]
  refine wpS_of_wp ?_
  simp only [Array.replicate, List.replicate]
  simp
  go_wp2_with fail
  simp [bodyPostS, results, Try.results77]

theorem sc_eq' {w : World} {p : Addr} {v u : Value} (h : w.cell? p = some v) : (w.setCell p u).cell? p = some u := by
  exact World.cell?_setCell_same w p u h

theorem al2_new (Q : World) (o o' : Obj) : ((Q.alloc o).alloc o').heap[Q.heap.size + 1]? = some o' := by
  show ((Q.heap.push o).push o')[Q.heap.size + 1]? = _
  rw [Array.getElem?_push, if_pos (by simp)]
theorem al2_old (Q : World) (o o' : Obj) : ((Q.alloc o).alloc o').heap[Q.heap.size]? = some o := by
  show ((Q.heap.push o).push o')[Q.heap.size]? = _
  rw [Array.getElem?_push, if_neg (by simp), Array.getElem?_push, if_pos rfl]
/-- How a function that was handed in ends: kind and error. -/
def Ends (k er : Int) (e : Ending) : Prop := (e = .returned (.tuple #[]) ∧ k = 0 ∧ er = 0) ∨ ∃ v, e = .panicked [{ v := v, recovered := false }] ∧ Kd v k er

end Go.Proofs.Ytjlhmgopmdcopaa


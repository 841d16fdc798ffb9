/- tenonlaw10.lives answers true. -/
import Derived.Test.YtjlhmgopmdcopaaGreatKI24
import Derived.Deep.WholeRow
namespace Go.Proofs.YtjlhmgopmdcopaaGreat
open Go.RowKit

end Go.Proofs.YtjlhmgopmdcopaaGreat

/- object.caught and safely with a finer frame: but for its own two variables nothing is changed. -/
namespace Go.Proofs.YtjlhmgopmdcopaaGreat
open Go.RowKit

/-- all but two blocks is as it was -/
structure Kb (g h : Nat) (w w' : World) : Prop where
  os : w'.os = w.os
  tape : w'.tape = w.tape
  output : w'.output = w.output
  size : w'.heap.size = w.heap.size
  block : ∀ j, j ≠ g → j ≠ h → w'.heap[j]? = w.heap[j]?
theorem Kb.refl (g h : Nat) (w : World) : Kb g h w w := ⟨rfl, rfl, rfl, rfl, fun _ _ _ => rfl⟩
theorem Kb.two (g h : Nat) (w : World) (a b : Value) : Kb g h w ((w.setCell ⟨g, 0, none⟩ a).setCell ⟨h, 0, none⟩ b) :=
  ⟨rfl, rfl, rfl, by simp [World.setCell], fun j h1 h2 => (Below.heap_setCell _ _ _ _ h2).trans (Below.heap_setCell _ _ _ _ h1)⟩

theorem caught_kd2 {v : Value} {k er : Int} (hk : Kd v k er) (ga gw : Nat) (older : List PanicEntry) (w : World) (hga : w.cell? ⟨ga, 0, none⟩ = some (.int .i64 1)) (hgw : w.cell? ⟨gw, 0, none⟩ = some (.int .i64 9)) (hfa : w.frozen? ⟨ga, 0, none⟩ = false) (hfw : w.frozen? ⟨gw, 0, none⟩ = false) (hne : ga ≠ gw) :
    CallsD Tryz.prog 92 #[.pointer (some ⟨ga, 0, none⟩), .pointer (some ⟨gw, 0, none⟩)] (.panicking ({ v := v, recovered := false } :: older)) w fun e u' w' => e = .returned (.tuple #[]) ∧ u' = .panicking ({ v := v, recovered := true } :: older) ∧ w'.cell? ⟨ga, 0, none⟩ = some (.int .i64 k) ∧ w'.cell? ⟨gw, 0, none⟩ = some (.int .i64 er) ∧ Kb ga gw w w' := by
  rcases hk with ⟨rfl, rfl, rfl⟩ | ⟨⟨T, pv, rfl⟩, h⟩
  · refine (caught_nil _ _ older w).mono ?_
    rintro e u' w' ⟨rfl, rfl, rfl⟩
    exact ⟨rfl, rfl, hga, hgw, Kb.refl _ _ _⟩
  · have fin : ∀ (a b : Value), ((w.setCell ⟨ga, 0, none⟩ a).setCell ⟨gw, 0, none⟩ b).cell? ⟨ga, 0, none⟩ = some a ∧ ((w.setCell ⟨ga, 0, none⟩ a).setCell ⟨gw, 0, none⟩ b).cell? ⟨gw, 0, none⟩ = some b ∧ Kb ga gw w ((w.setCell ⟨ga, 0, none⟩ a).setCell ⟨gw, 0, none⟩ b) := by
      intro a b
      refine ⟨?_, ?_, Kb.two _ _ _ _ _⟩
      · rw [World.cell?_setCell_other _ _ _ _ (by intro e; injection e with e1 _; exact hne e1.symm)]
        exact sc_eq' hga
      · exact sc_eq' (by rw [World.cell?_setCell_other _ _ _ _ (by intro e; injection e with e1 _; exact hne e1)]; exact hgw)
    rcases h with ⟨⟨x1, h1⟩, rfl, rfl⟩ | ⟨⟨x1, h1⟩, h2, rfl⟩ | ⟨⟨x1, h1⟩, ⟨x2, h2⟩, ⟨x3, h3⟩, rfl, rfl⟩ | ⟨⟨x1, h1⟩, ⟨x2, h2⟩, ⟨x3, h3⟩, ⟨x4, h4⟩, rfl, rfl⟩ | ⟨⟨x1, h1⟩, ⟨x2, h2⟩, ⟨x3, h3⟩, ⟨x4, h4⟩, rfl, rfl⟩
    · exact (caught_run T pv ga gw 1 9 older w hga hgw hfa hfw hne x1 h1).mono fun e u' w' ⟨h1, h2, h3⟩ => ⟨h1, h2, h3 ▸ fin _ _⟩
    · exact (caught_errno T pv er ga gw 1 9 older w hga hgw hfa hfw hne x1 h1 h2).mono fun e u' w' ⟨h1, h2, h3⟩ => ⟨h1, h2, h3 ▸ fin _ _⟩
    · exact (caught_error T pv ga gw 1 9 older w hga hgw hfa hfw hne x1 h1 x2 h2 x3 h3).mono fun e u' w' ⟨h1, h2, h3⟩ => ⟨h1, h2, h3 ▸ fin _ _⟩
    · exact (caught_text T pv ga gw 1 9 older w hga hgw hfa hfw hne x1 h1 x2 h2 x3 h3 x4 h4).mono fun e u' w' ⟨h1, h2, h3⟩ => ⟨h1, h2, h3 ▸ fin _ _⟩
    · exact (caught_other T pv ga gw 1 9 older w hga hgw hfa hfw hne x1 h1 x2 h2 x3 h3 x4 h4).mono fun e u' w' ⟨h1, h2, h3⟩ => ⟨h1, h2, h3 ▸ fin _ _⟩

set_option maxRecDepth 100000 in
set_option maxHeartbeats 1000000 in
theorem caught_any2 (f : Nat) (cap : Array Value) (k er : Int) (w : World) (Q : World → Prop) (hcf : ∀ W, Sem.run Tryz.prog (callFunc f cap) W = .ok (.enter f cap) W) (hQ : Hid (∀ W W', Kb w.heap.size (w.heap.size + 1) W W' → Q W → Q W'))
    (HC : Hid (∀ W1, Below w.heap.size w W1 → W1.heap.size = w.heap.size + 2 → Calls Tryz.prog f cap W1 fun e w' => Ends k er e ∧ w'.heap[w.heap.size]? = W1.heap[w.heap.size]? ∧ w'.heap[w.heap.size + 1]? = W1.heap[w.heap.size + 1]? ∧ Q w')) :
    Calls Tryz.prog 69 #[.func (.func f) #[] cap] w fun e w' => e = .returned (.tuple #[.int .i64 k, .int .i64 er]) ∧ Q w' := by
  have hmf : ∀ (fn : Fn) (first cap : Array Value) (w : World), (Instr.makeFunc fn first cap).run Tryz.prog w = .ok (.func fn first cap) w := fun _ _ _ _ => rfl
  go_enter_defers Tryz.func69, Tryz.ntmps69
  go_wp2_with fail
  refine (HC.out _ (((Below.refl _ _).alloc (Nat.le_refl _) _).alloc (by simp) _) (by show ((w.heap.push _).push _).size = _; simp)).mono ?_
  rintro e w1 ⟨he, hB0, hB1, hq⟩
  rw [al2_old] at hB0
  rw [al2_new] at hB1
  have HQ : Hid (Q w1) := hq
  have e0 : w1.cell? ⟨w.heap.size, 0, none⟩ = some (.int .i64 1) := by rw [cell_of_row _ _ 0 _ _ _ hB0]; rfl
  have e1 : w1.cell? ⟨w.heap.size + 1, 0, none⟩ = some (.int .i64 9) := by rw [cell_of_row _ _ 0 _ _ _ hB1]; rfl
  have z0 : w1.frozen? ⟨w.heap.size, 0, none⟩ = false := frozen_of_row _ _ 0 _ _ hB0
  have z1 : w1.frozen? ⟨w.heap.size + 1, 0, none⟩ = false := frozen_of_row _ _ 0 _ _ hB1
  have hx : ∀ v v', ((w1.setCell ⟨w.heap.size, 0, none⟩ v).setCell ⟨w.heap.size + 1, 0, none⟩ v').cell? ⟨w.heap.size, 0, none⟩ = some v := fun v v' => by
    rw [World.cell?_setCell_other _ _ _ _ (by intro e; injection e with e1 _; omega)]
    exact sc_eq' e0
  have hy : ∀ v v', ((w1.setCell ⟨w.heap.size, 0, none⟩ v).setCell ⟨w.heap.size + 1, 0, none⟩ v').cell? ⟨w.heap.size + 1, 0, none⟩ = some v' := fun v v' =>
    sc_eq' (by rw [World.cell?_setCell_other _ _ _ _ (by intro e; injection e with e1 _; omega)]; exact e1)
  have HB : Hid (∀ v v', Kb w.heap.size (w.heap.size + 1) w1 ((w1.setCell ⟨w.heap.size, 0, none⟩ v).setCell ⟨w.heap.size + 1, 0, none⟩ v')) := fun v v' => Kb.two _ _ _ _ _
  clear hB0 hB1 hq
  rcases he with ⟨rfl, rfl, rfl⟩ | ⟨v, rfl, hk⟩
  · have e2 : (w1.setCell ⟨w.heap.size, 0, none⟩ (.int .i64 0)).cell? ⟨w.heap.size + 1, 0, none⟩ = some (.int .i64 9) := by rw [World.cell?_setCell_other _ _ _ _ (by intro e; injection e with e1 _; omega)]; exact e1
    go_wp2_with fail
    refine leaves_cons (f := 92) (args := #[.pointer (some ⟨w.heap.size, 0, none⟩), .pointer (some ⟨w.heap.size + 1, 0, none⟩)]) (by simp) (by simp [go_sem]) ?_
    refine (caught_idle _ _ _).mono ?_
    rintro e u' w2 ⟨rfl, rfl, rfl⟩
    simp [Leaves, settle, results, Tryz.results69, go_sem, hx, hy]
    exact hQ.out _ _ (HB.out _ _) HQ.out
  · refine leaves_cons (f := 92) (args := #[.pointer (some ⟨w.heap.size, 0, none⟩), .pointer (some ⟨w.heap.size + 1, 0, none⟩)]) (by simp) (by simp [go_sem]) ?_
    refine (caught_kd2 hk w.heap.size (w.heap.size + 1) [] w1 e0 e1 z0 z1 (by omega)).mono ?_
    rintro e u' w2 ⟨rfl, rfl, d0, d1, hb⟩
    simp [Leaves, settle, results, Tryz.results69, go_sem, d0, d1]
    exact hQ.out _ _ hb HQ.out

set_option maxRecDepth 100000 in
set_option maxHeartbeats 1000000 in
theorem safely_ok2 (f : Nat) (cap : Array Value) (w : World) (Q : World → Prop) (hcf : ∀ W, Sem.run Tryz.prog (callFunc f cap) W = .ok (.enter f cap) W) (hQ : Hid (∀ W W', Kb w.heap.size (w.heap.size + 1) W W' → Q W → Q W'))
    (HC : Hid (∀ W1, Below w.heap.size w W1 → W1.heap.size = w.heap.size + 2 → Calls Tryz.prog f cap W1 fun e w' => Ends 0 0 e ∧ w'.heap[w.heap.size]? = W1.heap[w.heap.size]? ∧ w'.heap[w.heap.size + 1]? = W1.heap[w.heap.size + 1]? ∧ Q w')) :
    Calls Tryz.prog 49 #[.func (.func f) #[] cap] w fun e w' => e = .returned (.int .i64 0) ∧ Q w' := by
  have HX : Hid (Calls Tryz.prog 69 #[.func (.func f) #[] cap] w fun e w' => e = .returned (.tuple #[.int .i64 0, .int .i64 0]) ∧ Q w') := caught_any2 f cap 0 0 w Q hcf hQ HC
  go_enter Tryz.func49, Tryz.ntmps49
  go_wp2_with fail
  refine HX.out.mono ?_
  rintro e w1 ⟨rfl, hq⟩
  have HQ : Hid (Q w1) := hq
  clear hq
  go_wp2_with fail
  go_ret
  exact ⟨rfl, HQ.out⟩
end Go.Proofs.YtjlhmgopmdcopaaGreat


/- tenonlaw10.lives answers true. -/
import Derived.Test.YtgcgaekomegobaaR24
import Derived.Deep.WholeRow
namespace Go.Proofs.Ytgcgaekomegobaa
open Go.RowKit

theorem Try_lives (b p : Nat) (w : World) (hc : w.cell? ⟨p, 0, none⟩ = some (.pointer (some ⟨b, 0, none⟩))) :
    Calls Try.prog 30 #[.func (.func 31) #[] #[.pointer (some ⟨p, 0, none⟩)]] w fun e w' => e = .returned (.tuple #[.int .i64 1, .int .i64 9]) ∧ Below w.heap.size w w' := by
  have hl := World.block_lt_of_cell? _ _ hc
  refine Try_any _ _ _ _ w (fun w' => Below w.heap.size w w') (fun W => by kernel_rfl) ?_ ?_
  · intro X Y hXY h; exact h.trans hXY
  · intro W1 hb1 hs1
    refine (lives_1_a b p W1 (by rw [hb1.cell (p := ⟨p, 0, none⟩) hl]; exact hc)).mono ?_
    rintro e w' ⟨he, hb⟩
    exact ⟨he, hb.block _ (by omega), hb.block _ (by omega), hb1.trans (hb.mono (by omega))⟩

set_option maxRecDepth 100000 in
set_option maxHeartbeats 2000000 in
theorem lives_any (w : World) : Calls Try.prog 17 #[] w fun e w' => e = .returned (.bool true) ∧ Below w.heap.size w w' := by
  have hmf : ∀ (fn : Fn) (first cap : Array Value) (w : World), (Instr.makeFunc fn first cap).run Try.prog w = .ok (.func fn first cap) w := fun _ _ _ _ => rfl
  have HN : Hid (∀ W : World, ∀ g, W.heap[g]? = some (.cells #[.string ⟨#[97]⟩, .iface 2 (.int .i64 1)] 60) → Calls Try.prog 6 #[.int .u64 7, .slice (some ⟨g, 0, none⟩) 1 1] W fun e w' => ∃ b, e = .returned (.tuple #[.pointer (some ⟨b, 0, none⟩), .int .i64 0]) ∧ Below W.heap.size W w' ∧ Tg w' b) := fun W g h => New_seven W g h
  go_enter Try.func17, Try.ntmps17
  go_wp2_with fail
  refine (HN.out _ _ (heap_alloc_last _ _)).mono ?_
  rintro e w1 ⟨b, rfl, hb1, hT⟩
  have HB1 : Hid (Below w.heap.size w w1) := ((Below.refl _ _).alloc (Nat.le_refl _) _).trans (hb1.mono (by simp))
  have HT1 : Hid (Tg w1 b) := hT
  have hq : ∀ W, (binOp .eql 29 (.pointer (some ⟨b, 0, none⟩)) (.pointer none)).run Try.prog W = .ok (.bool false) W := fun W => by kernel_rfl
  have hg : ∀ x y W, (eqGuard .eql 29 x y (.pointer (some ⟨b, 0, none⟩)) (.pointer none)).run Try.prog W = .ok () W := fun x y W => by kernel_rfl
  have HA : Hid (∀ W, Tg W b → Calls Try.prog 18 #[.iface 29 (.pointer (some ⟨b, 0, none⟩)), .string ⟨#[97]⟩] W fun e w' => e = .returned (.tuple #[.iface 2 (.int .i64 1), .bool true, .int .i64 0]) ∧ Below W.heap.size W w') := fun W h => Ask_a b W h
  have HGi : Hid (∀ W, Calls Try.prog 33 #[.iface 29 (.pointer (some ⟨b, 0, none⟩)), .string ⟨#[97, 110, 110]⟩] W fun e w' => e = .returned (.int .i64 100) ∧ Below W.heap.size W w') := fun W => Give_ann b W
  have HTr : Hid (∀ p W, W.cell? ⟨p, 0, none⟩ = some (.pointer (some ⟨b, 0, none⟩)) → Calls Try.prog 30 #[.func (.func 31) #[] #[.pointer (some ⟨p, 0, none⟩)]] W fun e w' => e = .returned (.tuple #[.int .i64 1, .int .i64 9]) ∧ Below W.heap.size W w') := fun p W h => Try_lives b p W h
  have HH0 : Hid (∀ W, Calls Try.prog 34 #[.iface 29 (.pointer (some ⟨b, 0, none⟩))] W fun e w' => e = .returned (.int .i64 0) ∧ W = w') := fun W => Holds_any _ 0 W (fun W => holds_thing _ W)
  have HH1 : Hid (∀ W, Calls Try.prog 34 #[.nilIface] W fun e w' => e = .returned (.int .i64 1) ∧ W = w') := fun W => Holds_any _ 1 W (fun W => holds_nil W)
  have HH2 : Hid (∀ W, Calls Try.prog 34 #[.iface 29 (.pointer none)] W fun e w' => e = .returned (.int .i64 2) ∧ W = w') := fun W => Holds_any _ 2 W (fun W => holds_hollow W)
  have hv : ∀ W, (binOp .eql 20 (.iface 2 (.int .i64 1)) (.iface 2 (.int .i64 1))).run Try.prog W = .ok (.bool true) W := fun W => by kernel_rfl
  have hvg : ∀ (x y : Operand) W, (eqGuard .eql 20 x y (.iface 2 (.int .i64 1)) (.iface 2 (.int .i64 1))).run Try.prog W = .ok () W := fun x y W => by kernel_rfl
  clear hb1 hT HN
  go_wp2_with fail
  have HB1' : Hid (Below w1.heap.size w1 (w1.alloc (Obj.cells #[Value.pointer (some ⟨b, 0, none⟩)] 29))) := (Below.refl _ _).alloc (Nat.le_refl _) _
  have c1 : (w1.alloc (Obj.cells #[Value.pointer (some ⟨b, 0, none⟩)] 29)).cell? ⟨w1.heap.size, 0, none⟩ = some (.pointer (some ⟨b, 0, none⟩)) := by simp
  have HZ : Hid (w1.heap.size < (w1.alloc (Obj.cells #[Value.pointer (some ⟨b, 0, none⟩)] 29)).heap.size) := by show _ < _; simp
  refine (HA.out _ (HT1.out.keep HB1'.out)).mono ?_
  rintro e w2 ⟨rfl, hb2⟩
  have HB2 : Hid (Below w.heap.size w w2) := HB1.out.trans ((HB1'.out.mono HB1.out.size).trans (hb2.mono (Nat.le_trans HB1.out.size HB1'.out.size)))
  have c2 : w2.cell? ⟨w1.heap.size, 0, none⟩ = some (.pointer (some ⟨b, 0, none⟩)) := by rw [hb2.cell (p := ⟨w1.heap.size, 0, none⟩) HZ.out]; exact c1
  clear hb2 c1 HZ HB1' HT1 HA
  go_wp2_with fail
  refine (HTr.out _ _ c2).mono ?_
  rintro e w3 ⟨rfl, hb3⟩
  have HB3 : Hid (Below w.heap.size w w3) := HB2.out.trans (hb3.mono HB2.out.size)
  have c3 : w3.cell? ⟨w1.heap.size, 0, none⟩ = some (.pointer (some ⟨b, 0, none⟩)) := by rw [hb3.cell (p := ⟨w1.heap.size, 0, none⟩) (World.block_lt_of_cell? _ _ c2)]; exact c2
  clear hb3 c2 HTr
  go_wp2_with fail
  refine (HGi.out _).mono ?_
  rintro e w4 ⟨rfl, hb4⟩
  have HB4 : Hid (Below w.heap.size w w4) := HB3.out.trans (hb4.mono HB3.out.size)
  have c4 : w4.cell? ⟨w1.heap.size, 0, none⟩ = some (.pointer (some ⟨b, 0, none⟩)) := by rw [hb4.cell (p := ⟨w1.heap.size, 0, none⟩) (World.block_lt_of_cell? _ _ c3)]; exact c3
  clear hb4 c3 HGi
  go_wp2_with fail
  refine (HH2.out _).mono ?_
  rintro e w5 ⟨rfl, rfl⟩
  go_wp2_with fail
  refine (HH1.out _).mono ?_
  rintro e w5 ⟨rfl, rfl⟩
  go_wp2_with fail
  refine (HH0.out _).mono ?_
  rintro e w5 ⟨rfl, rfl⟩
  go_wp2_with fail
  go_ret
  exact ⟨rfl, HB4.out⟩
end Go.Proofs.Ytgcgaekomegobaa

/- object.caught and safely with a finer frame: but for its own two variables nothing is changed. -/
namespace Go.Proofs.Ytgcgaekomegobaa
open Go.RowKit

/-- all but two blocks is as it was -/
structure Kb (g h : Nat) (w w' : World) : Prop where
  os : w'.os = w.os
  tape : w'.tape = w.tape
  output : w'.output = w.output
  size : w'.heap.size = w.heap.size
  block : ∀ j, j ≠ g → j ≠ h → w'.heap[j]? = w.heap[j]?
theorem Kb.refl (g h : Nat) (w : World) : Kb g h w w := ⟨rfl, rfl, rfl, rfl, fun _ _ _ => rfl⟩
theorem Kb.two (g h : Nat) (w : World) (a b : Value) : Kb g h w ((w.setCell ⟨g, 0, none⟩ a).setCell ⟨h, 0, none⟩ b) :=
  ⟨rfl, rfl, rfl, by simp [World.setCell], fun j h1 h2 => (Below.heap_setCell _ _ _ _ h2).trans (Below.heap_setCell _ _ _ _ h1)⟩

theorem caught_kd2 {v : Value} {k er : Int} (hk : Kd v k er) (ga gw : Nat) (older : List PanicEntry) (w : World) (hga : w.cell? ⟨ga, 0, none⟩ = some (.int .i64 1)) (hgw : w.cell? ⟨gw, 0, none⟩ = some (.int .i64 9)) (hfa : w.frozen? ⟨ga, 0, none⟩ = false) (hfw : w.frozen? ⟨gw, 0, none⟩ = false) (hne : ga ≠ gw) :
    CallsD Try.prog 66 #[.pointer (some ⟨ga, 0, none⟩), .pointer (some ⟨gw, 0, none⟩)] (.panicking ({ v := v, recovered := false } :: older)) w fun e u' w' => e = .returned (.tuple #[]) ∧ u' = .panicking ({ v := v, recovered := true } :: older) ∧ w'.cell? ⟨ga, 0, none⟩ = some (.int .i64 k) ∧ w'.cell? ⟨gw, 0, none⟩ = some (.int .i64 er) ∧ Kb ga gw w w' := by
  rcases hk with ⟨rfl, rfl, rfl⟩ | ⟨⟨T, pv, rfl⟩, h⟩
  · refine (caught_nil _ _ older w).mono ?_
    rintro e u' w' ⟨rfl, rfl, rfl⟩
    exact ⟨rfl, rfl, hga, hgw, Kb.refl _ _ _⟩
  · have fin : ∀ (a b : Value), ((w.setCell ⟨ga, 0, none⟩ a).setCell ⟨gw, 0, none⟩ b).cell? ⟨ga, 0, none⟩ = some a ∧ ((w.setCell ⟨ga, 0, none⟩ a).setCell ⟨gw, 0, none⟩ b).cell? ⟨gw, 0, none⟩ = some b ∧ Kb ga gw w ((w.setCell ⟨ga, 0, none⟩ a).setCell ⟨gw, 0, none⟩ b) := by
      intro a b
      refine ⟨?_, ?_, Kb.two _ _ _ _ _⟩
      · rw [World.cell?_setCell_other _ _ _ _ (by intro e; injection e with e1 _; exact hne e1.symm)]
        exact sc_eq' hga
      · exact sc_eq' (by rw [World.cell?_setCell_other _ _ _ _ (by intro e; injection e with e1 _; exact hne e1)]; exact hgw)
    rcases h with ⟨⟨x1, h1⟩, rfl, rfl⟩ | ⟨⟨x1, h1⟩, h2, rfl⟩ | ⟨⟨x1, h1⟩, ⟨x2, h2⟩, ⟨x3, h3⟩, rfl, rfl⟩ | ⟨⟨x1, h1⟩, ⟨x2, h2⟩, ⟨x3, h3⟩, ⟨x4, h4⟩, rfl, rfl⟩ | ⟨⟨x1, h1⟩, ⟨x2, h2⟩, ⟨x3, h3⟩, ⟨x4, h4⟩, rfl, rfl⟩
    · exact (caught_run T pv ga gw 1 9 older w hga hgw hfa hfw hne x1 h1).mono fun e u' w' ⟨h1, h2, h3⟩ => ⟨h1, h2, h3 ▸ fin _ _⟩
    · exact (caught_errno T pv er ga gw 1 9 older w hga hgw hfa hfw hne x1 h1 h2).mono fun e u' w' ⟨h1, h2, h3⟩ => ⟨h1, h2, h3 ▸ fin _ _⟩
    · exact (caught_error T pv ga gw 1 9 older w hga hgw hfa hfw hne x1 h1 x2 h2 x3 h3).mono fun e u' w' ⟨h1, h2, h3⟩ => ⟨h1, h2, h3 ▸ fin _ _⟩
    · exact (caught_text T pv ga gw 1 9 older w hga hgw hfa hfw hne x1 h1 x2 h2 x3 h3 x4 h4).mono fun e u' w' ⟨h1, h2, h3⟩ => ⟨h1, h2, h3 ▸ fin _ _⟩
    · exact (caught_other T pv ga gw 1 9 older w hga hgw hfa hfw hne x1 h1 x2 h2 x3 h3 x4 h4).mono fun e u' w' ⟨h1, h2, h3⟩ => ⟨h1, h2, h3 ▸ fin _ _⟩

set_option maxRecDepth 100000 in
set_option maxHeartbeats 1000000 in
theorem caught_any2 (f : Nat) (cap : Array Value) (k er : Int) (w : World) (Q : World → Prop) (hcf : ∀ W, Sem.run Try.prog (callFunc f cap) W = .ok (.enter f cap) W) (hQ : Hid (∀ W W', Kb w.heap.size (w.heap.size + 1) W W' → Q W → Q W'))
    (HC : Hid (∀ W1, Below w.heap.size w W1 → W1.heap.size = w.heap.size + 2 → Calls Try.prog f cap W1 fun e w' => Ends k er e ∧ w'.heap[w.heap.size]? = W1.heap[w.heap.size]? ∧ w'.heap[w.heap.size + 1]? = W1.heap[w.heap.size + 1]? ∧ Q w')) :
    Calls Try.prog 48 #[.func (.func f) #[] cap] w fun e w' => e = .returned (.tuple #[.int .i64 k, .int .i64 er]) ∧ Q w' := by
  have hmf : ∀ (fn : Fn) (first cap : Array Value) (w : World), (Instr.makeFunc fn first cap).run Try.prog w = .ok (.func fn first cap) w := fun _ _ _ _ => rfl
  go_enter_defers Try.func48, Try.ntmps48
  go_wp2_with fail
  refine (HC.out _ (((Below.refl _ _).alloc (Nat.le_refl _) _).alloc (by simp) _) (by show ((w.heap.push _).push _).size = _; simp)).mono ?_
  rintro e w1 ⟨he, hB0, hB1, hq⟩
  rw [al2_old] at hB0
  rw [al2_new] at hB1
  have HQ : Hid (Q w1) := hq
  have e0 : w1.cell? ⟨w.heap.size, 0, none⟩ = some (.int .i64 1) := by rw [cell_of_row _ _ 0 _ _ _ hB0]; rfl
  have e1 : w1.cell? ⟨w.heap.size + 1, 0, none⟩ = some (.int .i64 9) := by rw [cell_of_row _ _ 0 _ _ _ hB1]; rfl
  have z0 : w1.frozen? ⟨w.heap.size, 0, none⟩ = false := frozen_of_row _ _ 0 _ _ hB0
  have z1 : w1.frozen? ⟨w.heap.size + 1, 0, none⟩ = false := frozen_of_row _ _ 0 _ _ hB1
  have hx : ∀ v v', ((w1.setCell ⟨w.heap.size, 0, none⟩ v).setCell ⟨w.heap.size + 1, 0, none⟩ v').cell? ⟨w.heap.size, 0, none⟩ = some v := fun v v' => by
    rw [World.cell?_setCell_other _ _ _ _ (by intro e; injection e with e1 _; omega)]
    exact sc_eq' e0
  have hy : ∀ v v', ((w1.setCell ⟨w.heap.size, 0, none⟩ v).setCell ⟨w.heap.size + 1, 0, none⟩ v').cell? ⟨w.heap.size + 1, 0, none⟩ = some v' := fun v v' =>
    sc_eq' (by rw [World.cell?_setCell_other _ _ _ _ (by intro e; injection e with e1 _; omega)]; exact e1)
  have HB : Hid (∀ v v', Kb w.heap.size (w.heap.size + 1) w1 ((w1.setCell ⟨w.heap.size, 0, none⟩ v).setCell ⟨w.heap.size + 1, 0, none⟩ v')) := fun v v' => Kb.two _ _ _ _ _
  clear hB0 hB1 hq
  rcases he with ⟨rfl, rfl, rfl⟩ | ⟨v, rfl, hk⟩
  · have e2 : (w1.setCell ⟨w.heap.size, 0, none⟩ (.int .i64 0)).cell? ⟨w.heap.size + 1, 0, none⟩ = some (.int .i64 9) := by rw [World.cell?_setCell_other _ _ _ _ (by intro e; injection e with e1 _; omega)]; exact e1
    go_wp2_with fail
    refine leaves_cons (f := 66) (args := #[.pointer (some ⟨w.heap.size, 0, none⟩), .pointer (some ⟨w.heap.size + 1, 0, none⟩)]) (by simp) (by simp [go_sem]) ?_
    refine (caught_idle _ _ _).mono ?_
    rintro e u' w2 ⟨rfl, rfl, rfl⟩
    simp [Leaves, settle, results, Try.results48, go_sem, hx, hy]
    exact hQ.out _ _ (HB.out _ _) HQ.out
  · refine leaves_cons (f := 66) (args := #[.pointer (some ⟨w.heap.size, 0, none⟩), .pointer (some ⟨w.heap.size + 1, 0, none⟩)]) (by simp) (by simp [go_sem]) ?_
    refine (caught_kd2 hk w.heap.size (w.heap.size + 1) [] w1 e0 e1 z0 z1 (by omega)).mono ?_
    rintro e u' w2 ⟨rfl, rfl, d0, d1, hb⟩
    simp [Leaves, settle, results, Try.results48, go_sem, d0, d1]
    exact hQ.out _ _ hb HQ.out

set_option maxRecDepth 100000 in
set_option maxHeartbeats 1000000 in
theorem safely_ok2 (f : Nat) (cap : Array Value) (w : World) (Q : World → Prop) (hcf : ∀ W, Sem.run Try.prog (callFunc f cap) W = .ok (.enter f cap) W) (hQ : Hid (∀ W W', Kb w.heap.size (w.heap.size + 1) W W' → Q W → Q W'))
    (HC : Hid (∀ W1, Below w.heap.size w W1 → W1.heap.size = w.heap.size + 2 → Calls Try.prog f cap W1 fun e w' => Ends 0 0 e ∧ w'.heap[w.heap.size]? = W1.heap[w.heap.size]? ∧ w'.heap[w.heap.size + 1]? = W1.heap[w.heap.size + 1]? ∧ Q w')) :
    Calls Try.prog 57 #[.func (.func f) #[] cap] w fun e w' => e = .returned (.int .i64 0) ∧ Q w' := by
  have HX : Hid (Calls Try.prog 48 #[.func (.func f) #[] cap] w fun e w' => e = .returned (.tuple #[.int .i64 0, .int .i64 0]) ∧ Q w') := caught_any2 f cap 0 0 w Q hcf hQ HC
  go_enter Try.func57, Try.ntmps57
  go_wp2_with fail
  refine HX.out.mono ?_
  rintro e w1 ⟨rfl, hq⟩
  have HQ : Hid (Q w1) := hq
  clear hq
  go_wp2_with fail
  go_ret
  exact ⟨rfl, HQ.out⟩
end Go.Proofs.Ytgcgaekomegobaa


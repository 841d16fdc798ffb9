/- tenonlaw10.lives answers true. -/
import Derived.Test.YtbjjeleoimcboaaQ27
import Derived.Deep.WholeRow
namespace Go.Proofs.Ytbjjeleoimcboaa
open Go.RowKit

theorem Try_lives (b p : Nat) (w : World) (hc : w.cell? ⟨p, 0, none⟩ = some (.pointer (some ⟨b, 0, none⟩))) :
    Calls Try.prog 6 #[.func (.func 20) #[] #[.pointer (some ⟨p, 0, none⟩)]] w fun e w' => e = .returned (.tuple #[.int .i64 1, .int .i64 9]) ∧ Below w.heap.size w w' := by
  have hl := World.block_lt_of_cell? _ _ hc
  refine Try_any _ _ _ _ w (fun w' => Below w.heap.size w w') (fun W => by kernel_rfl) ?_ ?_
  · intro X Y hXY h; exact h.trans hXY
  · intro W1 hb1 hs1
    refine (lives_1_a b p W1 (by rw [hb1.cell (p := ⟨p, 0, none⟩) hl]; exact hc)).mono ?_
    rintro e w' ⟨he, hb⟩
    exact ⟨he, hb.block _ (by omega), hb.block _ (by omega), hb1.trans (hb.mono (by omega))⟩

set_option maxRecDepth 100000 in
set_option maxHeartbeats 2000000 in
theorem lives_any (w : World) : Calls Try.prog 10 #[] w fun e w' => e = .returned (.bool true) ∧ Below w.heap.size w w' := by
  have hmf : ∀ (fn : Fn) (first cap : Array Value) (w : World), (Instr.makeFunc fn first cap).run Try.prog w = .ok (.func fn first cap) w := fun _ _ _ _ => rfl
  have HN : Hid (∀ W : World, ∀ g, W.heap[g]? = some (.cells #[.string ⟨#[97]⟩, .iface 2 (.int .i64 1)] 59) → Calls Try.prog 18 #[.int .u64 7, .slice (some ⟨g, 0, none⟩) 1 1] W fun e w' => ∃ b, e = .returned (.tuple #[.pointer (some ⟨b, 0, none⟩), .int .i64 0]) ∧ Below W.heap.size W w' ∧ Tg w' b) := fun W g h => New_seven W g h
  go_enter Try.func10, Try.ntmps10
  go_wp2_with fail
  refine (HN.out _ _ (heap_alloc_last _ _)).mono ?_
  rintro e w1 ⟨b, rfl, hb1, hT⟩
  have HB1 : Hid (Below w.heap.size w w1) := ((Below.refl _ _).alloc (Nat.le_refl _) _).trans (hb1.mono (by simp))
  have HT1 : Hid (Tg w1 b) := hT
  have hq : ∀ W, (binOp .eql 55 (.pointer (some ⟨b, 0, none⟩)) (.pointer none)).run Try.prog W = .ok (.bool false) W := fun W => by kernel_rfl
  have hg : ∀ x y W, (eqGuard .eql 55 x y (.pointer (some ⟨b, 0, none⟩)) (.pointer none)).run Try.prog W = .ok () W := fun x y W => by kernel_rfl
  have HA : Hid (∀ W, Tg W b → Calls Try.prog 19 #[.iface 55 (.pointer (some ⟨b, 0, none⟩)), .string ⟨#[97]⟩] W fun e w' => e = .returned (.tuple #[.iface 2 (.int .i64 1), .bool true, .int .i64 0]) ∧ Below W.heap.size W w') := fun W h => Ask_a b W h
  have HGi : Hid (∀ W, Calls Try.prog 14 #[.iface 55 (.pointer (some ⟨b, 0, none⟩)), .string ⟨#[97, 110, 110]⟩] W fun e w' => e = .returned (.int .i64 100) ∧ Below W.heap.size W w') := fun W => Give_ann b W
  have HTr : Hid (∀ p W, W.cell? ⟨p, 0, none⟩ = some (.pointer (some ⟨b, 0, none⟩)) → Calls Try.prog 6 #[.func (.func 20) #[] #[.pointer (some ⟨p, 0, none⟩)]] W fun e w' => e = .returned (.tuple #[.int .i64 1, .int .i64 9]) ∧ Below W.heap.size W w') := fun p W h => Try_lives b p W h
  have HH0 : Hid (∀ W, Calls Try.prog 22 #[.iface 55 (.pointer (some ⟨b, 0, none⟩))] W fun e w' => e = .returned (.int .i64 0) ∧ W = w') := fun W => Holds_any _ 0 W (fun W => holds_thing _ W)
  have HH1 : Hid (∀ W, Calls Try.prog 22 #[.nilIface] W fun e w' => e = .returned (.int .i64 1) ∧ W = w') := fun W => Holds_any _ 1 W (fun W => holds_nil W)
  have HH2 : Hid (∀ W, Calls Try.prog 22 #[.iface 55 (.pointer none)] W fun e w' => e = .returned (.int .i64 2) ∧ W = w') := fun W => Holds_any _ 2 W (fun W => holds_hollow W)
  have hv : ∀ W, (binOp .eql 20 (.iface 2 (.int .i64 1)) (.iface 2 (.int .i64 1))).run Try.prog W = .ok (.bool true) W := fun W => by kernel_rfl
  have hvg : ∀ (x y : Operand) W, (eqGuard .eql 20 x y (.iface 2 (.int .i64 1)) (.iface 2 (.int .i64 1))).run Try.prog W = .ok () W := fun x y W => by kernel_rfl
  clear hb1 hT HN
  go_wp2_with fail
  have HB1' : Hid (Below w1.heap.size w1 (w1.alloc (Obj.cells #[Value.pointer (some ⟨b, 0, none⟩)] 55))) := (Below.refl _ _).alloc (Nat.le_refl _) _
  have c1 : (w1.alloc (Obj.cells #[Value.pointer (some ⟨b, 0, none⟩)] 55)).cell? ⟨w1.heap.size, 0, none⟩ = some (.pointer (some ⟨b, 0, none⟩)) := by simp
  have HZ : Hid (w1.heap.size < (w1.alloc (Obj.cells #[Value.pointer (some ⟨b, 0, none⟩)] 55)).heap.size) := by show _ < _; simp
  refine (HA.out _ (HT1.out.keep HB1'.out)).mono ?_
  rintro e w2 ⟨rfl, hb2⟩
  have HB2 : Hid (Below w.heap.size w w2) := HB1.out.trans ((HB1'.out.mono HB1.out.size).trans (hb2.mono (Nat.le_trans HB1.out.size HB1'.out.size)))
  have c2 : w2.cell? ⟨w1.heap.size, 0, none⟩ = some (.pointer (some ⟨b, 0, none⟩)) := by rw [hb2.cell (p := ⟨w1.heap.size, 0, none⟩) HZ.out]; exact c1
  clear hb2 c1 HZ HB1' HT1 HA
  go_wp2_with fail
  refine (HTr.out _ _ c2).mono ?_
  rintro e w3 ⟨rfl, hb3⟩
  have HB3 : Hid (Below w.heap.size w w3) := HB2.out.trans (hb3.mono HB2.out.size)
  have c3 : w3.cell? ⟨w1.heap.size, 0, none⟩ = some (.pointer (some ⟨b, 0, none⟩)) := by rw [hb3.cell (p := ⟨w1.heap.size, 0, none⟩) (World.block_lt_of_cell? _ _ c2)]; exact c2
  clear hb3 c2 HTr
  go_wp2_with fail
  refine (HGi.out _).mono ?_
  rintro e w4 ⟨rfl, hb4⟩
  have HB4 : Hid (Below w.heap.size w w4) := HB3.out.trans (hb4.mono HB3.out.size)
  have c4 : w4.cell? ⟨w1.heap.size, 0, none⟩ = some (.pointer (some ⟨b, 0, none⟩)) := by rw [hb4.cell (p := ⟨w1.heap.size, 0, none⟩) (World.block_lt_of_cell? _ _ c3)]; exact c3
  clear hb4 c3 HGi
  go_wp2_with fail
  refine (HH2.out _).mono ?_
  rintro e w5 ⟨rfl, rfl⟩
  go_wp2_with fail
  refine (HH1.out _).mono ?_
  rintro e w5 ⟨rfl, rfl⟩
  go_wp2_with fail
  refine (HH0.out _).mono ?_
  rintro e w5 ⟨rfl, rfl⟩
  go_wp2_with fail
  go_ret
  exact ⟨rfl, HB4.out⟩
end Go.Proofs.Ytbjjeleoimcboaa


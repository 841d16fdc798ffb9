/- wire.look, Decode and Skip at bytes that begin with no value. -/
import Derived.Test.YtjmhodngmfaboaaLookG
import Derived.Test.YtjmhodngmfaboaaDecBH
namespace Go.Proofs.Ytjmhodngmfaboaa
open Go.RowKit

set_option maxRecDepth 100000 in
set_option maxHeartbeats 1000000 in
theorem look_bad (xs : List Int) (hby : By xs) (q : Nat) (er : Int) (hr : Sp.rdV xs 64 0 0 = .bad q er) (a : Option Addr) (cap : Nat) (w : World) (hrd : RdB w (Lo w.heap.size) a xs) (hcp : xs.length ≤ cap) (hln : xs.length ≤ 281474976710656) :
    Calls Try.prog 44 #[.slice a xs.length cap] w fun e w' => e = .returned (.tuple #[.int .i64 (q : Int), .int .i64 er]) ∧ Below w.heap.size w w' := by
  have hmf : ∀ (fn : Fn) (first cap : Array Value) (w : World), (Instr.makeFunc fn first cap).run Try.prog w = .ok (.func fn first cap) w := fun _ _ _ _ => rfl
  have HX : Hid (By xs ∧ Sp.rdV xs 64 0 0 = .bad q er ∧ RdB w (Lo w.heap.size) a xs ∧ xs.length ≤ cap ∧ xs.length ≤ 281474976710656) := ⟨hby, hr, hrd, hcp, hln⟩
  clear hby hr hrd hcp hln
  go_enter_defers Try.func44, Try.ntmps44
  go_wp2_with fail
  show Calls Try.prog _ _ (lookW w a xs.length cap) _
  obtain ⟨hR, hbW, hzW, hW0, hW1⟩ := lookW_rdr w a xs cap HX.out.2.2.1 HX.out.2.2.2.1 HX.out.2.2.2.2
  refine (value_bad xs HX.out.1 64 (Nat.le_refl _) (w.heap.size + 1 + 1) a cap 0 0 q er _ 1 rfl hR HX.out.2.1).mono ?_
  rintro e w1 ⟨rfl, hb1⟩
  have hB0 := hb1.block w.heap.size (by omega) (by omega)
  have hB1 := hb1.block (w.heap.size + 1) (by omega) (by omega)
  rw [hW0] at hB0
  rw [hW1] at hB1
  have e0 : w1.cell? ⟨w.heap.size, 0, none⟩ = some (.int .i64 0) := by rw [cell_of_row _ _ 0 _ _ _ hB0]; rfl
  have e1 : w1.cell? ⟨w.heap.size + 1, 0, none⟩ = some (.int .i64 0) := by rw [cell_of_row _ _ 0 _ _ _ hB1]; rfl
  have z0 : w1.frozen? ⟨w.heap.size, 0, none⟩ = false := frozen_of_row _ _ 0 _ _ hB0
  have z1 : w1.frozen? ⟨w.heap.size + 1, 0, none⟩ = false := frozen_of_row _ _ 0 _ _ hB1
  have HB : Hid (Below w.heap.size w w1) := hbW.trans (hb1.below (by omega))
  clear hb1 hR hbW hzW hW0 hW1 hB0 hB1
  refine leaves_cons (f := 84) (args := #[.pointer (some ⟨w.heap.size, 0, none⟩), .pointer (some ⟨w.heap.size + 1, 0, none⟩)]) (by simp) (by simp [go_sem]) ?_
  refine (catch_fault w.heap.size (w.heap.size + 1) 0 0 q er [] w1 e0 e1 z0 z1 (by omega)).mono ?_
  rintro e u' w2 ⟨rfl, rfl, d0, d1, hbb⟩
  simp [Leaves, settle, results, Try.results44, go_sem, d0, d1]
  exact HB.out.trans (hbb _ (Nat.le_refl _) (Nat.le_succ _))

set_option maxRecDepth 100000 in
set_option maxHeartbeats 1000000 in
theorem Skip_bad (xs : List Int) (hby : By xs) (q : Nat) (er : Int) (hr : Sp.rdV xs 64 0 0 = .bad q er) (her : er ≠ 0) (a : Option Addr) (cap : Nat) (w : World) (hrd : RdB w (Lo w.heap.size) a xs) (hcp : xs.length ≤ cap) (hln : xs.length ≤ 281474976710656) :
    Calls Try.prog 26 #[.slice a xs.length cap] w fun e w' => e = .returned (.tuple #[.int .i64 0, .int .i64 er]) ∧ Below w.heap.size w w' := by
  have HL : Hid (Calls Try.prog 44 #[.slice a xs.length cap] w fun e w' => e = .returned (.tuple #[.int .i64 (q : Int), .int .i64 er]) ∧ Below w.heap.size w w') := look_bad xs hby q er hr a cap w hrd hcp hln
  have he : (er != 0) = true := by simp [her]
  clear hr hby hrd her
  go_enter Try.func26, Try.ntmps26
  go_wp2_with fail
  refine HL.out.mono ?_
  rintro e w1 ⟨rfl, hb1⟩
  go_wp2_with fail
  go_ret2
  exact ⟨rfl, hb1⟩

set_option maxRecDepth 100000 in
set_option maxHeartbeats 1000000 in
theorem Decode_bad (xs : List Int) (hby : By xs) (q : Nat) (er : Int) (hr : Sp.rdV xs 64 0 0 = .bad q er) (her : er ≠ 0) (a : Option Addr) (cap : Nat) (w : World) (hrd : RdB w (Lo w.heap.size) a xs) (hcp : xs.length ≤ cap) (hln : xs.length ≤ 281474976710656) :
    Calls Try.prog 25 #[.slice a xs.length cap] w fun e w' => e = .returned (.tuple #[.nilIface, .int .i64 (q : Int), .int .i64 er]) ∧ Below w.heap.size w w' := by
  have HL : Hid (Calls Try.prog 44 #[.slice a xs.length cap] w fun e w' => e = .returned (.tuple #[.int .i64 (q : Int), .int .i64 er]) ∧ Below w.heap.size w w') := look_bad xs hby q er hr a cap w hrd hcp hln
  have he : (er != 0) = true := by simp [her]
  clear hr hby hrd her
  go_enter Try.func25, Try.ntmps25
  go_wp2_with fail
  refine HL.out.mono ?_
  rintro e w1 ⟨rfl, hb1⟩
  go_wp2_with fail
  go_ret3
  exact ⟨rfl, hb1⟩
end Go.Proofs.Ytjmhodngmfaboaa

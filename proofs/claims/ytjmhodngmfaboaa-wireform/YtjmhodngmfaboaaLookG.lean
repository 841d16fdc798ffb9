/- wire.look's deferred closure: a reader that gave up is caught. -/
import Derived.Test.YtjmhodngmfaboaaDecK
import Derived.Defers
import Derived.Recover
import Derived.Deep.RegionHeld3
namespace Go.Proofs.Ytjmhodngmfaboaa
open Go.RowKit

theorem cell_off {w : World} {g o b i : Nat} (h : b ≠ g) (v : Value) : (w.setCell ⟨g, o, none⟩ v).cell? ⟨b, i, none⟩ = w.cell? ⟨b, i, none⟩ := World.cell?_setCell_other _ _ _ _ (by intro e; injection e with e1 _; exact h e1.symm)

set_option maxRecDepth 100000 in
set_option maxHeartbeats 1000000 in
theorem catch_idle (pa pw : Addr) (w : World) :
    CallsD Try.prog 84 #[.pointer (some pa), .pointer (some pw)] .returning w fun e u' w' => e = .returned (.tuple #[]) ∧ u' = .returning ∧ w' = w := by
  refine callsD_of_wpS Try.func84 rfl fun c₀ cs hu => ?_
  apply wpS_seq
  apply wpS_region
  simp [wpOpsS, go_sem, recoverD, hu, Try.ntmps84, Exit.thenS]
  refine wpS_of_wp ?_
  go_wp2_with fail
  cases c₀
  simp_all [bodyPostS, results, Try.results84]

set_option maxRecDepth 100000 in
set_option maxHeartbeats 1000000 in
theorem catch_fault (ga gw : Nat) (x y q e0 : Int) (older : List PanicEntry) (w : World) (hga : w.cell? ⟨ga, 0, none⟩ = some (.int .i64 x)) (hgw : w.cell? ⟨gw, 0, none⟩ = some (.int .i64 y)) (hfa : w.frozen? ⟨ga, 0, none⟩ = false) (hfw : w.frozen? ⟨gw, 0, none⟩ = false) (hne : ga ≠ gw) :
    CallsD Try.prog 84 #[.pointer (some ⟨ga, 0, none⟩), .pointer (some ⟨gw, 0, none⟩)] (.panicking ({ v := .iface 131 (.agg #[.int .i64 q, .int .i64 e0]), recovered := false } :: older)) w fun e u' w' => e = .returned (.tuple #[]) ∧ u' = .panicking ({ v := .iface 131 (.agg #[.int .i64 q, .int .i64 e0]), recovered := true } :: older) ∧ w'.cell? ⟨ga, 0, none⟩ = some (.int .i64 q) ∧ w'.cell? ⟨gw, 0, none⟩ = some (.int .i64 e0) ∧ (∀ B, B ≤ ga → B ≤ gw → Below B w w') := by
  refine callsD_of_wpS Try.func84 rfl fun c₀ cs hu => ?_
  apply wpS_seq
  apply wpS_region
  simp [wpOpsS, go_sem, recoverD, hu, Try.ntmps84, Exit.thenS]
  refine wpS_of_wp ?_
  simp [Array.replicate, List.replicate]
  have hta : ∀ W, Sem.run Try.prog (Instr.typeAssert (Value.iface 131 (Value.agg #[Value.int IntKind.i64 q, Value.int IntKind.i64 e0])) 20 131 true) W = .ok (.tuple #[.agg #[.int .i64 q, .int .i64 e0], .bool true]) W := fun W => by kernel_rfl
  have hla : ga < w.heap.size := World.block_lt_of_cell? _ _ hga
  have hlw : gw < w.heap.size := World.block_lt_of_cell? _ _ hgw
  go_wp2_with fail
  have HB0 : Hid (Below w.heap.size w (w.alloc (Obj.cells #[Value.int IntKind.i64 q, Value.int IntKind.i64 e0] 131))) := (Below.refl _ _).alloc (Nat.le_refl _) _
  have d0 : (w.alloc (Obj.cells #[Value.int IntKind.i64 q, Value.int IntKind.i64 e0] 131)).cell? ⟨w.heap.size, 0, none⟩ = some (.int .i64 q) := by simp
  have d1 : (w.alloc (Obj.cells #[Value.int IntKind.i64 q, Value.int IntKind.i64 e0] 131)).cell? ⟨w.heap.size, 1, none⟩ = some (.int .i64 e0) := by simp
  generalize w.alloc (Obj.cells #[Value.int IntKind.i64 q, Value.int IntKind.i64 e0] 131) = W0 at HB0 d0 d1 ⊢
  have da : W0.cell? ⟨ga, 0, none⟩ = some (.int .i64 x) := by rw [HB0.out.cell (p := ⟨ga, 0, none⟩) hla]; exact hga
  have dw : W0.cell? ⟨gw, 0, none⟩ = some (.int .i64 y) := by rw [HB0.out.cell (p := ⟨gw, 0, none⟩) hlw]; exact hgw
  have fa : W0.frozen? ⟨ga, 0, none⟩ = false := by rw [World.frozen?_of_block (w := w) (HB0.out.block ga hla)]; exact hfa
  have fw : W0.frozen? ⟨gw, 0, none⟩ = false := by rw [World.frozen?_of_block (w := w) (HB0.out.block gw hlw)]; exact hfw
  have hna : w.heap.size ≠ ga := by omega
  have hnw : w.heap.size ≠ gw := by omega
  have HX : Hid (∀ W : World, W.heap[w.heap.size]? = W0.heap[w.heap.size]? → W.cell? ⟨w.heap.size, 0, none⟩ = some (.int .i64 q) ∧ W.cell? ⟨w.heap.size, 1, none⟩ = some (.int .i64 e0)) := fun W hW => ⟨by rw [World.cell?_of_block (w := W0) (a := ⟨w.heap.size, 0, none⟩) hW]; exact d0, by rw [World.cell?_of_block (w := W0) (a := ⟨w.heap.size, 1, none⟩) hW]; exact d1⟩
  have HA : Hid (∀ v, (W0.setCell ⟨ga, 0, none⟩ v).heap[w.heap.size]? = W0.heap[w.heap.size]?) := fun v => Below.heap_setCell W0 ⟨ga, 0, none⟩ v _ hna
  have HW : Hid (∀ (W : World) v, (W.setCell ⟨gw, 0, none⟩ v).heap[w.heap.size]? = W.heap[w.heap.size]?) := fun W v => Below.heap_setCell W ⟨gw, 0, none⟩ v _ hnw
  go_region_held3 (fun W => W.cell? ⟨w.heap.size, 0, none⟩ = some (.int .i64 q) ∧ W.cell? ⟨w.heap.size, 1, none⟩ = some (.int .i64 e0))
    (first | exact HX.out _ rfl | exact HX.out _ (HA.out _) | exact HX.out _ ((HW.out _ _).trans (HA.out _)))
    (fail)
  have R : Hid ((((W0.setCell ⟨ga, 0, none⟩ (.int .i64 q)).setCell ⟨gw, 0, none⟩ (.int .i64 e0)).drew).cell? ⟨ga, 0, none⟩ = some (.int .i64 q) ∧ (((W0.setCell ⟨ga, 0, none⟩ (.int .i64 q)).setCell ⟨gw, 0, none⟩ (.int .i64 e0)).drew).cell? ⟨gw, 0, none⟩ = some (.int .i64 e0) ∧ ∀ B, B ≤ ga → B ≤ gw → Below B w (((W0.setCell ⟨ga, 0, none⟩ (.int .i64 q)).setCell ⟨gw, 0, none⟩ (.int .i64 e0)).drew)) := by
    refine ⟨?_, ?_, fun B h1 h2 => ((((HB0.out.mono (by omega)).setCell (p := ⟨ga, 0, none⟩) h1 _).setCell (p := ⟨gw, 0, none⟩) h2 _)).drew⟩
    · show ((W0.setCell ⟨ga, 0, none⟩ (.int .i64 q)).setCell ⟨gw, 0, none⟩ (.int .i64 e0)).cell? ⟨ga, 0, none⟩ = _
      rw [cell_off hne]; exact sc_eq da
    · show ((W0.setCell ⟨ga, 0, none⟩ (.int .i64 q)).setCell ⟨gw, 0, none⟩ (.int .i64 e0)).cell? ⟨gw, 0, none⟩ = _
      exact sc_eq (by rw [cell_off hne.symm]; exact dw)
  generalize ((W0.setCell ⟨ga, 0, none⟩ (.int .i64 q)).setCell ⟨gw, 0, none⟩ (.int .i64 e0)).drew = W1 at R ⊢
  simp +zetaDelta [Exit.inBlock, bodyPostS, results, Try.results84]
  exact R.out
end Go.Proofs.Ytjmhodngmfaboaa

/- wire.look at bytes that begin with a value. -/
namespace Go.Proofs.Ytjmhodngmfaboaa
open Go.RowKit

theorem newRdr (w0 : World) (a : Option Addr) (xs : List Int) (cap : Nat) (h : RdB w0 (Lo w0.heap.size) a xs) (hcp : xs.length ≤ cap) (hln : xs.length ≤ 281474976710656) : Rdr (w0.alloc (.cells #[.slice a xs.length cap, .int .i64 0, .int .i64 0] 86)) w0.heap.size a xs cap 0 0 := by
  have hn := heap_alloc_new w0 (.cells #[.slice a xs.length cap, .int .i64 0, .int .i64 0] 86)
  refine ⟨?_, ?_, ?_, frozen_of_row _ _ 1 _ _ hn, frozen_of_row _ _ 2 _ _ hn, h.same (fun k hk => Below.heap_alloc _ _ _ hk) (fun _ h => h), hcp, hln, Nat.zero_le _, Nat.zero_le _⟩
  · simp
  · simp
  · simp
/-- the two variables that look's results lie in, and the reader, all new -/
def lookW (w : World) (a : Option Addr) (n cap : Nat) : World := ((w.alloc (.cells #[.int .i64 0] 3)).alloc (.cells #[.int .i64 0] 30)).alloc (.cells #[.slice a n cap, .int .i64 0, .int .i64 0] 86)
theorem lookW_rdr (w : World) (a : Option Addr) (xs : List Int) (cap : Nat) (h : RdB w (Lo w.heap.size) a xs) (hcp : xs.length ≤ cap) (hln : xs.length ≤ 281474976710656) : Rdr (lookW w a xs.length cap) (w.heap.size + 1 + 1) a xs cap 0 0 ∧ Below w.heap.size w (lookW w a xs.length cap) ∧ (lookW w a xs.length cap).heap.size = w.heap.size + 1 + 1 + 1 ∧ (lookW w a xs.length cap).heap[w.heap.size]? = some (.cells #[.int .i64 0] 3 (0, 0)) ∧ (lookW w a xs.length cap).heap[w.heap.size + 1]? = some (.cells #[.int .i64 0] 30 (0, 0)) := by
  have hb : Below w.heap.size w ((w.alloc (.cells #[.int .i64 0] 3)).alloc (.cells #[.int .i64 0] 30)) := ((Below.refl _ _).alloc (Nat.le_refl _) _).alloc (by simp) _
  have hz : ((w.alloc (.cells #[.int .i64 0] 3)).alloc (.cells #[.int .i64 0] 30)).heap.size = w.heap.size + 1 + 1 := by simp
  have h1 := newRdr ((w.alloc (.cells #[.int .i64 0] 3)).alloc (.cells #[.int .i64 0] 30)) a xs cap (h.same (Same.of_below hb (Nat.le_refl _)) (Lo.le hb.size)) hcp hln
  rw [hz] at h1
  refine ⟨h1, hb.alloc (by simp; omega) _, by simp [lookW], ?_, ?_⟩
  · unfold lookW
    rw [Below.heap_alloc _ _ _ (by simp; omega), Below.heap_alloc _ _ _ (by simp)]
    exact heap_alloc_new w _
  · unfold lookW
    rw [Below.heap_alloc _ _ _ (by simp)]
    have := heap_alloc_new (w.alloc (.cells #[.int .i64 0] 3)) (.cells #[.int .i64 0] 30)
    simpa using this

set_option maxRecDepth 100000 in
set_option maxHeartbeats 1000000 in
theorem look_ok (xs : List Int) (hby : By xs) (t : Tm) (p2 a2 : Nat) (hr : Sp.rdV xs 64 0 0 = .ok (t, p2) a2) (a : Option Addr) (cap : Nat) (w : World) (hrd : RdB w (Lo w.heap.size) a xs) (hcp : xs.length ≤ cap) (hln : xs.length ≤ 281474976710656) :
    Calls Try.prog 44 #[.slice a xs.length cap] w fun e w' => e = .returned (.tuple #[.int .i64 (a2 : Int), .int .i64 0]) ∧ Below w.heap.size w w' := by
  have hmf : ∀ (fn : Fn) (first cap : Array Value) (w : World), (Instr.makeFunc fn first cap).run Try.prog w = .ok (.func fn first cap) w := fun _ _ _ _ => rfl
  have HX : Hid (By xs ∧ Sp.rdV xs 64 0 0 = .ok (t, p2) a2 ∧ RdB w (Lo w.heap.size) a xs ∧ xs.length ≤ cap ∧ xs.length ≤ 281474976710656) := ⟨hby, hr, hrd, hcp, hln⟩
  clear hby hr hrd hcp hln
  go_enter_defers Try.func44, Try.ntmps44
  go_wp2_with fail
  show Calls Try.prog _ _ (lookW w a xs.length cap) _
  obtain ⟨hR, hbW, hzW, hW0, hW1⟩ := lookW_rdr w a xs cap HX.out.2.2.1 HX.out.2.2.2.1 HX.out.2.2.2.2
  refine (value_ok xs HX.out.1 64 (Nat.le_refl _) (w.heap.size + 1 + 1) a cap 0 0 t p2 a2 _ 1 rfl hR HX.out.2.1).mono ?_
  rintro e w1 ⟨rfl, hr1, hb1⟩
  have hB0 := hb1.block w.heap.size (by omega) (by omega)
  have hB1 := hb1.block (w.heap.size + 1) (by omega) (by omega)
  rw [hW0] at hB0
  rw [hW1] at hB1
  have e0 : w1.cell? ⟨w.heap.size, 0, none⟩ = some (.int .i64 0) := by rw [cell_of_row _ _ 0 _ _ _ hB0]; rfl
  have e1 : w1.cell? ⟨w.heap.size + 1, 0, none⟩ = some (.int .i64 0) := by rw [cell_of_row _ _ 0 _ _ _ hB1]; rfl
  have z0 : w1.frozen? ⟨w.heap.size, 0, none⟩ = false := frozen_of_row _ _ 0 _ _ hB0
  have z1 : w1.frozen? ⟨w.heap.size + 1, 0, none⟩ = false := frozen_of_row _ _ 0 _ _ hB1
  have c1 := hr1.c1
  have HB : Hid (Below w.heap.size w w1) := hbW.trans (hb1.below (by omega))
  clear hr1 hb1 hR hbW hzW hW0 hW1 hB0 hB1
  go_wp2_with fail
  have HE : Hid (((w1.setCell ⟨w.heap.size, 0, none⟩ (.int .i64 (a2 : Int))).setCell ⟨w.heap.size + 1, 0, none⟩ (.int .i64 0)).cell? ⟨w.heap.size, 0, none⟩ = some (.int .i64 (a2 : Int)) ∧ ((w1.setCell ⟨w.heap.size, 0, none⟩ (.int .i64 (a2 : Int))).setCell ⟨w.heap.size + 1, 0, none⟩ (.int .i64 0)).cell? ⟨w.heap.size + 1, 0, none⟩ = some (.int .i64 0) ∧ Below w.heap.size w ((w1.setCell ⟨w.heap.size, 0, none⟩ (.int .i64 (a2 : Int))).setCell ⟨w.heap.size + 1, 0, none⟩ (.int .i64 0))) := by
    refine ⟨?_, ?_, ((HB.out.setCell (p := ⟨w.heap.size, 0, none⟩) (Nat.le_refl _) _).setCell (p := ⟨w.heap.size + 1, 0, none⟩) (Nat.le_succ _) _)⟩
    · rw [cell_off (by omega)]; exact sc_eq e0
    · exact sc_eq (by rw [cell_off (by omega)]; exact e1)
  generalize (w1.setCell ⟨w.heap.size, 0, none⟩ (.int .i64 (a2 : Int))).setCell ⟨w.heap.size + 1, 0, none⟩ (.int .i64 0) = W2 at HE ⊢
  refine leaves_cons (f := 84) (args := #[.pointer (some ⟨w.heap.size, 0, none⟩), .pointer (some ⟨w.heap.size + 1, 0, none⟩)]) (by simp) (by simp [go_sem]) ?_
  refine (catch_idle _ _ _).mono ?_
  rintro e u' w'' ⟨rfl, rfl, rfl⟩
  simp [Leaves, settle, results, Try.results44, go_sem, HE.out.1, HE.out.2.1]
  exact HE.out.2.2
end Go.Proofs.Ytjmhodngmfaboaa

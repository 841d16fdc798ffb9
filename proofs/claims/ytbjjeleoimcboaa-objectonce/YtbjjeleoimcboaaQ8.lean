/- tenonmake.pointer, and how the methods of the new object are found. -/
import Derived.Test.YtbjjeleoimcboaaQ7
import Derived.Deep.WholeRow
namespace Go.Proofs.Ytbjjeleoimcboaa
open Go.RowKit

set_option maxRecDepth 100000 in
set_option maxHeartbeats 2000000 in
theorem mx_pointer_0 (c : Nat) (w : World) (hc : w.cell? ⟨c, 1, none⟩ = some (.int .i64 0)) :
    Calls Try.prog 39 #[.pointer (some ⟨c, 0, none⟩)] w fun e w' => e = .returned (.iface 121 (.pointer (some ⟨w.heap.size, 0, none⟩))) ∧ w' = w.alloc (.cells #[.pointer (some ⟨c, 0, none⟩)] 138) := by
  go_enter Try.func39, Try.ntmps39
  go_wp2_with fail
  go_ret
  exact ⟨rfl, rfl⟩

set_option maxRecDepth 100000 in
set_option maxHeartbeats 2000000 in
theorem mx_pointer_1 (c : Nat) (w : World) (hc : w.cell? ⟨c, 1, none⟩ = some (.int .i64 1)) :
    Calls Try.prog 39 #[.pointer (some ⟨c, 0, none⟩)] w fun e w' => e = .returned (.iface 122 (.pointer (some ⟨w.heap.size, 0, none⟩))) ∧ w' = w.alloc (.cells #[.pointer (some ⟨c, 0, none⟩), .pointer (some ⟨c, 0, none⟩)] 140) := by
  go_enter Try.func39, Try.ntmps39
  go_wp2_with fail
  go_ret
  exact ⟨rfl, rfl⟩

set_option maxRecDepth 100000 in
set_option maxHeartbeats 2000000 in
theorem mx_pointer_2 (c : Nat) (w : World) (hc : w.cell? ⟨c, 1, none⟩ = some (.int .i64 2)) :
    Calls Try.prog 39 #[.pointer (some ⟨c, 0, none⟩)] w fun e w' => e = .returned (.iface 123 (.pointer (some ⟨w.heap.size, 0, none⟩))) ∧ w' = w.alloc (.cells #[.pointer (some ⟨c, 0, none⟩), .pointer (some ⟨c, 0, none⟩)] 142) := by
  go_enter Try.func39, Try.ntmps39
  go_wp2_with fail
  go_ret
  exact ⟨rfl, rfl⟩

set_option maxRecDepth 100000 in
set_option maxHeartbeats 2000000 in
theorem mx_pointer_3 (c : Nat) (w : World) (hc : w.cell? ⟨c, 1, none⟩ = some (.int .i64 3)) :
    Calls Try.prog 39 #[.pointer (some ⟨c, 0, none⟩)] w fun e w' => e = .returned (.iface 124 (.pointer (some ⟨w.heap.size, 0, none⟩))) ∧ w' = w.alloc (.cells #[.pointer (some ⟨c, 0, none⟩), .pointer (some ⟨c, 0, none⟩), .pointer (some ⟨c, 0, none⟩)] 144) := by
  go_enter Try.func39, Try.ntmps39
  go_wp2_with fail
  go_ret
  exact ⟨rfl, rfl⟩

set_option maxRecDepth 100000 in
set_option maxHeartbeats 2000000 in
theorem mx_pointer_4 (c : Nat) (w : World) (hc : w.cell? ⟨c, 1, none⟩ = some (.int .i64 4)) :
    Calls Try.prog 39 #[.pointer (some ⟨c, 0, none⟩)] w fun e w' => e = .returned (.iface 125 (.pointer (some ⟨w.heap.size, 0, none⟩))) ∧ w' = w.alloc (.cells #[.pointer (some ⟨c, 0, none⟩), .pointer (some ⟨c, 0, none⟩)] 146) := by
  go_enter Try.func39, Try.ntmps39
  go_wp2_with fail
  go_ret
  exact ⟨rfl, rfl⟩

theorem DxO_p4 (c b : Nat) (w : World) (hb : w.heap[b]? = some (.cells #[.pointer (some ⟨c, 0, none⟩), .pointer (some ⟨c, 0, none⟩)] 146)) (hn : c < b) : DxO 125 (.pointer (some ⟨b, 0, none⟩)) c w := by
  have hl : ∀ W, Kp c w W → (loadVar 105 ⟨b, 1, none⟩).run Try.prog W = .ok (.agg #[.pointer (some ⟨c, 0, none⟩)]) W := fun W hW => by
    have hr := (hW b hn (Array.getElem?_eq_some_iff.1 hb).1).trans hb
    exact run_loadVar_mid (P := Try.prog) W b 1 105 [.pointer (some ⟨c, 0, none⟩)] _ (fun j v hj => by
      match j, hj with
      | 0, hj => rw [cell_of_row _ _ _ _ _ _ hr]; simpa using hj
      | j + 1, hj => simp at hj) Try.underlying105 rfl (by kernel_rfl)
  exact ⟨fun W hW => (run_meth_ptr (S := 146) (idx := 1) (G := 105) (off := 1) (f := 104) (z := 0) (by kernel_rfl) (by kernel_rfl) (by kernel_rfl) Try.underlying105 (hl W hW)), fun W hW => (run_meth_ptr (S := 146) (idx := 1) (G := 105) (off := 1) (f := 103) (z := 0) (by kernel_rfl) (by kernel_rfl) (by kernel_rfl) Try.underlying105 (hl W hW))⟩
set_option maxRecDepth 100000 in
set_option maxHeartbeats 2000000 in
theorem mx_pointer_5 (c : Nat) (w : World) (hc : w.cell? ⟨c, 1, none⟩ = some (.int .i64 5)) :
    Calls Try.prog 39 #[.pointer (some ⟨c, 0, none⟩)] w fun e w' => e = .returned (.iface 126 (.pointer (some ⟨w.heap.size, 0, none⟩))) ∧ w' = w.alloc (.cells #[.pointer (some ⟨c, 0, none⟩), .pointer (some ⟨c, 0, none⟩), .pointer (some ⟨c, 0, none⟩)] 148) := by
  go_enter Try.func39, Try.ntmps39
  go_wp2_with fail
  go_ret
  exact ⟨rfl, rfl⟩

theorem DxO_p5 (c b : Nat) (w : World) (hb : w.heap[b]? = some (.cells #[.pointer (some ⟨c, 0, none⟩), .pointer (some ⟨c, 0, none⟩), .pointer (some ⟨c, 0, none⟩)] 148)) (hn : c < b) : DxO 126 (.pointer (some ⟨b, 0, none⟩)) c w := by
  have hl : ∀ W, Kp c w W → (loadVar 105 ⟨b, 2, none⟩).run Try.prog W = .ok (.agg #[.pointer (some ⟨c, 0, none⟩)]) W := fun W hW => by
    have hr := (hW b hn (Array.getElem?_eq_some_iff.1 hb).1).trans hb
    exact run_loadVar_mid (P := Try.prog) W b 2 105 [.pointer (some ⟨c, 0, none⟩)] _ (fun j v hj => by
      match j, hj with
      | 0, hj => rw [cell_of_row _ _ _ _ _ _ hr]; simpa using hj
      | j + 1, hj => simp at hj) Try.underlying105 rfl (by kernel_rfl)
  exact ⟨fun W hW => (run_meth_ptr (S := 148) (idx := 2) (G := 105) (off := 2) (f := 104) (z := 0) (by kernel_rfl) (by kernel_rfl) (by kernel_rfl) Try.underlying105 (hl W hW)), fun W hW => (run_meth_ptr (S := 148) (idx := 2) (G := 105) (off := 2) (f := 103) (z := 0) (by kernel_rfl) (by kernel_rfl) (by kernel_rfl) Try.underlying105 (hl W hW))⟩
set_option maxRecDepth 100000 in
set_option maxHeartbeats 2000000 in
theorem mx_pointer_6 (c : Nat) (w : World) (hc : w.cell? ⟨c, 1, none⟩ = some (.int .i64 6)) :
    Calls Try.prog 39 #[.pointer (some ⟨c, 0, none⟩)] w fun e w' => e = .returned (.iface 127 (.pointer (some ⟨w.heap.size, 0, none⟩))) ∧ w' = w.alloc (.cells #[.pointer (some ⟨c, 0, none⟩), .pointer (some ⟨c, 0, none⟩), .pointer (some ⟨c, 0, none⟩)] 150) := by
  go_enter Try.func39, Try.ntmps39
  go_wp2_with fail
  go_ret
  exact ⟨rfl, rfl⟩

theorem DxO_p6 (c b : Nat) (w : World) (hb : w.heap[b]? = some (.cells #[.pointer (some ⟨c, 0, none⟩), .pointer (some ⟨c, 0, none⟩), .pointer (some ⟨c, 0, none⟩)] 150)) (hn : c < b) : DxO 127 (.pointer (some ⟨b, 0, none⟩)) c w := by
  have hl : ∀ W, Kp c w W → (loadVar 105 ⟨b, 2, none⟩).run Try.prog W = .ok (.agg #[.pointer (some ⟨c, 0, none⟩)]) W := fun W hW => by
    have hr := (hW b hn (Array.getElem?_eq_some_iff.1 hb).1).trans hb
    exact run_loadVar_mid (P := Try.prog) W b 2 105 [.pointer (some ⟨c, 0, none⟩)] _ (fun j v hj => by
      match j, hj with
      | 0, hj => rw [cell_of_row _ _ _ _ _ _ hr]; simpa using hj
      | j + 1, hj => simp at hj) Try.underlying105 rfl (by kernel_rfl)
  exact ⟨fun W hW => (run_meth_ptr (S := 150) (idx := 2) (G := 105) (off := 2) (f := 104) (z := 0) (by kernel_rfl) (by kernel_rfl) (by kernel_rfl) Try.underlying105 (hl W hW)), fun W hW => (run_meth_ptr (S := 150) (idx := 2) (G := 105) (off := 2) (f := 103) (z := 0) (by kernel_rfl) (by kernel_rfl) (by kernel_rfl) Try.underlying105 (hl W hW))⟩
set_option maxRecDepth 100000 in
set_option maxHeartbeats 2000000 in
theorem mx_pointer_7 (c : Nat) (w : World) (hc : w.cell? ⟨c, 1, none⟩ = some (.int .i64 7)) :
    Calls Try.prog 39 #[.pointer (some ⟨c, 0, none⟩)] w fun e w' => e = .returned (.iface 128 (.pointer (some ⟨w.heap.size, 0, none⟩))) ∧ w' = w.alloc (.cells #[.pointer (some ⟨c, 0, none⟩), .pointer (some ⟨c, 0, none⟩), .pointer (some ⟨c, 0, none⟩), .pointer (some ⟨c, 0, none⟩)] 152) := by
  go_enter Try.func39, Try.ntmps39
  go_wp2_with fail
  go_ret
  exact ⟨rfl, rfl⟩

theorem DxO_p7 (c b : Nat) (w : World) (hb : w.heap[b]? = some (.cells #[.pointer (some ⟨c, 0, none⟩), .pointer (some ⟨c, 0, none⟩), .pointer (some ⟨c, 0, none⟩), .pointer (some ⟨c, 0, none⟩)] 152)) (hn : c < b) : DxO 128 (.pointer (some ⟨b, 0, none⟩)) c w := by
  have hl : ∀ W, Kp c w W → (loadVar 105 ⟨b, 3, none⟩).run Try.prog W = .ok (.agg #[.pointer (some ⟨c, 0, none⟩)]) W := fun W hW => by
    have hr := (hW b hn (Array.getElem?_eq_some_iff.1 hb).1).trans hb
    exact run_loadVar_mid (P := Try.prog) W b 3 105 [.pointer (some ⟨c, 0, none⟩)] _ (fun j v hj => by
      match j, hj with
      | 0, hj => rw [cell_of_row _ _ _ _ _ _ hr]; simpa using hj
      | j + 1, hj => simp at hj) Try.underlying105 rfl (by kernel_rfl)
  exact ⟨fun W hW => (run_meth_ptr (S := 152) (idx := 3) (G := 105) (off := 3) (f := 104) (z := 0) (by kernel_rfl) (by kernel_rfl) (by kernel_rfl) Try.underlying105 (hl W hW)), fun W hW => (run_meth_ptr (S := 152) (idx := 3) (G := 105) (off := 3) (f := 103) (z := 0) (by kernel_rfl) (by kernel_rfl) (by kernel_rfl) Try.underlying105 (hl W hW))⟩
set_option maxRecDepth 100000 in
set_option maxHeartbeats 2000000 in
theorem mx_pointer_8 (c : Nat) (w : World) (hc : w.cell? ⟨c, 1, none⟩ = some (.int .i64 8)) :
    Calls Try.prog 39 #[.pointer (some ⟨c, 0, none⟩)] w fun e w' => e = .returned (.iface 129 (.pointer (some ⟨w.heap.size, 0, none⟩))) ∧ w' = w.alloc (.cells #[.pointer (some ⟨c, 0, none⟩), .pointer (some ⟨c, 0, none⟩)] 154) := by
  go_enter Try.func39, Try.ntmps39
  go_wp2_with fail
  go_ret
  exact ⟨rfl, rfl⟩

theorem DxL_p8 (c b : Nat) (w : World) (hb : w.heap[b]? = some (.cells #[.pointer (some ⟨c, 0, none⟩), .pointer (some ⟨c, 0, none⟩)] 154)) (hn : c < b) : DxL 129 (.pointer (some ⟨b, 0, none⟩)) c w := by
  have hl : ∀ W, Kp c w W → (loadVar 107 ⟨b, 1, none⟩).run Try.prog W = .ok (.agg #[.pointer (some ⟨c, 0, none⟩)]) W := fun W hW => by
    have hr := (hW b hn (Array.getElem?_eq_some_iff.1 hb).1).trans hb
    exact run_loadVar_mid (P := Try.prog) W b 1 107 [.pointer (some ⟨c, 0, none⟩)] _ (fun j v hj => by
      match j, hj with
      | 0, hj => rw [cell_of_row _ _ _ _ _ _ hr]; simpa using hj
      | j + 1, hj => simp at hj) Try.underlying107 rfl (by kernel_rfl)
  exact ⟨fun W hW => (run_meth_ptr (S := 154) (idx := 1) (G := 107) (off := 1) (f := 106) (z := 0) (by kernel_rfl) (by kernel_rfl) (by kernel_rfl) Try.underlying107 (hl W hW)), fun W hW => (run_meth_ptr (S := 154) (idx := 1) (G := 107) (off := 1) (f := 105) (z := 0) (by kernel_rfl) (by kernel_rfl) (by kernel_rfl) Try.underlying107 (hl W hW))⟩
set_option maxRecDepth 100000 in
set_option maxHeartbeats 2000000 in
theorem mx_pointer_9 (c : Nat) (w : World) (hc : w.cell? ⟨c, 1, none⟩ = some (.int .i64 9)) :
    Calls Try.prog 39 #[.pointer (some ⟨c, 0, none⟩)] w fun e w' => e = .returned (.iface 130 (.pointer (some ⟨w.heap.size, 0, none⟩))) ∧ w' = w.alloc (.cells #[.pointer (some ⟨c, 0, none⟩), .pointer (some ⟨c, 0, none⟩), .pointer (some ⟨c, 0, none⟩)] 156) := by
  go_enter Try.func39, Try.ntmps39
  go_wp2_with fail
  go_ret
  exact ⟨rfl, rfl⟩

theorem DxL_p9 (c b : Nat) (w : World) (hb : w.heap[b]? = some (.cells #[.pointer (some ⟨c, 0, none⟩), .pointer (some ⟨c, 0, none⟩), .pointer (some ⟨c, 0, none⟩)] 156)) (hn : c < b) : DxL 130 (.pointer (some ⟨b, 0, none⟩)) c w := by
  have hl : ∀ W, Kp c w W → (loadVar 107 ⟨b, 2, none⟩).run Try.prog W = .ok (.agg #[.pointer (some ⟨c, 0, none⟩)]) W := fun W hW => by
    have hr := (hW b hn (Array.getElem?_eq_some_iff.1 hb).1).trans hb
    exact run_loadVar_mid (P := Try.prog) W b 2 107 [.pointer (some ⟨c, 0, none⟩)] _ (fun j v hj => by
      match j, hj with
      | 0, hj => rw [cell_of_row _ _ _ _ _ _ hr]; simpa using hj
      | j + 1, hj => simp at hj) Try.underlying107 rfl (by kernel_rfl)
  exact ⟨fun W hW => (run_meth_ptr (S := 156) (idx := 2) (G := 107) (off := 2) (f := 106) (z := 0) (by kernel_rfl) (by kernel_rfl) (by kernel_rfl) Try.underlying107 (hl W hW)), fun W hW => (run_meth_ptr (S := 156) (idx := 2) (G := 107) (off := 2) (f := 105) (z := 0) (by kernel_rfl) (by kernel_rfl) (by kernel_rfl) Try.underlying107 (hl W hW))⟩
set_option maxRecDepth 100000 in
set_option maxHeartbeats 2000000 in
theorem mx_pointer_10 (c : Nat) (w : World) (hc : w.cell? ⟨c, 1, none⟩ = some (.int .i64 10)) :
    Calls Try.prog 39 #[.pointer (some ⟨c, 0, none⟩)] w fun e w' => e = .returned (.iface 131 (.pointer (some ⟨w.heap.size, 0, none⟩))) ∧ w' = w.alloc (.cells #[.pointer (some ⟨c, 0, none⟩), .pointer (some ⟨c, 0, none⟩), .pointer (some ⟨c, 0, none⟩)] 158) := by
  go_enter Try.func39, Try.ntmps39
  go_wp2_with fail
  go_ret
  exact ⟨rfl, rfl⟩

theorem DxL_p10 (c b : Nat) (w : World) (hb : w.heap[b]? = some (.cells #[.pointer (some ⟨c, 0, none⟩), .pointer (some ⟨c, 0, none⟩), .pointer (some ⟨c, 0, none⟩)] 158)) (hn : c < b) : DxL 131 (.pointer (some ⟨b, 0, none⟩)) c w := by
  have hl : ∀ W, Kp c w W → (loadVar 107 ⟨b, 2, none⟩).run Try.prog W = .ok (.agg #[.pointer (some ⟨c, 0, none⟩)]) W := fun W hW => by
    have hr := (hW b hn (Array.getElem?_eq_some_iff.1 hb).1).trans hb
    exact run_loadVar_mid (P := Try.prog) W b 2 107 [.pointer (some ⟨c, 0, none⟩)] _ (fun j v hj => by
      match j, hj with
      | 0, hj => rw [cell_of_row _ _ _ _ _ _ hr]; simpa using hj
      | j + 1, hj => simp at hj) Try.underlying107 rfl (by kernel_rfl)
  exact ⟨fun W hW => (run_meth_ptr (S := 158) (idx := 2) (G := 107) (off := 2) (f := 106) (z := 0) (by kernel_rfl) (by kernel_rfl) (by kernel_rfl) Try.underlying107 (hl W hW)), fun W hW => (run_meth_ptr (S := 158) (idx := 2) (G := 107) (off := 2) (f := 105) (z := 0) (by kernel_rfl) (by kernel_rfl) (by kernel_rfl) Try.underlying107 (hl W hW))⟩
set_option maxRecDepth 100000 in
set_option maxHeartbeats 2000000 in
theorem mx_pointer_11 (c : Nat) (w : World) (hc : w.cell? ⟨c, 1, none⟩ = some (.int .i64 11)) :
    Calls Try.prog 39 #[.pointer (some ⟨c, 0, none⟩)] w fun e w' => e = .returned (.iface 132 (.pointer (some ⟨w.heap.size, 0, none⟩))) ∧ w' = w.alloc (.cells #[.pointer (some ⟨c, 0, none⟩), .pointer (some ⟨c, 0, none⟩), .pointer (some ⟨c, 0, none⟩), .pointer (some ⟨c, 0, none⟩)] 160) := by
  go_enter Try.func39, Try.ntmps39
  go_wp2_with fail
  go_ret
  exact ⟨rfl, rfl⟩

theorem DxL_p11 (c b : Nat) (w : World) (hb : w.heap[b]? = some (.cells #[.pointer (some ⟨c, 0, none⟩), .pointer (some ⟨c, 0, none⟩), .pointer (some ⟨c, 0, none⟩), .pointer (some ⟨c, 0, none⟩)] 160)) (hn : c < b) : DxL 132 (.pointer (some ⟨b, 0, none⟩)) c w := by
  have hl : ∀ W, Kp c w W → (loadVar 107 ⟨b, 3, none⟩).run Try.prog W = .ok (.agg #[.pointer (some ⟨c, 0, none⟩)]) W := fun W hW => by
    have hr := (hW b hn (Array.getElem?_eq_some_iff.1 hb).1).trans hb
    exact run_loadVar_mid (P := Try.prog) W b 3 107 [.pointer (some ⟨c, 0, none⟩)] _ (fun j v hj => by
      match j, hj with
      | 0, hj => rw [cell_of_row _ _ _ _ _ _ hr]; simpa using hj
      | j + 1, hj => simp at hj) Try.underlying107 rfl (by kernel_rfl)
  exact ⟨fun W hW => (run_meth_ptr (S := 160) (idx := 3) (G := 107) (off := 3) (f := 106) (z := 0) (by kernel_rfl) (by kernel_rfl) (by kernel_rfl) Try.underlying107 (hl W hW)), fun W hW => (run_meth_ptr (S := 160) (idx := 3) (G := 107) (off := 3) (f := 105) (z := 0) (by kernel_rfl) (by kernel_rfl) (by kernel_rfl) Try.underlying107 (hl W hW))⟩
set_option maxRecDepth 100000 in
set_option maxHeartbeats 2000000 in
theorem mx_pointer_12 (c : Nat) (w : World) (hc : w.cell? ⟨c, 1, none⟩ = some (.int .i64 12)) :
    Calls Try.prog 39 #[.pointer (some ⟨c, 0, none⟩)] w fun e w' => e = .returned (.iface 133 (.pointer (some ⟨w.heap.size, 0, none⟩))) ∧ w' = w.alloc (.cells #[.pointer (some ⟨c, 0, none⟩), .pointer (some ⟨c, 0, none⟩), .pointer (some ⟨c, 0, none⟩)] 162) := by
  go_enter Try.func39, Try.ntmps39
  go_wp2_with fail
  go_ret
  exact ⟨rfl, rfl⟩

theorem DxO_p12 (c b : Nat) (w : World) (hb : w.heap[b]? = some (.cells #[.pointer (some ⟨c, 0, none⟩), .pointer (some ⟨c, 0, none⟩), .pointer (some ⟨c, 0, none⟩)] 162)) (hn : c < b) : DxO 133 (.pointer (some ⟨b, 0, none⟩)) c w := by
  have hl : ∀ W, Kp c w W → (loadVar 105 ⟨b, 1, none⟩).run Try.prog W = .ok (.agg #[.pointer (some ⟨c, 0, none⟩)]) W := fun W hW => by
    have hr := (hW b hn (Array.getElem?_eq_some_iff.1 hb).1).trans hb
    exact run_loadVar_mid (P := Try.prog) W b 1 105 [.pointer (some ⟨c, 0, none⟩)] _ (fun j v hj => by
      match j, hj with
      | 0, hj => rw [cell_of_row _ _ _ _ _ _ hr]; simpa using hj
      | j + 1, hj => simp at hj) Try.underlying105 rfl (by kernel_rfl)
  exact ⟨fun W hW => (run_meth_ptr (S := 162) (idx := 1) (G := 105) (off := 1) (f := 104) (z := 0) (by kernel_rfl) (by kernel_rfl) (by kernel_rfl) Try.underlying105 (hl W hW)), fun W hW => (run_meth_ptr (S := 162) (idx := 1) (G := 105) (off := 1) (f := 103) (z := 0) (by kernel_rfl) (by kernel_rfl) (by kernel_rfl) Try.underlying105 (hl W hW))⟩
theorem DxL_p12 (c b : Nat) (w : World) (hb : w.heap[b]? = some (.cells #[.pointer (some ⟨c, 0, none⟩), .pointer (some ⟨c, 0, none⟩), .pointer (some ⟨c, 0, none⟩)] 162)) (hn : c < b) : DxL 133 (.pointer (some ⟨b, 0, none⟩)) c w := by
  have hl : ∀ W, Kp c w W → (loadVar 107 ⟨b, 2, none⟩).run Try.prog W = .ok (.agg #[.pointer (some ⟨c, 0, none⟩)]) W := fun W hW => by
    have hr := (hW b hn (Array.getElem?_eq_some_iff.1 hb).1).trans hb
    exact run_loadVar_mid (P := Try.prog) W b 2 107 [.pointer (some ⟨c, 0, none⟩)] _ (fun j v hj => by
      match j, hj with
      | 0, hj => rw [cell_of_row _ _ _ _ _ _ hr]; simpa using hj
      | j + 1, hj => simp at hj) Try.underlying107 rfl (by kernel_rfl)
  exact ⟨fun W hW => (run_meth_ptr (S := 162) (idx := 2) (G := 107) (off := 2) (f := 106) (z := 0) (by kernel_rfl) (by kernel_rfl) (by kernel_rfl) Try.underlying107 (hl W hW)), fun W hW => (run_meth_ptr (S := 162) (idx := 2) (G := 107) (off := 2) (f := 105) (z := 0) (by kernel_rfl) (by kernel_rfl) (by kernel_rfl) Try.underlying107 (hl W hW))⟩
set_option maxRecDepth 100000 in
set_option maxHeartbeats 2000000 in
theorem mx_pointer_13 (c : Nat) (w : World) (hc : w.cell? ⟨c, 1, none⟩ = some (.int .i64 13)) :
    Calls Try.prog 39 #[.pointer (some ⟨c, 0, none⟩)] w fun e w' => e = .returned (.iface 134 (.pointer (some ⟨w.heap.size, 0, none⟩))) ∧ w' = w.alloc (.cells #[.pointer (some ⟨c, 0, none⟩), .pointer (some ⟨c, 0, none⟩), .pointer (some ⟨c, 0, none⟩), .pointer (some ⟨c, 0, none⟩)] 164) := by
  go_enter Try.func39, Try.ntmps39
  go_wp2_with fail
  go_ret
  exact ⟨rfl, rfl⟩

theorem DxO_p13 (c b : Nat) (w : World) (hb : w.heap[b]? = some (.cells #[.pointer (some ⟨c, 0, none⟩), .pointer (some ⟨c, 0, none⟩), .pointer (some ⟨c, 0, none⟩), .pointer (some ⟨c, 0, none⟩)] 164)) (hn : c < b) : DxO 134 (.pointer (some ⟨b, 0, none⟩)) c w := by
  have hl : ∀ W, Kp c w W → (loadVar 105 ⟨b, 2, none⟩).run Try.prog W = .ok (.agg #[.pointer (some ⟨c, 0, none⟩)]) W := fun W hW => by
    have hr := (hW b hn (Array.getElem?_eq_some_iff.1 hb).1).trans hb
    exact run_loadVar_mid (P := Try.prog) W b 2 105 [.pointer (some ⟨c, 0, none⟩)] _ (fun j v hj => by
      match j, hj with
      | 0, hj => rw [cell_of_row _ _ _ _ _ _ hr]; simpa using hj
      | j + 1, hj => simp at hj) Try.underlying105 rfl (by kernel_rfl)
  exact ⟨fun W hW => (run_meth_ptr (S := 164) (idx := 2) (G := 105) (off := 2) (f := 104) (z := 0) (by kernel_rfl) (by kernel_rfl) (by kernel_rfl) Try.underlying105 (hl W hW)), fun W hW => (run_meth_ptr (S := 164) (idx := 2) (G := 105) (off := 2) (f := 103) (z := 0) (by kernel_rfl) (by kernel_rfl) (by kernel_rfl) Try.underlying105 (hl W hW))⟩
theorem DxL_p13 (c b : Nat) (w : World) (hb : w.heap[b]? = some (.cells #[.pointer (some ⟨c, 0, none⟩), .pointer (some ⟨c, 0, none⟩), .pointer (some ⟨c, 0, none⟩), .pointer (some ⟨c, 0, none⟩)] 164)) (hn : c < b) : DxL 134 (.pointer (some ⟨b, 0, none⟩)) c w := by
  have hl : ∀ W, Kp c w W → (loadVar 107 ⟨b, 3, none⟩).run Try.prog W = .ok (.agg #[.pointer (some ⟨c, 0, none⟩)]) W := fun W hW => by
    have hr := (hW b hn (Array.getElem?_eq_some_iff.1 hb).1).trans hb
    exact run_loadVar_mid (P := Try.prog) W b 3 107 [.pointer (some ⟨c, 0, none⟩)] _ (fun j v hj => by
      match j, hj with
      | 0, hj => rw [cell_of_row _ _ _ _ _ _ hr]; simpa using hj
      | j + 1, hj => simp at hj) Try.underlying107 rfl (by kernel_rfl)
  exact ⟨fun W hW => (run_meth_ptr (S := 164) (idx := 3) (G := 107) (off := 3) (f := 106) (z := 0) (by kernel_rfl) (by kernel_rfl) (by kernel_rfl) Try.underlying107 (hl W hW)), fun W hW => (run_meth_ptr (S := 164) (idx := 3) (G := 107) (off := 3) (f := 105) (z := 0) (by kernel_rfl) (by kernel_rfl) (by kernel_rfl) Try.underlying107 (hl W hW))⟩
set_option maxRecDepth 100000 in
set_option maxHeartbeats 2000000 in
theorem mx_pointer_14 (c : Nat) (w : World) (hc : w.cell? ⟨c, 1, none⟩ = some (.int .i64 14)) :
    Calls Try.prog 39 #[.pointer (some ⟨c, 0, none⟩)] w fun e w' => e = .returned (.iface 135 (.pointer (some ⟨w.heap.size, 0, none⟩))) ∧ w' = w.alloc (.cells #[.pointer (some ⟨c, 0, none⟩), .pointer (some ⟨c, 0, none⟩), .pointer (some ⟨c, 0, none⟩), .pointer (some ⟨c, 0, none⟩)] 166) := by
  go_enter Try.func39, Try.ntmps39
  go_wp2_with fail
  go_ret
  exact ⟨rfl, rfl⟩

theorem DxO_p14 (c b : Nat) (w : World) (hb : w.heap[b]? = some (.cells #[.pointer (some ⟨c, 0, none⟩), .pointer (some ⟨c, 0, none⟩), .pointer (some ⟨c, 0, none⟩), .pointer (some ⟨c, 0, none⟩)] 166)) (hn : c < b) : DxO 135 (.pointer (some ⟨b, 0, none⟩)) c w := by
  have hl : ∀ W, Kp c w W → (loadVar 105 ⟨b, 2, none⟩).run Try.prog W = .ok (.agg #[.pointer (some ⟨c, 0, none⟩)]) W := fun W hW => by
    have hr := (hW b hn (Array.getElem?_eq_some_iff.1 hb).1).trans hb
    exact run_loadVar_mid (P := Try.prog) W b 2 105 [.pointer (some ⟨c, 0, none⟩)] _ (fun j v hj => by
      match j, hj with
      | 0, hj => rw [cell_of_row _ _ _ _ _ _ hr]; simpa using hj
      | j + 1, hj => simp at hj) Try.underlying105 rfl (by kernel_rfl)
  exact ⟨fun W hW => (run_meth_ptr (S := 166) (idx := 2) (G := 105) (off := 2) (f := 104) (z := 0) (by kernel_rfl) (by kernel_rfl) (by kernel_rfl) Try.underlying105 (hl W hW)), fun W hW => (run_meth_ptr (S := 166) (idx := 2) (G := 105) (off := 2) (f := 103) (z := 0) (by kernel_rfl) (by kernel_rfl) (by kernel_rfl) Try.underlying105 (hl W hW))⟩
theorem DxL_p14 (c b : Nat) (w : World) (hb : w.heap[b]? = some (.cells #[.pointer (some ⟨c, 0, none⟩), .pointer (some ⟨c, 0, none⟩), .pointer (some ⟨c, 0, none⟩), .pointer (some ⟨c, 0, none⟩)] 166)) (hn : c < b) : DxL 135 (.pointer (some ⟨b, 0, none⟩)) c w := by
  have hl : ∀ W, Kp c w W → (loadVar 107 ⟨b, 3, none⟩).run Try.prog W = .ok (.agg #[.pointer (some ⟨c, 0, none⟩)]) W := fun W hW => by
    have hr := (hW b hn (Array.getElem?_eq_some_iff.1 hb).1).trans hb
    exact run_loadVar_mid (P := Try.prog) W b 3 107 [.pointer (some ⟨c, 0, none⟩)] _ (fun j v hj => by
      match j, hj with
      | 0, hj => rw [cell_of_row _ _ _ _ _ _ hr]; simpa using hj
      | j + 1, hj => simp at hj) Try.underlying107 rfl (by kernel_rfl)
  exact ⟨fun W hW => (run_meth_ptr (S := 166) (idx := 3) (G := 107) (off := 3) (f := 106) (z := 0) (by kernel_rfl) (by kernel_rfl) (by kernel_rfl) Try.underlying107 (hl W hW)), fun W hW => (run_meth_ptr (S := 166) (idx := 3) (G := 107) (off := 3) (f := 105) (z := 0) (by kernel_rfl) (by kernel_rfl) (by kernel_rfl) Try.underlying107 (hl W hW))⟩
set_option maxRecDepth 100000 in
set_option maxHeartbeats 2000000 in
theorem mx_pointer_15 (c : Nat) (w : World) (hc : w.cell? ⟨c, 1, none⟩ = some (.int .i64 15)) :
    Calls Try.prog 39 #[.pointer (some ⟨c, 0, none⟩)] w fun e w' => e = .returned (.iface 136 (.pointer (some ⟨w.heap.size, 0, none⟩))) ∧ w' = w.alloc (.cells #[.pointer (some ⟨c, 0, none⟩), .pointer (some ⟨c, 0, none⟩), .pointer (some ⟨c, 0, none⟩), .pointer (some ⟨c, 0, none⟩), .pointer (some ⟨c, 0, none⟩)] 109) := by
  go_enter Try.func39, Try.ntmps39
  go_wp2_with fail
  go_ret
  exact ⟨rfl, rfl⟩

theorem DxO_p15 (c b : Nat) (w : World) (hb : w.heap[b]? = some (.cells #[.pointer (some ⟨c, 0, none⟩), .pointer (some ⟨c, 0, none⟩), .pointer (some ⟨c, 0, none⟩), .pointer (some ⟨c, 0, none⟩), .pointer (some ⟨c, 0, none⟩)] 109)) (hn : c < b) : DxO 136 (.pointer (some ⟨b, 0, none⟩)) c w := by
  have hl : ∀ W, Kp c w W → (loadVar 105 ⟨b, 3, none⟩).run Try.prog W = .ok (.agg #[.pointer (some ⟨c, 0, none⟩)]) W := fun W hW => by
    have hr := (hW b hn (Array.getElem?_eq_some_iff.1 hb).1).trans hb
    exact run_loadVar_mid (P := Try.prog) W b 3 105 [.pointer (some ⟨c, 0, none⟩)] _ (fun j v hj => by
      match j, hj with
      | 0, hj => rw [cell_of_row _ _ _ _ _ _ hr]; simpa using hj
      | j + 1, hj => simp at hj) Try.underlying105 rfl (by kernel_rfl)
  exact ⟨fun W hW => (run_meth_ptr (S := 109) (idx := 3) (G := 105) (off := 3) (f := 104) (z := 0) (by kernel_rfl) (by kernel_rfl) (by kernel_rfl) Try.underlying105 (hl W hW)), fun W hW => (run_meth_ptr (S := 109) (idx := 3) (G := 105) (off := 3) (f := 103) (z := 0) (by kernel_rfl) (by kernel_rfl) (by kernel_rfl) Try.underlying105 (hl W hW))⟩
theorem DxL_p15 (c b : Nat) (w : World) (hb : w.heap[b]? = some (.cells #[.pointer (some ⟨c, 0, none⟩), .pointer (some ⟨c, 0, none⟩), .pointer (some ⟨c, 0, none⟩), .pointer (some ⟨c, 0, none⟩), .pointer (some ⟨c, 0, none⟩)] 109)) (hn : c < b) : DxL 136 (.pointer (some ⟨b, 0, none⟩)) c w := by
  have hl : ∀ W, Kp c w W → (loadVar 107 ⟨b, 4, none⟩).run Try.prog W = .ok (.agg #[.pointer (some ⟨c, 0, none⟩)]) W := fun W hW => by
    have hr := (hW b hn (Array.getElem?_eq_some_iff.1 hb).1).trans hb
    exact run_loadVar_mid (P := Try.prog) W b 4 107 [.pointer (some ⟨c, 0, none⟩)] _ (fun j v hj => by
      match j, hj with
      | 0, hj => rw [cell_of_row _ _ _ _ _ _ hr]; simpa using hj
      | j + 1, hj => simp at hj) Try.underlying107 rfl (by kernel_rfl)
  exact ⟨fun W hW => (run_meth_ptr (S := 109) (idx := 4) (G := 107) (off := 4) (f := 106) (z := 0) (by kernel_rfl) (by kernel_rfl) (by kernel_rfl) Try.underlying107 (hl W hW)), fun W hW => (run_meth_ptr (S := 109) (idx := 4) (G := 107) (off := 4) (f := 105) (z := 0) (by kernel_rfl) (by kernel_rfl) (by kernel_rfl) Try.underlying107 (hl W hW))⟩
theorem mx_pointer_any (n : Nat) (hn : n < 16) (c : Nat) (w : World) (hc : w.cell? ⟨c, 1, none⟩ = some (.int .i64 (n : Int))) :
    Calls Try.prog 39 #[.pointer (some ⟨c, 0, none⟩)] w fun e w' => ∃ T v, e = .returned (.iface T v) ∧ Ab T n ∧ T ≠ 55 ∧ Dx T v n c w' ∧ Below w.heap.size w w' := by
  have hl := World.block_lt_of_cell? _ _ hc
  have hcase : n = 0 ∨ n = 1 ∨ n = 2 ∨ n = 3 ∨ n = 4 ∨ n = 5 ∨ n = 6 ∨ n = 7 ∨ n = 8 ∨ n = 9 ∨ n = 10 ∨ n = 11 ∨ n = 12 ∨ n = 13 ∨ n = 14 ∨ n = 15 := by omega
  rcases hcase with rfl | rfl | rfl | rfl | rfl | rfl | rfl | rfl | rfl | rfl | rfl | rfl | rfl | rfl | rfl | rfl
  · refine (mx_pointer_0 c w hc).mono ?_
    rintro e w' ⟨rfl, rfl⟩
    exact ⟨_, _, rfl, Ab_p0, by decide, ⟨fun h => absurd h (by decide), fun h => absurd h (by decide)⟩, (Below.refl _ _).alloc (Nat.le_refl _) _⟩
  · refine (mx_pointer_1 c w hc).mono ?_
    rintro e w' ⟨rfl, rfl⟩
    exact ⟨_, _, rfl, Ab_p1, by decide, ⟨fun h => absurd h (by decide), fun h => absurd h (by decide)⟩, (Below.refl _ _).alloc (Nat.le_refl _) _⟩
  · refine (mx_pointer_2 c w hc).mono ?_
    rintro e w' ⟨rfl, rfl⟩
    exact ⟨_, _, rfl, Ab_p2, by decide, ⟨fun h => absurd h (by decide), fun h => absurd h (by decide)⟩, (Below.refl _ _).alloc (Nat.le_refl _) _⟩
  · refine (mx_pointer_3 c w hc).mono ?_
    rintro e w' ⟨rfl, rfl⟩
    exact ⟨_, _, rfl, Ab_p3, by decide, ⟨fun h => absurd h (by decide), fun h => absurd h (by decide)⟩, (Below.refl _ _).alloc (Nat.le_refl _) _⟩
  · refine (mx_pointer_4 c w hc).mono ?_
    rintro e w' ⟨rfl, rfl⟩
    exact ⟨_, _, rfl, Ab_p4, by decide, ⟨fun _ => DxO_p4 c _ _ (heap_alloc_last _ _) hl, fun h => absurd h (by decide)⟩, (Below.refl _ _).alloc (Nat.le_refl _) _⟩
  · refine (mx_pointer_5 c w hc).mono ?_
    rintro e w' ⟨rfl, rfl⟩
    exact ⟨_, _, rfl, Ab_p5, by decide, ⟨fun _ => DxO_p5 c _ _ (heap_alloc_last _ _) hl, fun h => absurd h (by decide)⟩, (Below.refl _ _).alloc (Nat.le_refl _) _⟩
  · refine (mx_pointer_6 c w hc).mono ?_
    rintro e w' ⟨rfl, rfl⟩
    exact ⟨_, _, rfl, Ab_p6, by decide, ⟨fun _ => DxO_p6 c _ _ (heap_alloc_last _ _) hl, fun h => absurd h (by decide)⟩, (Below.refl _ _).alloc (Nat.le_refl _) _⟩
  · refine (mx_pointer_7 c w hc).mono ?_
    rintro e w' ⟨rfl, rfl⟩
    exact ⟨_, _, rfl, Ab_p7, by decide, ⟨fun _ => DxO_p7 c _ _ (heap_alloc_last _ _) hl, fun h => absurd h (by decide)⟩, (Below.refl _ _).alloc (Nat.le_refl _) _⟩
  · refine (mx_pointer_8 c w hc).mono ?_
    rintro e w' ⟨rfl, rfl⟩
    exact ⟨_, _, rfl, Ab_p8, by decide, ⟨fun h => absurd h (by decide), fun _ => DxL_p8 c _ _ (heap_alloc_last _ _) hl⟩, (Below.refl _ _).alloc (Nat.le_refl _) _⟩
  · refine (mx_pointer_9 c w hc).mono ?_
    rintro e w' ⟨rfl, rfl⟩
    exact ⟨_, _, rfl, Ab_p9, by decide, ⟨fun h => absurd h (by decide), fun _ => DxL_p9 c _ _ (heap_alloc_last _ _) hl⟩, (Below.refl _ _).alloc (Nat.le_refl _) _⟩
  · refine (mx_pointer_10 c w hc).mono ?_
    rintro e w' ⟨rfl, rfl⟩
    exact ⟨_, _, rfl, Ab_p10, by decide, ⟨fun h => absurd h (by decide), fun _ => DxL_p10 c _ _ (heap_alloc_last _ _) hl⟩, (Below.refl _ _).alloc (Nat.le_refl _) _⟩
  · refine (mx_pointer_11 c w hc).mono ?_
    rintro e w' ⟨rfl, rfl⟩
    exact ⟨_, _, rfl, Ab_p11, by decide, ⟨fun h => absurd h (by decide), fun _ => DxL_p11 c _ _ (heap_alloc_last _ _) hl⟩, (Below.refl _ _).alloc (Nat.le_refl _) _⟩
  · refine (mx_pointer_12 c w hc).mono ?_
    rintro e w' ⟨rfl, rfl⟩
    exact ⟨_, _, rfl, Ab_p12, by decide, ⟨fun _ => DxO_p12 c _ _ (heap_alloc_last _ _) hl, fun _ => DxL_p12 c _ _ (heap_alloc_last _ _) hl⟩, (Below.refl _ _).alloc (Nat.le_refl _) _⟩
  · refine (mx_pointer_13 c w hc).mono ?_
    rintro e w' ⟨rfl, rfl⟩
    exact ⟨_, _, rfl, Ab_p13, by decide, ⟨fun _ => DxO_p13 c _ _ (heap_alloc_last _ _) hl, fun _ => DxL_p13 c _ _ (heap_alloc_last _ _) hl⟩, (Below.refl _ _).alloc (Nat.le_refl _) _⟩
  · refine (mx_pointer_14 c w hc).mono ?_
    rintro e w' ⟨rfl, rfl⟩
    exact ⟨_, _, rfl, Ab_p14, by decide, ⟨fun _ => DxO_p14 c _ _ (heap_alloc_last _ _) hl, fun _ => DxL_p14 c _ _ (heap_alloc_last _ _) hl⟩, (Below.refl _ _).alloc (Nat.le_refl _) _⟩
  · refine (mx_pointer_15 c w hc).mono ?_
    rintro e w' ⟨rfl, rfl⟩
    exact ⟨_, _, rfl, Ab_p15, by decide, ⟨fun _ => DxO_p15 c _ _ (heap_alloc_last _ _) hl, fun _ => DxL_p15 c _ _ (heap_alloc_last _ _) hl⟩, (Below.refl _ _).alloc (Nat.le_refl _) _⟩
end Go.Proofs.Ytbjjeleoimcboaa


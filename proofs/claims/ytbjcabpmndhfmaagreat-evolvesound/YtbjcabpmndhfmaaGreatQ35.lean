/- tenonref07.fits: too many, too deep; kinds without parts. -/
import Derived.Test.YtbjcabpmndhfmaaGreatQ21
import Derived.Test.YtbjcabpmndhfmaaGreatQ9
import Derived.Laws.ResultCell
import Derived.Test.YtbjcabpmndhfmaaGreatQ2
namespace Go.Proofs.YtbjcabpmndhfmaaGreat
open Go.RowKit

def RFitE (x : Bool × Int) (w : World) (e : Ending) (w' : World) : Prop := e = .returned (.tuple #[.agg #[.int .i64 x.2], .bool x.1]) ∧ Below w.heap.size w w'
def RFitC (N : Nat) : Prop := ∀ (t : Ty), t.sz ≤ N → ∀ (cs : Array Value) (B : Nat → Prop) (w : World) (r d : Int), t.In w B cs → Sub B w → 0 ≤ r → r ≤ 16384 → 0 ≤ d → d ≤ 65 →
  Calls Tryz.prog 56 #[.agg #[.int .i64 r], .agg cs, .int .i64 d] w (RFitE (t.fitR d r) w)
theorem RFitE.of {x : Bool × Int} {b : Bool} {q : Int} {w W : World} (hx : x = (b, q)) (hb : Below w.heap.size w W) : RFitE x w (.returned (.tuple #[.agg #[.int .i64 q], .bool b])) W := by subst hx; exact ⟨rfl, hb⟩
theorem three_below (w : World) (a b c : Obj) : Below w.heap.size w (((w.alloc a).alloc b).alloc c) := (((Below.refl _ _).alloc (Nat.le_refl _) _).alloc (by simp) _).alloc (by simp; omega) _

set_option maxRecDepth 100000 in
set_option maxHeartbeats 4000000 in
theorem rfit_a (t : Ty) (cs : Array Value) (hsz : cs.size = 18) (w : World) (r d : Int) (h0 : 0 ≤ r) (h1 : r ≤ 16384) (h2 : 0 ≤ d) (h3 : d ≤ 65) (hr : r - 1 < 0) (hx : t.fitR d r = (false, r - 1)) :
    Calls Tryz.prog 56 #[.agg #[.int .i64 r], .agg cs, .int .i64 d] w (RFitE (t.fitR d r) w) := by
  have hkeep : 0 ≤ r ∧ r ≤ 16384 ∧ 0 ≤ d ∧ d ≤ 65 ∧ cs.size = 18 := ⟨h0, h1, h2, h3, hsz⟩
  clear hkeep
  have HX : Hid (t.fitR d r = (false, r - 1)) := hx
  clear hx
  go_enter Tryz.func56, Tryz.ntmps56
  go_wp2_with fail
  refine bodyPost_ret (v := .tuple #[.agg #[.int .i64 (r - 1)], .bool false]) (by rw [results_cell_tmp (p := 6) (u := 7) (ty := 112) rfl]; simp [go_sem]) rfl ?_
  exact RFitE.of HX.out (three_below w _ _ _)
set_option maxRecDepth 100000 in
set_option maxHeartbeats 4000000 in
theorem rfit_b (t : Ty) (cs : Array Value) (hsz : cs.size = 18) (w : World) (r d : Int) (h0 : 0 ≤ r) (h1 : r ≤ 16384) (h2 : 0 ≤ d) (h3 : d ≤ 65) (hr : ¬ r - 1 < 0) (hd : 64 < d) (hx : t.fitR d r = (false, r - 1)) :
    Calls Tryz.prog 56 #[.agg #[.int .i64 r], .agg cs, .int .i64 d] w (RFitE (t.fitR d r) w) := by
  have hkeep : 0 ≤ r ∧ r ≤ 16384 ∧ 0 ≤ d ∧ d ≤ 65 ∧ cs.size = 18 := ⟨h0, h1, h2, h3, hsz⟩
  clear hkeep
  have HX : Hid (t.fitR d r = (false, r - 1)) := hx
  clear hx
  go_enter Tryz.func56, Tryz.ntmps56
  go_wp2_with fail
  refine bodyPost_ret (v := .tuple #[.agg #[.int .i64 (r - 1)], .bool false]) (by rw [results_cell_tmp (p := 6) (u := 7) (ty := 112) rfl]; simp [go_sem]) rfl ?_
  exact RFitE.of HX.out (three_below w _ _ _)
set_option maxRecDepth 100000 in
set_option maxHeartbeats 4000000 in
theorem rfit_1 (t : Ty) (cs : Array Value) (hsz : cs.size = 18) (w : World) (r d : Int) (h0 : 0 ≤ r) (h1 : r ≤ 16384) (h2 : 0 ≤ d) (h3 : d ≤ 65) (hr : ¬ r - 1 < 0) (hd : ¬ 64 < d) (hk : cs[0]? = some (.int .i64 1)) (hx : t.fitR d r = (true, r - 1)) :
    Calls Tryz.prog 56 #[.agg #[.int .i64 r], .agg cs, .int .i64 d] w (RFitE (t.fitR d r) w) := by
  have hkeep : 0 ≤ r ∧ r ≤ 16384 ∧ 0 ≤ d ∧ d ≤ 65 ∧ cs.size = 18 := ⟨h0, h1, h2, h3, hsz⟩
  clear hkeep
  have c0 : (((w.alloc (.cells #[.int .i64 (r - 1)] 112)).alloc (.cells cs 43)).alloc (.cells #[.int .i64 0] 112)).cell? ⟨w.heap.size + 1, 0, none⟩ = some (.int .i64 1) := by
    have a1 := heap_alloc_new (w.alloc (.cells #[.int .i64 (r - 1)] 112)) (.cells cs 43)
    simp only [World.size_alloc] at a1
    have a2 := (heap_alloc_old ((w.alloc (.cells #[.int .i64 (r - 1)] 112)).alloc (.cells cs 43)) (.cells #[.int .i64 0] 112) (r := w.heap.size + 1) (by simp)).trans a1
    rw [cell_of_row _ _ _ _ _ _ a2]; exact hk
  have HX : Hid (t.fitR d r = (true, r - 1)) := hx
  clear hx
  go_enter Tryz.func56, Tryz.ntmps56
  go_wp2_with fail
  go_loopw [12] (fun x wr => x = .int .i64 0 ∧ wr = ((w.alloc (.cells #[.int .i64 (r - 1)] 112)).alloc (.cells cs 43)).alloc (.cells #[.int .i64 0] 112)) (fun _ _ => 0)
  case atStart => exact ⟨rfl, rfl⟩
  case round =>
    obtain ⟨rfl, rfl⟩ := hrel
    go_wp2_with fail
    refine bodyPost_ret (v := .tuple #[.agg #[.int .i64 (r - 1)], .bool true]) (by rw [results_cell_tmp (p := 6) (u := 7) (ty := 112) rfl]; simp [go_sem]) rfl ?_
    exact RFitE.of HX.out (three_below w _ _ _)
set_option maxRecDepth 100000 in
set_option maxHeartbeats 4000000 in
theorem rfit_2 (t : Ty) (cs : Array Value) (hsz : cs.size = 18) (w : World) (r d : Int) (h0 : 0 ≤ r) (h1 : r ≤ 16384) (h2 : 0 ≤ d) (h3 : d ≤ 65) (hr : ¬ r - 1 < 0) (hd : ¬ 64 < d) (hk : cs[0]? = some (.int .i64 2)) (hx : t.fitR d r = (true, r - 1)) :
    Calls Tryz.prog 56 #[.agg #[.int .i64 r], .agg cs, .int .i64 d] w (RFitE (t.fitR d r) w) := by
  have hkeep : 0 ≤ r ∧ r ≤ 16384 ∧ 0 ≤ d ∧ d ≤ 65 ∧ cs.size = 18 := ⟨h0, h1, h2, h3, hsz⟩
  clear hkeep
  have c0 : (((w.alloc (.cells #[.int .i64 (r - 1)] 112)).alloc (.cells cs 43)).alloc (.cells #[.int .i64 0] 112)).cell? ⟨w.heap.size + 1, 0, none⟩ = some (.int .i64 2) := by
    have a1 := heap_alloc_new (w.alloc (.cells #[.int .i64 (r - 1)] 112)) (.cells cs 43)
    simp only [World.size_alloc] at a1
    have a2 := (heap_alloc_old ((w.alloc (.cells #[.int .i64 (r - 1)] 112)).alloc (.cells cs 43)) (.cells #[.int .i64 0] 112) (r := w.heap.size + 1) (by simp)).trans a1
    rw [cell_of_row _ _ _ _ _ _ a2]; exact hk
  have HX : Hid (t.fitR d r = (true, r - 1)) := hx
  clear hx
  go_enter Tryz.func56, Tryz.ntmps56
  go_wp2_with fail
  go_loopw [12] (fun x wr => x = .int .i64 0 ∧ wr = ((w.alloc (.cells #[.int .i64 (r - 1)] 112)).alloc (.cells cs 43)).alloc (.cells #[.int .i64 0] 112)) (fun _ _ => 0)
  case atStart => exact ⟨rfl, rfl⟩
  case round =>
    obtain ⟨rfl, rfl⟩ := hrel
    go_wp2_with fail
    refine bodyPost_ret (v := .tuple #[.agg #[.int .i64 (r - 1)], .bool true]) (by rw [results_cell_tmp (p := 6) (u := 7) (ty := 112) rfl]; simp [go_sem]) rfl ?_
    exact RFitE.of HX.out (three_below w _ _ _)
end Go.Proofs.YtbjcabpmndhfmaaGreat

/- tenonref07.fits: kinds 3 and 4, and no kind. -/
namespace Go.Proofs.YtbjcabpmndhfmaaGreat
open Go.RowKit

theorem three_boxes (w : World) (cs : Array Value) (a b : Value) : ((((w.alloc (.cells #[a] 112)).alloc (.cells cs 43)).alloc (.cells #[b] 112)).heap[w.heap.size]? = some (.cells #[a] 112 (0, 0))) ∧ ((((w.alloc (.cells #[a] 112)).alloc (.cells cs 43)).alloc (.cells #[b] 112)).heap[w.heap.size + 1]? = some (.cells cs 43 (0, 0))) ∧ ((((w.alloc (.cells #[a] 112)).alloc (.cells cs 43)).alloc (.cells #[b] 112)).heap[w.heap.size + 2]? = some (.cells #[b] 112 (0, 0))) := by
  have a0 := heap_alloc_new w (.cells #[a] 112)
  have a1 := heap_alloc_new (w.alloc (.cells #[a] 112)) (.cells cs 43)
  have a2 := heap_alloc_new ((w.alloc (.cells #[a] 112)).alloc (.cells cs 43)) (.cells #[b] 112)
  simp only [World.size_alloc] at a1 a2
  refine ⟨?_, ?_, a2⟩
  · rw [heap_alloc_old _ _ (by simp; omega), heap_alloc_old _ _ (by simp)]; exact a0
  · rw [heap_alloc_old _ _ (by simp)]; exact a1

set_option maxRecDepth 100000 in
set_option maxHeartbeats 4000000 in
theorem rfit_no (t : Ty) (cs : Array Value) (hsz : cs.size = 18) (w : World) (r d : Int) (h0 : 0 ≤ r) (h1 : r ≤ 16384) (h2 : 0 ≤ d) (h3 : d ≤ 65) (hr : ¬ r - 1 < 0) (hd : ¬ 64 < d) (k : Int) (k1 : k ≠ 1) (k2 : k ≠ 2) (k3 : k ≠ 3) (k4 : k ≠ 4) (k5 : k ≠ 5) (k6 : k ≠ 6) (k7 : k ≠ 7) (k8 : k ≠ 8) (hk : cs[0]? = some (.int .i64 k)) (hx : t.fitR d r = (false, r - 1)) :
    Calls Tryz.prog 56 #[.agg #[.int .i64 r], .agg cs, .int .i64 d] w (RFitE (t.fitR d r) w) := by
  have hkeep : 0 ≤ r ∧ r ≤ 16384 ∧ 0 ≤ d ∧ d ≤ 65 ∧ cs.size = 18 := ⟨h0, h1, h2, h3, hsz⟩
  clear hkeep
  have c0 : (((w.alloc (.cells #[.int .i64 (r - 1)] 112)).alloc (.cells cs 43)).alloc (.cells #[.int .i64 0] 112)).cell? ⟨w.heap.size + 1, 0, none⟩ = some (.int .i64 k) := by
    have a1 := heap_alloc_new (w.alloc (.cells #[.int .i64 (r - 1)] 112)) (.cells cs 43)
    simp only [World.size_alloc] at a1
    have a2 := (heap_alloc_old ((w.alloc (.cells #[.int .i64 (r - 1)] 112)).alloc (.cells cs 43)) (.cells #[.int .i64 0] 112) (r := w.heap.size + 1) (by simp)).trans a1
    rw [cell_of_row _ _ _ _ _ _ a2]; exact hk
  have HX : Hid (t.fitR d r = (false, r - 1)) := hx
  clear hx
  have b1 : (k == 1) = false := by simp [k1]
  have b2 : (k == 2) = false := by simp [k2]
  have b3 : (k == 3) = false := by simp [k3]
  have b4 : (k == 4) = false := by simp [k4]
  have b5 : (k == 5) = false := by simp [k5]
  have b6 : (k == 6) = false := by simp [k6]
  have b7 : (k == 7) = false := by simp [k7]
  have b8 : (k == 8) = false := by simp [k8]
  go_enter Tryz.func56, Tryz.ntmps56
  go_wp2_with fail
  refine bodyPost_ret (v := .tuple #[.agg #[.int .i64 (r - 1)], .bool false]) (by rw [results_cell_tmp (p := 6) (u := 7) (ty := 112) rfl]; simp [go_sem]) rfl ?_
  exact RFitE.of HX.out (three_below w _ _ _)
set_option maxRecDepth 100000 in
set_option maxHeartbeats 4000000 in
theorem rfit_3a (t : Ty) (cs : Array Value) (hsz : cs.size = 18) (w : World) (r d : Int) (h0 : 0 ≤ r) (h1 : r ≤ 16384) (h2 : 0 ≤ d) (h3 : d ≤ 65) (hr : ¬ r - 1 < 0) (hd : ¬ 64 < d) (o : Int) (h5 : ¬ 1 ≤ o) (hk : cs[0]? = some (.int .i64 3)) (ho : cs[1]? = some (.int .i64 o)) (hx : t.fitR d r = (false, r - 1)) :
    Calls Tryz.prog 56 #[.agg #[.int .i64 r], .agg cs, .int .i64 d] w (RFitE (t.fitR d r) w) := by
  have hkeep : 0 ≤ r ∧ r ≤ 16384 ∧ 0 ≤ d ∧ d ≤ 65 ∧ cs.size = 18 := ⟨h0, h1, h2, h3, hsz⟩
  clear hkeep
  have c0 : (((w.alloc (.cells #[.int .i64 (r - 1)] 112)).alloc (.cells cs 43)).alloc (.cells #[.int .i64 0] 112)).cell? ⟨w.heap.size + 1, 0, none⟩ = some (.int .i64 3) := by
    have a1 := heap_alloc_new (w.alloc (.cells #[.int .i64 (r - 1)] 112)) (.cells cs 43)
    simp only [World.size_alloc] at a1
    have a2 := (heap_alloc_old ((w.alloc (.cells #[.int .i64 (r - 1)] 112)).alloc (.cells cs 43)) (.cells #[.int .i64 0] 112) (r := w.heap.size + 1) (by simp)).trans a1
    rw [cell_of_row _ _ _ _ _ _ a2]; exact hk
  have c1 : (((w.alloc (.cells #[.int .i64 (r - 1)] 112)).alloc (.cells cs 43)).alloc (.cells #[.int .i64 0] 112)).cell? ⟨w.heap.size + 1, 1, none⟩ = some (.int .i64 o) := by rw [cell_of_row _ _ _ _ _ _ (three_boxes w cs _ _).2.1]; exact ho
  have ho' : cs[1]'(by omega) = .int .i64 o := (Array.getElem?_eq_some_iff.1 ho).2
  have HX : Hid (t.fitR d r = (false, r - 1)) := hx
  clear hx
  go_enter Tryz.func56, Tryz.ntmps56
  go_wp2_with fail
  have hdd : decide (1 ≤ o) = false := by simp; omega
  go_region
  all_goals
    go_wp2_with fail
    refine bodyPost_ret (v := .tuple #[.agg #[.int .i64 (r - 1)], .bool false]) (by rw [results_cell_tmp (p := 6) (u := 7) (ty := 112) rfl]; simp [go_sem]) rfl ?_
    exact RFitE.of HX.out (three_below w _ _ _).drew
set_option maxRecDepth 100000 in
set_option maxHeartbeats 4000000 in
theorem rfit_3b (t : Ty) (cs : Array Value) (hsz : cs.size = 18) (w : World) (r d : Int) (h0 : 0 ≤ r) (h1 : r ≤ 16384) (h2 : 0 ≤ d) (h3 : d ≤ 65) (hr : ¬ r - 1 < 0) (hd : ¬ 64 < d) (o : Int) (h5 : 1 ≤ o) (h6 : ¬ o ≤ 10) (hk : cs[0]? = some (.int .i64 3)) (ho : cs[1]? = some (.int .i64 o)) (hx : t.fitR d r = (false, r - 1)) :
    Calls Tryz.prog 56 #[.agg #[.int .i64 r], .agg cs, .int .i64 d] w (RFitE (t.fitR d r) w) := by
  have hkeep : 0 ≤ r ∧ r ≤ 16384 ∧ 0 ≤ d ∧ d ≤ 65 ∧ cs.size = 18 := ⟨h0, h1, h2, h3, hsz⟩
  clear hkeep
  have c0 : (((w.alloc (.cells #[.int .i64 (r - 1)] 112)).alloc (.cells cs 43)).alloc (.cells #[.int .i64 0] 112)).cell? ⟨w.heap.size + 1, 0, none⟩ = some (.int .i64 3) := by
    have a1 := heap_alloc_new (w.alloc (.cells #[.int .i64 (r - 1)] 112)) (.cells cs 43)
    simp only [World.size_alloc] at a1
    have a2 := (heap_alloc_old ((w.alloc (.cells #[.int .i64 (r - 1)] 112)).alloc (.cells cs 43)) (.cells #[.int .i64 0] 112) (r := w.heap.size + 1) (by simp)).trans a1
    rw [cell_of_row _ _ _ _ _ _ a2]; exact hk
  have c1 : (((w.alloc (.cells #[.int .i64 (r - 1)] 112)).alloc (.cells cs 43)).alloc (.cells #[.int .i64 0] 112)).cell? ⟨w.heap.size + 1, 1, none⟩ = some (.int .i64 o) := by rw [cell_of_row _ _ _ _ _ _ (three_boxes w cs _ _).2.1]; exact ho
  have ho' : cs[1]'(by omega) = .int .i64 o := (Array.getElem?_eq_some_iff.1 ho).2
  have HX : Hid (t.fitR d r = (false, r - 1)) := hx
  clear hx
  go_enter Tryz.func56, Tryz.ntmps56
  go_wp2_with fail
  have hdd : decide (1 ≤ o) = true := by simp; omega
  have hde : decide (o ≤ 10) = false := by simp; omega
  go_region
  all_goals
    go_wp2_with fail
    refine bodyPost_ret (v := .tuple #[.agg #[.int .i64 (r - 1)], .bool false]) (by rw [results_cell_tmp (p := 6) (u := 7) (ty := 112) rfl]; simp [go_sem]) rfl ?_
    exact RFitE.of HX.out (three_below w _ _ _).drew
set_option maxRecDepth 100000 in
set_option maxHeartbeats 4000000 in
theorem rfit_3c (t : Ty) (cs : Array Value) (hsz : cs.size = 18) (w : World) (r d : Int) (h0 : 0 ≤ r) (h1 : r ≤ 16384) (h2 : 0 ≤ d) (h3 : d ≤ 65) (hr : ¬ r - 1 < 0) (hd : ¬ 64 < d) (o : Int) (h5 : 1 ≤ o) (h6 : o ≤ 10) (hk : cs[0]? = some (.int .i64 3)) (ho : cs[1]? = some (.int .i64 o)) (hx : t.fitR d r = (true, r - 1)) :
    Calls Tryz.prog 56 #[.agg #[.int .i64 r], .agg cs, .int .i64 d] w (RFitE (t.fitR d r) w) := by
  have hkeep : 0 ≤ r ∧ r ≤ 16384 ∧ 0 ≤ d ∧ d ≤ 65 ∧ cs.size = 18 := ⟨h0, h1, h2, h3, hsz⟩
  clear hkeep
  have c0 : (((w.alloc (.cells #[.int .i64 (r - 1)] 112)).alloc (.cells cs 43)).alloc (.cells #[.int .i64 0] 112)).cell? ⟨w.heap.size + 1, 0, none⟩ = some (.int .i64 3) := by
    have a1 := heap_alloc_new (w.alloc (.cells #[.int .i64 (r - 1)] 112)) (.cells cs 43)
    simp only [World.size_alloc] at a1
    have a2 := (heap_alloc_old ((w.alloc (.cells #[.int .i64 (r - 1)] 112)).alloc (.cells cs 43)) (.cells #[.int .i64 0] 112) (r := w.heap.size + 1) (by simp)).trans a1
    rw [cell_of_row _ _ _ _ _ _ a2]; exact hk
  have c1 : (((w.alloc (.cells #[.int .i64 (r - 1)] 112)).alloc (.cells cs 43)).alloc (.cells #[.int .i64 0] 112)).cell? ⟨w.heap.size + 1, 1, none⟩ = some (.int .i64 o) := by rw [cell_of_row _ _ _ _ _ _ (three_boxes w cs _ _).2.1]; exact ho
  have ho' : cs[1]'(by omega) = .int .i64 o := (Array.getElem?_eq_some_iff.1 ho).2
  have HX : Hid (t.fitR d r = (true, r - 1)) := hx
  clear hx
  go_enter Tryz.func56, Tryz.ntmps56
  go_wp2_with fail
  have hdd : decide (1 ≤ o) = true := by simp; omega
  have hde : decide (o ≤ 10) = true := by simp; omega
  go_region
  all_goals
    go_wp2_with fail
    refine bodyPost_ret (v := .tuple #[.agg #[.int .i64 (r - 1)], .bool true]) (by rw [results_cell_tmp (p := 6) (u := 7) (ty := 112) rfl]; simp [go_sem]) rfl ?_
    exact RFitE.of HX.out (three_below w _ _ _).drew
end Go.Proofs.YtbjcabpmndhfmaaGreat

/- tenonref07.fits: a type of one value. -/
namespace Go.Proofs.YtbjcabpmndhfmaaGreat
open Go.RowKit

set_option maxRecDepth 100000 in
set_option maxHeartbeats 4000000 in
theorem rfit_4 (t : Ty) (cs : Array Value) (hsz : cs.size = 18) (w : World) (r d : Int) (h0 : 0 ≤ r) (h1 : r ≤ 16384) (h2 : 0 ≤ d) (h3 : d ≤ 65) (hr : ¬ r - 1 < 0) (hd : ¬ 64 < d) (u : Tm) (B : Nat → Prop) (hB : Sub B w) (ct : Array Value) (hu : u.In w B ct) (hcs : ct.size = 11) (hct : ∀ x, x < 11 → cs[2 + x]? = ct[x]?) (hk : cs[0]? = some (.int .i64 4)) (hx : t.fitR d r = (decide (u.all.e = 0), r - 1)) :
    Calls Tryz.prog 56 #[.agg #[.int .i64 r], .agg cs, .int .i64 d] w (RFitE (t.fitR d r) w) := by
  have hkeep : 0 ≤ r ∧ r ≤ 16384 ∧ 0 ≤ d ∧ d ≤ 65 ∧ cs.size = 18 := ⟨h0, h1, h2, h3, hsz⟩
  clear hkeep
  have c0 : (((w.alloc (.cells #[.int .i64 (r - 1)] 112)).alloc (.cells cs 43)).alloc (.cells #[.int .i64 0] 112)).cell? ⟨w.heap.size + 1, 0, none⟩ = some (.int .i64 4) := by
    have a1 := heap_alloc_new (w.alloc (.cells #[.int .i64 (r - 1)] 112)) (.cells cs 43)
    simp only [World.size_alloc] at a1
    have a2 := (heap_alloc_old ((w.alloc (.cells #[.int .i64 (r - 1)] 112)).alloc (.cells cs 43)) (.cells #[.int .i64 0] 112) (r := w.heap.size + 1) (by simp)).trans a1
    rw [cell_of_row _ _ _ _ _ _ a2]; exact hk
  have HBX := three_boxes w cs (.int .i64 (r - 1)) (.int .i64 0)
  have HL : Hid ((loadVar 38 ⟨w.heap.size + 1, 2, none⟩).run Tryz.prog (((w.alloc (.cells #[.int .i64 (r - 1)] 112)).alloc (.cells cs 43)).alloc (.cells #[.int .i64 0] 112)) = .ok (.agg ct) (((w.alloc (.cells #[.int .i64 (r - 1)] 112)).alloc (.cells cs 43)).alloc (.cells #[.int .i64 0] 112))) := yldT hcs (fun x hx => by rw [cell_of_row _ _ _ _ _ _ HBX.2.1]; exact hct x hx)
  have HF : Hid (∀ w4, Below (((w.alloc (.cells #[.int .i64 (r - 1)] 112)).alloc (.cells cs 43)).alloc (.cells #[.int .i64 0] 112)).heap.size (((w.alloc (.cells #[.int .i64 (r - 1)] 112)).alloc (.cells cs 43)).alloc (.cells #[.int .i64 0] 112)) w4 → w4.heap[w.heap.size]? = some (.cells #[.int .i64 (r - 1)] 112 (0, 0)) ∧ w4.heap[w.heap.size + 1 + 1]? = some (.cells #[.int .i64 0] 112 (0, 0)) ∧ Below w.heap.size w w4) := fun w4 h4 =>
    ⟨by rw [h4.block w.heap.size (by simp; omega)]; exact HBX.1, by rw [h4.block (w.heap.size + 1 + 1) (by simp)]; exact HBX.2.2, (three_below w _ _ _).trans (h4.mono (by simp; omega))⟩
  by_cases he : u.all.e = 0
  · have HX : Hid (t.fitR d r = (true, r - 1)) := by show _ = _; rw [hx]; simp [he]
    clear hx
    have HO : Hid (Calls Tryz.prog 21 #[.agg ct] (((w.alloc (.cells #[.int .i64 (r - 1)] 112)).alloc (.cells cs 43)).alloc (.cells #[.int .i64 0] 112)) fun e w' => e = .returned (.tuple #[.int .i64 u.cAt, .int .i64 0]) ∧ Below (((w.alloc (.cells #[.int .i64 (r - 1)] 112)).alloc (.cells cs 43)).alloc (.cells #[.int .i64 0] 112)).heap.size (((w.alloc (.cells #[.int .i64 (r - 1)] 112)).alloc (.cells cs 43)).alloc (.cells #[.int .i64 0] 112)) w') := by
      have := refCheck_any u ct B (((w.alloc (.cells #[.int .i64 (r - 1)] 112)).alloc (.cells cs 43)).alloc (.cells #[.int .i64 0] 112)) (u.In_same (hB.same (three_below w _ _ _)) (fun _ h => h) ct hu) (hB.later (three_below w _ _ _))
      rw [he] at this; exact this
    clear hu hct hcs hB hk HBX
    generalize u.cAt = ca at *
    go_enter Tryz.func56, Tryz.ntmps56
    go_wp2_with ((with_reducible refine ld_row ?_ ?_ HL.out ?_); rfl; rfl)
    refine HO.out.mono ?_
    rintro e w4 ⟨rfl, hb4⟩
    obtain ⟨y0, y2, H4⟩ := HF.out w4 hb4
    have d0 : w4.cell? ⟨w.heap.size, 0, none⟩ = some (.int .i64 (r - 1)) := by rw [cell_of_row _ _ _ _ _ _ y0]; rfl
    have d2 : w4.cell? ⟨w.heap.size + 1 + 1, 0, none⟩ = some (.int .i64 0) := by rw [cell_of_row _ _ _ _ _ _ y2]; rfl
    have z2 := Lib.frozen_of_heap y2 0
    have H4' : Hid (Below w.heap.size w w4 ∧ (w4.setCell ⟨w.heap.size + 1 + 1, 0, none⟩ (.int .i64 (r - 1))).cell? ⟨w.heap.size + 1 + 1, 0, none⟩ = some (.int .i64 (r - 1))) := ⟨H4, by simp [World.setCell, World.cell?, Array.getElem?_modify, y2]⟩
    clear hb4 y0 y2 H4
    go_wp2_with fail
    have f2 := H4'.out.2
    refine bodyPost_ret (v := .tuple #[.agg #[.int .i64 (r - 1)], .bool true]) (by rw [results_cell_tmp (p := 6) (u := 7) (ty := 112) rfl]; simp [go_sem, f2]) rfl ?_
    exact RFitE.of HX.out (H4'.out.1.setCell (p := ⟨w.heap.size + 1 + 1, 0, none⟩) (by show _ ≤ w.heap.size + 1 + 1; omega) _)
  · have HX : Hid (t.fitR d r = (false, r - 1)) := by show _ = _; rw [hx]; simp [he]
    clear hx
    have he' := ne_bool he
    have HO : Hid (Calls Tryz.prog 21 #[.agg ct] (((w.alloc (.cells #[.int .i64 (r - 1)] 112)).alloc (.cells cs 43)).alloc (.cells #[.int .i64 0] 112)) fun e w' => e = .returned (.tuple #[.int .i64 u.cAt, .int .i64 u.all.e]) ∧ Below (((w.alloc (.cells #[.int .i64 (r - 1)] 112)).alloc (.cells cs 43)).alloc (.cells #[.int .i64 0] 112)).heap.size (((w.alloc (.cells #[.int .i64 (r - 1)] 112)).alloc (.cells cs 43)).alloc (.cells #[.int .i64 0] 112)) w') := by
      have := refCheck_any u ct B (((w.alloc (.cells #[.int .i64 (r - 1)] 112)).alloc (.cells cs 43)).alloc (.cells #[.int .i64 0] 112)) (u.In_same (hB.same (three_below w _ _ _)) (fun _ h => h) ct hu) (hB.later (three_below w _ _ _))
      exact this
    clear hu hct hcs hB hk HBX
    generalize u.cAt = ca at *
    have HE : Hid (¬ u.all.e = 0) := he
    clear he
    generalize u.all.e = q at *
    go_enter Tryz.func56, Tryz.ntmps56
    go_wp2_with ((with_reducible refine ld_row ?_ ?_ HL.out ?_); rfl; rfl)
    refine HO.out.mono ?_
    rintro e w4 ⟨rfl, hb4⟩
    obtain ⟨y0, y2, H4⟩ := HF.out w4 hb4
    have d0 : w4.cell? ⟨w.heap.size, 0, none⟩ = some (.int .i64 (r - 1)) := by rw [cell_of_row _ _ _ _ _ _ y0]; rfl
    have d2 : w4.cell? ⟨w.heap.size + 1 + 1, 0, none⟩ = some (.int .i64 0) := by rw [cell_of_row _ _ _ _ _ _ y2]; rfl
    have z2 := Lib.frozen_of_heap y2 0
    have H4' : Hid (Below w.heap.size w w4 ∧ (w4.setCell ⟨w.heap.size + 1 + 1, 0, none⟩ (.int .i64 (r - 1))).cell? ⟨w.heap.size + 1 + 1, 0, none⟩ = some (.int .i64 (r - 1))) := ⟨H4, by simp [World.setCell, World.cell?, Array.getElem?_modify, y2]⟩
    clear hb4 y0 y2 H4
    go_wp2_with fail
    have f2 := H4'.out.2
    refine bodyPost_ret (v := .tuple #[.agg #[.int .i64 (r - 1)], .bool false]) (by rw [results_cell_tmp (p := 6) (u := 7) (ty := 112) rfl]; simp [go_sem, f2, HE.out]) rfl ?_
    exact RFitE.of HX.out (H4'.out.1.setCell (p := ⟨w.heap.size + 1 + 1, 0, none⟩) (by show _ ≤ w.heap.size + 1 + 1; omega) _)
end Go.Proofs.YtbjcabpmndhfmaaGreat

/- tenonref07.fits: a record's type. -/
namespace Go.Proofs.YtbjcabpmndhfmaaGreat
open Go.RowKit

set_option maxRecDepth 100000 in
set_option maxHeartbeats 4000000 in
theorem rfit_8 (t : Ty) (cs : Array Value) (hsz : cs.size = 18) (w : World) (r d : Int) (h0 : 0 ≤ r) (h1 : r ≤ 16384) (h2 : 0 ≤ d) (h3 : d ≤ 65) (hr : ¬ r - 1 < 0) (hd : ¬ 64 < d) (c : ByteArray) (hc : c.size ≤ 140737488355328) (hk : cs[0]? = some (.int .i64 8)) (h17 : cs[17]? = some (.string c)) (hx : t.fitR d r = (Sp.isNm c, r - 1)) :
    Calls Tryz.prog 56 #[.agg #[.int .i64 r], .agg cs, .int .i64 d] w (RFitE (t.fitR d r) w) := by
  have hkeep : 0 ≤ r ∧ r ≤ 16384 ∧ 0 ≤ d ∧ d ≤ 65 ∧ cs.size = 18 := ⟨h0, h1, h2, h3, hsz⟩
  clear hkeep
  have c0 : (((w.alloc (.cells #[.int .i64 (r - 1)] 112)).alloc (.cells cs 43)).alloc (.cells #[.int .i64 0] 112)).cell? ⟨w.heap.size + 1, 0, none⟩ = some (.int .i64 8) := by
    have a1 := heap_alloc_new (w.alloc (.cells #[.int .i64 (r - 1)] 112)) (.cells cs 43)
    simp only [World.size_alloc] at a1
    have a2 := (heap_alloc_old ((w.alloc (.cells #[.int .i64 (r - 1)] 112)).alloc (.cells cs 43)) (.cells #[.int .i64 0] 112) (r := w.heap.size + 1) (by simp)).trans a1
    rw [cell_of_row _ _ _ _ _ _ a2]; exact hk
  have HBX := three_boxes w cs (.int .i64 (r - 1)) (.int .i64 0)
  have HX : Hid (t.fitR d r = (Sp.isNm c, r - 1)) := hx
  have c17 : (((w.alloc (.cells #[.int .i64 (r - 1)] 112)).alloc (.cells cs 43)).alloc (.cells #[.int .i64 0] 112)).cell? ⟨w.heap.size + 1, 17, none⟩ = some (.string c) := by rw [cell_of_row _ _ _ _ _ _ HBX.2.1]; exact h17
  have h17' : cs[17]'(by omega) = .string c := (Array.getElem?_eq_some_iff.1 h17).2
  have HN : Hid (∀ W, Calls Tryz.prog 17 #[.string c] W fun e w' => e = .returned (.bool (Sp.isNm c)) ∧ W = w') := fun W => Name_any c W (by unfold maxLen; omega)
  clear hx HBX
  generalize Sp.isNm c = nm at *
  go_enter Tryz.func56, Tryz.ntmps56
  go_wp2_with fail
  first
    | go_region_with ((go_at_call 17; refine (HN.out _).mono ?_; rintro e w4 ⟨rfl, rfl⟩))
    | fail
  all_goals
    go_wp2_with fail
    refine bodyPost_ret (v := .tuple #[.agg #[.int .i64 (r - 1)], .bool nm]) (by rw [results_cell_tmp (p := 6) (u := 7) (ty := 112) rfl]; simp [go_sem]) rfl ?_
    exact RFitE.of HX.out (three_below w _ _ _).drew
end Go.Proofs.YtbjcabpmndhfmaaGreat


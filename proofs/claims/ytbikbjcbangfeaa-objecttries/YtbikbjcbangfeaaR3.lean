/- tenonlaw10.ObjectTries returns true. -/
import Derived.Test.YtbikbjcbangfeaaR2
import Derived.BigQuiet
namespace Go.Proofs.Ytbikbjcbangfeaa
open Go.RowKit

def wantK (n : Int) : Int := if n = 0 then 0 else if n = 1 then 1 else if n = 2 then 2 else if n = 3 then 3 else if n = 4 then 4 else 5
def wantE (n e : Int) : Int := if n = 0 then 0 else if n = 2 then e else 9

theorem Panics_1_any (b : Nat) (n : Int) (w : World) (hc : w.cell? ⟨b, 0, none⟩ = some (.int .i64 n)) (h0 : n ≠ 0) (h2 : n ≠ 2) :
    Calls Try.prog 9 #[.pointer (some ⟨b, 0, none⟩)] w fun e w' => Ends (wantK n) 9 e ∧ Below w.heap.size w w' := by
  by_cases h1 : n = 1
  · subst h1; exact Panics_1_run b w hc
  by_cases h3 : n = 3
  · subst h3; exact Panics_1_error b w hc
  by_cases h4 : n = 4
  · subst h4; exact Panics_1_text b w hc
  have e : wantK n = 5 := by simp [wantK, h0, h1, h2, h3, h4]
  rw [e]
  exact Panics_1_int b n w hc (by simp [h0]) (by simp [h1]) (by simp [h2]) (by simp [h3]) (by simp [h4])

set_option maxRecDepth 100000 in
set_option maxHeartbeats 1000000 in
theorem Panics_any (n : Int) (w : World) (h0 : Hid (n ≠ 0)) (h2 : Hid (n ≠ 2)) :
    Calls Try.prog 6 #[.int .i64 n] w fun e w' => Ends (wantK n) 9 e ∧ Below w.heap.size w w' := by
  have hmf : ∀ (fn : Fn) (first cap : Array Value) (w : World), (Instr.makeFunc fn first cap).run Try.prog w = .ok (.func fn first cap) w := fun _ _ _ _ => rfl
  have HB : Hid (Below w.heap.size w (w.alloc (.cells #[.int .i64 n] 3))) := (Below.refl _ _).alloc (Nat.le_refl _) _
  have HC := Panics_1_any w.heap.size n (w.alloc (.cells #[.int .i64 n] 3)) (by simp) h0.out h2.out
  go_enter Try.func6, Try.ntmps6
  go_wp2_with fail
  refine HC.mono ?_
  rintro e w1 ⟨he, hb⟩
  have HB1 : Hid (Below w.heap.size w w1) := HB.out.trans (hb.mono (by simp))
  clear hb HC
  rcases he with ⟨rfl, _, h9⟩ | ⟨v, rfl, hk⟩
  · exact absurd h9 (by decide)
  · exact ⟨rfl, .inr ⟨v, rfl, hk⟩, HB1.out⟩

set_option maxRecDepth 100000 in
set_option maxHeartbeats 1000000 in
theorem Tries_1 (g : Nat) (n er : Int) (w : World) (hn : w.cell? ⟨g + 2, 0, none⟩ = some (.int .i64 0)) (hz : w.frozen? ⟨g + 2, 0, none⟩ = false) (hw : w.cell? ⟨g, 0, none⟩ = some (.int .i64 n)) (he : w.cell? ⟨g + 1, 0, none⟩ = some (.int .i64 er)) :
    Calls Try.prog 5 #[.pointer (some ⟨g + 2, 0, none⟩), .pointer (some ⟨g, 0, none⟩), .pointer (some ⟨g + 1, 0, none⟩)] w fun e w' => Ends (wantK n) (wantE n er) e ∧ Below w.heap.size (w.setCell ⟨g + 2, 0, none⟩ (.int .i64 1)) w' := by
  have c0 : (w.setCell ⟨g + 2, 0, none⟩ (.int .i64 1)).cell? ⟨g, 0, none⟩ = some (.int .i64 n) := by rw [World.cell?_setCell_other _ _ _ _ (by intro e; injection e with e1 _; omega)]; exact hw
  have c1 : (w.setCell ⟨g + 2, 0, none⟩ (.int .i64 1)).cell? ⟨g + 1, 0, none⟩ = some (.int .i64 er) := by rw [World.cell?_setCell_other _ _ _ _ (by intro e; injection e with e1 _; omega)]; exact he
  by_cases h0 : n = 0
  · subst h0
    go_enter Try.func5, Try.ntmps5
    go_wp2_with fail
    go_end0
    exact ⟨.inl ⟨rfl, rfl, rfl⟩, Below.refl _ _⟩
  by_cases h2 : n = 2
  · subst h2
    go_enter Try.func5, Try.ntmps5
    go_wp2_with fail
    exact ⟨rfl, .inr ⟨_, rfl, Kd_errno _⟩, Below.refl _ _⟩
  have HC := Panics_any n (w.setCell ⟨g + 2, 0, none⟩ (.int .i64 1)) h0 h2
  have b0 : (n == 0) = false := by simp [h0]
  have b2 : (n == 2) = false := by simp [h2]
  have eE : wantE n er = 9 := by simp [wantE, h0, h2]
  rw [eE]
  have H02 : Hid (n ≠ 0 ∧ n ≠ 2) := ⟨h0, h2⟩
  clear h0 h2 eE
  go_enter Try.func5, Try.ntmps5
  go_wp2_with fail
  refine HC.mono ?_
  rintro e w1 ⟨he, hb⟩
  have HB1 : Hid (Below w.heap.size (w.setCell ⟨g + 2, 0, none⟩ (.int .i64 1)) w1) := hb.mono (by simp [World.setCell])
  clear hb HC
  rcases he with ⟨rfl, _, h9⟩ | ⟨v, rfl, hk⟩
  · exact absurd h9 (by decide)
  · exact ⟨rfl, .inr ⟨v, rfl, hk⟩, HB1.out⟩

set_option maxRecDepth 100000 in
set_option maxHeartbeats 1000000 in
theorem Try_any (f : Nat) (cap : Array Value) (k er : Int) (w : World) (Q : World → Prop) (hcf : ∀ W, Sem.run Try.prog (callFunc f cap) W = .ok (.enter f cap) W) (hQ : Hid (∀ W W', Below w.heap.size W W' → Q W → Q W'))
    (HC : Hid (∀ W1, Below w.heap.size w W1 → W1.heap.size = w.heap.size + 2 → Calls Try.prog f cap W1 fun e w' => Ends k er e ∧ w'.heap[w.heap.size]? = W1.heap[w.heap.size]? ∧ w'.heap[w.heap.size + 1]? = W1.heap[w.heap.size + 1]? ∧ Q w')) :
    Calls Try.prog 4 #[.func (.func f) #[] cap] w fun e w' => e = .returned (.tuple #[.int .i64 k, .int .i64 er]) ∧ Q w' := by
  have HX : Hid (Calls Try.prog 8 #[.func (.func f) #[] cap] w fun e w' => e = .returned (.tuple #[.int .i64 k, .int .i64 er]) ∧ Q w') := caught_any f cap k er w Q hcf hQ HC
  have hfn : ∀ W, Sem.run Try.prog (binOp .eql 1 (.func (.func f) #[] cap) .nilFunc) W = .ok (.bool false) W := fun W => by kernel_rfl
  have hfg : ∀ x y W, Sem.run Try.prog (eqGuard .eql 1 x y (.func (.func f) #[] cap) .nilFunc) W = .ok () W := fun x y W => by kernel_rfl
  go_enter Try.func4, Try.ntmps4
  go_wp2_with fail
  refine HX.out.mono ?_
  rintro e w1 ⟨rfl, hq⟩
  have HQ : Hid (Q w1) := hq
  clear hq
  go_wp2_with fail
  go_ret2
  exact ⟨rfl, HQ.out⟩

set_option maxRecDepth 100000 in
set_option maxHeartbeats 1000000 in
theorem Try_nil (w : World) :
    Calls Try.prog 4 #[.nilFunc] w fun e w' => e = .returned (.tuple #[.int .i64 0, .int .i64 1]) ∧ w = w' := by
  have hfn : ∀ W, Sem.run Try.prog (binOp .eql 1 .nilFunc .nilFunc) W = .ok (.bool true) W := fun W => by kernel_rfl
  have hfg : ∀ x y W, Sem.run Try.prog (eqGuard .eql 1 x y .nilFunc .nilFunc) W = .ok () W := fun x y W => by kernel_rfl
  go_enter Try.func4, Try.ntmps4
  go_wp2_with fail
  go_ret2
  exact ⟨rfl, rfl⟩

/-- the first call -/
theorem Try_1 (n er : Int) (w W : World) (hW : W = ((w.alloc (Obj.cells #[.int .i64 n] 3)).alloc (Obj.cells #[.int .i64 er] 22)).alloc (Obj.cells #[.int .i64 0] 3)) :
    Calls Try.prog 4 #[.func (.func 5) #[] #[.pointer (some ⟨w.heap.size + 1 + 1, 0, none⟩), .pointer (some ⟨w.heap.size, 0, none⟩), .pointer (some ⟨w.heap.size + 1, 0, none⟩)]] W fun e w' =>
      e = .returned (.tuple #[.int .i64 (wantK n), .int .i64 (wantE n er)]) ∧ w'.cell? ⟨w.heap.size, 0, none⟩ = some (.int .i64 n) ∧ w'.cell? ⟨w.heap.size + 1, 0, none⟩ = some (.int .i64 er) ∧ w'.cell? ⟨w.heap.size + 1 + 1, 0, none⟩ = some (.int .i64 1) ∧ Below w.heap.size w w' ∧ w.heap.size + 3 ≤ w'.heap.size := by
  have hs : W.heap.size = w.heap.size + 3 := by subst hW; simp
  have hb : Below w.heap.size w W := by subst hW; exact (((Below.refl _ _).alloc (Nat.le_refl _) _).alloc (by simp) _).alloc (by simp only [World.size_alloc]; omega) _
  have g0 : W.heap[w.heap.size]? = some (Obj.cells #[.int .i64 n] 3) := by
    subst hW
    rw [Below.heap_alloc _ _ _ (by simp only [World.size_alloc]; omega)]; exact al2_old _ _ _
  have g1 : W.heap[w.heap.size + 1]? = some (Obj.cells #[.int .i64 er] 22) := by
    subst hW
    rw [Below.heap_alloc _ _ _ (by simp)]; exact al2_new _ _ _
  have g2 : W.heap[w.heap.size + 1 + 1]? = some (Obj.cells #[.int .i64 0] 3) := by
    subst hW
    have := al2_new (w.alloc (Obj.cells #[.int .i64 n] 3)) (Obj.cells #[.int .i64 er] 22) (Obj.cells #[.int .i64 0] 3)
    simpa using this
  refine Try_any _ _ _ _ W (fun w' => w'.cell? ⟨w.heap.size, 0, none⟩ = some (.int .i64 n) ∧ w'.cell? ⟨w.heap.size + 1, 0, none⟩ = some (.int .i64 er) ∧ w'.cell? ⟨w.heap.size + 1 + 1, 0, none⟩ = some (.int .i64 1) ∧ Below w.heap.size w w' ∧ w.heap.size + 3 ≤ w'.heap.size) (fun W => by kernel_rfl) ?_ ?_
  · intro X Y hXY ⟨h1, h2, h3, h4, h5⟩
    rw [hs] at hXY
    exact ⟨(hXY.cell (p := ⟨w.heap.size, 0, none⟩) (by show w.heap.size < _; omega)).trans h1, (hXY.cell (p := ⟨w.heap.size + 1, 0, none⟩) (by show w.heap.size + 1 < _; omega)).trans h2, (hXY.cell (p := ⟨w.heap.size + 1 + 1, 0, none⟩) (by show w.heap.size + 1 + 1 < _; omega)).trans h3, h4.trans (hXY.mono (by omega)), Nat.le_trans h5 hXY.size⟩
  · intro W1 hb1 hs1
    rw [hs] at hb1 hs1
    have k0 := (hb1.block w.heap.size (by omega)).trans g0
    have k1 := (hb1.block (w.heap.size + 1) (by omega)).trans g1
    have k2 := (hb1.block (w.heap.size + 1 + 1) (by omega)).trans g2
    have c0 : W1.cell? ⟨w.heap.size, 0, none⟩ = some (.int .i64 n) := by rw [cell_of_row _ _ 0 _ _ _ k0]; rfl
    have c1 : W1.cell? ⟨w.heap.size + 1, 0, none⟩ = some (.int .i64 er) := by rw [cell_of_row _ _ 0 _ _ _ k1]; rfl
    have c2 : W1.cell? ⟨w.heap.size + 1 + 1, 0, none⟩ = some (.int .i64 0) := by rw [cell_of_row _ _ 0 _ _ _ k2]; rfl
    have z2 : W1.frozen? ⟨w.heap.size + 1 + 1, 0, none⟩ = false := frozen_of_row _ _ 0 _ _ k2
    refine (Tries_1 w.heap.size n er W1 c2 z2 c0 c1).mono ?_
    rintro e w' ⟨he, hbw⟩
    have hk : ∀ j, j < W1.heap.size → j ≠ w.heap.size + 1 + 1 → w'.heap[j]? = W1.heap[j]? := fun j h1 h2 => (hbw.block j h1).trans (Below.heap_setCell _ _ _ _ h2)
    refine ⟨he, ?_, ?_, ?_, ?_, ?_, ?_, ?_⟩
    · rw [hs]; exact hk _ (by omega) (by omega)
    · rw [hs]; exact hk _ (by omega) (by omega)
    · rw [World.cell?_of_block (w := W1) (hk w.heap.size (by omega) (by omega))]; exact c0
    · rw [World.cell?_of_block (w := W1) (hk (w.heap.size + 1) (by omega) (by omega))]; exact c1
    · rw [hbw.cell (p := ⟨w.heap.size + 1 + 1, 0, none⟩) (by show w.heap.size + 1 + 1 < _; omega)]; exact sc_eq' c2
    · have : Below w.heap.size W1 w' := ((Below.refl _ _).setCell (p := ⟨w.heap.size + 1 + 1, 0, none⟩) (by show w.heap.size ≤ w.heap.size + 1 + 1; omega) _).trans (hbw.mono (by omega))
      exact (hb.trans (hb1.mono (by omega))).trans this
    · have := hbw.size
      simp only [World.setCell, Array.size_modify] at this
      omega

/-- a function that panics with nil -/
theorem Try_2 (w : World) :
    Calls Try.prog 4 #[.func (.func 7) #[] #[]] w fun e w' => e = .returned (.tuple #[.int .i64 1, .int .i64 9]) ∧ Below w.heap.size w w' := by
  refine Try_any _ _ _ _ w (fun w' => Below w.heap.size w w') (fun W => by kernel_rfl) ?_ ?_
  · intro X Y hXY h; exact h.trans hXY
  · intro W1 hb1 hs1
    refine (Tries_2 W1).mono ?_
    rintro e w' ⟨he, hb⟩
    exact ⟨he, hb.block _ (by omega), hb.block _ (by omega), hb1.trans (hb.mono (by omega))⟩

theorem of_drewN {n : Nat} {w w' : World} (h : Below (w.drewN n).heap.size (w.drewN n) w') : Below w.heap.size w w' := ⟨h.os, h.tape, h.output, h.size, h.block⟩

set_option maxRecDepth 100000 in
set_option maxHeartbeats 1000000 in
theorem Tries_case0 (er : Int) (w : World) :
    Calls Try.prog 3 #[.int .i64 0, .int .i64 er] w fun e w' => e = .returned (.bool true) ∧ Below w.heap.size w w' := by
  have hmf : ∀ (fn : Fn) (first cap : Array Value) (w : World), (Instr.makeFunc fn first cap).run Try.prog w = .ok (.func fn first cap) w := fun _ _ _ _ => rfl
  have HT : Hid (∀ W, W = _ → _) := Try_1 0 er w
  rw [show wantK 0 = 0 by simp [wantK], show wantE 0 er = 0 by simp [wantE]] at HT
  skip
  go_enter Try.func3, Try.ntmps3
  go_wp2_with fail
  refine (HT.out _ rfl).mono ?_
  rintro e w1 ⟨rfl, c0, c1, c2, hb1, hs1⟩
  have HB1 : Hid (Below w.heap.size w w1 ∧ w.heap.size + 3 ≤ w1.heap.size) := ⟨hb1, hs1⟩
  clear hb1 hs1
  go_wp2_with fail
  refine (Try_nil _).mono ?_
  rintro e w2 ⟨rfl, rfl⟩
  go_wp2_with fail
  refine (Try_2 _).mono ?_
  rintro e w3 ⟨rfl, hb3⟩
  have HB3 : Hid (Below w.heap.size w w3) := HB1.out.1.trans (hb3.mono (by have := HB1.out.2; omega))
  have c3 : w3.cell? ⟨w.heap.size + 1 + 1, 0, none⟩ = some (.int .i64 1) := by
    rw [hb3.cell (p := ⟨w.heap.size + 1 + 1, 0, none⟩) (by have := HB1.out.2; show w.heap.size + 1 + 1 < _; omega)]; exact c2
  clear hb3 c2 c0 c1
  go_wp2_with fail
  go_ret
  exact ⟨rfl, HB3.out⟩

set_option maxRecDepth 100000 in
set_option maxHeartbeats 1000000 in
theorem Tries_case1 (er : Int) (w : World) :
    Calls Try.prog 3 #[.int .i64 1, .int .i64 er] w fun e w' => e = .returned (.bool true) ∧ Below w.heap.size w w' := by
  have hmf : ∀ (fn : Fn) (first cap : Array Value) (w : World), (Instr.makeFunc fn first cap).run Try.prog w = .ok (.func fn first cap) w := fun _ _ _ _ => rfl
  have HT : Hid (∀ W, W = _ → _) := Try_1 1 er w
  rw [show wantK 1 = 1 by simp [wantK], show wantE 1 er = 9 by simp [wantE]] at HT
  skip
  go_enter Try.func3, Try.ntmps3
  go_wp2_with fail
  refine (HT.out _ rfl).mono ?_
  rintro e w1 ⟨rfl, c0, c1, c2, hb1, hs1⟩
  have HB1 : Hid (Below w.heap.size w w1 ∧ w.heap.size + 3 ≤ w1.heap.size) := ⟨hb1, hs1⟩
  clear hb1 hs1
  go_wp2_with fail
  refine (Try_nil _).mono ?_
  rintro e w2 ⟨rfl, rfl⟩
  go_wp2_with fail
  refine (Try_2 _).mono ?_
  rintro e w3 ⟨rfl, hb3⟩
  have HB3 : Hid (Below w.heap.size w w3) := HB1.out.1.trans (hb3.mono (by have := HB1.out.2; omega))
  have c3 : w3.cell? ⟨w.heap.size + 1 + 1, 0, none⟩ = some (.int .i64 1) := by
    rw [hb3.cell (p := ⟨w.heap.size + 1 + 1, 0, none⟩) (by have := HB1.out.2; show w.heap.size + 1 + 1 < _; omega)]; exact c2
  clear hb3 c2 c0 c1
  go_wp2_with fail
  go_ret
  exact ⟨rfl, HB3.out⟩

set_option maxRecDepth 100000 in
set_option maxHeartbeats 1000000 in
theorem Tries_case3 (er : Int) (w : World) :
    Calls Try.prog 3 #[.int .i64 3, .int .i64 er] w fun e w' => e = .returned (.bool true) ∧ Below w.heap.size w w' := by
  have hmf : ∀ (fn : Fn) (first cap : Array Value) (w : World), (Instr.makeFunc fn first cap).run Try.prog w = .ok (.func fn first cap) w := fun _ _ _ _ => rfl
  have HT : Hid (∀ W, W = _ → _) := Try_1 3 er w
  rw [show wantK 3 = 3 by simp [wantK], show wantE 3 er = 9 by simp [wantE]] at HT
  skip
  go_enter Try.func3, Try.ntmps3
  go_wp2_with fail
  refine (HT.out _ rfl).mono ?_
  rintro e w1 ⟨rfl, c0, c1, c2, hb1, hs1⟩
  have HB1 : Hid (Below w.heap.size w w1 ∧ w.heap.size + 3 ≤ w1.heap.size) := ⟨hb1, hs1⟩
  clear hb1 hs1
  go_wp2_with fail
  refine (Try_nil _).mono ?_
  rintro e w2 ⟨rfl, rfl⟩
  go_wp2_with fail
  refine (Try_2 _).mono ?_
  rintro e w3 ⟨rfl, hb3⟩
  have HB3 : Hid (Below w.heap.size w w3) := HB1.out.1.trans (hb3.mono (by have := HB1.out.2; omega))
  have c3 : w3.cell? ⟨w.heap.size + 1 + 1, 0, none⟩ = some (.int .i64 1) := by
    rw [hb3.cell (p := ⟨w.heap.size + 1 + 1, 0, none⟩) (by have := HB1.out.2; show w.heap.size + 1 + 1 < _; omega)]; exact c2
  clear hb3 c2 c0 c1
  go_wp2_with fail
  go_ret
  exact ⟨rfl, HB3.out⟩

set_option maxRecDepth 100000 in
set_option maxHeartbeats 1000000 in
theorem Tries_case4 (er : Int) (w : World) :
    Calls Try.prog 3 #[.int .i64 4, .int .i64 er] w fun e w' => e = .returned (.bool true) ∧ Below w.heap.size w w' := by
  have hmf : ∀ (fn : Fn) (first cap : Array Value) (w : World), (Instr.makeFunc fn first cap).run Try.prog w = .ok (.func fn first cap) w := fun _ _ _ _ => rfl
  have HT : Hid (∀ W, W = _ → _) := Try_1 4 er w
  rw [show wantK 4 = 4 by simp [wantK], show wantE 4 er = 9 by simp [wantE]] at HT
  skip
  go_enter Try.func3, Try.ntmps3
  go_wp2_with fail
  refine (HT.out _ rfl).mono ?_
  rintro e w1 ⟨rfl, c0, c1, c2, hb1, hs1⟩
  have HB1 : Hid (Below w.heap.size w w1 ∧ w.heap.size + 3 ≤ w1.heap.size) := ⟨hb1, hs1⟩
  clear hb1 hs1
  go_wp2_with fail
  refine (Try_nil _).mono ?_
  rintro e w2 ⟨rfl, rfl⟩
  go_wp2_with fail
  refine (Try_2 _).mono ?_
  rintro e w3 ⟨rfl, hb3⟩
  have HB3 : Hid (Below w.heap.size w w3) := HB1.out.1.trans (hb3.mono (by have := HB1.out.2; omega))
  have c3 : w3.cell? ⟨w.heap.size + 1 + 1, 0, none⟩ = some (.int .i64 1) := by
    rw [hb3.cell (p := ⟨w.heap.size + 1 + 1, 0, none⟩) (by have := HB1.out.2; show w.heap.size + 1 + 1 < _; omega)]; exact c2
  clear hb3 c2 c0 c1
  go_wp2_with fail
  go_ret
  exact ⟨rfl, HB3.out⟩

set_option maxRecDepth 100000 in
set_option maxHeartbeats 1000000 in
theorem Tries_case2 (er : Int) (w : World) :
    Calls Try.prog 3 #[.int .i64 2, .int .i64 er] w fun e w' => e = .returned (.bool true) ∧ Below w.heap.size w w' := by
  have hmf : ∀ (fn : Fn) (first cap : Array Value) (w : World), (Instr.makeFunc fn first cap).run Try.prog w = .ok (.func fn first cap) w := fun _ _ _ _ => rfl
  have HT : Hid (∀ W, W = _ → _) := Try_1 2 er w
  rw [show wantK 2 = 2 by simp [wantK], show wantE 2 er = er by simp [wantE]] at HT
  skip
  go_enter Try.func3, Try.ntmps3
  go_wp2_with fail
  refine (HT.out _ rfl).mono ?_
  rintro e w1 ⟨rfl, c0, c1, c2, hb1, hs1⟩
  have HB1 : Hid (Below w.heap.size w w1 ∧ w.heap.size + 3 ≤ w1.heap.size) := ⟨hb1, hs1⟩
  clear hb1 hs1
  go_wp2_with fail
  go_quiet (fail)
  go_wp2_with fail
  refine (Try_nil _).mono ?_
  rintro e w2 ⟨rfl, rfl⟩
  go_wp2_with fail
  refine (Try_2 _).mono ?_
  rintro e w3 ⟨rfl, hb3⟩
  replace hb3 : Below w1.heap.size w1 w3 := of_drewN hb3
  have HB3 : Hid (Below w.heap.size w w3) := HB1.out.1.trans (hb3.mono (by have := HB1.out.2; omega))
  have c3 : w3.cell? ⟨w.heap.size + 1 + 1, 0, none⟩ = some (.int .i64 1) := by
    rw [hb3.cell (p := ⟨w.heap.size + 1 + 1, 0, none⟩) (by have := HB1.out.2; show w.heap.size + 1 + 1 < _; omega)]; exact c2
  clear hb3 c2 c0 c1
  go_wp2_with fail
  go_ret
  exact ⟨rfl, HB3.out⟩

set_option maxRecDepth 100000 in
set_option maxHeartbeats 1000000 in
theorem Tries_caseN (n : Int) (b0 : (n == 0) = false) (b1 : (n == 1) = false) (b2 : (n == 2) = false) (b3 : (n == 3) = false) (b4 : (n == 4) = false) (er : Int) (w : World) :
    Calls Try.prog 3 #[.int .i64 n, .int .i64 er] w fun e w' => e = .returned (.bool true) ∧ Below w.heap.size w w' := by
  have hmf : ∀ (fn : Fn) (first cap : Array Value) (w : World), (Instr.makeFunc fn first cap).run Try.prog w = .ok (.func fn first cap) w := fun _ _ _ _ => rfl
  have hK : wantK n = 5 := by simp at b0 b1 b2 b3 b4; simp [wantK, b0, b1, b2, b3, b4]
  have hE : wantE n er = 9 := by simp at b0 b2; simp [wantE, b0, b2]
  have HT : Hid (∀ W, W = _ → _) := Try_1 n er w
  rw [show wantK n = 5 by exact hK, show wantE n er = 9 by exact hE] at HT
  clear hK hE
  go_enter Try.func3, Try.ntmps3
  go_wp2_with fail
  refine (HT.out _ rfl).mono ?_
  rintro e w1 ⟨rfl, c0, c1, c2, hb1, hs1⟩
  have HB1 : Hid (Below w.heap.size w w1 ∧ w.heap.size + 3 ≤ w1.heap.size) := ⟨hb1, hs1⟩
  clear hb1 hs1
  go_wp2_with fail
  refine (Try_nil _).mono ?_
  rintro e w2 ⟨rfl, rfl⟩
  go_wp2_with fail
  refine (Try_2 _).mono ?_
  rintro e w3 ⟨rfl, hb3⟩
  have HB3 : Hid (Below w.heap.size w w3) := HB1.out.1.trans (hb3.mono (by have := HB1.out.2; omega))
  have c3 : w3.cell? ⟨w.heap.size + 1 + 1, 0, none⟩ = some (.int .i64 1) := by
    rw [hb3.cell (p := ⟨w.heap.size + 1 + 1, 0, none⟩) (by have := HB1.out.2; show w.heap.size + 1 + 1 < _; omega)]; exact c2
  clear hb3 c2 c0 c1
  go_wp2_with fail
  go_ret
  exact ⟨rfl, HB3.out⟩

theorem ObjectTries_any (n er : Int) (w : World) :
    Calls Try.prog 3 #[.int .i64 n, .int .i64 er] w fun e w' => e = .returned (.bool true) ∧ Below w.heap.size w w' := by
  by_cases h0 : n = 0
  · subst h0; exact Tries_case0 er w
  by_cases h1 : n = 1
  · subst h1; exact Tries_case1 er w
  by_cases h2 : n = 2
  · subst h2; exact Tries_case2 er w
  by_cases h3 : n = 3
  · subst h3; exact Tries_case3 er w
  by_cases h4 : n = 4
  · subst h4; exact Tries_case4 er w
  exact Tries_caseN n (by simp [h0]) (by simp [h1]) (by simp [h2]) (by simp [h3]) (by simp [h4]) er w
end Go.Proofs.Ytbikbjcbangfeaa


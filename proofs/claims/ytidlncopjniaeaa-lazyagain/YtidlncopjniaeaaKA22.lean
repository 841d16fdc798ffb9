/- tenonlaw10.ObjectTries returns true. -/
import Derived.Test.YtidlncopjniaeaaKA21
import Derived.BigQuiet
namespace Go.Proofs.Ytidlncopjniaeaa
open Go.RowKit

def wantK (n : Int) : Int := if n = 0 then 0 else if n = 1 then 1 else if n = 2 then 2 else if n = 3 then 3 else if n = 4 then 4 else 5
def wantE (n e : Int) : Int := if n = 0 then 0 else if n = 2 then e else 9

theorem Panics_1_any (b : Nat) (n : Int) (w : World) (hc : w.cell? ⟨b, 0, none⟩ = some (.int .i64 n)) (h0 : n ≠ 0) (h2 : n ≠ 2) :
    Calls Try.prog 26 #[.pointer (some ⟨b, 0, none⟩)] w fun e w' => Ends (wantK n) 9 e ∧ Below w.heap.size w w' := by
  by_cases h1 : n = 1
  · subst h1; exact Panics_1_run b w hc
  by_cases h3 : n = 3
  · subst h3; exact Panics_1_error b w hc
  by_cases h4 : n = 4
  · subst h4; exact Panics_1_text b w hc
  have e : wantK n = 5 := by simp [wantK, h0, h1, h2, h3, h4]
  rw [e]
  exact Panics_1_int b n w hc (by simp [h0]) (by simp [h1]) (by simp [h2]) (by simp [h3]) (by simp [h4])

end Go.Proofs.Ytidlncopjniaeaa

/- tenonmake.Panics of every kind. -/
namespace Go.Proofs.Ytidlncopjniaeaa
open Go.RowKit

set_option maxRecDepth 100000 in
set_option maxHeartbeats 2000000 in
theorem Panics_1_zero (b : Nat) (w : World) (hc : w.cell? ⟨b, 0, none⟩ = some (.int .i64 0)) :
    Calls Try.prog 26 #[.pointer (some ⟨b, 0, none⟩)] w fun e w' => Ends 1 9 e ∧ Below w.heap.size w w' := by
  obtain ⟨s, w1, hix, hb⟩ := idx_out w
  go_enter Try.func26, Try.ntmps26
  go_wp2_with fail
  exact ⟨rfl, .inr ⟨_, rfl, Kd_bounds _ _ _ _⟩, hb⟩
set_option maxRecDepth 100000 in
set_option maxHeartbeats 2000000 in
theorem Panics_1_two (b : Nat) (w : World) (hc : w.cell? ⟨b, 0, none⟩ = some (.int .i64 2)) :
    Calls Try.prog 26 #[.pointer (some ⟨b, 0, none⟩)] w fun e w' => Ends 2 50 e ∧ Below w.heap.size w w' := by
  go_enter Try.func26, Try.ntmps26
  go_wp2_with fail
  exact ⟨rfl, .inr ⟨_, rfl, Kd_errno _⟩, Below.refl _ _⟩
/-- with what kind Panics panics, and with which error -/
def panK (n : Int) : Int := if n = 0 then 1 else wantK n
def panE (n : Int) : Int := if n = 2 then 50 else 9
theorem panK_ne (n : Int) : panK n ≠ 0 := by
  unfold panK wantK
  split
  · decide
  · split <;> (try decide)
    split <;> (try decide)
    split <;> (try decide)
    split <;> decide
theorem Panics_1_all (b : Nat) (n : Int) (w : World) (hc : w.cell? ⟨b, 0, none⟩ = some (.int .i64 n)) :
    Calls Try.prog 26 #[.pointer (some ⟨b, 0, none⟩)] w fun e w' => Ends (panK n) (panE n) e ∧ Below w.heap.size w w' := by
  by_cases h0 : n = 0
  · subst h0; exact Panics_1_zero b w hc
  by_cases h2 : n = 2
  · subst h2; exact Panics_1_two b w hc
  have e1 : panK n = wantK n := by simp [panK, h0]
  have e2 : panE n = 9 := by simp [panE, h2]
  rw [e1, e2]
  exact Panics_1_any b n w hc h0 h2
set_option maxRecDepth 100000 in
set_option maxHeartbeats 2000000 in
theorem Panics_all (n : Int) (w : World) :
    Calls Try.prog 18 #[.int .i64 n] w fun e w' => (∃ v, e = .panicked [{ v := v, recovered := false }] ∧ Kd v (panK n) (panE n)) ∧ Below w.heap.size w w' := by
  have hmf : ∀ (fn : Fn) (first cap : Array Value) (w : World), (Instr.makeFunc fn first cap).run Try.prog w = .ok (.func fn first cap) w := fun _ _ _ _ => rfl
  have HB : Hid (Below w.heap.size w (w.alloc (.cells #[.int .i64 n] 3))) := (Below.refl _ _).alloc (Nat.le_refl _) _
  have HC := Panics_1_all w.heap.size n (w.alloc (.cells #[.int .i64 n] 3)) (by simp)
  go_enter Try.func18, Try.ntmps18
  go_wp2_with fail
  refine HC.mono ?_
  rintro e w1 ⟨he, hb⟩
  have HB1 : Hid (Below w.heap.size w w1) := HB.out.trans (hb.mono (by simp))
  clear hb HC
  rcases he with ⟨rfl, h9, _⟩ | ⟨v, rfl, hk⟩
  · exact absurd h9 (panK_ne n)
  · exact ⟨rfl, ⟨v, rfl, hk⟩, HB1.out⟩
end Go.Proofs.Ytidlncopjniaeaa


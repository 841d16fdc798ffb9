/- tenonmake.Alien: whatever number it is given, a value of a type that has no kind. -/
import Derived.Test.YtbaadndogikphaaPre
import Derived.MapKept
namespace Go.Proofs.Ytbaadndogikphaa
open Go.RowKit

theorem ins_a (w : World) : ∃ w', (Instr.mapUpdate 83 (.map (some w.heap.size)) (.string ⟨#[97]⟩) (.int .i64 1)).run Try.prog (w.alloc (.map #[] 0)) = .ok () w' ∧ Below w.heap.size w w' := by
  have hu : Try.prog.underlying 83 = some (.map 9 3) := by kernel_rfl
  have hs : Try.prog.underlying 9 = some .string := by kernel_rfl
  have hg : (w.alloc (.map #[] 0)).heap[w.heap.size]? = some (.map #[] 0) := heap_alloc_new w _
  refine ⟨{ (w.alloc (.map #[] 0)) with heap := (w.alloc (.map #[] 0)).heap.setIfInBounds w.heap.size (.map #[{ key := .string ⟨#[97]⟩, val := .int .i64 1, born := 0 }] 1) }, ?_, ?_⟩
  · have h1 : Instr.findNow .string (.string ⟨#[97]⟩) [] 0 = some none := rfl
    simp [Instr.mapUpdate, run_underlying hu, MapKept.run_getObj_map hg, MapKept.run_checkKey hs (show MapKept.IsKey .string (.string ⟨#[97]⟩) from trivial), MapKept.run_findKey hs h1, MapKept.run_setObj_map _ hg, Result.andThen]
  · refine ⟨rfl, rfl, rfl, by simp, fun k hk => ?_⟩
    simp only [Array.getElem?_setIfInBounds]
    rw [if_neg (by omega)]
    exact Below.heap_alloc _ _ _ hk

set_option maxRecDepth 100000 in
set_option maxHeartbeats 400000 in
theorem alien_any (n : Int) (w : World) (_h0 : -9223372036854775808 ≤ n) (_h1 : n ≤ 9223372036854775807) :
    Calls Try.prog 28 #[.int .i64 n] w fun e w' => ∃ T x, e = .returned (.iface T x) ∧ Alien T ∧ Below w.heap.size w w' := by
  have hmm := @run_makeMap Try.prog
  obtain ⟨wm, hm, hbm⟩ := ins_a w
  go_enter Try.func28, Try.ntmps28
  go_wp2
  all_goals first | (go_ret; refine ⟨_, _, rfl, by unfold Alien; decide, ?_⟩; first | exact hbm | exact Below.refl _ _ | exact (Below.refl _ _).alloc (Nat.le_refl _) _)
end Go.Proofs.Ytbaadndogikphaa

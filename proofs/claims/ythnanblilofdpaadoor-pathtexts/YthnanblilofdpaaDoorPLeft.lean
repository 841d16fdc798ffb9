/- The statement's own: left. -/
import Derived.Test.YthnanblilofdpaaDoorPHand
namespace Go.Proofs.YthnanblilofdpaaDoor
open Go.RowKit

set_option maxRecDepth 100000 in
set_option maxHeartbeats 2000000 in
theorem left_any (l : List Stp) (a : Option Addr) (cap g cap2 b : Nat) (w : World) (hb : b ≤ w.heap.size) (h : Rdw w b a l) (hin : Rdw w w.heap.size (some ⟨g, 0, none⟩) (l ++ [Stp.behind])) (hl : l.length * 32 ≤ 140737488351232) (hc : l.length + 1 ≤ cap2) :
    Calls Tryd.prog 7 #[.slice (some ⟨g, 0, none⟩) (l.length + 1) cap2, .slice a l.length cap] w fun e w' => e = .returned (.bool true) ∧ Below w.heap.size w w' := by
  have HS : Hid (Calls Tryd.prog 15 #[.slice (some ⟨g, 0, none⟩) l.length cap2, .slice a l.length cap] w fun e w' => e = .returned (.bool true) ∧ Below w.heap.size w w') := by
    have h1 : Rdw w w.heap.size (some ⟨g, 0, none⟩) l := fun j x hx => hin j x (by rw [List.getElem?_append_left ((List.getElem?_eq_some_iff.1 hx).1)]; exact hx)
    have := SameW_any l l (some ⟨g, 0, none⟩) a cap2 cap w.heap.size w (Nat.le_refl _) h1 (h.on (Below.refl _ _) hb) (by unfold maxLen; omega) (by unfold maxLen; omega)
    simp only [decide_true] at this
    exact this
  obtain ⟨g', o', e, hg, c0, c1, c2, _⟩ := hin l.length Stp.behind (by rw [List.getElem?_append_right (Nat.le_refl _)]; simp)
  simp only [Option.some.injEq, Addr.mk.injEq, and_true] at e
  obtain ⟨rfl, rfl⟩ := e
  simp only [Nat.zero_add] at c0 c1 c2
  have HC : Hid (∀ W, Below w.heap.size w W → W.cell? ⟨g, l.length * 3, none⟩ = some (.string Stp.behind.name) ∧ W.cell? ⟨g, l.length * 3 + 1, none⟩ = some (.bool Stp.behind.at') ∧ W.cell? ⟨g, l.length * 3 + 2, none⟩ = some (.int .i64 Stp.behind.idx)) := fun W hW =>
    ⟨by rw [hW.cell (p := ⟨g, l.length * 3, none⟩) hg]; exact c0, by rw [hW.cell (p := ⟨g, l.length * 3 + 1, none⟩) hg]; exact c1, by rw [hW.cell (p := ⟨g, l.length * 3 + 2, none⟩) hg]; exact c2⟩
  have hq : ∀ W : World, (Op.equalIn 10000 32 (.agg #[.string Stp.behind.name, .bool Stp.behind.at', .int .i64 Stp.behind.idx]) (.agg #[.string ⟨#[98, 101, 104, 105, 110, 100]⟩, .bool false, .int .i64 0])).run Tryd.prog W = .ok true W := fun W => by
    have := eq_st Stp.behind Stp.behind W
    simp only [decide_true] at this
    exact this
  clear c0 c1 c2 h hin
  unfold Stp.behind at HC hq
  simp only at HC hq
  generalize l.length = n at *
  go_enter Tryd.func7, Tryd.ntmps7
  go_wp2_with fail
  refine HS.out.mono ?_
  rintro e w1 ⟨rfl, hb1⟩
  obtain ⟨d0, d1, d2⟩ := HC.out w1 hb1
  have HB1 : Hid (Below w.heap.size w w1) := hb1
  clear hb1
  go_wp2_with fail
  go_ret
  exact ⟨rfl, HB1.out⟩
end Go.Proofs.YthnanblilofdpaaDoor

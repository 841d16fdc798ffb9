/- tenonlaw14.left: what was handed in is as it was. -/
import Derived.Test.YtilhheianbbbjaaK2
namespace Go.Proofs.Ytilhheianbbbjaa
open Go.RowKit

set_option maxRecDepth 100000 in
set_option maxHeartbeats 4000000 in
theorem left_any (g c : Nat) (a : Option Addr) (cap : Nat) (l : List Int) (B : Nat) (w : World) (h : RefsAt w B a l) (hB : B ≤ w.heap.size) (hg : OwnR w 25 g (l.length + 1) c (rv (l ++ [99]))) (hl : l.length * 8 ≤ 140737488355328) :
    Calls Try.prog 15 #[.slice (some ⟨g, 0, none⟩) (l.length + 1) c, .slice a l.length cap] w fun e w' => e = .returned (.bool true) ∧ Below w.heap.size w w' := by
  obtain ⟨G, hG⟩ : ∃ G : Nat → Int, ∀ t, G t = l.getD t 0 := ⟨_, fun _ => rfl⟩
  have HL : Hid (∀ W, Below w.heap.size w W → W.cell? ⟨g, l.length, none⟩ = some (.int .u64 99)) := fun W hW => by
    rw [hW.cell (p := ⟨g, l.length, none⟩) hg.lt]; exact hg.cell (by simp [rv])
  have HC : Hid (∀ W, Below w.heap.size w W → ∀ t, t < l.length → W.cell? ⟨g, t, none⟩ = some (.int .u64 (G t))) := fun W hW t ht => by
    rw [hW.cell (p := ⟨g, t, none⟩) hg.lt, hG]; exact hg.cell (by simp [rv, List.getElem?_append_left, ht])
  by_cases hn : l = []
  · subst hn
    go_enter Try.func15, Try.ntmps15
    go_wp2
    go_loopw [5] (fun vi wr => vi = .int .i64 0 ∧ wr = w) (fun _ _ => 0)
    case atStart => exact ⟨rfl, rfl⟩
    case round =>
      obtain ⟨rfl, rfl⟩ := hrel
      have hc := HL.out _ (Below.refl _ _)
      simp only [List.length_nil] at hc
      go_wp2
      go_ret
      exact ⟨by simp, Below.refl _ _⟩
  · obtain ⟨b, o, rfl, hb, hr⟩ := h.row.ne (by simpa [rv] using hn)
    have HR : Hid (∀ W, Below w.heap.size w W → ∀ t, t < l.length → W.cell? ⟨b, o + t, none⟩ = some (.int .u64 (G t))) := fun W hW t ht => by
      rw [hW.cell (p := ⟨b, o + t, none⟩) (show b < w.heap.size by omega), hG]; exact hr t _ (by simp [rv, ht])
    clear h hr hg hG
    go_enter Try.func15, Try.ntmps15
    go_wp2
    go_loopw [5] (fun vi wr => ∃ i : Nat, vi = .int .i64 i ∧ i ≤ l.length ∧ Hid (Below w.heap.size w wr)) (fun vi _ => l.length - (intOf vi).toNat)
    case atStart => exact ⟨0, rfl, Nat.zero_le _, Below.refl _ _⟩
    case round =>
      obtain ⟨i, rfl, hi, HB⟩ := hrel
      by_cases hlt : i < l.length
      · have hc1 : wr.cell? ⟨g, i, none⟩ = some (.int .u64 (G i)) := HC.out wr HB.out i hlt
        have hc2 : wr.cell? ⟨b, o + i, none⟩ = some (.int .u64 (G i)) := HR.out wr HB.out i hlt
        go_wp2_with fail
        go_big_quiet (fail)
        go_wp2
        go_roundw
        case rel => exact ⟨i + 1, by go_num, by omega, ⟨HB.out.os, HB.out.tape, HB.out.output, HB.out.size, HB.out.block⟩⟩
        case measure => simp [intOf]; omega
      · obtain rfl : i = l.length := by omega
        have hc := HL.out _ HB.out
        go_wp2
        go_ret
        exact ⟨by simp, HB.out⟩
end Go.Proofs.Ytilhheianbbbjaa


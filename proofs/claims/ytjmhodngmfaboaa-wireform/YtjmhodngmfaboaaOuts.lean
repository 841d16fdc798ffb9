/- Bytes that a function made: rows that are joined. -/
import Derived.Test.YtjmhodngmfaboaaEncH
namespace Go.Proofs.Ytjmhodngmfaboaa
open Go.RowKit

/-- what a function that makes bytes answers -/
def NewB (w : World) (ys : List Int) (e : Ending) (w' : World) : Prop := ∃ g cap, e = .returned (.slice (some ⟨g, 0, none⟩) ys.length cap) ∧ Outs w' w.heap.size (some ⟨g, 0, none⟩) cap ys ∧ Below w.heap.size w w'
theorem u8s_one (ys : List Int) : ∀ u ∈ u8s ys, u.oneCell' = true := fun u hu => by
  simp only [u8s, List.mem_map] at hu
  obtain ⟨x, _, rfl⟩ := hu; rfl
theorem outs_src {w : World} {base g cap : Nat} {ys : List Int} (h : Outs w base (some ⟨g, 0, none⟩) cap ys) : Src Try.prog 1 23 (.slice (some ⟨g, 0, none⟩) ys.length cap) ys.length (u8s ys) w :=
  Src.ofSlice _ Try.undB ⟨g, 0, none⟩ ys.length cap _ (by simp [u8s]) (fun j u hu => h.1.cells (g := g) rfl j u hu) (u8s_one ys)
theorem outs_call {w w' : World} {base : Nat} {a : Option Addr} {cap : Nat} {xs : List Int} (h : Outs w base a cap xs) (hb : Below w.heap.size w w') : Outs w' base a cap xs :=
  ⟨owns_below hb h.1, Nat.le_trans h.2 hb.size⟩
theorem outs_join {w1 w2 w3 : World} {base g1 cap1 : Nat} {xs ys : List Int} {g' cap' n : Nat} (h : Outs w1 base (some ⟨g1, 0, none⟩) cap1 xs) (hb : Below w1.heap.size w1 w2) (ho : w3.ownsRow base 5 1 (.slice (some ⟨g', 0, none⟩) n cap') n (u8s xs ++ u8s ys)) (hn : n = (xs ++ ys).length) (hg : w2.grownBy w3 (some g1)) : Outs w3 base (some ⟨g', 0, none⟩) cap' (xs ++ ys) ∧ Below base w1 w3 := by
  have hz := hg.size
  have hz2 := hb.size
  have h2 := h.2
  refine ⟨⟨by rw [u8s_app, ← hn]; exact ho, by omega⟩, ?_⟩
  exact (hb.mono h.2).grown hg (by omega) (fun k e => by injection e with e; subst e; exact (h.1.lt g1 rfl).1)
theorem outs_none (w : World) : Outs (w.alloc (.cells #[] 5)) w.heap.size (some ⟨w.heap.size, 0, none⟩) 0 [] :=
  ⟨⟨rfl, .inr ⟨w.heap.size, 0, #[], rfl, Nat.le_refl _, heap_alloc_new w _, Nat.le_refl _, by simp [maxLen], rfl, rfl⟩⟩, by simp⟩
end Go.Proofs.Ytjmhodngmfaboaa

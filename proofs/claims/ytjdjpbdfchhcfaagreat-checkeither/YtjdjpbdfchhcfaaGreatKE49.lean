/- Types and values that tenonlaw07.CheckParts makes, as they lie in memory. -/
import Derived.Test.YtjdjpbdfchhcfaaGreatKE31
import Derived.Test.YtjdjpbdfchhcfaaGreatKE48
import Derived.Test.YtjdjpbdfchhcfaaGreatKE26
import Derived.Laws.Tables
namespace Go.Proofs.YtjdjpbdfchhcfaaGreat
open Go.RowKit

theorem ybs1 (w : World) {ca : Array Value} (ha : ca.size = 18) : (Instr.buildSlice 30 1 #[(0, .agg ca)]).run Tryz.prog w = .ok (.slice (some ⟨w.heap.size, 0, none⟩) 1 1) (w.alloc (.cells ca 34)) := by
  have h := yzero
  cases hie : Tryz.prog.info? 34 with
  | none => rw [hie] at h; simp at h
  | some ie =>
    rw [hie] at h
    simp only [Option.map_some, Option.some.injEq, Prod.mk.injEq] at h
    obtain ⟨h1, h2⟩ := h
    cases hz : ie.zero with
    | none => rw [hz] at h2; simp at h2
    | some z =>
      rw [hz] at h2
      simp only [Option.map_some, Option.some.injEq] at h2
      refine run_buildSlice w _ 34 1 _ ca ie z Tryz.underlying30 hie hz (by rw [h1]; decide) (by rw [h1]; decide) ?_
      rw [h1]
      have := Go.Great.fill_whole (s := 18) (by decide) [.agg ca] ((Array.range (1 * 18)).map (z.cells[· % z.cells.size]!)) (by simp [Value.cells, ha]) (by simp)
      simpa [Value.cells] using this

section
variable {w : World} {B : Nat → Prop} {g : Nat} {a b : Ty} {ca cb : Array Value}
end

theorem old_alloc {w : World} {k : Nat} (o : Obj) (hk : k < w.heap.size) : (w.alloc o).heap[k]? = w.heap[k]? := Below.heap_alloc _ _ _ hk
section
variable (v : Tm) (x : Value) (a b : Ty) (ca cb : Array Value) (op : Bool) (W : World)
end

theorem wp_alloc_type {o : Oper} {a : Act} {w : World} {K : Act → World → Prop} {Q : Exit → Act → World → Prop} (ho : o.op = .alloc 34)
    (h : ∀ z : Array Value, z.size = 18 → K (a.put o.dst (.pointer (some ⟨w.heap.size, 0, none⟩))) (w.alloc (.cells z 34))) : o.wp Tryz.prog a w K Q := by
  have hz := yzero
  cases hie : Tryz.prog.info? 34 with
  | none => rw [hie] at hz; simp at hz
  | some ie =>
    rw [hie] at hz
    simp only [Option.map_some, Option.some.injEq, Prod.mk.injEq] at hz
    cases hz0 : ie.zero with
    | none => rw [hz0] at hz; simp at hz
    | some z =>
      rw [hz0] at hz
      simp only [Option.map_some, Option.some.injEq] at hz
      have := h z.cells hz.2
      have hr : (Instr.alloc 34 true (.tuple #[])).run Tryz.prog w = .ok (.pointer (some ⟨w.heap.size, 0, none⟩)) (w.alloc (.cells z.cells 34)) := by
        simp [Instr.alloc, zeroValue, typeInfo, hie, hz0, newVar, newRow]
      unfold Oper.wp execOp
      simp only [ho, Sem.run_bind, hr, Result.andThen_ok]
      exact this
end Go.Proofs.YtjdjpbdfchhcfaaGreat


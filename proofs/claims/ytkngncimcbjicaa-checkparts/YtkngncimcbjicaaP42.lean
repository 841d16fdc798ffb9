/- The Go function tenonlaw07.CheckSound returns true. -/
import Derived.Test.YtkngncimcbjicaaP38
import Derived.Test.YtkngncimcbjicaaP37
import Derived.Test.YtkngncimcbjicaaP41
import Derived.Test.YtkngncimcbjicaaP6
import Derived.Great.BuildSlice
namespace Go.Proofs.Ytkngncimcbjicaa
open Go.RowKit

theorem bs_row {P : Program} {ops : Array Oper} {rest : List Oper} {Q : Exit → Act → World → Prop} {a : Act} {w w' : World} {d : Option Tmp} {ty T : TypeId} {n : Nat} {parts : Array (Nat × Operand)} {vs : Array (Nat × Value)} {ps : String} {af : Array Edge} {gd : Option (Nat × Bool)} {v : Value}
    (hw : Region.wanted (Oper.mk d (.buildSlice ty n parts) T ps af gd) (yielded ops a.tmps) = true) (hx : (parts.toList.map fun x => (x.1, a.eval x.2)) = vs.toList) (hl : (Instr.buildSlice ty n vs).run P w = .ok v w')
    (h : wpList P ops Q rest (a.put d v) w') : wpList P ops Q (Oper.mk d (.buildSlice ty n parts) T ps af gd :: rest) a w := by
  rw [wpList, if_pos hw]
  refine .inl ?_
  have hy : (parts.map fun (i, x) => (i, a.eval x)) = vs := Array.ext' (by rw [Array.toList_map]; exact hx)
  unfold Oper.wp execOp
  simp only [hy, Sem.run_bind, Result.andThen_ok, hl]
  exact h
theorem yzero : (Try.prog.info? 34).map (fun i => (i.size, i.zero.map (fun z => z.cells.size))) = some (18, some 18) := by kernel_rfl
abbrev both (ca cb : Array Value) : Array Value := (ca.toList ++ cb.toList).toArray
theorem ybs (w : World) {ca cb : Array Value} (ha : ca.size = 18) (hb : cb.size = 18) : (Instr.buildSlice 30 2 #[(0, .agg ca), (1, .agg cb)]).run Try.prog w = .ok (.slice (some ⟨w.heap.size, 0, none⟩) 2 2) (w.alloc (.cells (both ca cb) 34)) := by
  have h := yzero
  cases hie : Try.prog.info? 34 with
  | none => rw [hie] at h; simp at h
  | some ie =>
    rw [hie] at h
    simp only [Option.map_some, Option.some.injEq, Prod.mk.injEq] at h
    obtain ⟨h1, h2⟩ := h
    cases hz : ie.zero with
    | none => rw [hz] at h2; simp at h2
    | some z =>
      rw [hz] at h2
      simp only [Option.map_some, Option.some.injEq] at h2
      refine run_buildSlice w _ 34 2 _ (both ca cb) ie z Try.underlying30 hie hz (by rw [h1]; decide) (by rw [h1]; decide) ?_
      rw [h1]
      have := Go.Great.fill_whole (s := 18) (by decide) [.agg ca, .agg cb] ((Array.range (2 * 18)).map (z.cells[· % z.cells.size]!)) (by simp [Value.cells, ha, hb]) (by simp)
      simpa [Value.cells] using this
def tyNil : Ty := .mk 3 1 (.mk 0 false 0 0 ⟨#[]⟩ ByteArray.empty 0 .nil .nil ⟨#[]⟩ 0) .nil [] [] false ⟨#[]⟩
def tyOnl : Ty := .mk 4 0 (.mk 1 false 0 0 ⟨#[]⟩ ByteArray.empty 0 .nil .nil ⟨#[]⟩ 0) .nil [] [] false ⟨#[]⟩
abbrev ncells : Array Value := #[.int .i64 3, .int .i64 1, .int .i64 0, .bool false, .int .i64 0, .float .f64 0, .string { data := #[] }, .slice none 0 0, .int .u64 0, .slice none 0 0, .slice none 0 0, .string { data := #[] }, .int .i64 0, .slice none 0 0, .slice none 0 0, .slice none 0 0, .bool false, .string { data := #[] }]
abbrev ocells : Array Value := #[.int .i64 4, .int .i64 0, .int .i64 1, .bool false, .int .i64 0, .float .f64 0, .string { data := #[] }, .slice none 0 0, .int .u64 0, .slice none 0 0, .slice none 0 0, .string { data := #[] }, .int .i64 0, .slice none 0 0, .slice none 0 0, .slice none 0 0, .bool false, .string { data := #[] }]
end Go.Proofs.Ytkngncimcbjicaa


/- tenonref01.seen.part, Check and Size: the reference's walk through a term comes to the plain walk. -/
import Derived.Test.YtcfcnijldnbbnaaR8
import Derived.Test.YtcfcnijldnbbnaaR3
import Derived.Deep.RegionWith
namespace Go.Proofs.Ytcfcnijldnbbnaa
open Go.RowKit

/-- what the reference's walk answers, against the plain walk's numbers -/
def Seen (at' : Int) (r : Wr) (n d a : Int) : Prop := (r.e = 0 → n = r.p ∧ d = r.d ∧ a = at') ∧ (r.e ≠ 0 → a = r.p - 1)

/-- block g holds a 'seen' -/
def Bx (w : World) (g : Nat) (n d a e : Int) : Prop := w.heap[g]? = some (.cells #[.int .i64 n, .int .i64 d, .int .i64 a, .int .i64 e] 112 (0, 0))
theorem Bx.cells {w : World} {g : Nat} {n d a e : Int} (h : Bx w g n d a e) : (w.cell? ⟨g, 0, none⟩ = some (.int .i64 n) ∧ w.cell? ⟨g, 1, none⟩ = some (.int .i64 d) ∧ w.cell? ⟨g, 2, none⟩ = some (.int .i64 a) ∧ w.cell? ⟨g, 3, none⟩ = some (.int .i64 e)) ∧ (w.frozen? ⟨g, 0, none⟩ = false ∧ w.frozen? ⟨g, 1, none⟩ = false ∧ w.frozen? ⟨g, 2, none⟩ = false ∧ w.frozen? ⟨g, 3, none⟩ = false) := by
  unfold Bx at h
  refine ⟨⟨?_, ?_, ?_, ?_⟩, ?_, ?_, ?_, ?_⟩
  · rw [cell_of_row w g 0 _ _ _ h]; rfl
  · rw [cell_of_row w g 1 _ _ _ h]; rfl
  · rw [cell_of_row w g 2 _ _ _ h]; rfl
  · rw [cell_of_row w g 3 _ _ _ h]; rfl
  · exact frozen_of_row w g 0 _ _ h
  · exact frozen_of_row w g 1 _ _ h
  · exact frozen_of_row w g 2 _ _ h
  · exact frozen_of_row w g 3 _ _ h
theorem Bx.later {w w' : World} {g : Nat} {n d a e : Int} (h : Bx w g n d a e) (hb : Below w.heap.size w w') : Bx w' g n d a e := by
  have hg : g < w.heap.size := World.block_lt_of_cell? _ _ h.cells.1.1
  unfold Bx at h ⊢; rw [hb.block g hg]; exact h

theorem Bx.other {w : World} {g : Nat} {n d a e : Int} (h : Bx w g n d a e) {p : Addr} (hp : g ≠ p.block) (v : Value) : Bx (w.setCell p v) g n d a e := by
  unfold Bx at h ⊢; rw [heap_setCell_other _ _ _ _ hp]; exact h
theorem Same.set {S : Nat → Prop} {w w' : World} (h : Same S w w') {p : Addr} (hp : ¬ S p.block) (v : Value) : Same S w (w'.setCell p v) := fun k hk => by
  rw [heap_setCell_other _ _ _ _ (fun e => hp (e ▸ hk))]; exact h k hk

/-- the eleven cells of a term in a box -/
theorem tbox {w : World} {g : Nat} {k : Int} {b : Bool} {i : Int} {f : Nat} {tx : ByteArray} {vb : Value} {rf : Int} {vl vf : Value} {c : ByteArray} {vr : Int}
    (h : w.heap[g]? = some (.cells (tcells k b i f tx vb rf vl vf c vr) 29 (0, 0))) :
    w.cell? ⟨g, 0, none⟩ = some (.int .i64 k) ∧ w.cell? ⟨g, 1, none⟩ = some (.bool b) ∧ w.cell? ⟨g, 2, none⟩ = some (.int .i64 i) ∧ w.cell? ⟨g, 3, none⟩ = some (.float .f64 f) ∧ w.cell? ⟨g, 4, none⟩ = some (.string tx) ∧ w.cell? ⟨g, 5, none⟩ = some vb ∧ w.cell? ⟨g, 6, none⟩ = some (.int .u64 rf) ∧ w.cell? ⟨g, 7, none⟩ = some vl ∧ w.cell? ⟨g, 8, none⟩ = some vf ∧ w.cell? ⟨g, 9, none⟩ = some (.string c) ∧ w.cell? ⟨g, 10, none⟩ = some (.int .i64 vr) := by
  have hh := fun j => cell_of_row w g j _ _ _ h
  exact ⟨hh 0, hh 1, hh 2, hh 3, hh 4, hh 5, hh 6, hh 7, hh 8, hh 9, hh 10⟩

theorem wrap_small {n : Int} (h0 : 0 ≤ n) (h1 : n ≤ 1000000) : IntKind.i64.wrap n = n := by
  rw [IntKind.wrap_i64]; omega

def PartC (N : Nat) : Prop := ∀ (t : Tm), t.sz ≤ N → ∀ (cs : Array Value) (B : Nat → Prop) (p d a n : Int) (w : World), t.In w B cs → Sub B w → 0 ≤ p → p ≤ 16384 → 1 ≤ n → n ≤ 65 →
  Calls Try.prog 41 #[.agg #[.int .i64 p, .int .i64 d, .int .i64 a, .int .i64 0], .agg cs, .int .i64 n] w fun e w' => ∃ n' d' a', e = .returned (.agg #[.int .i64 n', .int .i64 d', .int .i64 a', .int .i64 (t.wk n p d).e]) ∧ Below w.heap.size w w' ∧ Seen a (t.wk n p d) n' d' a'

end Go.Proofs.Ytcfcnijldnbbnaa

/- tenonref01.Check at a term: what the plain walk through it says. -/
namespace Go.Proofs.Ytcfcnijldnbbnaa
open Go.RowKit

end Go.Proofs.Ytcfcnijldnbbnaa


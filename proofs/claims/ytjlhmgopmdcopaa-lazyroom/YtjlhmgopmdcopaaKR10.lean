/- value.Same at two terms' values; two terms in boxes. -/
import Derived.Test.YtjlhmgopmdcopaaKR6
import Derived.Test.YtjlhmgopmdcopaaKR9
namespace Go.Proofs.Ytjlhmgopmdcopaa
open Go.RowKit

/-- the eleven cells of a term in box g -/
def Tbx (W : World) (g : Nat) (k : Int) (b : Bool) (i : Int) (f : Nat) (tx : ByteArray) (vb : Value) (rf : Int) (vl vf : Value) (c : ByteArray) (vr : Int) : Prop :=
  W.cell? ⟨g, 0, none⟩ = some (.int .i64 k) ∧ W.cell? ⟨g, 1, none⟩ = some (.bool b) ∧ W.cell? ⟨g, 2, none⟩ = some (.int .i64 i) ∧ W.cell? ⟨g, 3, none⟩ = some (.float .f64 f) ∧ W.cell? ⟨g, 4, none⟩ = some (.string tx) ∧ W.cell? ⟨g, 5, none⟩ = some vb ∧ W.cell? ⟨g, 6, none⟩ = some (.int .u64 rf) ∧ W.cell? ⟨g, 7, none⟩ = some vl ∧ W.cell? ⟨g, 8, none⟩ = some vf ∧ W.cell? ⟨g, 9, none⟩ = some (.string c) ∧ W.cell? ⟨g, 10, none⟩ = some (.int .i64 vr)
theorem Tm.In_box {w : World} {B : Nat → Prop} {t : Tm} {cs : Array Value} (h : t.In w B cs) : ∃ b i f tx vb rf vl vf c vr, cs = tcells t.kind b i f tx vb rf vl vf c vr := by
  cases t; simp only [Tm.In] at h; obtain ⟨_, _, _, _, _, _, rfl, _⟩ := h; exact ⟨_, _, _, _, _, _, _, _, _, _, rfl⟩
end Go.Proofs.Ytjlhmgopmdcopaa


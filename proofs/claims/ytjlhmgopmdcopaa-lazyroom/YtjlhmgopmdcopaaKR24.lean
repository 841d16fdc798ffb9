/- tenonlaw10.lives: the document's examples come. First part: New, Get, Ask. -/
import Derived.Test.YtjlhmgopmdcopaaKR22
import Derived.Test.YtjlhmgopmdcopaaKR23
import Derived.Test.YtjlhmgopmdcopaaKR18
import Derived.Test.YtjlhmgopmdcopaaKR3
import Derived.LoopN
import Derived.Lib.Bytealg
namespace Go.Proofs.Ytjlhmgopmdcopaa
open Go.RowKit

def tOne : Tm := .mk 3 false 1 0 ByteArray.empty ByteArray.empty 0 .nil .nil ByteArray.empty 0
def tDct : Tm := .mk 9 false 0 0 ByteArray.empty ByteArray.empty 0 .nil (.cons ⟨#[97]⟩ tOne .nil) ByteArray.empty 0

/-- at b lies a Thing 7 with a: 1 -/
def Tg (w : World) (b : Nat) : Prop := ∃ g cap, w.cell? ⟨b, 0, none⟩ = some (.int .u64 7) ∧ w.cell? ⟨b, 1, none⟩ = some (.slice (some ⟨g, 0, none⟩) 1 cap) ∧ w.cell? ⟨g, 0, none⟩ = some (.string ⟨#[97]⟩) ∧ w.cell? ⟨g, 1, none⟩ = some (.iface 2 (.int .i64 1))
theorem Tg.keep {w w' : World} {b : Nat} (h : Tg w b) (hb : Below w.heap.size w w') : Tg w' b := by
  obtain ⟨g, cap, h1, h2, h3, h4⟩ := h
  have l1 := World.block_lt_of_cell? _ _ h1
  have l3 := World.block_lt_of_cell? _ _ h3
  exact ⟨g, cap, by rw [hb.cell (p := ⟨b, 0, none⟩) l1]; exact h1, by rw [hb.cell (p := ⟨b, 1, none⟩) l1]; exact h2, by rw [hb.cell (p := ⟨g, 0, none⟩) l3]; exact h3, by rw [hb.cell (p := ⟨g, 1, none⟩) l3]; exact h4⟩

theorem strCmpO_run (a b : ByteArray) (w : World) : (callFunc 72 #[.string a, .string b]).run Try.prog w = .ok (.value (.int .i64 (Sp.cmpS a b))) w := by
  rw [run_callFunc_extern Try.func72 (by kernel_rfl) (by kernel_rfl) (by kernel_rfl) (e := Extern.BytealgCompare.compare) (by kernel_rfl), Lib.run_compareString]; rfl

end Go.Proofs.Ytjlhmgopmdcopaa

/- tenonlaw10.lives: Get, Ask and Give of the Thing. -/
namespace Go.Proofs.Ytjlhmgopmdcopaa
open Go.RowKit

end Go.Proofs.Ytjlhmgopmdcopaa

/- tenonlaw10.lives: Ask and Give of the Thing, and the whole. -/
namespace Go.Proofs.Ytjlhmgopmdcopaa
open Go.RowKit

end Go.Proofs.Ytjlhmgopmdcopaa


/- What stands behind a made object: its counts, its owner. Core.call, owned.Owner, owned.Give. -/
import Derived.Test.YtjlhmgopmdcopaaGreatKI32
import Derived.Deep.RegionHeld3
namespace Go.Proofs.YtjlhmgopmdcopaaGreat
open Go.RowKit

/-- all but block c is as it was -/
structure Kc (c : Nat) (w w' : World) : Prop where
  os : w'.os = w.os
  tape : w'.tape = w.tape
  output : w'.output = w.output
  size : w.heap.size ≤ w'.heap.size
  block : ∀ j, j < w.heap.size → j ≠ c → w'.heap[j]? = w.heap[j]?
theorem Kc.refl (c : Nat) (w : World) : Kc c w w := ⟨rfl, rfl, rfl, Nat.le_refl _, fun _ _ _ => rfl⟩
theorem Kc.trans {c : Nat} {a b d : World} (h : Kc c a b) (k : Kc c b d) : Kc c a d := ⟨k.os.trans h.os, k.tape.trans h.tape, k.output.trans h.output, Nat.le_trans h.size k.size, fun j h1 h2 => (k.block j (Nat.lt_of_lt_of_le h1 h.size) h2).trans (h.block j h1 h2)⟩
theorem Kc.of {c : Nat} {w w' : World} (h : Below w.heap.size w w') : Kc c w w' := ⟨h.os, h.tape, h.output, h.size, fun j h1 _ => h.block j h1⟩
theorem Kc.below {c B : Nat} {w w' : World} (h : Kc c w w') (hB : B ≤ c) (hs : B ≤ w.heap.size) : Below B w w' := ⟨h.os, h.tape, h.output, h.size, fun j hj => h.block j (by omega) (by omega)⟩
theorem Kc.set {c o : Nat} {w : World} (v : Value) : Kc c w (w.setCell ⟨c, o, none⟩ v) := ⟨rfl, rfl, rfl, by simp [World.setCell], fun j _ h2 => Below.heap_setCell _ _ _ _ h2⟩
theorem Kc.drew {c : Nat} {a w : World} (h : Kc c a w) : Kc c a w.drew := ⟨h.os, h.tape, h.output, h.size, h.block⟩
end Go.Proofs.YtjlhmgopmdcopaaGreat


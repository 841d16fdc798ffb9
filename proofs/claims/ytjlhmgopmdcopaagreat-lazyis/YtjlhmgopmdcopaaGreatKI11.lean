/- tenonref01.own at dicts and records: the fields' number and names. -/
import Derived.Test.YtjlhmgopmdcopaaGreatKI3
import Derived.Test.YtjlhmgopmdcopaaGreatKI4
namespace Go.Proofs.YtjlhmgopmdcopaaGreat
open Go.RowKit

/-- what the loop over the fields' names carries: behind j fields the rest is l, the name ahead is s -/
def NmLoop (w : World) (B : Nat → Prop) (fs : TmF) (af : Option Addr) (j : Nat) (l : TmF) (s : ByteArray) : Prop :=
  l.len + j = fs.len ∧ l.In w B af j ∧ Sp.named ByteArray.empty fs.names = Sp.named s l.names ∧ (j = 0 → s = ByteArray.empty) ∧ (0 < j → ∃ g o, af = some ⟨g, o, none⟩ ∧ B g ∧ w.cell? ⟨g, o + (j - 1) * 12, none⟩ = some (.string s))

section
variable (k : Int) (b : Bool) (i : Int) (f : Nat) (tx : ByteArray) (ab : Option Addr) (nb cb : Nat) (rf : Int) (al : Option Addr) (nl cl : Nat) (af : Option Addr) (cf : Nat) (c : ByteArray) (vr p n : Int) (w : World)
end
end Go.Proofs.YtjlhmgopmdcopaaGreat


/- value.termOf and value.entriesOf: the term of a value that can be, in new memory. -/
import Derived.Test.YtjlhmgopmdcopaaKR15
import Derived.Test.YtjlhmgopmdcopaaKR6
import Derived.Test.YtjlhmgopmdcopaaKR12
import Derived.Test.YtjlhmgopmdcopaaKR4
import Derived.Deep.RegionWith
namespace Go.Proofs.Ytjlhmgopmdcopaa
open Go.RowKit

mutual
/-- a term without what plays no part -/
def Tm.clean : Tm → Tm
  | .mk k b i f tx by' rf l fs c v => .mk k (if k = 2 then b else false) (if k = 3 then i else 0) (if k = 4 then f else 0) (if k = 5 then tx else ByteArray.empty) (if k = 6 then by' else ByteArray.empty) (if k = 7 then rf else 0) (if k = 8 then l.clean else .nil) (if k = 9 ∨ k = 10 then fs.clean else .nil) (if k = 10 then c else ByteArray.empty) (if k = 10 then v else 0)
def TmL.clean : TmL → TmL
  | .nil => .nil
  | .cons t l => .cons t.clean l.clean
def TmF.clean : TmF → TmF
  | .nil => .nil
  | .cons n t l => .cons n t.clean l.clean
end
mutual
/-- numbers are in their bounds -/
def Tm.Bdd : Tm → Prop
  | .mk _ _ i f _ _ rf l fs _ v => (-9223372036854775808 ≤ i ∧ i ≤ 9223372036854775807) ∧ f < 18446744073709551616 ∧ (0 ≤ rf ∧ rf ≤ 18446744073709551615) ∧ (-9223372036854775808 ≤ v ∧ v ≤ 9223372036854775807) ∧ l.Bdd ∧ fs.Bdd
def TmL.Bdd : TmL → Prop
  | .nil => True
  | .cons t l => t.Bdd ∧ l.Bdd
def TmF.Bdd : TmF → Prop
  | .nil => True
  | .cons _ t l => t.Bdd ∧ l.Bdd
end
end Go.Proofs.Ytjlhmgopmdcopaa

/- tenonref01.seen.part, Check and Size: the reference's walk through a term comes to the plain walk. -/
namespace Go.Proofs.Ytjlhmgopmdcopaa
open Go.RowKit

/-- what the reference's walk answers, against the plain walk's numbers -/
def Seen (at' : Int) (r : Wr) (n d a : Int) : Prop := (r.e = 0 → n = r.p ∧ d = r.d ∧ a = at') ∧ (r.e ≠ 0 → a = r.p - 1)

theorem Same.set {S : Nat → Prop} {w w' : World} (h : Same S w w') {p : Addr} (hp : ¬ S p.block) (v : Value) : Same S w (w'.setCell p v) := fun k hk => by
  rw [heap_setCell_other _ _ _ _ (fun e => hp (e ▸ hk))]; exact h k hk

end Go.Proofs.Ytjlhmgopmdcopaa

/- value.termOf at a list. -/
namespace Go.Proofs.Ytjlhmgopmdcopaa
open Go.RowKit

theorem RW.eleven {w wr : World} {g n : Nat} {xs : List Value} (h : RW 29 w wr g n xs) (o : Nat) (ho : o + 11 ≤ n) :
    ((∃ u, wr.cell? ⟨g, o, none⟩ = some u) ∧ wr.frozen? ⟨g, o, none⟩ = false) ∧ ((∃ u, wr.cell? ⟨g, o + 1, none⟩ = some u) ∧ wr.frozen? ⟨g, o + 1, none⟩ = false) ∧ ((∃ u, wr.cell? ⟨g, o + 2, none⟩ = some u) ∧ wr.frozen? ⟨g, o + 2, none⟩ = false) ∧ ((∃ u, wr.cell? ⟨g, o + 3, none⟩ = some u) ∧ wr.frozen? ⟨g, o + 3, none⟩ = false) ∧ ((∃ u, wr.cell? ⟨g, o + 4, none⟩ = some u) ∧ wr.frozen? ⟨g, o + 4, none⟩ = false) ∧ ((∃ u, wr.cell? ⟨g, o + 5, none⟩ = some u) ∧ wr.frozen? ⟨g, o + 5, none⟩ = false) ∧ ((∃ u, wr.cell? ⟨g, o + 6, none⟩ = some u) ∧ wr.frozen? ⟨g, o + 6, none⟩ = false) ∧ ((∃ u, wr.cell? ⟨g, o + 7, none⟩ = some u) ∧ wr.frozen? ⟨g, o + 7, none⟩ = false) ∧ ((∃ u, wr.cell? ⟨g, o + 8, none⟩ = some u) ∧ wr.frozen? ⟨g, o + 8, none⟩ = false) ∧ ((∃ u, wr.cell? ⟨g, o + 9, none⟩ = some u) ∧ wr.frozen? ⟨g, o + 9, none⟩ = false) ∧ ((∃ u, wr.cell? ⟨g, o + 10, none⟩ = some u) ∧ wr.frozen? ⟨g, o + 10, none⟩ = false) :=
  ⟨h.own o (by omega), h.own (o + 1) (by omega), h.own (o + 2) (by omega), h.own (o + 3) (by omega), h.own (o + 4) (by omega), h.own (o + 5) (by omega), h.own (o + 6) (by omega), h.own (o + 7) (by omega), h.own (o + 8) (by omega), h.own (o + 9) (by omega), h.own (o + 10) (by omega)⟩
end Go.Proofs.Ytjlhmgopmdcopaa

/- value.entriesOf: the entries of a dict that can be, in new memory. -/
namespace Go.Proofs.Ytjlhmgopmdcopaa
open Go.RowKit

theorem cell_far {w : World} {g o : Nat} {p : Addr} (h : p.block ≠ g) (v : Value) : (w.setCell ⟨g, o, none⟩ v).cell? p = w.cell? p := World.cell?_setCell_other _ _ _ _ (by intro e; exact h (by rw [← e]))

end Go.Proofs.Ytjlhmgopmdcopaa


/- Package value's order of any two values that can be is the plain order of their terms. -/
import Derived.Test.YtjlhmgopmdcopaaKR5
import Derived.Test.YtjlhmgopmdcopaaKR4
import Derived.Deep.RegionWith
namespace Go.Proofs.Ytjlhmgopmdcopaa
open Go.RowKit

end Go.Proofs.Ytjlhmgopmdcopaa

/- value.Order and value.Same at two terms' values. -/
namespace Go.Proofs.Ytjlhmgopmdcopaa
open Go.RowKit

/-- what Order answers: a number and an error -/
def Tm.ordN (s t : Tm) : Int := if s.all.e ≠ 0 ∨ t.all.e ≠ 0 then 0 else s.cmp t
def Tm.ordE (s t : Tm) : Int := if s.all.e ≠ 0 then s.all.e else t.all.e
/-- whether two values can be and are the same -/
def Tm.sameB (s t : Tm) : Bool := decide (s.all.e = 0 ∧ t.all.e = 0 ∧ s.cmp t = 0)

theorem Tm.ok_all {t : Tm} (h : t.all.e = 0) : t.Ok := ⟨1, 0, 0, h⟩

end Go.Proofs.Ytjlhmgopmdcopaa


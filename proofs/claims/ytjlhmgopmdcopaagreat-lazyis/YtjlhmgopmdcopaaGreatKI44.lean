/- Plain mathematics: a term and its clean one: the same walk, the same value, told the same. -/
import Derived.Test.YtjlhmgopmdcopaaGreatKI43
import Derived.Test.YtjlhmgopmdcopaaGreatKI2
namespace Go.Proofs.YtjlhmgopmdcopaaGreat



theorem Tm.cmp_self (t : Tm) : t.cmp t = 0 := by have := (Tm.neg t t).1; omega
theorem Tm.same_self {t : Tm} (h : t.all.e = 0) : t.sameB t = true := by unfold Tm.sameB; simp [h, Tm.cmp_self]
end Go.Proofs.YtjlhmgopmdcopaaGreat


/- Plain mathematics: a term and its clean one: the same walk, the same value, told the same. -/
import Derived.Test.YtcfcnijldnbbnaaR42
import Derived.Test.YtcfcnijldnbbnaaR12
namespace Go.Proofs.Ytcfcnijldnbbnaa


mutual
theorem Tm.clean_eqv : (t : Tm) → t.Ok → t.clean.eqv t
  | .mk k b i f tx by' rf l fs c v, h => by
    obtain ⟨p1, p2, p3, p4⟩ := h.parts
    rw [Tm.clean]
    simp only [Tm.eqv]
    refine ⟨trivial, ⟨p1, p2⟩, fun e => ?_, fun e => ?_, fun e => ?_, fun e => ?_, fun e => ?_, fun e => ?_, fun e => ?_, fun e => ?_, fun e => ?_⟩
    · rw [if_pos e]
    · rw [if_pos e]
    · rw [if_pos e]
    · rw [if_pos e]
    · rw [if_pos e]
    · rw [if_pos e]
    · rw [if_pos e]; exact TmL.clean_eqv l (p3 e)
    · rw [if_pos e]; exact TmF.clean_eqv fs (p4 e)
    · rw [if_pos e, if_pos e]; exact ⟨rfl, rfl⟩
theorem TmL.clean_eqv : (l : TmL) → l.Ok → l.clean.eqv l
  | .nil, _ => trivial
  | .cons t l, h => ⟨Tm.clean_eqv t h.head.1, TmL.clean_eqv l h.head.2⟩
theorem TmF.clean_eqv : (l : TmF) → l.Ok → l.clean.eqv l
  | .nil, _ => trivial
  | .cons _ t l, h => ⟨rfl, Tm.clean_eqv t h.head.1, TmF.clean_eqv l h.head.2⟩
end

end Go.Proofs.Ytcfcnijldnbbnaa


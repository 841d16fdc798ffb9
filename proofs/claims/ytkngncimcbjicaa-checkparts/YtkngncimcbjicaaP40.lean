/- The document's own order of two terms (tenonref01.Compare), kind by kind. -/
import Derived.Test.YtkngncimcbjicaaP30
import Derived.Laws.BytesArg
namespace Go.Proofs.Ytkngncimcbjicaa
open Go.RowKit

section
variable (b : Bool) (i : Int) (f : Nat) (tx : ByteArray) (vb : Value) (rf : Int) (vl vf : Value) (c : ByteArray) (vr : Int)
variable (b2 : Bool) (i2 : Int) (f2 : Nat) (tx2 : ByteArray) (vb2 : Value) (rf2 : Int) (vl2 vf2 : Value) (c2 : ByteArray) (vr2 : Int) (w : World)
end
end Go.Proofs.Ytkngncimcbjicaa

/- The document's own order of any two terms that can be (tenonref01.Compare), and its Order and Same. -/
namespace Go.Proofs.Ytkngncimcbjicaa
open Go.RowKit

theorem Tm.Ok.ver {b : Bool} {i : Int} {f : Nat} {tx : ByteArray} {by' : ByteArray} {rf : Int} {l : TmL} {fs : TmF} {c : ByteArray} {v : Int} (h : Tm.Ok (.mk 10 b i f tx by' rf l fs c v)) : 1 ≤ v ∧ v ≤ 1000 := by
  obtain ⟨n, p, d, h⟩ := h
  by_cases he : Sp.ent 10 p n = 0
  · by_cases hh : Sp.headR c v = 0
    · unfold Sp.headR at hh
      split at hh
      · omega
      · split at hh
        · omega
        · omega
    · rw [Tm.wk_10' he hh] at h; exact absurd h hh
  · rw [Tm.wk_ent he] at h; exact absurd h he

end Go.Proofs.Ytkngncimcbjicaa


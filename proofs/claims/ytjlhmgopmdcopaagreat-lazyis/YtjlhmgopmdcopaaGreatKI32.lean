/- tenonmake.Object of what is something, with how its methods are found. -/
import Derived.Test.YtjlhmgopmdcopaaGreatKI31
import Derived.Test.YtjlhmgopmdcopaaGreatKI30
import Derived.Test.YtjlhmgopmdcopaaGreatKI23
import Derived.Deep.WholeRow
import Derived.Deep.MidRow
namespace Go.Proofs.YtjlhmgopmdcopaaGreat
open Go.RowKit

end Go.Proofs.YtjlhmgopmdcopaaGreat

/- tenonlaw10.made: an object of a description that is made to fit. -/
namespace Go.Proofs.YtjlhmgopmdcopaaGreat
open Go.RowKit

theorem ldr {P : Program} {ops : Array Oper} {rest : List Oper} {Q : Exit → Act → World → Prop} {a : Act} {w : World} {d : Option Tmp} {ty T : TypeId} {x : Operand} {ps : String} {af : Array Edge} {gd : Option (Nat × Bool)} {p : Addr} {v : Value}
    (hw : Region.wanted (Oper.mk d (.load ty x) T ps af gd) (yielded ops a.tmps) = true) (hx : a.eval x = .pointer (some p)) (hl : (loadVar ty p).run P w = .ok v w)
    (h : wpList P ops Q rest (a.put d v) w) : wpList P ops Q (Oper.mk d (.load ty x) T ps af gd :: rest) a w := by
  rw [wpList, if_pos hw]
  refine .inl ?_
  unfold Oper.wp execOp
  simp only [hx, Instr.loadAt, Instr.sureAddr, Sem.run_bind, Sem.run_pure, Result.andThen_ok, hl]
  exact h
end Go.Proofs.YtjlhmgopmdcopaaGreat

/- tenonlaw10.made of what is something. -/
namespace Go.Proofs.YtjlhmgopmdcopaaGreat
open Go.RowKit

end Go.Proofs.YtjlhmgopmdcopaaGreat


/-
  NARROWER THAN 'FOR EVERY INPUT', by the rows' own cells (each row's printed sentence says how): LazyOnce: loops · LazyAgain: loops.
  DERIVED. THE GIVEN ROWS OF THIS SEAT. 4 by the template 'for every input the law returns true; each argument reads behind the call as it read before'; 0 by the template 'total and deterministic' (their statements: YtjlhmgopmdcopaaTotals.lean).
  GIVEN WITH THE SEED: the statements are not yours to turn. If you find one false, say at which input.
  Laid BY PROGRAM, IN A SANDBOX (cutbox-rows.mjs): the forced cells as the released guide's own fill.sh prints them over the translation 9312120c998a70bb… (all of the seat's roots in one cut). By AI agents, Wed Nov 11 2026. No macro, syntax, notation, axiom, sorry.
-/
import Derived.Test.YtjlhmgopmdcopaaChecked
import GoSem.Claim
import GoSem.ClaimJoined
import GoSem.ClaimMapViews
import Derived.JoinedTies
import Derived.KernelRfl
namespace Go.Proofs.Ytjlhmgopmdcopaa
/- THE CELL 'sum', in the pinned program and in every row, IS THE sha256 OF THE DUMP (.gsa) THAT YtjlhmgopmdcopaaProg.lean LOADS. Nothing in Lean hashes anything: it is a label: what it is worth is what the hold of that sum in a sandbox is worth. -/
noncomputable def Try.pinned : Pinned := { name := "ytjlhmgopmdcopaa", sum := "9312120c998a70bba546cfb30811158612248d27b8ff993f36705cfd70978dca", checked := Try.checked }
namespace Rows
def none {H : Type} : Left H := { results := [], args := [] }

/-- 'tenonlaw12.LazyOnce': WHATEVER THE INPUT: true; the input reads as it did. -/
def lazyOnceSpec : ChangeSpec := { name := "lazyOnce", fn := fun _ => fun
  | [d1, d2] => { results := [.lit (.bool true)], args := [d1, d2] }
  | _ => none }
def lazyOnceRow : OpenClaim := { program := "ytjlhmgopmdcopaa", sum := "9312120c998a70bba546cfb30811158612248d27b8ff993f36705cfd70978dca", func := "tenon/tenonlaw12.LazyOnce", spec := "lazyOnce", inPlace := ["internal/bytealg.abigen_runtime_cmpstring"], unfollowed := true, recurses := true, loops := true, apart := false }
def LazyOnceSaid : Prop := lazyOnceRow.holds Try.pinned (OpenSpec.ofChange lazyOnceSpec)

/-- ITS FALSE NEIGHBOUR: 'it returns false'. Refute it at one input. -/
def lazyOnceWrong : ChangeSpec := { name := "lazyOnce", fn := fun _ => fun
  | [d1, d2] => { results := [.lit (.bool false)], args := [d1, d2] }
  | _ => none }
def LazyOnceWrongFalsely : Prop := lazyOnceRow.holds Try.pinned (OpenSpec.ofChange lazyOnceWrong)

/-- 'tenonlaw12.LazyAgain': WHATEVER THE INPUT: true; the input reads as it did. -/
def lazyAgainSpec : ChangeSpec := { name := "lazyAgain", fn := fun _ => fun
  | [d1, d2] => { results := [.lit (.bool true)], args := [d1, d2] }
  | _ => none }
def lazyAgainRow : OpenClaim := { program := "ytjlhmgopmdcopaa", sum := "9312120c998a70bba546cfb30811158612248d27b8ff993f36705cfd70978dca", func := "tenon/tenonlaw12.LazyAgain", spec := "lazyAgain", inPlace := ["internal/bytealg.abigen_runtime_cmpstring"], unfollowed := true, recurses := true, loops := true, apart := false }
def LazyAgainSaid : Prop := lazyAgainRow.holds Try.pinned (OpenSpec.ofChange lazyAgainSpec)

/-- ITS FALSE NEIGHBOUR: 'it returns false'. Refute it at one input. -/
def lazyAgainWrong : ChangeSpec := { name := "lazyAgain", fn := fun _ => fun
  | [d1, d2] => { results := [.lit (.bool false)], args := [d1, d2] }
  | _ => none }
def LazyAgainWrongFalsely : Prop := lazyAgainRow.holds Try.pinned (OpenSpec.ofChange lazyAgainWrong)

/-- 'tenonlaw12.LazyRoom': WHATEVER THE INPUT: true; the input reads as it did. -/
def lazyRoomSpec : ChangeSpec := { name := "lazyRoom", fn := fun _ => fun
  | [d1, d2] => { results := [.lit (.bool true)], args := [d1, d2] }
  | _ => none }
def lazyRoomRow : OpenClaim := { program := "ytjlhmgopmdcopaa", sum := "9312120c998a70bba546cfb30811158612248d27b8ff993f36705cfd70978dca", func := "tenon/tenonlaw12.LazyRoom", spec := "lazyRoom", inPlace := ["internal/bytealg.abigen_runtime_cmpstring"], unfollowed := true, recurses := true, apart := false }
def LazyRoomSaid : Prop := lazyRoomRow.holds Try.pinned (OpenSpec.ofChange lazyRoomSpec)

/-- ITS FALSE NEIGHBOUR: 'it returns false'. Refute it at one input. -/
def lazyRoomWrong : ChangeSpec := { name := "lazyRoom", fn := fun _ => fun
  | [d1, d2] => { results := [.lit (.bool false)], args := [d1, d2] }
  | _ => none }
def LazyRoomWrongFalsely : Prop := lazyRoomRow.holds Try.pinned (OpenSpec.ofChange lazyRoomWrong)

/-- 'tenonlaw12.LazyStack': WHATEVER THE INPUT: true; the input reads as it did. -/
def lazyStackSpec : ChangeSpec := { name := "lazyStack", fn := fun _ => fun
  | [d1, d2, d3] => { results := [.lit (.bool true)], args := [d1, d2, d3] }
  | _ => none }
def lazyStackRow : OpenClaim := { program := "ytjlhmgopmdcopaa", sum := "9312120c998a70bba546cfb30811158612248d27b8ff993f36705cfd70978dca", func := "tenon/tenonlaw12.LazyStack", spec := "lazyStack", inPlace := ["internal/bytealg.abigen_runtime_cmpstring"], unfollowed := true, recurses := true, apart := false }
def LazyStackSaid : Prop := lazyStackRow.holds Try.pinned (OpenSpec.ofChange lazyStackSpec)

/-- ITS FALSE NEIGHBOUR: 'it returns false'. Refute it at one input. -/
def lazyStackWrong : ChangeSpec := { name := "lazyStack", fn := fun _ => fun
  | [d1, d2, d3] => { results := [.lit (.bool false)], args := [d1, d2, d3] }
  | _ => none }
def LazyStackWrongFalsely : Prop := lazyStackRow.holds Try.pinned (OpenSpec.ofChange lazyStackWrong)

/- THE SECOND FORM. 'bulk': how many values and letters a reading holds, each counted each time it is reached (what is shared counts as often as it is met; a slice's spare places count too). A statement '..UptoSaid' is the law's where the arguments, and the package variables that the reading takes, are together of bulk at most 1048576: NARROWER than '..Said'. Prove '..Said' where nothing that the law and all that it calls make is longer than what came in: it says more and counts as full. Else prove '..UptoSaid'. A law counts once. -/
mutual
def uptoBulk {H : Type} : DataW H → Nat
  | .lit (.string bytes) => bytes.length + 1
  | .lit _ => 1
  | .nil => 1
  | .ptr d => uptoBulk d + 1
  | .slice elems spare => uptoBulkAll elems + uptoBulkAll spare + 1
  | .agg parts => uptoBulkAll parts + 1
  | .iface _ d => uptoBulk d + 1
  | .map entries => uptoBulkEntries entries + 1
  | .held _ => 1
def uptoBulkAll {H : Type} : List (DataW H) → Nat
  | [] => 0
  | d :: r => uptoBulk d + uptoBulkAll r
def uptoBulkEntries {H : Type} : List (Lit × DataW H) → Nat
  | [] => 0
  | x :: r => uptoBulkEntry x + uptoBulkEntries r
def uptoBulkEntry {H : Type} : Lit × DataW H → Nat
  | (.string bytes, d) => bytes.length + uptoBulk d + 1
  | (_, d) => uptoBulk d + 1
 end
def uptoSmall : (H : Type) → List (DataW H) → Bool := fun _ ds => decide (uptoBulkAll ds ≤ 1048576)
def OpenSpec.upto (s : _root_.Go.ChangeSpec) : _root_.Go.OpenSpec := { _root_.Go.OpenSpec.ofChange s with cond := some uptoSmall }

/-- 'tenonlaw12.LazyOnce', WHERE WHAT IT READS IS OF BULK AT MOST 1048576: true; the input reads as it did. -/
def lazyOnceUptoRow : OpenClaim := { program := "ytjlhmgopmdcopaa", sum := "9312120c998a70bba546cfb30811158612248d27b8ff993f36705cfd70978dca", func := "tenon/tenonlaw12.LazyOnce", spec := "lazyOnce", inPlace := ["internal/bytealg.abigen_runtime_cmpstring"], unfollowed := true, recurses := true, loops := true, apart := false, narrowed := true }
def LazyOnceUptoSaid : Prop := lazyOnceUptoRow.holds Try.pinned (OpenSpec.upto lazyOnceSpec)

/-- 'tenonlaw12.LazyAgain', WHERE WHAT IT READS IS OF BULK AT MOST 1048576: true; the input reads as it did. -/
def lazyAgainUptoRow : OpenClaim := { program := "ytjlhmgopmdcopaa", sum := "9312120c998a70bba546cfb30811158612248d27b8ff993f36705cfd70978dca", func := "tenon/tenonlaw12.LazyAgain", spec := "lazyAgain", inPlace := ["internal/bytealg.abigen_runtime_cmpstring"], unfollowed := true, recurses := true, loops := true, apart := false, narrowed := true }
def LazyAgainUptoSaid : Prop := lazyAgainUptoRow.holds Try.pinned (OpenSpec.upto lazyAgainSpec)

/-- 'tenonlaw12.LazyRoom', WHERE WHAT IT READS IS OF BULK AT MOST 1048576: true; the input reads as it did. -/
def lazyRoomUptoRow : OpenClaim := { program := "ytjlhmgopmdcopaa", sum := "9312120c998a70bba546cfb30811158612248d27b8ff993f36705cfd70978dca", func := "tenon/tenonlaw12.LazyRoom", spec := "lazyRoom", inPlace := ["internal/bytealg.abigen_runtime_cmpstring"], unfollowed := true, recurses := true, apart := false, narrowed := true }
def LazyRoomUptoSaid : Prop := lazyRoomUptoRow.holds Try.pinned (OpenSpec.upto lazyRoomSpec)

/-- 'tenonlaw12.LazyStack', WHERE WHAT IT READS IS OF BULK AT MOST 1048576: true; the input reads as it did. -/
def lazyStackUptoRow : OpenClaim := { program := "ytjlhmgopmdcopaa", sum := "9312120c998a70bba546cfb30811158612248d27b8ff993f36705cfd70978dca", func := "tenon/tenonlaw12.LazyStack", spec := "lazyStack", inPlace := ["internal/bytealg.abigen_runtime_cmpstring"], unfollowed := true, recurses := true, apart := false, narrowed := true }
def LazyStackUptoSaid : Prop := lazyStackUptoRow.holds Try.pinned (OpenSpec.upto lazyStackSpec)

end Rows
end Go.Proofs.Ytjlhmgopmdcopaa

/-
  NARROWER THAN 'FOR EVERY INPUT', by the rows' own cells (each row's printed sentence says how): ObjectOnce: loops · ObjectGiven: loops.
  DERIVED. THE GIVEN ROWS OF THIS SEAT. 3 by the template 'for every input the law returns true; each argument reads behind the call as it read before'; 0 by the template 'total and deterministic' (their statements: YtbjjeleoimcboaaTotals.lean).
  GIVEN WITH THE SEED: the statements are not yours to turn. If you find one false, say at which input.
  Laid BY PROGRAM, IN A SANDBOX (cutbox-rows.mjs): the forced cells as the released guide's own fill.sh prints them over the translation 3e9383e628779863… (all of the seat's roots in one cut). By AI agents, Wed Nov 11 2026. No macro, syntax, notation, axiom, sorry.
-/
import Derived.Test.YtbjjeleoimcboaaChecked
import GoSem.Claim
import GoSem.ClaimJoined
import GoSem.ClaimMapViews
import Derived.JoinedTies
import Derived.KernelRfl
namespace Go.Proofs.Ytbjjeleoimcboaa
/- THE CELL 'sum', in the pinned program and in every row, IS THE sha256 OF THE DUMP (.gsa) THAT YtbjjeleoimcboaaProg.lean LOADS. Nothing in Lean hashes anything: it is a label: what it is worth is what the hold of that sum in a sandbox is worth. -/
noncomputable def Try.pinned : Pinned := { name := "ytbjjeleoimcboaa", sum := "3e9383e6287798636a8222c81d66e34c2795e8d74834aef16fb96b5f7692ca91", checked := Try.checked }
namespace Rows
def none {H : Type} : Left H := { results := [], args := [] }

/-- 'tenonlaw10.ObjectTries': WHATEVER THE INPUT: true; the input reads as it did. -/
def objectTriesSpec : ChangeSpec := { name := "objectTries", fn := fun _ => fun
  | [d1, d2] => { results := [.lit (.bool true)], args := [d1, d2] }
  | _ => none }
def objectTriesRow : OpenClaim := { program := "ytbjjeleoimcboaa", sum := "3e9383e6287798636a8222c81d66e34c2795e8d74834aef16fb96b5f7692ca91", func := "tenon/tenonlaw10.ObjectTries", spec := "objectTries", unfollowed := true, recurses := true, apart := false }
def ObjectTriesSaid : Prop := objectTriesRow.holds Try.pinned (OpenSpec.ofChange objectTriesSpec)

/-- ITS FALSE NEIGHBOUR: 'it returns false'. Refute it at one input. -/
def objectTriesWrong : ChangeSpec := { name := "objectTries", fn := fun _ => fun
  | [d1, d2] => { results := [.lit (.bool false)], args := [d1, d2] }
  | _ => none }
def ObjectTriesWrongFalsely : Prop := objectTriesRow.holds Try.pinned (OpenSpec.ofChange objectTriesWrong)

/-- 'tenonlaw10.ObjectOnce': WHATEVER THE INPUT: true; the input reads as it did. -/
def objectOnceSpec : ChangeSpec := { name := "objectOnce", fn := fun _ => fun
  | [d1, d2] => { results := [.lit (.bool true)], args := [d1, d2] }
  | _ => none }
def objectOnceRow : OpenClaim := { program := "ytbjjeleoimcboaa", sum := "3e9383e6287798636a8222c81d66e34c2795e8d74834aef16fb96b5f7692ca91", func := "tenon/tenonlaw10.ObjectOnce", spec := "objectOnce", unfollowed := true, recurses := true, loops := true, apart := false }
def ObjectOnceSaid : Prop := objectOnceRow.holds Try.pinned (OpenSpec.ofChange objectOnceSpec)

/-- ITS FALSE NEIGHBOUR: 'it returns false'. Refute it at one input. -/
def objectOnceWrong : ChangeSpec := { name := "objectOnce", fn := fun _ => fun
  | [d1, d2] => { results := [.lit (.bool false)], args := [d1, d2] }
  | _ => none }
def ObjectOnceWrongFalsely : Prop := objectOnceRow.holds Try.pinned (OpenSpec.ofChange objectOnceWrong)

/-- 'tenonlaw10.ObjectGiven': WHATEVER THE INPUT: true; the input reads as it did. -/
def objectGivenSpec : ChangeSpec := { name := "objectGiven", fn := fun _ => fun
  | [d1, d2] => { results := [.lit (.bool true)], args := [d1, d2] }
  | _ => none }
def objectGivenRow : OpenClaim := { program := "ytbjjeleoimcboaa", sum := "3e9383e6287798636a8222c81d66e34c2795e8d74834aef16fb96b5f7692ca91", func := "tenon/tenonlaw10.ObjectGiven", spec := "objectGiven", unfollowed := true, recurses := true, loops := true, apart := false }
def ObjectGivenSaid : Prop := objectGivenRow.holds Try.pinned (OpenSpec.ofChange objectGivenSpec)

/-- ITS FALSE NEIGHBOUR: 'it returns false'. Refute it at one input. -/
def objectGivenWrong : ChangeSpec := { name := "objectGiven", fn := fun _ => fun
  | [d1, d2] => { results := [.lit (.bool false)], args := [d1, d2] }
  | _ => none }
def ObjectGivenWrongFalsely : Prop := objectGivenRow.holds Try.pinned (OpenSpec.ofChange objectGivenWrong)

/- THE SECOND FORM. 'bulk': how many values and letters a reading holds, each counted each time it is reached (what is shared counts as often as it is met; a slice's spare places count too). A statement '..UptoSaid' is the law's where the arguments, and the package variables that the reading takes, are together of bulk at most 1048576: NARROWER than '..Said'. Prove '..Said' where nothing that the law and all that it calls make is longer than what came in: it says more and counts as full. Else prove '..UptoSaid'. A law counts once. -/
mutual
def uptoBulk {H : Type} : DataW H → Nat
  | .lit (.string bytes) => bytes.length + 1
  | .lit _ => 1
  | .nil => 1
  | .ptr d => uptoBulk d + 1
  | .slice elems spare => uptoBulkAll elems + uptoBulkAll spare + 1
  | .agg parts => uptoBulkAll parts + 1
  | .iface _ d => uptoBulk d + 1
  | .map entries => uptoBulkEntries entries + 1
  | .held _ => 1
def uptoBulkAll {H : Type} : List (DataW H) → Nat
  | [] => 0
  | d :: r => uptoBulk d + uptoBulkAll r
def uptoBulkEntries {H : Type} : List (Lit × DataW H) → Nat
  | [] => 0
  | x :: r => uptoBulkEntry x + uptoBulkEntries r
def uptoBulkEntry {H : Type} : Lit × DataW H → Nat
  | (.string bytes, d) => bytes.length + uptoBulk d + 1
  | (_, d) => uptoBulk d + 1
 end
def uptoSmall : (H : Type) → List (DataW H) → Bool := fun _ ds => decide (uptoBulkAll ds ≤ 1048576)
def OpenSpec.upto (s : _root_.Go.ChangeSpec) : _root_.Go.OpenSpec := { _root_.Go.OpenSpec.ofChange s with cond := some uptoSmall }

/-- 'tenonlaw10.ObjectTries', WHERE WHAT IT READS IS OF BULK AT MOST 1048576: true; the input reads as it did. -/
def objectTriesUptoRow : OpenClaim := { program := "ytbjjeleoimcboaa", sum := "3e9383e6287798636a8222c81d66e34c2795e8d74834aef16fb96b5f7692ca91", func := "tenon/tenonlaw10.ObjectTries", spec := "objectTries", unfollowed := true, recurses := true, apart := false, narrowed := true }
def ObjectTriesUptoSaid : Prop := objectTriesUptoRow.holds Try.pinned (OpenSpec.upto objectTriesSpec)

/-- 'tenonlaw10.ObjectOnce', WHERE WHAT IT READS IS OF BULK AT MOST 1048576: true; the input reads as it did. -/
def objectOnceUptoRow : OpenClaim := { program := "ytbjjeleoimcboaa", sum := "3e9383e6287798636a8222c81d66e34c2795e8d74834aef16fb96b5f7692ca91", func := "tenon/tenonlaw10.ObjectOnce", spec := "objectOnce", unfollowed := true, recurses := true, loops := true, apart := false, narrowed := true }
def ObjectOnceUptoSaid : Prop := objectOnceUptoRow.holds Try.pinned (OpenSpec.upto objectOnceSpec)

/-- 'tenonlaw10.ObjectGiven', WHERE WHAT IT READS IS OF BULK AT MOST 1048576: true; the input reads as it did. -/
def objectGivenUptoRow : OpenClaim := { program := "ytbjjeleoimcboaa", sum := "3e9383e6287798636a8222c81d66e34c2795e8d74834aef16fb96b5f7692ca91", func := "tenon/tenonlaw10.ObjectGiven", spec := "objectGiven", unfollowed := true, recurses := true, loops := true, apart := false, narrowed := true }
def ObjectGivenUptoSaid : Prop := objectGivenUptoRow.holds Try.pinned (OpenSpec.upto objectGivenSpec)

end Rows
end Go.Proofs.Ytbjjeleoimcboaa

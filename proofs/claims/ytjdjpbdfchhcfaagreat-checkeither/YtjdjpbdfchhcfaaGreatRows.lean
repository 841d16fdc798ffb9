/-
  NARROWER THAN 'FOR EVERY INPUT', by the rows' own cells (each row's printed sentence says how): CheckSubs: loops · CheckOf: loops · CheckEither: loops.
  DERIVED. THE GIVEN ROWS OF THIS SEAT. 3 by the template 'for every input the law returns true; each argument reads behind the call as it read before'; 0 by the template 'total and deterministic' (their statements: YtjdjpbdfchhcfaaGreatTotals.lean).
  GIVEN WITH THE SEED: the statements are not yours to turn. If you find one false, say at which input.
  Laid BY PROGRAM, IN A SANDBOX (cutbox-rows.mjs): the forced cells as the released guide's own fill.sh prints them over the translation ed638bf8979a87de… (all of the seat's roots in one cut). By AI agents, Wed Nov 11 2026. No macro, syntax, notation, axiom, sorry.
-/
import Derived.Test.YtjdjpbdfchhcfaaGreatChecked
import GoSem.Claim
import GoSem.ClaimJoined
import GoSem.ClaimMapViews
import Derived.JoinedTies
import Derived.KernelRfl
namespace Go.Proofs.YtjdjpbdfchhcfaaGreat
/- THE CELL 'sum', in the pinned program and in every row, IS THE sha256 OF THE DUMP (.gsa) THAT YtjdjpbdfchhcfaaGreatProg.lean LOADS. Nothing in Lean hashes anything: it is a label: what it is worth is what the hold of that sum in a sandbox is worth. -/
noncomputable def Tryz.pinned : Pinned := { name := "ytjdjpbdfchhcfaagreat", sum := "ed638bf8979a87dede092e2f56b2b8c95b16fd813a64c6fccc20201529cd93f6", checked := Tryz.checked }
namespace Rows
def none {H : Type} : Left H := { results := [], args := [] }

/-- 'tenonlaw07.CheckSubs': WHATEVER THE INPUT: true; the input reads as it did. -/
def checkSubsSpec : ChangeSpec := { name := "checkSubs", fn := fun _ => fun
  | [d1, d2] => { results := [.lit (.bool true)], args := [d1, d2] }
  | _ => none }
def checkSubsRow : OpenClaim := { program := "ytjdjpbdfchhcfaagreat", sum := "ed638bf8979a87dede092e2f56b2b8c95b16fd813a64c6fccc20201529cd93f6", func := "tenon/tenonlaw07.CheckSubs", spec := "checkSubs", inPlace := ["math.Float64bits", "internal/bytealg.Compare", "internal/bytealg.abigen_runtime_cmpstring"], unfollowed := true, recurses := true, loops := true, apart := false }
def CheckSubsSaid : Prop := checkSubsRow.holds Tryz.pinned (OpenSpec.ofChange checkSubsSpec)

/-- ITS FALSE NEIGHBOUR: 'it returns false'. Refute it at one input. -/
def checkSubsWrong : ChangeSpec := { name := "checkSubs", fn := fun _ => fun
  | [d1, d2] => { results := [.lit (.bool false)], args := [d1, d2] }
  | _ => none }
def CheckSubsWrongFalsely : Prop := checkSubsRow.holds Tryz.pinned (OpenSpec.ofChange checkSubsWrong)

/-- 'tenonlaw07.CheckOf': WHATEVER THE INPUT: true; the input reads as it did. -/
def checkOfSpec : ChangeSpec := { name := "checkOf", fn := fun _ => fun
  | [d1, d2] => { results := [.lit (.bool true)], args := [d1, d2] }
  | _ => none }
def checkOfRow : OpenClaim := { program := "ytjdjpbdfchhcfaagreat", sum := "ed638bf8979a87dede092e2f56b2b8c95b16fd813a64c6fccc20201529cd93f6", func := "tenon/tenonlaw07.CheckOf", spec := "checkOf", inPlace := ["math.Float64bits", "internal/bytealg.Compare", "internal/bytealg.abigen_runtime_cmpstring"], unfollowed := true, recurses := true, loops := true, apart := false }
def CheckOfSaid : Prop := checkOfRow.holds Tryz.pinned (OpenSpec.ofChange checkOfSpec)

/-- ITS FALSE NEIGHBOUR: 'it returns false'. Refute it at one input. -/
def checkOfWrong : ChangeSpec := { name := "checkOf", fn := fun _ => fun
  | [d1, d2] => { results := [.lit (.bool false)], args := [d1, d2] }
  | _ => none }
def CheckOfWrongFalsely : Prop := checkOfRow.holds Tryz.pinned (OpenSpec.ofChange checkOfWrong)

/-- 'tenonlaw07.CheckEither': WHATEVER THE INPUT: true; the input reads as it did. -/
def checkEitherSpec : ChangeSpec := { name := "checkEither", fn := fun _ => fun
  | [d1, d2] => { results := [.lit (.bool true)], args := [d1, d2] }
  | _ => none }
def checkEitherRow : OpenClaim := { program := "ytjdjpbdfchhcfaagreat", sum := "ed638bf8979a87dede092e2f56b2b8c95b16fd813a64c6fccc20201529cd93f6", func := "tenon/tenonlaw07.CheckEither", spec := "checkEither", inPlace := ["math.Float64bits", "internal/bytealg.Compare", "internal/bytealg.abigen_runtime_cmpstring"], unfollowed := true, recurses := true, loops := true, apart := false }
def CheckEitherSaid : Prop := checkEitherRow.holds Tryz.pinned (OpenSpec.ofChange checkEitherSpec)

/-- ITS FALSE NEIGHBOUR: 'it returns false'. Refute it at one input. -/
def checkEitherWrong : ChangeSpec := { name := "checkEither", fn := fun _ => fun
  | [d1, d2] => { results := [.lit (.bool false)], args := [d1, d2] }
  | _ => none }
def CheckEitherWrongFalsely : Prop := checkEitherRow.holds Tryz.pinned (OpenSpec.ofChange checkEitherWrong)

/- THE SECOND FORM. 'bulk': how many values and letters a reading holds, each counted each time it is reached (what is shared counts as often as it is met; a slice's spare places count too). A statement '..UptoSaid' is the law's where the arguments, and the package variables that the reading takes, are together of bulk at most 1048576: NARROWER than '..Said'. Prove '..Said' where nothing that the law and all that it calls make is longer than what came in: it says more and counts as full. Else prove '..UptoSaid'. A law counts once. -/
mutual
def uptoBulk {H : Type} : DataW H → Nat
  | .lit (.string bytes) => bytes.length + 1
  | .lit _ => 1
  | .nil => 1
  | .ptr d => uptoBulk d + 1
  | .slice elems spare => uptoBulkAll elems + uptoBulkAll spare + 1
  | .agg parts => uptoBulkAll parts + 1
  | .iface _ d => uptoBulk d + 1
  | .map entries => uptoBulkEntries entries + 1
  | .held _ => 1
def uptoBulkAll {H : Type} : List (DataW H) → Nat
  | [] => 0
  | d :: r => uptoBulk d + uptoBulkAll r
def uptoBulkEntries {H : Type} : List (Lit × DataW H) → Nat
  | [] => 0
  | x :: r => uptoBulkEntry x + uptoBulkEntries r
def uptoBulkEntry {H : Type} : Lit × DataW H → Nat
  | (.string bytes, d) => bytes.length + uptoBulk d + 1
  | (_, d) => uptoBulk d + 1
 end
def uptoSmall : (H : Type) → List (DataW H) → Bool := fun _ ds => decide (uptoBulkAll ds ≤ 1048576)
def OpenSpec.upto (s : _root_.Go.ChangeSpec) : _root_.Go.OpenSpec := { _root_.Go.OpenSpec.ofChange s with cond := some uptoSmall }

/-- 'tenonlaw07.CheckSubs', WHERE WHAT IT READS IS OF BULK AT MOST 1048576: true; the input reads as it did. -/
def checkSubsUptoRow : OpenClaim := { program := "ytjdjpbdfchhcfaagreat", sum := "ed638bf8979a87dede092e2f56b2b8c95b16fd813a64c6fccc20201529cd93f6", func := "tenon/tenonlaw07.CheckSubs", spec := "checkSubs", inPlace := ["math.Float64bits", "internal/bytealg.Compare", "internal/bytealg.abigen_runtime_cmpstring"], unfollowed := true, recurses := true, loops := true, apart := false, narrowed := true }
def CheckSubsUptoSaid : Prop := checkSubsUptoRow.holds Tryz.pinned (OpenSpec.upto checkSubsSpec)

/-- 'tenonlaw07.CheckOf', WHERE WHAT IT READS IS OF BULK AT MOST 1048576: true; the input reads as it did. -/
def checkOfUptoRow : OpenClaim := { program := "ytjdjpbdfchhcfaagreat", sum := "ed638bf8979a87dede092e2f56b2b8c95b16fd813a64c6fccc20201529cd93f6", func := "tenon/tenonlaw07.CheckOf", spec := "checkOf", inPlace := ["math.Float64bits", "internal/bytealg.Compare", "internal/bytealg.abigen_runtime_cmpstring"], unfollowed := true, recurses := true, loops := true, apart := false, narrowed := true }
def CheckOfUptoSaid : Prop := checkOfUptoRow.holds Tryz.pinned (OpenSpec.upto checkOfSpec)

/-- 'tenonlaw07.CheckEither', WHERE WHAT IT READS IS OF BULK AT MOST 1048576: true; the input reads as it did. -/
def checkEitherUptoRow : OpenClaim := { program := "ytjdjpbdfchhcfaagreat", sum := "ed638bf8979a87dede092e2f56b2b8c95b16fd813a64c6fccc20201529cd93f6", func := "tenon/tenonlaw07.CheckEither", spec := "checkEither", inPlace := ["math.Float64bits", "internal/bytealg.Compare", "internal/bytealg.abigen_runtime_cmpstring"], unfollowed := true, recurses := true, loops := true, apart := false, narrowed := true }
def CheckEitherUptoSaid : Prop := checkEitherUptoRow.holds Tryz.pinned (OpenSpec.upto checkEitherSpec)

end Rows
end Go.Proofs.YtjdjpbdfchhcfaaGreat

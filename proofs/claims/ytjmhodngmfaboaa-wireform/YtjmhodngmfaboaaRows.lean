/-
  NARROWER THAN 'FOR EVERY INPUT', by the rows' own cells (each row's printed sentence says how): ValueTerms: loops · ValueOrders: loops · ValueBack: loops · WireForm: loops · WireBegins: loops · WireJoined: loops.
  DERIVED. THE GIVEN ROWS OF THIS SEAT. 6 by the template 'for every input the law returns true; each argument reads behind the call as it read before'; 0 by the template 'total and deterministic' (their statements: YtjmhodngmfaboaaTotals.lean).
  GIVEN WITH THE SEED: the statements are not yours to turn. If you find one false, say at which input.
  Laid BY PROGRAM, IN A SANDBOX (cutbox-rows.mjs): the forced cells as the released guide's own fill.sh prints them over the translation 2d5803d0e791db86… (all of the seat's roots in one cut). By AI agents, Wed Nov 11 2026. No macro, syntax, notation, axiom, sorry.
-/
import Derived.Test.YtjmhodngmfaboaaChecked
import GoSem.Claim
import GoSem.ClaimJoined
import GoSem.ClaimMapViews
import Derived.JoinedTies
import Derived.KernelRfl
namespace Go.Proofs.Ytjmhodngmfaboaa
/- THE CELL 'sum', in the pinned program and in every row, IS THE sha256 OF THE DUMP (.gsa) THAT YtjmhodngmfaboaaProg.lean LOADS. Nothing in Lean hashes anything: it is a label: what it is worth is what the hold of that sum in a sandbox is worth. -/
noncomputable def Try.pinned : Pinned := { name := "ytjmhodngmfaboaa", sum := "2d5803d0e791db863c7ce28382f1010b24e2fa4c32cc0e2ccc11872897f24dd9", checked := Try.checked }
namespace Rows
def none {H : Type} : Left H := { results := [], args := [] }

/-- 'tenonlaw01.ValueTerms': WHATEVER THE INPUT: true; the input reads as it did. -/
def valueTermsSpec : ChangeSpec := { name := "valueTerms", fn := fun _ => fun
  | [d] => { results := [.lit (.bool true)], args := [d] }
  | _ => none }
def valueTermsRow : OpenClaim := { program := "ytjmhodngmfaboaa", sum := "2d5803d0e791db863c7ce28382f1010b24e2fa4c32cc0e2ccc11872897f24dd9", func := "tenon/tenonlaw01.ValueTerms", spec := "valueTerms", inPlace := ["math.Float64bits"], unfollowed := true, recurses := true, loops := true, apart := false }
def ValueTermsSaid : Prop := valueTermsRow.holds Try.pinned (OpenSpec.ofChange valueTermsSpec)

/-- ITS FALSE NEIGHBOUR: 'it returns false'. Refute it at one input. -/
def valueTermsWrong : ChangeSpec := { name := "valueTerms", fn := fun _ => fun
  | [d] => { results := [.lit (.bool false)], args := [d] }
  | _ => none }
def ValueTermsWrongFalsely : Prop := valueTermsRow.holds Try.pinned (OpenSpec.ofChange valueTermsWrong)

/-- 'tenonlaw01.ValueOrders': WHATEVER THE INPUT: true; the input reads as it did. -/
def valueOrdersSpec : ChangeSpec := { name := "valueOrders", fn := fun _ => fun
  | [d1, d2] => { results := [.lit (.bool true)], args := [d1, d2] }
  | _ => none }
def valueOrdersRow : OpenClaim := { program := "ytjmhodngmfaboaa", sum := "2d5803d0e791db863c7ce28382f1010b24e2fa4c32cc0e2ccc11872897f24dd9", func := "tenon/tenonlaw01.ValueOrders", spec := "valueOrders", inPlace := ["math.Float64bits", "internal/bytealg.Compare"], unfollowed := true, recurses := true, loops := true, apart := false }
def ValueOrdersSaid : Prop := valueOrdersRow.holds Try.pinned (OpenSpec.ofChange valueOrdersSpec)

/-- ITS FALSE NEIGHBOUR: 'it returns false'. Refute it at one input. -/
def valueOrdersWrong : ChangeSpec := { name := "valueOrders", fn := fun _ => fun
  | [d1, d2] => { results := [.lit (.bool false)], args := [d1, d2] }
  | _ => none }
def ValueOrdersWrongFalsely : Prop := valueOrdersRow.holds Try.pinned (OpenSpec.ofChange valueOrdersWrong)

/-- 'tenonlaw01.ValueBack': WHATEVER THE INPUT: true; the input reads as it did. -/
def valueBackSpec : ChangeSpec := { name := "valueBack", fn := fun _ => fun
  | [d] => { results := [.lit (.bool true)], args := [d] }
  | _ => none }
def valueBackRow : OpenClaim := { program := "ytjmhodngmfaboaa", sum := "2d5803d0e791db863c7ce28382f1010b24e2fa4c32cc0e2ccc11872897f24dd9", func := "tenon/tenonlaw01.ValueBack", spec := "valueBack", inPlace := ["math.Float64bits", "internal/bytealg.Compare"], unfollowed := true, recurses := true, loops := true, apart := false }
def ValueBackSaid : Prop := valueBackRow.holds Try.pinned (OpenSpec.ofChange valueBackSpec)

/-- ITS FALSE NEIGHBOUR: 'it returns false'. Refute it at one input. -/
def valueBackWrong : ChangeSpec := { name := "valueBack", fn := fun _ => fun
  | [d] => { results := [.lit (.bool false)], args := [d] }
  | _ => none }
def ValueBackWrongFalsely : Prop := valueBackRow.holds Try.pinned (OpenSpec.ofChange valueBackWrong)

/-- 'tenonlaw03.WireForm': WHATEVER THE INPUT: true; the input reads as it did. -/
def wireFormSpec : ChangeSpec := { name := "wireForm", fn := fun _ => fun
  | [d1, d2, d3] => { results := [.lit (.bool true)], args := [d1, d2, d3] }
  | _ => none }
def wireFormRow : OpenClaim := { program := "ytjmhodngmfaboaa", sum := "2d5803d0e791db863c7ce28382f1010b24e2fa4c32cc0e2ccc11872897f24dd9", func := "tenon/tenonlaw03.WireForm", spec := "wireForm", inPlace := ["math.Float64bits", "internal/bytealg.Compare", "math.Float64frombits"], unfollowed := true, recurses := true, loops := true, apart := false }
def WireFormSaid : Prop := wireFormRow.holds Try.pinned (OpenSpec.ofChange wireFormSpec)

/-- ITS FALSE NEIGHBOUR: 'it returns false'. Refute it at one input. -/
def wireFormWrong : ChangeSpec := { name := "wireForm", fn := fun _ => fun
  | [d1, d2, d3] => { results := [.lit (.bool false)], args := [d1, d2, d3] }
  | _ => none }
def WireFormWrongFalsely : Prop := wireFormRow.holds Try.pinned (OpenSpec.ofChange wireFormWrong)

/-- 'tenonlaw03.WireBegins': WHATEVER THE INPUT: true; the input reads as it did. -/
def wireBeginsSpec : ChangeSpec := { name := "wireBegins", fn := fun _ => fun
  | [d1, d2] => { results := [.lit (.bool true)], args := [d1, d2] }
  | _ => none }
def wireBeginsRow : OpenClaim := { program := "ytjmhodngmfaboaa", sum := "2d5803d0e791db863c7ce28382f1010b24e2fa4c32cc0e2ccc11872897f24dd9", func := "tenon/tenonlaw03.WireBegins", spec := "wireBegins", inPlace := ["math.Float64bits", "internal/bytealg.Compare", "math.Float64frombits"], unfollowed := true, recurses := true, loops := true, apart := false }
def WireBeginsSaid : Prop := wireBeginsRow.holds Try.pinned (OpenSpec.ofChange wireBeginsSpec)

/-- ITS FALSE NEIGHBOUR: 'it returns false'. Refute it at one input. -/
def wireBeginsWrong : ChangeSpec := { name := "wireBegins", fn := fun _ => fun
  | [d1, d2] => { results := [.lit (.bool false)], args := [d1, d2] }
  | _ => none }
def WireBeginsWrongFalsely : Prop := wireBeginsRow.holds Try.pinned (OpenSpec.ofChange wireBeginsWrong)

/-- 'tenonlaw03.WireJoined': WHATEVER THE INPUT: true; the input reads as it did. -/
def wireJoinedSpec : ChangeSpec := { name := "wireJoined", fn := fun _ => fun
  | [d] => { results := [.lit (.bool true)], args := [d] }
  | _ => none }
def wireJoinedRow : OpenClaim := { program := "ytjmhodngmfaboaa", sum := "2d5803d0e791db863c7ce28382f1010b24e2fa4c32cc0e2ccc11872897f24dd9", func := "tenon/tenonlaw03.WireJoined", spec := "wireJoined", inPlace := ["math.Float64bits", "internal/bytealg.Compare", "math.Float64frombits"], unfollowed := true, recurses := true, loops := true, apart := false }
def WireJoinedSaid : Prop := wireJoinedRow.holds Try.pinned (OpenSpec.ofChange wireJoinedSpec)

/-- ITS FALSE NEIGHBOUR: 'it returns false'. Refute it at one input. -/
def wireJoinedWrong : ChangeSpec := { name := "wireJoined", fn := fun _ => fun
  | [d] => { results := [.lit (.bool false)], args := [d] }
  | _ => none }
def WireJoinedWrongFalsely : Prop := wireJoinedRow.holds Try.pinned (OpenSpec.ofChange wireJoinedWrong)

/- THE SECOND FORM. 'bulk': how many values and letters a reading holds, each counted each time it is reached (what is shared counts as often as it is met; a slice's spare places count too). A statement '..UptoSaid' is the law's where the arguments, and the package variables that the reading takes, are together of bulk at most 1048576: NARROWER than '..Said'. Prove '..Said' where nothing that the law and all that it calls make is longer than what came in: it says more and counts as full. Else prove '..UptoSaid'. A law counts once. -/
mutual
def uptoBulk {H : Type} : DataW H → Nat
  | .lit (.string bytes) => bytes.length + 1
  | .lit _ => 1
  | .nil => 1
  | .ptr d => uptoBulk d + 1
  | .slice elems spare => uptoBulkAll elems + uptoBulkAll spare + 1
  | .agg parts => uptoBulkAll parts + 1
  | .iface _ d => uptoBulk d + 1
  | .map entries => uptoBulkEntries entries + 1
  | .held _ => 1
def uptoBulkAll {H : Type} : List (DataW H) → Nat
  | [] => 0
  | d :: r => uptoBulk d + uptoBulkAll r
def uptoBulkEntries {H : Type} : List (Lit × DataW H) → Nat
  | [] => 0
  | x :: r => uptoBulkEntry x + uptoBulkEntries r
def uptoBulkEntry {H : Type} : Lit × DataW H → Nat
  | (.string bytes, d) => bytes.length + uptoBulk d + 1
  | (_, d) => uptoBulk d + 1
 end
def uptoSmall : (H : Type) → List (DataW H) → Bool := fun _ ds => decide (uptoBulkAll ds ≤ 1048576)
def OpenSpec.upto (s : _root_.Go.ChangeSpec) : _root_.Go.OpenSpec := { _root_.Go.OpenSpec.ofChange s with cond := some uptoSmall }

/-- 'tenonlaw01.ValueTerms', WHERE WHAT IT READS IS OF BULK AT MOST 1048576: true; the input reads as it did. -/
def valueTermsUptoRow : OpenClaim := { program := "ytjmhodngmfaboaa", sum := "2d5803d0e791db863c7ce28382f1010b24e2fa4c32cc0e2ccc11872897f24dd9", func := "tenon/tenonlaw01.ValueTerms", spec := "valueTerms", inPlace := ["math.Float64bits"], unfollowed := true, recurses := true, loops := true, apart := false, narrowed := true }
def ValueTermsUptoSaid : Prop := valueTermsUptoRow.holds Try.pinned (OpenSpec.upto valueTermsSpec)

/-- 'tenonlaw01.ValueOrders', WHERE WHAT IT READS IS OF BULK AT MOST 1048576: true; the input reads as it did. -/
def valueOrdersUptoRow : OpenClaim := { program := "ytjmhodngmfaboaa", sum := "2d5803d0e791db863c7ce28382f1010b24e2fa4c32cc0e2ccc11872897f24dd9", func := "tenon/tenonlaw01.ValueOrders", spec := "valueOrders", inPlace := ["math.Float64bits", "internal/bytealg.Compare"], unfollowed := true, recurses := true, loops := true, apart := false, narrowed := true }
def ValueOrdersUptoSaid : Prop := valueOrdersUptoRow.holds Try.pinned (OpenSpec.upto valueOrdersSpec)

/-- 'tenonlaw01.ValueBack', WHERE WHAT IT READS IS OF BULK AT MOST 1048576: true; the input reads as it did. -/
def valueBackUptoRow : OpenClaim := { program := "ytjmhodngmfaboaa", sum := "2d5803d0e791db863c7ce28382f1010b24e2fa4c32cc0e2ccc11872897f24dd9", func := "tenon/tenonlaw01.ValueBack", spec := "valueBack", inPlace := ["math.Float64bits", "internal/bytealg.Compare"], unfollowed := true, recurses := true, loops := true, apart := false, narrowed := true }
def ValueBackUptoSaid : Prop := valueBackUptoRow.holds Try.pinned (OpenSpec.upto valueBackSpec)

/-- 'tenonlaw03.WireForm', WHERE WHAT IT READS IS OF BULK AT MOST 1048576: true; the input reads as it did. -/
def wireFormUptoRow : OpenClaim := { program := "ytjmhodngmfaboaa", sum := "2d5803d0e791db863c7ce28382f1010b24e2fa4c32cc0e2ccc11872897f24dd9", func := "tenon/tenonlaw03.WireForm", spec := "wireForm", inPlace := ["math.Float64bits", "internal/bytealg.Compare", "math.Float64frombits"], unfollowed := true, recurses := true, loops := true, apart := false, narrowed := true }
def WireFormUptoSaid : Prop := wireFormUptoRow.holds Try.pinned (OpenSpec.upto wireFormSpec)

/-- 'tenonlaw03.WireBegins', WHERE WHAT IT READS IS OF BULK AT MOST 1048576: true; the input reads as it did. -/
def wireBeginsUptoRow : OpenClaim := { program := "ytjmhodngmfaboaa", sum := "2d5803d0e791db863c7ce28382f1010b24e2fa4c32cc0e2ccc11872897f24dd9", func := "tenon/tenonlaw03.WireBegins", spec := "wireBegins", inPlace := ["math.Float64bits", "internal/bytealg.Compare", "math.Float64frombits"], unfollowed := true, recurses := true, loops := true, apart := false, narrowed := true }
def WireBeginsUptoSaid : Prop := wireBeginsUptoRow.holds Try.pinned (OpenSpec.upto wireBeginsSpec)

/-- 'tenonlaw03.WireJoined', WHERE WHAT IT READS IS OF BULK AT MOST 1048576: true; the input reads as it did. -/
def wireJoinedUptoRow : OpenClaim := { program := "ytjmhodngmfaboaa", sum := "2d5803d0e791db863c7ce28382f1010b24e2fa4c32cc0e2ccc11872897f24dd9", func := "tenon/tenonlaw03.WireJoined", spec := "wireJoined", inPlace := ["math.Float64bits", "internal/bytealg.Compare", "math.Float64frombits"], unfollowed := true, recurses := true, loops := true, apart := false, narrowed := true }
def WireJoinedUptoSaid : Prop := wireJoinedUptoRow.holds Try.pinned (OpenSpec.upto wireJoinedSpec)

end Rows
end Go.Proofs.Ytjmhodngmfaboaa

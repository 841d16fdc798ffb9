/-
  NARROWER THAN 'FOR EVERY INPUT', by the rows' own cells (each row's printed sentence says how): ValueTerms: loops · ValueOrders: loops · ValueBack: loops · DigestKeys: loops · DigestLast: loops.
  DERIVED. THE GIVEN ROWS OF THIS SEAT. 6 by the template 'for every input the law returns true; each argument reads behind the call as it read before'; 0 by the template 'total and deterministic' (their statements: YtadcbhdhgobknaaTotals.lean).
  GIVEN WITH THE SEED: the statements are not yours to turn. If you find one false, say at which input.
  Laid BY PROGRAM, IN A SANDBOX (cutbox-rows.mjs): the forced cells as the released guide's own fill.sh prints them over the translation 640350abe68c803a… (all of the seat's roots in one cut). By AI agents, Wed Nov 11 2026. No macro, syntax, notation, axiom, sorry.
-/
import Derived.Test.YtadcbhdhgobknaaChecked
import GoSem.Claim
import GoSem.ClaimJoined
import GoSem.ClaimMapViews
import Derived.JoinedTies
import Derived.KernelRfl
namespace Go.Proofs.Ytadcbhdhgobknaa
/- THE CELL 'sum', in the pinned program and in every row, IS THE sha256 OF THE DUMP (.gsa) THAT YtadcbhdhgobknaaProg.lean LOADS. Nothing in Lean hashes anything: it is a label: what it is worth is what the hold of that sum in a sandbox is worth. -/
noncomputable def Try.pinned : Pinned := { name := "ytadcbhdhgobknaa", sum := "640350abe68c803aaee783250257b63b91492b376a77f5faff4c5fec305bfa14", checked := Try.checked }
namespace Rows
def none {H : Type} : Left H := { results := [], args := [] }

/-- 'tenonlaw01.ValueTerms': WHATEVER THE INPUT: true; the input reads as it did. -/
def valueTermsSpec : ChangeSpec := { name := "valueTerms", fn := fun _ => fun
  | [d] => { results := [.lit (.bool true)], args := [d] }
  | _ => none }
def valueTermsRow : OpenClaim := { program := "ytadcbhdhgobknaa", sum := "640350abe68c803aaee783250257b63b91492b376a77f5faff4c5fec305bfa14", func := "tenon/tenonlaw01.ValueTerms", spec := "valueTerms", inPlace := ["math.Float64bits"], unfollowed := true, recurses := true, loops := true, apart := false }
def ValueTermsSaid : Prop := valueTermsRow.holds Try.pinned (OpenSpec.ofChange valueTermsSpec)

/-- ITS FALSE NEIGHBOUR: 'it returns false'. Refute it at one input. -/
def valueTermsWrong : ChangeSpec := { name := "valueTerms", fn := fun _ => fun
  | [d] => { results := [.lit (.bool false)], args := [d] }
  | _ => none }
def ValueTermsWrongFalsely : Prop := valueTermsRow.holds Try.pinned (OpenSpec.ofChange valueTermsWrong)

/-- 'tenonlaw01.ValueOrders': WHATEVER THE INPUT: true; the input reads as it did. -/
def valueOrdersSpec : ChangeSpec := { name := "valueOrders", fn := fun _ => fun
  | [d1, d2] => { results := [.lit (.bool true)], args := [d1, d2] }
  | _ => none }
def valueOrdersRow : OpenClaim := { program := "ytadcbhdhgobknaa", sum := "640350abe68c803aaee783250257b63b91492b376a77f5faff4c5fec305bfa14", func := "tenon/tenonlaw01.ValueOrders", spec := "valueOrders", inPlace := ["math.Float64bits", "internal/bytealg.Compare"], unfollowed := true, recurses := true, loops := true, apart := false }
def ValueOrdersSaid : Prop := valueOrdersRow.holds Try.pinned (OpenSpec.ofChange valueOrdersSpec)

/-- ITS FALSE NEIGHBOUR: 'it returns false'. Refute it at one input. -/
def valueOrdersWrong : ChangeSpec := { name := "valueOrders", fn := fun _ => fun
  | [d1, d2] => { results := [.lit (.bool false)], args := [d1, d2] }
  | _ => none }
def ValueOrdersWrongFalsely : Prop := valueOrdersRow.holds Try.pinned (OpenSpec.ofChange valueOrdersWrong)

/-- 'tenonlaw01.ValueBack': WHATEVER THE INPUT: true; the input reads as it did. -/
def valueBackSpec : ChangeSpec := { name := "valueBack", fn := fun _ => fun
  | [d] => { results := [.lit (.bool true)], args := [d] }
  | _ => none }
def valueBackRow : OpenClaim := { program := "ytadcbhdhgobknaa", sum := "640350abe68c803aaee783250257b63b91492b376a77f5faff4c5fec305bfa14", func := "tenon/tenonlaw01.ValueBack", spec := "valueBack", inPlace := ["math.Float64bits", "internal/bytealg.Compare"], unfollowed := true, recurses := true, loops := true, apart := false }
def ValueBackSaid : Prop := valueBackRow.holds Try.pinned (OpenSpec.ofChange valueBackSpec)

/-- ITS FALSE NEIGHBOUR: 'it returns false'. Refute it at one input. -/
def valueBackWrong : ChangeSpec := { name := "valueBack", fn := fun _ => fun
  | [d] => { results := [.lit (.bool false)], args := [d] }
  | _ => none }
def ValueBackWrongFalsely : Prop := valueBackRow.holds Try.pinned (OpenSpec.ofChange valueBackWrong)

/-- 'tenonlaw03.WireDecodes': WHATEVER THE INPUT: true; the input reads as it did. -/
def wireDecodesSpec : ChangeSpec := { name := "wireDecodes", fn := fun _ => fun
  | [d] => { results := [.lit (.bool true)], args := [d] }
  | _ => none }
def wireDecodesRow : OpenClaim := { program := "ytadcbhdhgobknaa", sum := "640350abe68c803aaee783250257b63b91492b376a77f5faff4c5fec305bfa14", func := "tenon/tenonlaw03.WireDecodes", spec := "wireDecodes", inPlace := ["internal/bytealg.Compare", "math.Float64frombits", "math.Float64bits"], unfollowed := true, recurses := true, apart := false }
def WireDecodesSaid : Prop := wireDecodesRow.holds Try.pinned (OpenSpec.ofChange wireDecodesSpec)

/-- ITS FALSE NEIGHBOUR: 'it returns false'. Refute it at one input. -/
def wireDecodesWrong : ChangeSpec := { name := "wireDecodes", fn := fun _ => fun
  | [d] => { results := [.lit (.bool false)], args := [d] }
  | _ => none }
def WireDecodesWrongFalsely : Prop := wireDecodesRow.holds Try.pinned (OpenSpec.ofChange wireDecodesWrong)

/-- 'tenonlaw05.DigestKeys': WHATEVER THE INPUT: true; the input reads as it did. -/
def digestKeysSpec : ChangeSpec := { name := "digestKeys", fn := fun _ => fun
  | [d1, d2] => { results := [.lit (.bool true)], args := [d1, d2] }
  | _ => none }
def digestKeysRow : OpenClaim := { program := "ytadcbhdhgobknaa", sum := "640350abe68c803aaee783250257b63b91492b376a77f5faff4c5fec305bfa14", func := "tenon/tenonlaw05.DigestKeys", spec := "digestKeys", inPlace := ["math.Float64bits"], unfollowed := true, recurses := true, loops := true, apart := false }
def DigestKeysSaid : Prop := digestKeysRow.holds Try.pinned (OpenSpec.ofChange digestKeysSpec)

/-- ITS FALSE NEIGHBOUR: 'it returns false'. Refute it at one input. -/
def digestKeysWrong : ChangeSpec := { name := "digestKeys", fn := fun _ => fun
  | [d1, d2] => { results := [.lit (.bool false)], args := [d1, d2] }
  | _ => none }
def DigestKeysWrongFalsely : Prop := digestKeysRow.holds Try.pinned (OpenSpec.ofChange digestKeysWrong)

/-- 'tenonlaw05.DigestLast': WHATEVER THE INPUT: true; the input reads as it did. -/
def digestLastSpec : ChangeSpec := { name := "digestLast", fn := fun _ => fun
  | [d1, d2, d3] => { results := [.lit (.bool true)], args := [d1, d2, d3] }
  | _ => none }
def digestLastRow : OpenClaim := { program := "ytadcbhdhgobknaa", sum := "640350abe68c803aaee783250257b63b91492b376a77f5faff4c5fec305bfa14", func := "tenon/tenonlaw05.DigestLast", spec := "digestLast", inPlace := ["math.Float64bits"], unfollowed := true, recurses := true, loops := true, apart := false }
def DigestLastSaid : Prop := digestLastRow.holds Try.pinned (OpenSpec.ofChange digestLastSpec)

/-- ITS FALSE NEIGHBOUR: 'it returns false'. Refute it at one input. -/
def digestLastWrong : ChangeSpec := { name := "digestLast", fn := fun _ => fun
  | [d1, d2, d3] => { results := [.lit (.bool false)], args := [d1, d2, d3] }
  | _ => none }
def DigestLastWrongFalsely : Prop := digestLastRow.holds Try.pinned (OpenSpec.ofChange digestLastWrong)

/- THE SECOND FORM. 'bulk': how many values and letters a reading holds, each counted each time it is reached (what is shared counts as often as it is met; a slice's spare places count too). A statement '..UptoSaid' is the law's where the arguments, and the package variables that the reading takes, are together of bulk at most 1048576: NARROWER than '..Said'. Prove '..Said' where nothing that the law and all that it calls make is longer than what came in: it says more and counts as full. Else prove '..UptoSaid'. A law counts once. -/
mutual
def uptoBulk {H : Type} : DataW H → Nat
  | .lit (.string bytes) => bytes.length + 1
  | .lit _ => 1
  | .nil => 1
  | .ptr d => uptoBulk d + 1
  | .slice elems spare => uptoBulkAll elems + uptoBulkAll spare + 1
  | .agg parts => uptoBulkAll parts + 1
  | .iface _ d => uptoBulk d + 1
  | .map entries => uptoBulkEntries entries + 1
  | .held _ => 1
def uptoBulkAll {H : Type} : List (DataW H) → Nat
  | [] => 0
  | d :: r => uptoBulk d + uptoBulkAll r
def uptoBulkEntries {H : Type} : List (Lit × DataW H) → Nat
  | [] => 0
  | x :: r => uptoBulkEntry x + uptoBulkEntries r
def uptoBulkEntry {H : Type} : Lit × DataW H → Nat
  | (.string bytes, d) => bytes.length + uptoBulk d + 1
  | (_, d) => uptoBulk d + 1
 end
def uptoSmall : (H : Type) → List (DataW H) → Bool := fun _ ds => decide (uptoBulkAll ds ≤ 1048576)
def OpenSpec.upto (s : _root_.Go.ChangeSpec) : _root_.Go.OpenSpec := { _root_.Go.OpenSpec.ofChange s with cond := some uptoSmall }

/-- 'tenonlaw01.ValueTerms', WHERE WHAT IT READS IS OF BULK AT MOST 1048576: true; the input reads as it did. -/
def valueTermsUptoRow : OpenClaim := { program := "ytadcbhdhgobknaa", sum := "640350abe68c803aaee783250257b63b91492b376a77f5faff4c5fec305bfa14", func := "tenon/tenonlaw01.ValueTerms", spec := "valueTerms", inPlace := ["math.Float64bits"], unfollowed := true, recurses := true, loops := true, apart := false, narrowed := true }
def ValueTermsUptoSaid : Prop := valueTermsUptoRow.holds Try.pinned (OpenSpec.upto valueTermsSpec)

/-- 'tenonlaw01.ValueOrders', WHERE WHAT IT READS IS OF BULK AT MOST 1048576: true; the input reads as it did. -/
def valueOrdersUptoRow : OpenClaim := { program := "ytadcbhdhgobknaa", sum := "640350abe68c803aaee783250257b63b91492b376a77f5faff4c5fec305bfa14", func := "tenon/tenonlaw01.ValueOrders", spec := "valueOrders", inPlace := ["math.Float64bits", "internal/bytealg.Compare"], unfollowed := true, recurses := true, loops := true, apart := false, narrowed := true }
def ValueOrdersUptoSaid : Prop := valueOrdersUptoRow.holds Try.pinned (OpenSpec.upto valueOrdersSpec)

/-- 'tenonlaw01.ValueBack', WHERE WHAT IT READS IS OF BULK AT MOST 1048576: true; the input reads as it did. -/
def valueBackUptoRow : OpenClaim := { program := "ytadcbhdhgobknaa", sum := "640350abe68c803aaee783250257b63b91492b376a77f5faff4c5fec305bfa14", func := "tenon/tenonlaw01.ValueBack", spec := "valueBack", inPlace := ["math.Float64bits", "internal/bytealg.Compare"], unfollowed := true, recurses := true, loops := true, apart := false, narrowed := true }
def ValueBackUptoSaid : Prop := valueBackUptoRow.holds Try.pinned (OpenSpec.upto valueBackSpec)

/-- 'tenonlaw03.WireDecodes', WHERE WHAT IT READS IS OF BULK AT MOST 1048576: true; the input reads as it did. -/
def wireDecodesUptoRow : OpenClaim := { program := "ytadcbhdhgobknaa", sum := "640350abe68c803aaee783250257b63b91492b376a77f5faff4c5fec305bfa14", func := "tenon/tenonlaw03.WireDecodes", spec := "wireDecodes", inPlace := ["internal/bytealg.Compare", "math.Float64frombits", "math.Float64bits"], unfollowed := true, recurses := true, apart := false, narrowed := true }
def WireDecodesUptoSaid : Prop := wireDecodesUptoRow.holds Try.pinned (OpenSpec.upto wireDecodesSpec)

/-- 'tenonlaw05.DigestKeys', WHERE WHAT IT READS IS OF BULK AT MOST 1048576: true; the input reads as it did. -/
def digestKeysUptoRow : OpenClaim := { program := "ytadcbhdhgobknaa", sum := "640350abe68c803aaee783250257b63b91492b376a77f5faff4c5fec305bfa14", func := "tenon/tenonlaw05.DigestKeys", spec := "digestKeys", inPlace := ["math.Float64bits"], unfollowed := true, recurses := true, loops := true, apart := false, narrowed := true }
def DigestKeysUptoSaid : Prop := digestKeysUptoRow.holds Try.pinned (OpenSpec.upto digestKeysSpec)

/-- 'tenonlaw05.DigestLast', WHERE WHAT IT READS IS OF BULK AT MOST 1048576: true; the input reads as it did. -/
def digestLastUptoRow : OpenClaim := { program := "ytadcbhdhgobknaa", sum := "640350abe68c803aaee783250257b63b91492b376a77f5faff4c5fec305bfa14", func := "tenon/tenonlaw05.DigestLast", spec := "digestLast", inPlace := ["math.Float64bits"], unfollowed := true, recurses := true, loops := true, apart := false, narrowed := true }
def DigestLastUptoSaid : Prop := digestLastUptoRow.holds Try.pinned (OpenSpec.upto digestLastSpec)

end Rows
end Go.Proofs.Ytadcbhdhgobknaa

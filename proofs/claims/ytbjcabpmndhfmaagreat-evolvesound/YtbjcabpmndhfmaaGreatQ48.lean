/- tenonref06.Check: what is wrong with a class, by the document. -/
import Derived.Test.YtbjcabpmndhfmaaGreatQ46
import Derived.Test.YtbjcabpmndhfmaaGreatQ47
namespace Go.Proofs.YtbjcabpmndhfmaaGreat
open Go.RowKit

section
variable (nm pn : ByteArray) (vr pv : Int) (ab : Bool) (fs : List Fo) (af : Option Addr) (cf : Nat) (B : Nat → Prop) (w : World)
theorem chk_any (h : (Cl.mk nm vr pn pv ab fs).At w B af) (hB : Sub B w) : Calls Tryz.prog 9 #[.agg #[.string nm, .int .i64 vr, .string pn, .int .i64 pv, .bool ab, .slice af fs.length cf]] w fun e w' => e = .returned (.int .i64 (Sp.clR ⟨nm, vr, pn, pv, ab, fs⟩)) ∧ Below w.heap.size w w' := by
  cases h1 : Sp.isNm nm with
  | false => exact chk_a nm pn vr pv ab fs af cf B w h h1
  | true =>
    cases h2 : Sp.vOk vr with
    | false => exact chk_b nm pn vr pv ab fs af cf B w h h1 h2
    | true =>
      cases h3 : Sp.nmN pn with
      | false => exact chk_c nm pn vr pv ab fs af cf B w h h1 h2 h3
      | true =>
        by_cases h4 : pn.size = 0
        · by_cases h5 : pv = 0
          · by_cases h6 : 4096 < fs.length
            · exact chk_f1 nm pn vr pv ab fs af cf B w h h1 h2 h3 h4 h5 h6
            · exact chk_g1 nm pn vr pv ab fs af cf B w h hB h1 h2 h3 h4 h5 h6
          · exact chk_d nm pn vr pv ab fs af cf B w h h1 h2 h3 h4 h5
        · cases h5 : Sp.vOk pv with
          | false => exact chk_e nm pn vr pv ab fs af cf B w h h1 h2 h3 h4 h5
          | true =>
            by_cases h6 : 4096 < fs.length
            · exact chk_f2 nm pn vr pv ab fs af cf B w h h1 h2 h3 h4 h5 h6
            · exact chk_g2 nm pn vr pv ab fs af cf B w h hB h1 h2 h3 h4 h5 h6
end
end Go.Proofs.YtbjcabpmndhfmaaGreat


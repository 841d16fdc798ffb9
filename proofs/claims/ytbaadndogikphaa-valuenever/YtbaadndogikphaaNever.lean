/- tenonlaw01.ValueNever answers true at every term, number and byte. -/
import Derived.Test.YtbaadndogikphaaNeverA
import Derived.Test.YtbaadndogikphaaNeverB
namespace Go.Proofs.Ytbaadndogikphaa
open Go.RowKit
theorem ValueNever_any (t : Tm) (cs : Array Value) (n around : Int) (B : Nat → Prop) (w : World) (h : t.In w B cs) (hB : Sub B w) (hn0 : -9223372036854775808 ≤ n) (hn1 : n ≤ 9223372036854775807) (ha0 : 0 ≤ around) :
    Calls Try.prog 7 #[.agg cs, .int .i64 n, .int .u8 around] w fun e w' => e = .returned (.bool true) ∧ Below w.heap.size w w' := by
  by_cases hk : t.kind = 1
  · exact Never_A t cs n around B w h hB hn0 hn1 ha0 hk
  · exact Never_B t cs n around B w h hB hn0 hn1 ha0 hk
end Go.Proofs.Ytbaadndogikphaa

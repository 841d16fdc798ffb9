/- tenonlaw10.ObjectShown returns true at every description. -/
import Derived.Test.YtbjjeleoimcboaaGreatR26
import Derived.Test.YtbjjeleoimcboaaGreatR27
namespace Go.Proofs.YtbjjeleoimcboaaGreat
open Go.RowKit

theorem ObjectShown_any (r : Sr) (h n sh : Int) (w : World) :
    Calls Tryz.prog 3 #[.agg (r.cs h n sh)] w fun e w' => e = .returned (.bool true) ∧ Below w.heap.size w w' := by
  have hh := (fitM_eq 4 h (by decide) (by decide)).1
  have hn := (fitM_eq 16 n (by decide) (by decide)).1
  by_cases h12 : fitM 4 h = 1 ∨ fitM 4 h = 2
  · exact Shown_nil r h n sh (fitM 16 n).toNat (by omega) (by omega) h12 w
  · have h03 : fitM 4 h = 0 ∨ fitM 4 h = 3 := by omega
    have hc : fitM 16 n = 0 ∨ fitM 16 n = 1 ∨ fitM 16 n = 2 ∨ fitM 16 n = 3 ∨ fitM 16 n = 4 ∨ fitM 16 n = 5 ∨ fitM 16 n = 6 ∨ fitM 16 n = 7 ∨ fitM 16 n = 8 ∨ fitM 16 n = 9 ∨ fitM 16 n = 10 ∨ fitM 16 n = 11 ∨ fitM 16 n = 12 ∨ fitM 16 n = 13 ∨ fitM 16 n = 14 ∨ fitM 16 n = 15 := by omega
    rcases hc with hk | hk | hk | hk | hk | hk | hk | hk | hk | hk | hk | hk | hk | hk | hk | hk
    · exact Shown_0 r h n sh hk h03 w
    · exact Shown_1 r h n sh hk h03 w
    · exact Shown_2 r h n sh hk h03 w
    · exact Shown_3 r h n sh hk h03 w
    · exact Shown_4 r h n sh hk h03 w
    · exact Shown_5 r h n sh hk h03 w
    · exact Shown_6 r h n sh hk h03 w
    · exact Shown_7 r h n sh hk h03 w
    · exact Shown_8 r h n sh hk h03 w
    · exact Shown_9 r h n sh hk h03 w
    · exact Shown_10 r h n sh hk h03 w
    · exact Shown_11 r h n sh hk h03 w
    · exact Shown_12 r h n sh hk h03 w
    · exact Shown_13 r h n sh hk h03 w
    · exact Shown_14 r h n sh hk h03 w
    · exact Shown_15 r h n sh hk h03 w
end Go.Proofs.YtbjjeleoimcboaaGreat


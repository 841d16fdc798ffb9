/- Which ways can be: path.stepRule and wayRule. -/
import Derived.Test.YtghnipbcbbphbaaDoorPRd
namespace Go.Proofs.YtghnipbcbbphbaaDoor
open Go.RowKit

theorem toList_em {s : ByteArray} (h : s.size = 0) : s.toList.isEmpty = true := by
  have : s = ByteArray.empty := ba_empty h
  subst this; rw [ByteArray.toList_eq]; rfl

end Go.Proofs.YtghnipbcbbphbaaDoor

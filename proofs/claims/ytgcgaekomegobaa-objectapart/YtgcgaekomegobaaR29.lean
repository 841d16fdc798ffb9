/- The leaves of the document's own order: tenonref01's numbers, texts, flag, place. -/
import Derived.Test.YtgcgaekomegobaaR16
import Derived.Test.YtgcgaekomegobaaR10
import Derived.Test.YtgcgaekomegobaaR3
import Derived.Deep.RegionWith
namespace Go.Proofs.Ytgcgaekomegobaa
open Go.RowKit

end Go.Proofs.Ytgcgaekomegobaa

/- The document's own order of terms (tenonref01.fields, tenonref01.Compare) is the plain order. -/
namespace Go.Proofs.Ytgcgaekomegobaa
open Go.RowKit

theorem Tm.In_tc {w : World} {B : Nat → Prop} {t : Tm} {cs : Array Value} (h : t.In w B cs) : ∃ k b i f tx vb rf vl vf c vr, cs = tcells k b i f tx vb rf vl vf c vr := by
  cases t; simp only [Tm.In] at h; obtain ⟨_, _, _, _, _, _, rfl, _⟩ := h; exact ⟨_, _, _, _, _, _, _, _, _, _, _, rfl⟩

end Go.Proofs.Ytgcgaekomegobaa


/- The leaves of the document's own order: tenonref01's numbers, texts, flag, place. -/
import Derived.Test.YtjlhmgopmdcopaaGreatKI16
import Derived.Test.YtjlhmgopmdcopaaGreatKI10
import Derived.Test.YtjlhmgopmdcopaaGreatKI3
import Derived.Deep.RegionWith
namespace Go.Proofs.YtjlhmgopmdcopaaGreat
open Go.RowKit

end Go.Proofs.YtjlhmgopmdcopaaGreat

/- The document's own order of terms (tenonref01.fields, tenonref01.Compare) is the plain order. -/
namespace Go.Proofs.YtjlhmgopmdcopaaGreat
open Go.RowKit

theorem Tm.In_tc {w : World} {B : Nat → Prop} {t : Tm} {cs : Array Value} (h : t.In w B cs) : ∃ k b i f tx vb rf vl vf c vr, cs = tcells k b i f tx vb rf vl vf c vr := by
  cases t; simp only [Tm.In] at h; obtain ⟨_, _, _, _, _, _, rfl, _⟩ := h; exact ⟨_, _, _, _, _, _, _, _, _, _, _, rfl⟩

end Go.Proofs.YtjlhmgopmdcopaaGreat


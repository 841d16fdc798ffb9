/- Plain mathematics: which types can be, by their counts; what Is tells of unions, lists and dicts that are made of other types and values. -/
import Derived.Test.YtcfcnijldnbbnaaR34
import Derived.Test.YtcfcnijldnbbnaaR28
import Derived.Test.YtcfcnijldnbbnaaR27
namespace Go.Proofs.Ytcfcnijldnbbnaa

def tm0 : Tm := .mk 0 false 0 0 ⟨#[]⟩ ByteArray.empty 0 .nil .nil ⟨#[]⟩ 0
def nmZ : ByteArray := ⟨#[122]⟩
def tyU (a b : Ty) : Ty := .mk 7 0 tm0 (.cons a (.cons b .nil)) [] [] false ⟨#[]⟩
def tyLs (a : Ty) : Ty := .mk 5 0 tm0 (.cons a .nil) [] [] false ⟨#[]⟩
def tyDc (a : Ty) (op : Bool) : Ty := .mk 6 0 tm0 (.cons a .nil) [nmA] [false] op ⟨#[]⟩
def tyNo : Ty := .mk 2 0 tm0 .nil [] [] false ⟨#[]⟩
def dT (v : Tm) : Tm := mkD (.cons nmA v (.cons nmZ tt .nil))

/-- all values are of a type, and told to be -/
def TmL.inA (a : Ty) : TmL → Bool
  | .nil => true
  | .cons v l => (decide ((Sp.isA v a).2.2 = 0) && (Sp.isA v a).1) && l.inA a
end Go.Proofs.Ytcfcnijldnbbnaa


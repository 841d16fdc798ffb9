/- tenonlaw10.ObjectTries returns true. -/
import Derived.Test.YtjlhmgopmdcopaaGreatKI21
import Derived.BigQuiet
namespace Go.Proofs.YtjlhmgopmdcopaaGreat
open Go.RowKit

def wantK (n : Int) : Int := if n = 0 then 0 else if n = 1 then 1 else if n = 2 then 2 else if n = 3 then 3 else if n = 4 then 4 else 5
def wantE (n e : Int) : Int := if n = 0 then 0 else if n = 2 then e else 9

end Go.Proofs.YtjlhmgopmdcopaaGreat


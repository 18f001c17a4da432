/- A seat whose rows list no sentinels: nothing is asked of them. It stands in the place of XAtoi (in LIST: Atoi:NoErrs). -/
import Derived.WalkKit
import Derived.Test.YtcampdedhfhkbaaDoorShelf
namespace Go.Proofs.YtcampdedhfhkbaaDoor.Cats
open Go.RowKit

def Errs (_ : World) : Prop := True
theorem Errs.grown {w w' : World} (_h : Errs w) (_hb : Below w.heap.size w w') : Errs w' := trivial
end Go.Proofs.YtcampdedhfhkbaaDoor.Cats

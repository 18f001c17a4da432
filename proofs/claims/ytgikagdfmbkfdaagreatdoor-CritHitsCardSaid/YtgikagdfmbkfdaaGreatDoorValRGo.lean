/- What the reference's AsNumber, Words, AsText, AsTruth and Show answer: for every value that may be, kind by kind. Written by wip/genval4.py. -/
import Derived.Test.YtgikagdfmbkfdaaGreatDoorValGo
import Derived.Test.YtgikagdfmbkfdaaGreatDoorValRefLeaf
import Derived.Test.YtgikagdfmbkfdaaGreatDoorValRQuote
import Derived.Test.YtgikagdfmbkfdaaGreatDoorDigRef
import Derived.Test.YtgikagdfmbkfdaaGreatDoorDigRRead
namespace Go.Proofs.YtgikagdfmbkfdaaGreatDoor.Val
open Go.RowKit Kit Dec Dig

end Go.Proofs.YtgikagdfmbkfdaaGreatDoor.Val

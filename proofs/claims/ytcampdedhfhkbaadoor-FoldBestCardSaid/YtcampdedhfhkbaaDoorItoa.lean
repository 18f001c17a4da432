/- What strconv.Itoa answers, at every int. Its condition: the library's table of powers of ten reads as it is laid. -/
import Derived.WalkSmall
import Derived.Test.YtcampdedhfhkbaaDoorKit
import Derived.Test.YtcampdedhfhkbaaDoorShelf
namespace Go.Proofs.YtcampdedhfhkbaaDoor.Kit
open Go.RowKit

/-- the table of powers of ten reads as it is laid -/
def Pows (w : World) : Prop := Lib.TabIs Tryd.prog w "internal/strconv.uint64pow10" .u64 Lib.pow10Tab
theorem Pows.grown {w w' : World} (h : Pows w) (hb : Below w.heap.size w w') : Pows w' := by
  have hg : Tryd.prog.globalNamed "internal/strconv.uint64pow10" = some 2 := by kernel_rfl
  have hc := Lib.TabIs.cell h hg 0 (by rw [Lib.pow10Tab_length]; omega)
  exact var?_below hb hg (block_lt_of_cell hc) h
end Go.Proofs.YtcampdedhfhkbaaDoor.Kit

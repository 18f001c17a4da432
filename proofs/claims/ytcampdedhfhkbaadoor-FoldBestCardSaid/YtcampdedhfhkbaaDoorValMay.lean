/- What package value's May answers: for every value. Written by wip/genval1.py. -/
import Derived.StillTail
import Derived.Lib.QuietBelow
import Derived.Deep.QuietTactic
import Derived.BigQuiet
import Derived.Test.YtcampdedhfhkbaaDoorValLeaf
namespace Go.Proofs.YtcampdedhfhkbaaDoor.Val
open Go.RowKit Kit Dec Dig

theorem empty_or (t : ByteArray) : t = ⟨#[]⟩ ∨ (¬ t.toList = [] ∧ decide (t.size = 0) = false) := by
  by_cases h : t.size = 0
  · left
    apply ByteArray.ext
    exact Array.eq_empty_of_size_eq_zero h
  · right
    refine ⟨fun e => h ?_, decide_eq_false h⟩
    rw [Lib.toList_data] at e
    show t.data.size = 0
    rw [← Array.length_toList, e]
    rfl
/-- whether one may be, or not -/
def Bit (b : Bool) (w : World) : Ending → World → Prop := fun e w' => e = .returned (.bool b) ∧ Below w.heap.size w w'

end Go.Proofs.YtcampdedhfhkbaaDoor.Val

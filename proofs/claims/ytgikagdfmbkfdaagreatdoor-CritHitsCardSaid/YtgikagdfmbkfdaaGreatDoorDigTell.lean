/- What the program's Text and Parse answer (over the landed text of package digits): for every number of 64 bits, and every text below 2^47 bytes. -/
import Derived.Test.YtgikagdfmbkfdaaGreatDoorDigRead
namespace Go.Proofs.YtgikagdfmbkfdaaGreatDoor.Dig
open Go.RowKit Kit Dec

/-- one text -/
def TextB (l : List UInt8) (w : World) (e : Ending) (w' : World) : Prop := ∃ s : ByteArray, e = .returned (.string s) ∧ s.data.toList = l ∧ Below w.heap.size w w'
theorem toList_eq (a b : ByteArray) : (a.toList == b.toList) = decide (a.data.toList = b.data.toList) := by
  rw [Lib.toList_data, Lib.toList_data]
  by_cases h : a.data.toList = b.data.toList
  · rw [decide_eq_true h, h]; simp
  · rw [decide_eq_false h]; simpa using h
end Go.Proofs.YtgikagdfmbkfdaaGreatDoor.Dig

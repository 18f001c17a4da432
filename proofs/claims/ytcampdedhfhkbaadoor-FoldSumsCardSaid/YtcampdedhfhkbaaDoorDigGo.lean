/- What the program's leading, split, size, meant, Read, Lead answer (over the landed text of package digits): for every text below 2^47 bytes. -/
import Derived.WalkSmall
import Derived.Test.YtcampdedhfhkbaaDoorDigText
import Derived.Test.YtcampdedhfhkbaaDoorItoa
import Derived.Test.YtcampdedhfhkbaaDoorAtoi
namespace Go.Proofs.YtcampdedhfhkbaaDoor.Dig
open Go.RowKit Kit Dec

/-- what the library's variables hold -/
def Libs (w : World) : Prop := Cats.Errs w ∧ Pows w
theorem Libs.grown {w w' : World} (h : Libs w) (hb : Below w.heap.size w w') : Libs w' := ⟨h.1.grown hb, h.2.grown hb⟩
theorem ext_take (t : ByteArray) (k : Nat) : (t.extract 0 k).data.toList = t.data.toList.take k := by
  rw [Lib.extract_data, List.drop_zero, Nat.sub_zero]
theorem ext_drop (t : ByteArray) (k : Nat) : (t.extract k t.size).data.toList = t.data.toList.drop k := by
  rw [Lib.extract_data, List.take_of_length_le (by rw [List.length_drop, Lib.size_eq]; omega)]
theorem len (t : ByteArray) : t.data.toList.length = t.size := (Lib.size_eq t).symm
theorem cat_data (a b : ByteArray) : (a ++ b).data.toList = a.data.toList ++ b.data.toList := by simp
theorem bytes_eq {a b : ByteArray} (h : a.data.toList = b.data.toList) : a = b := ByteArray.ext (Array.toList_inj.1 h)
theorem pre_one (l : List UInt8) (c : UInt8) : Lib.hasPrefix l [c] = decide (l.head? = some c) := by
  cases l with
  | nil => rfl
  | cons x r =>
    show ([c].isPrefixOf (x :: r)) = _
    rw [List.head?_cons]
    by_cases h : x = c
    · subst h; simp [List.isPrefixOf]
    · rw [decide_eq_false (by simpa using h)]
      simp only [List.isPrefixOf, Bool.and_true, beq_eq_false_iff_ne]
      exact fun e => h e.symm
/-- two texts -/
def Texts (a b : List UInt8) (w : World) (e : Ending) (w' : World) : Prop := ∃ s t : ByteArray, e = .returned (.tuple #[.string s, .string t]) ∧ s.data.toList = a ∧ t.data.toList = b ∧ w = w'
/-- two results, behind which there is more memory -/
def TwoB (n : Int) (b : Bool) (w : World) : Ending → World → Prop := fun e w' => e = .returned (.tuple #[.int .i64 n, .bool b]) ∧ Below w.heap.size w w'
theorem replicate_one (c : Nat) : Lib.repeatL [48] c = List.replicate c 48 := by
  have h := Lib.repeatL_replicate 48 1 c
  rw [Nat.mul_one] at h
  exact h
end Go.Proofs.YtcampdedhfhkbaaDoor.Dig

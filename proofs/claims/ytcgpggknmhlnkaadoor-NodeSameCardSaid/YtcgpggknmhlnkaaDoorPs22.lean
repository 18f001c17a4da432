/- What values are, in plain words: which may be, what is made, as a number, a text, a truth, and how they are shown. No function of the program is named here. -/
import Derived.Test.YtcgpggknmhlnkaaDoorPs21
import Derived.Lib.ReplaceLaws
namespace Go.Proofs.YtcgpggknmhlnkaaDoor.Val
open Dec Dig
/-- a text within marks, without the marks at its ends -/
def quoteL : List UInt8 → List UInt8
  | [] => []
  | b :: l => if b = 34 then 34 :: 34 :: quoteL l else b :: quoteL l
theorem quoteL_skip {b : UInt8} (h : b ≠ 34) (l : List UInt8) : quoteL (b :: l) = b :: quoteL l := by rw [quoteL, if_neg h]
theorem quoteL_mark (l : List UInt8) : quoteL (34 :: l) = 34 :: 34 :: quoteL l := by rw [quoteL, if_pos rfl]
/-- may a value be? -/
def mayV (k n : Int) (t : ByteArray) : Bool :=
  (decide (k = 0) && decide (t.size = 0) && decide (n = 0)) || (decide (k = 1) && decide (t.size = 0) && mayD n) || (decide (k = 2) && decide (n = 0) && decide (t.size ≤ 256)) ||
  (decide (k = 3) && decide (t.size = 0) && (decide (n = 0) || decide (n = 1))) || (decide (k = 4) && decide (t.size = 0) && decide (1 ≤ n) && decide (n ≤ 7))
/-- a fault as text -/
def faultL (c : Int) : List UInt8 :=
  if c = 1 then [35, 68, 73, 86] else if c = 2 then [35, 86, 65, 76, 85, 69] else if c = 3 then [35, 82, 69, 70] else if c = 4 then [35, 78, 85, 77] else if c = 5 then [35, 78, 65] else
  if c = 6 then [35, 65, 85, 84, 72] else if c = 7 then [35, 67, 89, 67, 76, 69] else []
/-- the fault of a code -/
def badV (c : Int) : Int := if 1 ≤ c ∧ c ≤ 7 then c else 2
/-- the number of a decimal: its kind, and its number -/
def numV (x : Int) : Int × Int := if mayD x then (1, x) else (4, 4)
/-- the text: its kind, its number, and its text -/
def strV (t : ByteArray) : Int × Int × ByteArray := if t.size ≤ 256 then (2, 0, t) else (4, 2, ⟨#[]⟩)
theorem bad_in {c : Int} (h1 : 1 ≤ c) (h2 : c ≤ 7) : badV c = c := if_pos ⟨h1, h2⟩
theorem bad_out {c : Int} (h : c < 1 ∨ 7 < c) : badV c = 2 := if_neg (by omega)
theorem fault_out {c : Int} (h : c < 1 ∨ 7 < c) : faultL c = [] := by
  unfold faultL
  rw [if_neg (by omega), if_neg (by omega), if_neg (by omega), if_neg (by omega), if_neg (by omega), if_neg (by omega), if_neg (by omega)]
theorem num_in {x : Int} (h : mayD x = true) : numV x = (1, x) := if_pos h
theorem num_out {x : Int} (h : mayD x = false) : numV x = (4, 4) := if_neg (by simp [h])
theorem str_in {t : ByteArray} (h : t.size ≤ 256) : strV t = (2, 0, t) := if_pos h
theorem str_out {t : ByteArray} (h : 256 < t.size) : strV t = (4, 2, ⟨#[]⟩) := if_neg (by omega)
theorem size_none : decide ((⟨#[]⟩ : ByteArray).size = 0) = true := rfl
end Go.Proofs.YtcgpggknmhlnkaaDoor.Val

/- The table of functions as lists: names, numbers of arguments, kinds; what a table of rows of one width has. -/
import Derived.Test.YteojdidjeinlpaaKit
import Derived.Lib.Bytealg
namespace Go.Proofs.Yteojdidjeinlpaa.Fnm

/-- the names, in the order of their numbers -/
def names : List (List UInt8) := [[65, 66, 83],
  [65, 78, 68],
  [65, 86, 69, 82, 65, 71, 69],
  [65, 86, 69, 82, 65, 71, 69, 73, 70],
  [67, 69, 73, 76, 73, 78, 71],
  [67, 72, 65, 82],
  [67, 72, 79, 79, 83, 69],
  [67, 79, 68, 69],
  [67, 79, 76, 85, 77, 78],
  [67, 79, 76, 85, 77, 78, 83],
  [67, 79, 77, 66, 73, 78],
  [67, 79, 78, 67, 65, 84],
  [67, 79, 85, 78, 84],
  [67, 79, 85, 78, 84, 65],
  [67, 79, 85, 78, 84, 66, 76, 65, 78, 75],
  [67, 79, 85, 78, 84, 73, 70],
  [68, 69, 67, 76, 65, 83, 83],
  [69, 86, 69, 78],
  [69, 88, 65, 67, 84],
  [70, 65, 67, 84],
  [70, 73, 78, 68],
  [70, 76, 79, 79, 82],
  [71, 67, 68],
  [72, 76, 79, 79, 75, 85, 80],
  [73, 70],
  [73, 70, 69, 82, 82, 79, 82],
  [73, 78, 68, 69, 88],
  [73, 78, 84],
  [73, 83, 66, 76, 65, 78, 75],
  [73, 83, 69, 82, 82, 79, 82],
  [73, 83, 76, 79, 71, 73, 67, 65, 76],
  [73, 83, 78, 85, 77, 66, 69, 82],
  [73, 83, 84, 69, 88, 84],
  [76, 65, 82, 71, 69],
  [76, 67, 77],
  [76, 69, 70, 84],
  [76, 69, 78],
  [76, 79, 87, 69, 82],
  [77, 65, 84, 67, 72],
  [77, 65, 88],
  [77, 69, 68, 73, 65, 78],
  [77, 73, 68],
  [77, 73, 78],
  [77, 79, 68],
  [77, 79, 68, 69],
  [78, 65],
  [78, 79, 84],
  [79, 68, 68],
  [79, 82],
  [80, 79, 87, 69, 82],
  [80, 82, 79, 68, 85, 67, 84],
  [80, 82, 79, 80, 69, 82],
  [81, 85, 79, 84, 73, 69, 78, 84],
  [82, 65, 78, 75],
  [82, 69, 80, 84],
  [82, 69, 86, 69, 82, 83, 69],
  [82, 73, 71, 72, 84],
  [82, 79, 85, 78, 68],
  [82, 79, 85, 78, 68, 68, 79, 87, 78],
  [82, 79, 85, 78, 68, 85, 80],
  [82, 79, 87],
  [82, 79, 87, 83],
  [83, 73, 71, 78],
  [83, 77, 65, 76, 76],
  [83, 81, 82, 84],
  [83, 85, 66, 83, 84, 73, 84, 85, 84, 69],
  [83, 85, 77],
  [83, 85, 77, 73, 70],
  [83, 85, 77, 80, 82, 79, 68, 85, 67, 84],
  [83, 85, 77, 83, 81],
  [83, 87, 73, 84, 67, 72],
  [84, 69, 88, 84],
  [84, 82, 73, 77],
  [84, 82, 85, 78, 67],
  [85, 80, 80, 69, 82],
  [86, 65, 76, 85, 69],
  [86, 76, 79, 79, 75, 85, 80],
  [88, 79, 82]]
/-- the reference's rows -/
def rrows : List (List UInt8) := [[49, 49, 118],
  [49, 56, 101],
  [49, 56, 108],
  [50, 50, 114, 118],
  [50, 50, 118],
  [49, 49, 118],
  [50, 56, 101],
  [49, 49, 118],
  [49, 49, 110],
  [49, 49, 110],
  [50, 50, 118],
  [49, 56, 108],
  [49, 56, 108],
  [49, 56, 108],
  [49, 56, 108],
  [50, 50, 114, 118],
  [50, 50, 101, 116],
  [49, 49, 118],
  [50, 50, 118],
  [49, 49, 118],
  [50, 50, 118],
  [50, 50, 118],
  [50, 50, 118],
  [51, 51, 118, 114, 118],
  [50, 51, 101],
  [50, 50, 101],
  [50, 51, 114, 118],
  [49, 49, 118],
  [49, 49, 118],
  [49, 49, 118],
  [49, 49, 118],
  [49, 49, 118],
  [49, 49, 118],
  [50, 50, 114, 118],
  [50, 50, 118],
  [50, 50, 118],
  [49, 49, 118],
  [49, 49, 118],
  [50, 50, 118, 114],
  [49, 56, 108],
  [49, 56, 108],
  [51, 51, 118],
  [49, 56, 108],
  [50, 50, 118],
  [49, 56, 108],
  [48, 48],
  [49, 49, 118],
  [49, 49, 118],
  [49, 56, 101],
  [50, 50, 118],
  [49, 56, 108],
  [49, 49, 118],
  [50, 50, 118],
  [50, 50, 118, 114],
  [50, 50, 118],
  [49, 49, 118],
  [50, 50, 118],
  [50, 50, 118],
  [50, 50, 118],
  [50, 50, 118],
  [49, 49, 110],
  [49, 49, 110],
  [49, 49, 118],
  [50, 50, 114, 118],
  [49, 49, 118],
  [51, 51, 118],
  [49, 56, 108],
  [50, 50, 114, 118],
  [50, 50, 114],
  [49, 56, 108],
  [51, 56, 101],
  [50, 50, 118],
  [49, 49, 118],
  [49, 49, 118],
  [49, 49, 118],
  [49, 49, 118],
  [51, 51, 118, 114, 118],
  [49, 56, 108]]
/-- the program's rows, each of 18 letters -/
def prows : List (List UInt8) := [[65, 66, 83, 32, 32, 32, 32, 32, 32, 32, 32, 49, 32, 49, 32, 118, 118, 118],
  [65, 78, 68, 32, 32, 32, 32, 32, 32, 32, 32, 49, 32, 56, 32, 101, 101, 101],
  [65, 86, 69, 82, 65, 71, 69, 32, 32, 32, 32, 49, 32, 56, 32, 108, 108, 108],
  [65, 86, 69, 82, 65, 71, 69, 73, 70, 32, 32, 50, 32, 50, 32, 114, 118, 118],
  [67, 69, 73, 76, 73, 78, 71, 32, 32, 32, 32, 50, 32, 50, 32, 118, 118, 118],
  [67, 72, 65, 82, 32, 32, 32, 32, 32, 32, 32, 49, 32, 49, 32, 118, 118, 118],
  [67, 72, 79, 79, 83, 69, 32, 32, 32, 32, 32, 50, 32, 56, 32, 101, 101, 101],
  [67, 79, 68, 69, 32, 32, 32, 32, 32, 32, 32, 49, 32, 49, 32, 118, 118, 118],
  [67, 79, 76, 85, 77, 78, 32, 32, 32, 32, 32, 49, 32, 49, 32, 110, 110, 110],
  [67, 79, 76, 85, 77, 78, 83, 32, 32, 32, 32, 49, 32, 49, 32, 110, 110, 110],
  [67, 79, 77, 66, 73, 78, 32, 32, 32, 32, 32, 50, 32, 50, 32, 118, 118, 118],
  [67, 79, 78, 67, 65, 84, 32, 32, 32, 32, 32, 49, 32, 56, 32, 108, 108, 108],
  [67, 79, 85, 78, 84, 32, 32, 32, 32, 32, 32, 49, 32, 56, 32, 108, 108, 108],
  [67, 79, 85, 78, 84, 65, 32, 32, 32, 32, 32, 49, 32, 56, 32, 108, 108, 108],
  [67, 79, 85, 78, 84, 66, 76, 65, 78, 75, 32, 49, 32, 56, 32, 108, 108, 108],
  [67, 79, 85, 78, 84, 73, 70, 32, 32, 32, 32, 50, 32, 50, 32, 114, 118, 118],
  [68, 69, 67, 76, 65, 83, 83, 32, 32, 32, 32, 50, 32, 50, 32, 101, 116, 116],
  [69, 86, 69, 78, 32, 32, 32, 32, 32, 32, 32, 49, 32, 49, 32, 118, 118, 118],
  [69, 88, 65, 67, 84, 32, 32, 32, 32, 32, 32, 50, 32, 50, 32, 118, 118, 118],
  [70, 65, 67, 84, 32, 32, 32, 32, 32, 32, 32, 49, 32, 49, 32, 118, 118, 118],
  [70, 73, 78, 68, 32, 32, 32, 32, 32, 32, 32, 50, 32, 50, 32, 118, 118, 118],
  [70, 76, 79, 79, 82, 32, 32, 32, 32, 32, 32, 50, 32, 50, 32, 118, 118, 118],
  [71, 67, 68, 32, 32, 32, 32, 32, 32, 32, 32, 50, 32, 50, 32, 118, 118, 118],
  [72, 76, 79, 79, 75, 85, 80, 32, 32, 32, 32, 51, 32, 51, 32, 118, 114, 118],
  [73, 70, 32, 32, 32, 32, 32, 32, 32, 32, 32, 50, 32, 51, 32, 101, 101, 101],
  [73, 70, 69, 82, 82, 79, 82, 32, 32, 32, 32, 50, 32, 50, 32, 101, 101, 101],
  [73, 78, 68, 69, 88, 32, 32, 32, 32, 32, 32, 50, 32, 51, 32, 114, 118, 118],
  [73, 78, 84, 32, 32, 32, 32, 32, 32, 32, 32, 49, 32, 49, 32, 118, 118, 118],
  [73, 83, 66, 76, 65, 78, 75, 32, 32, 32, 32, 49, 32, 49, 32, 118, 118, 118],
  [73, 83, 69, 82, 82, 79, 82, 32, 32, 32, 32, 49, 32, 49, 32, 118, 118, 118],
  [73, 83, 76, 79, 71, 73, 67, 65, 76, 32, 32, 49, 32, 49, 32, 118, 118, 118],
  [73, 83, 78, 85, 77, 66, 69, 82, 32, 32, 32, 49, 32, 49, 32, 118, 118, 118],
  [73, 83, 84, 69, 88, 84, 32, 32, 32, 32, 32, 49, 32, 49, 32, 118, 118, 118],
  [76, 65, 82, 71, 69, 32, 32, 32, 32, 32, 32, 50, 32, 50, 32, 114, 118, 118],
  [76, 67, 77, 32, 32, 32, 32, 32, 32, 32, 32, 50, 32, 50, 32, 118, 118, 118],
  [76, 69, 70, 84, 32, 32, 32, 32, 32, 32, 32, 50, 32, 50, 32, 118, 118, 118],
  [76, 69, 78, 32, 32, 32, 32, 32, 32, 32, 32, 49, 32, 49, 32, 118, 118, 118],
  [76, 79, 87, 69, 82, 32, 32, 32, 32, 32, 32, 49, 32, 49, 32, 118, 118, 118],
  [77, 65, 84, 67, 72, 32, 32, 32, 32, 32, 32, 50, 32, 50, 32, 118, 114, 114],
  [77, 65, 88, 32, 32, 32, 32, 32, 32, 32, 32, 49, 32, 56, 32, 108, 108, 108],
  [77, 69, 68, 73, 65, 78, 32, 32, 32, 32, 32, 49, 32, 56, 32, 108, 108, 108],
  [77, 73, 68, 32, 32, 32, 32, 32, 32, 32, 32, 51, 32, 51, 32, 118, 118, 118],
  [77, 73, 78, 32, 32, 32, 32, 32, 32, 32, 32, 49, 32, 56, 32, 108, 108, 108],
  [77, 79, 68, 32, 32, 32, 32, 32, 32, 32, 32, 50, 32, 50, 32, 118, 118, 118],
  [77, 79, 68, 69, 32, 32, 32, 32, 32, 32, 32, 49, 32, 56, 32, 108, 108, 108],
  [78, 65, 32, 32, 32, 32, 32, 32, 32, 32, 32, 48, 32, 48, 32, 45, 45, 45],
  [78, 79, 84, 32, 32, 32, 32, 32, 32, 32, 32, 49, 32, 49, 32, 118, 118, 118],
  [79, 68, 68, 32, 32, 32, 32, 32, 32, 32, 32, 49, 32, 49, 32, 118, 118, 118],
  [79, 82, 32, 32, 32, 32, 32, 32, 32, 32, 32, 49, 32, 56, 32, 101, 101, 101],
  [80, 79, 87, 69, 82, 32, 32, 32, 32, 32, 32, 50, 32, 50, 32, 118, 118, 118],
  [80, 82, 79, 68, 85, 67, 84, 32, 32, 32, 32, 49, 32, 56, 32, 108, 108, 108],
  [80, 82, 79, 80, 69, 82, 32, 32, 32, 32, 32, 49, 32, 49, 32, 118, 118, 118],
  [81, 85, 79, 84, 73, 69, 78, 84, 32, 32, 32, 50, 32, 50, 32, 118, 118, 118],
  [82, 65, 78, 75, 32, 32, 32, 32, 32, 32, 32, 50, 32, 50, 32, 118, 114, 114],
  [82, 69, 80, 84, 32, 32, 32, 32, 32, 32, 32, 50, 32, 50, 32, 118, 118, 118],
  [82, 69, 86, 69, 82, 83, 69, 32, 32, 32, 32, 49, 32, 49, 32, 118, 118, 118],
  [82, 73, 71, 72, 84, 32, 32, 32, 32, 32, 32, 50, 32, 50, 32, 118, 118, 118],
  [82, 79, 85, 78, 68, 32, 32, 32, 32, 32, 32, 50, 32, 50, 32, 118, 118, 118],
  [82, 79, 85, 78, 68, 68, 79, 87, 78, 32, 32, 50, 32, 50, 32, 118, 118, 118],
  [82, 79, 85, 78, 68, 85, 80, 32, 32, 32, 32, 50, 32, 50, 32, 118, 118, 118],
  [82, 79, 87, 32, 32, 32, 32, 32, 32, 32, 32, 49, 32, 49, 32, 110, 110, 110],
  [82, 79, 87, 83, 32, 32, 32, 32, 32, 32, 32, 49, 32, 49, 32, 110, 110, 110],
  [83, 73, 71, 78, 32, 32, 32, 32, 32, 32, 32, 49, 32, 49, 32, 118, 118, 118],
  [83, 77, 65, 76, 76, 32, 32, 32, 32, 32, 32, 50, 32, 50, 32, 114, 118, 118],
  [83, 81, 82, 84, 32, 32, 32, 32, 32, 32, 32, 49, 32, 49, 32, 118, 118, 118],
  [83, 85, 66, 83, 84, 73, 84, 85, 84, 69, 32, 51, 32, 51, 32, 118, 118, 118],
  [83, 85, 77, 32, 32, 32, 32, 32, 32, 32, 32, 49, 32, 56, 32, 108, 108, 108],
  [83, 85, 77, 73, 70, 32, 32, 32, 32, 32, 32, 50, 32, 50, 32, 114, 118, 118],
  [83, 85, 77, 80, 82, 79, 68, 85, 67, 84, 32, 50, 32, 50, 32, 114, 114, 114],
  [83, 85, 77, 83, 81, 32, 32, 32, 32, 32, 32, 49, 32, 56, 32, 108, 108, 108],
  [83, 87, 73, 84, 67, 72, 32, 32, 32, 32, 32, 51, 32, 56, 32, 101, 101, 101],
  [84, 69, 88, 84, 32, 32, 32, 32, 32, 32, 32, 50, 32, 50, 32, 118, 118, 118],
  [84, 82, 73, 77, 32, 32, 32, 32, 32, 32, 32, 49, 32, 49, 32, 118, 118, 118],
  [84, 82, 85, 78, 67, 32, 32, 32, 32, 32, 32, 49, 32, 49, 32, 118, 118, 118],
  [85, 80, 80, 69, 82, 32, 32, 32, 32, 32, 32, 49, 32, 49, 32, 118, 118, 118],
  [86, 65, 76, 85, 69, 32, 32, 32, 32, 32, 32, 49, 32, 49, 32, 118, 118, 118],
  [86, 76, 79, 79, 75, 85, 80, 32, 32, 32, 32, 51, 32, 51, 32, 118, 114, 118],
  [88, 79, 82, 32, 32, 32, 32, 32, 32, 32, 32, 49, 32, 56, 32, 108, 108, 108]]
def nm (k : Nat) : List UInt8 := names.getD k []
def rr (k : Nat) : List UInt8 := rrows.getD k []
def pr (k : Nat) : List UInt8 := prows.getD k []
/-- from how many to how many arguments -/
def lo (k : Nat) : Int := (((rr k).getD 0 48).toNat : Int) - 48
def hi (k : Nat) : Int := (((rr k).getD 1 48).toNat : Int) - 48
/-- the letter of a kind -/
def kind (k i : Nat) : UInt8 := (rr k).getD (min (2 + i) ((rr k).length - 1)) 0
/-- of any number: name, whether it may have so many arguments, an argument's kind -/
def In (fn : Int) : Prop := 1 ≤ fn ∧ fn ≤ 78
def nameF (fn : Int) : List UInt8 := if 1 ≤ fn ∧ fn ≤ 78 then nm (fn.toNat - 1) else []
def fitsF (fn n : Int) : Bool := decide (1 ≤ fn ∧ fn ≤ 78 ∧ lo (fn.toNat - 1) ≤ n ∧ n ≤ hi (fn.toNat - 1))
def kindF (fn n : Int) : UInt8 := if 1 ≤ fn ∧ fn ≤ 78 ∧ 0 ≤ n ∧ n < hi (fn.toNat - 1) then kind (fn.toNat - 1) n.toNat else 0
/-- at which number a name stands, counted from k on; 0: nowhere -/
def idx (l : List UInt8) : List (List UInt8) → Nat → Nat
  | [], _ => 0
  | x :: r, k => if x = l then k else idx l r (k + 1)
def findF (l : List UInt8) : Nat := idx l names 1

theorem of_all {n : Nat} {p : Nat → Bool} (h : (List.range n).all p = true) {k : Nat} (hk : k < n) : p k = true := List.all_eq_true.1 h k (List.mem_range.2 hk)
theorem no_fn {fn : Int} (h : ¬ (1 ≤ fn ∧ fn ≤ 78)) : nameF fn = [] ∧ (∀ n, fitsF fn n = false) ∧ ∀ n, kindF fn n = 0 :=
  ⟨if_neg h, fun _ => decide_eq_false fun e => h ⟨e.1, e.2.1⟩, fun _ => if_neg fun e => h ⟨e.1, e.2.1⟩⟩
theorem to_k {fn : Int} (h : 1 ≤ fn ∧ fn ≤ 78) : ∃ k : Nat, k < 78 ∧ fn = (k : Int) + 1 := ⟨fn.toNat - 1, by omega, by omega⟩
theorem k_back (k : Nat) : ((k : Int) + 1).toNat - 1 = k := by omega
theorem name_k {k : Nat} (hk : k < 78) : nameF ((k : Int) + 1) = nm k := by
  unfold nameF
  rw [if_pos (by omega), k_back]
theorem fits_k {k : Nat} (hk : k < 78) (n : Int) : fitsF ((k : Int) + 1) n = (decide (lo k ≤ n) && decide (n ≤ hi k)) := by
  unfold fitsF
  rw [k_back, ← Bool.decide_and, decide_eq_decide]
  omega
theorem kind_no {k : Nat} {n : Int} (h : n < 0 ∨ hi k ≤ n) : kindF ((k : Int) + 1) n = 0 := by
  unfold kindF
  rw [k_back]
  exact if_neg (by omega)
theorem kind_k {k i : Nat} (hk : k < 78) (h : (i : Int) < hi k) : kindF ((k : Int) + 1) i = kind k i := by
  unfold kindF
  rw [k_back, if_pos (by omega)]
  rfl

/-- the rows as they are read: of the program -/
theorem pr_all : (List.range 78).all (fun k => decide ((pr k).length = 18) && ((pr k)[11]? == some ((rr k).getD 0 48)) && ((pr k)[13]? == some ((rr k).getD 1 48)) && decide (48 ≤ ((rr k).getD 0 48).toNat) && decide (48 ≤ ((rr k).getD 1 48).toNat) &&
    (List.range 8).all fun i => decide (hi k ≤ i) || (pr k)[15 + min i 2]? == some (kind k i)) = true := by kernel_rfl
theorem hi_8 : (List.range 78).all (fun k => decide (hi k ≤ 8) && decide (lo k ≤ hi k) && decide (0 ≤ lo k)) = true := by kernel_rfl
/-- .. and of the reference -/
theorem rr_all : (List.range 78).all (fun k => decide ((rr k).length ≤ 5) && decide (2 ≤ (rr k).length) && ((rr k)[0]? == some ((rr k).getD 0 48)) && ((rr k)[1]? == some ((rr k).getD 1 48)) &&
    (List.range 8).all fun i => decide (hi k ≤ i) || (if 2 + i < (rr k).length then (rr k)[2 + i]? == some (kind k i) else (rr k)[(rr k).length - 1]? == some (kind k i))) = true := by kernel_rfl
/-- the text of all rows -/
theorem flat_all : (List.range 78).all (fun k => ((prows.flatten.drop (k * 18)).take 18 == pr k)) = true := by kernel_rfl
theorem flat_len : prows.flatten.length = 1404 := by kernel_rfl
/-- names: each its own, in order -/
theorem nm_all : (List.range 78).all (fun k => (findF (nm k) == k + 1) && !(nm k).isEmpty && decide ((nm k).length ≤ 10) && !(nm k).contains 32 && ((pr k).take ((nm k).length + 1) == nm k ++ [32])) = true := by kernel_rfl
theorem names_len : names.length = 78 := by kernel_rfl
theorem rrows_len : rrows.length = 78 := by kernel_rfl
/-- does a text stand ahead of another one? -/
def lessL (a b : List UInt8) : Bool := decide (Lib.compareBytes a b = -1)
theorem ord_all : (List.range 78).all (fun b => (List.range b).all fun a => lessL (nm a) (nm b)) = true := by kernel_rfl

theorem pr_facts {k : Nat} (hk : k < 78) : ∃ x y : UInt8, (pr k).length = 18 ∧ (pr k)[11]? = some x ∧ (pr k)[13]? = some y ∧ 48 ≤ x.toNat ∧ 48 ≤ y.toNat ∧ (x.toNat : Int) - 48 = lo k ∧ (y.toNat : Int) - 48 = hi k ∧
    ∀ i : Nat, (i : Int) < hi k → (pr k)[15 + min i 2]? = some (kind k i) := by
  have h := of_all pr_all hk
  have h8 := of_all hi_8 hk
  simp only [Bool.and_eq_true, decide_eq_true_eq, beq_iff_eq] at h h8
  obtain ⟨⟨⟨⟨⟨h1, h2⟩, h3⟩, h4⟩, h5⟩, h6⟩ := h
  refine ⟨_, _, h1, h2, h3, h4, h5, rfl, rfl, fun i hi9 => ?_⟩
  have h7 := of_all h6 (k := i) (by omega)
  simp only [Bool.or_eq_true, decide_eq_true_eq, beq_iff_eq] at h7
  exact h7.resolve_left (by omega)
theorem rr_facts {k : Nat} (hk : k < 78) : ∃ x y : UInt8, 2 ≤ (rr k).length ∧ (rr k).length ≤ 5 ∧ (rr k)[0]? = some x ∧ (rr k)[1]? = some y ∧ (x.toNat : Int) - 48 = lo k ∧ (y.toNat : Int) - 48 = hi k ∧
    ∀ i : Nat, (i : Int) < hi k → (2 + i < (rr k).length → (rr k)[2 + i]? = some (kind k i)) ∧ (¬ 2 + i < (rr k).length → (rr k)[(rr k).length - 1]? = some (kind k i)) := by
  have h := of_all rr_all hk
  have h8 := of_all hi_8 hk
  simp only [Bool.and_eq_true, decide_eq_true_eq, beq_iff_eq] at h h8
  obtain ⟨⟨⟨⟨h1, h2⟩, h3⟩, h4⟩, h6⟩ := h
  refine ⟨_, _, h2, h1, h3, h4, rfl, rfl, fun i hi9 => ?_⟩
  have h7 := of_all h6 (k := i) (by omega)
  simp only [Bool.or_eq_true, decide_eq_true_eq] at h7
  replace h7 := h7.resolve_left (by omega)
  refine ⟨fun hl => ?_, fun hl => ?_⟩
  · simpa [hl] using h7
  · simpa [hl] using h7
theorem flat_k {k : Nat} (hk : k < 78) : (prows.flatten.drop (k * 18)).take 18 = pr k := eq_of_beq (of_all flat_all hk)
theorem nm_facts {k : Nat} (hk : k < 78) : findF (nm k) = k + 1 ∧ nm k ≠ [] ∧ (nm k).length ≤ 10 ∧ 32 ∉ nm k ∧ ∃ r, pr k = nm k ++ 32 :: r := by
  have h := of_all nm_all hk
  simp only [Bool.and_eq_true, decide_eq_true_eq, beq_iff_eq, Bool.not_eq_true', List.isEmpty_eq_false_iff, ne_eq] at h
  obtain ⟨⟨⟨⟨h1, h2⟩, h3⟩, h4⟩, h5⟩ := h
  refine ⟨h1, h2, h3, ?_, (pr k).drop ((nm k).length + 1), ?_⟩
  · intro hm
    rw [List.contains_iff_mem.2 hm] at h4
    exact absurd h4 (by decide)
  · have h6 := List.take_append_drop ((nm k).length + 1) (pr k)
    rw [h5] at h6
    rw [← h6]
    simp
theorem ord_k {a b : Nat} (hb : b < 78) (hab : a < b) : lessL (nm a) (nm b) = true := of_all (of_all ord_all hb) hab
theorem same_k {a b : Nat} (ha : a < 78) (hb : b < 78) (h : nm a = nm b) : a = b := by
  have h1 := (nm_facts ha).1
  rw [h, (nm_facts hb).1] at h1
  omega
/-- a step of the search -/
theorem names_k {k : Nat} (hk : k < 78) : names.drop k = nm k :: names.drop (k + 1) := by
  rw [List.drop_eq_getElem_cons (by rw [names_len]; exact hk)]
  unfold nm
  rw [List.getD_eq_getElem?_getD, List.getElem?_eq_getElem (by rw [names_len]; exact hk)]
  rfl
theorem names_at {k : Nat} (hk : k < 78) : names[k]? = some (nm k) := by
  unfold nm
  rw [List.getD_eq_getElem?_getD, List.getElem?_eq_getElem (by rw [names_len]; exact hk)]
  rfl
theorem rrows_at {k : Nat} (hk : k < 78) : rrows[k]? = some (rr k) := by
  unfold rr
  rw [List.getD_eq_getElem?_getD, List.getElem?_eq_getElem (by rw [rrows_len]; exact hk)]
  rfl
theorem idx_here {l : List UInt8} {k : Nat} (hk : k < 78) (h : nm k = l) : idx l (names.drop k) (k + 1) = k + 1 := by
  rw [names_k hk, idx, if_pos h]
theorem idx_next {l : List UInt8} {k : Nat} (hk : k < 78) (h : ¬ nm k = l) : idx l (names.drop k) (k + 1) = idx l (names.drop (k + 1)) (k + 1 + 1) := by
  rw [names_k hk, idx, if_neg h]
theorem idx_end (l : List UInt8) (k : Nat) : idx l (names.drop 78) k = 0 := by
  rw [List.drop_of_length_le (by rw [names_len]; exact Nat.le_refl _)]
  rfl
theorem idx_le (l : List UInt8) (L : List (List UInt8)) (k : Nat) : idx l L k ≤ k + L.length := by
  induction L generalizing k with
  | nil => exact Nat.zero_le _
  | cons x r ih =>
    rw [idx]
    split
    · omega
    · have := ih (k + 1)
      rw [List.length_cons]
      omega
theorem find_le (l : List UInt8) : findF l ≤ 79 := idx_le l names 1
end Go.Proofs.Yteojdidjeinlpaa.Fnm

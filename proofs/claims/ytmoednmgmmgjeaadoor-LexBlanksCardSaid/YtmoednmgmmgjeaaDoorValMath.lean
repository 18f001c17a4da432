/- What values are, in plain words: which may be, what is made, as a number, a text, a truth, and how they are shown. No function of the program is named here. -/
import Derived.Test.YtmoednmgmmgjeaaDoorDigText
import Derived.Lib.ReplaceLaws
namespace Go.Proofs.YtmoednmgmmgjeaaDoor.Val
open Dec Dig

/-- a text within marks, without the marks at its ends -/
def quoteL : List UInt8 → List UInt8
  | [] => []
  | b :: l => if b = 34 then 34 :: 34 :: quoteL l else b :: quoteL l
theorem quoteL_skip {b : UInt8} (h : b ≠ 34) (l : List UInt8) : quoteL (b :: l) = b :: quoteL l := by rw [quoteL, if_neg h]
theorem quoteL_mark (l : List UInt8) : quoteL (34 :: l) = 34 :: 34 :: quoteL l := by rw [quoteL, if_pos rfl]
theorem index_head (l : List UInt8) : Go.Lib.index (34 :: l) [34] = 0 := by
  rw [Go.Lib.index_one]; rfl
theorem repl_eq : ∀ s : List UInt8, Go.Lib.replaceK [34] [34, 34] (Go.Lib.count s [34]) s = quoteL s
  | [] => rfl
  | b :: l => by
    by_cases h : b = 34
    · subst h
      rw [Go.Lib.count_cons_eq, Nat.add_comm 1, Go.Lib.replaceK_hit _ _ _ _ 0 (index_head l), quoteL_mark, ← repl_eq l]
      rfl
    · have ih := repl_eq l
      rw [Go.Lib.count_cons_ne b 34 l h, quoteL_skip h, ← ih]
      cases hc : Go.Lib.count l [34] with
      | zero => rfl
      | succ k =>
        obtain ⟨i, hi⟩ := Go.Lib.index_of_count (s := l) (old := [34]) (by omega)
        have hi2 : Go.Lib.index (b :: l) [34] = ((i + 1 : Nat) : Int) := by
          rw [Go.Lib.index_one] at hi ⊢
          rw [Go.Lib.indexByte, if_neg (by simpa using h), hi, if_neg (by simp)]
          rfl
        rw [Go.Lib.replaceK_hit _ _ _ _ _ hi, Go.Lib.replaceK_hit _ _ _ _ _ hi2]
        rw [List.take_succ_cons]
        simp
theorem repl_all (s : List UInt8) : Go.Lib.replaceAll s [34] [34, 34] = quoteL s := by
  unfold Go.Lib.replaceAll Go.Lib.replace
  rw [if_neg (by decide)]
  unfold Go.Lib.replaceNum
  rw [if_pos (Or.inl (by decide))]
  exact repl_eq s
theorem quote_len : ∀ s : List UInt8, (quoteL s).length ≤ 2 * s.length
  | [] => Nat.le_refl _
  | b :: l => by
    have ih := quote_len l
    unfold quoteL
    split <;> simp only [List.length_cons] <;> omega
/-- may a value be? -/
def mayV (k n : Int) (t : ByteArray) : Bool :=
  (decide (k = 0) && decide (t.size = 0) && decide (n = 0)) || (decide (k = 1) && decide (t.size = 0) && mayD n) || (decide (k = 2) && decide (n = 0) && decide (t.size ≤ 256)) ||
  (decide (k = 3) && decide (t.size = 0) && (decide (n = 0) || decide (n = 1))) || (decide (k = 4) && decide (t.size = 0) && decide (1 ≤ n) && decide (n ≤ 7))
/-- a fault as text -/
def faultL (c : Int) : List UInt8 :=
  if c = 1 then [35, 68, 73, 86] else if c = 2 then [35, 86, 65, 76, 85, 69] else if c = 3 then [35, 82, 69, 70] else if c = 4 then [35, 78, 85, 77] else if c = 5 then [35, 78, 65] else
  if c = 6 then [35, 65, 85, 84, 72] else if c = 7 then [35, 67, 89, 67, 76, 69] else []
/-- the fault of a code -/
def badV (c : Int) : Int := if 1 ≤ c ∧ c ≤ 7 then c else 2
/-- the number of a decimal: its kind, and its number -/
def numV (x : Int) : Int × Int := if mayD x then (1, x) else (4, 4)
/-- the text: its kind, its number, and its text -/
def strV (t : ByteArray) : Int × Int × ByteArray := if t.size ≤ 256 then (2, 0, t) else (4, 2, ⟨#[]⟩)
theorem bad_in {c : Int} (h1 : 1 ≤ c) (h2 : c ≤ 7) : badV c = c := if_pos ⟨h1, h2⟩
theorem bad_out {c : Int} (h : c < 1 ∨ 7 < c) : badV c = 2 := if_neg (by omega)
theorem bad_room (c : Int) : 1 ≤ badV c ∧ badV c ≤ 7 := by unfold badV; split <;> omega
theorem fault_out {c : Int} (h : c < 1 ∨ 7 < c) : faultL c = [] := by
  unfold faultL
  rw [if_neg (by omega), if_neg (by omega), if_neg (by omega), if_neg (by omega), if_neg (by omega), if_neg (by omega), if_neg (by omega)]
theorem num_in {x : Int} (h : mayD x = true) : numV x = (1, x) := if_pos h
theorem num_out {x : Int} (h : mayD x = false) : numV x = (4, 4) := if_neg (by simp [h])
theorem str_in {t : ByteArray} (h : t.size ≤ 256) : strV t = (2, 0, t) := if_pos h
theorem str_out {t : ByteArray} (h : 256 < t.size) : strV t = (4, 2, ⟨#[]⟩) := if_neg (by omega)
theorem size_none : decide ((⟨#[]⟩ : ByteArray).size = 0) = true := rfl
/-- what is made may be -/
theorem may_bad (c : Int) : mayV 4 (badV c) ⟨#[]⟩ = true := by
  obtain ⟨h1, h2⟩ := bad_room c
  unfold mayV
  rw [size_none]
  simp [h1, h2]
theorem may_num {x k n : Int} (h : numV x = (k, n)) : mayV k n ⟨#[]⟩ = true := by
  unfold numV at h
  split at h
  · obtain ⟨rfl, rfl⟩ := Prod.mk.inj h
    rename_i hm
    unfold mayV
    rw [size_none, hm]
    rfl
  · obtain ⟨rfl, rfl⟩ := Prod.mk.inj h
    rfl
theorem may_str {t s : ByteArray} {k n : Int} (h : strV t = (k, n, s)) : mayV k n s = true := by
  unfold strV at h
  split at h
  · obtain ⟨rfl, h2⟩ := Prod.mk.inj h
    obtain ⟨rfl, rfl⟩ := Prod.mk.inj h2
    rename_i hm
    simp [mayV, hm]
  · obtain ⟨rfl, h2⟩ := Prod.mk.inj h
    obtain ⟨rfl, rfl⟩ := Prod.mk.inj h2
    rfl
theorem may_bool (b : Bool) : mayV 3 (if b then 1 else 0) ⟨#[]⟩ = true := by cases b <;> rfl
end Go.Proofs.YtmoednmgmmgjeaaDoor.Val

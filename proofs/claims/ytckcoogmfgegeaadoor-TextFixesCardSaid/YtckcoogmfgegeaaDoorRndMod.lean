/- What package round's Mod, Quot, Odd answer: for every number of 64 bits. -/
import Derived.Test.YtckcoogmfgegeaaDoorRndPlaces
import Derived.Test.YtckcoogmfgegeaaDoorDecScale
namespace Go.Proofs.YtckcoogmfgegeaaDoor.Rnd
open Go.RowKit Kit Dec

/-- a quotient that is cut off, and its rest -/
theorem cut_any {a b : Int} (h : b ≠ 0) (a1 : -9223372036854775807 ≤ a) (a2 : a ≤ 9223372036854775807) :
    (-9223372036854775807 ≤ a.tdiv b ∧ a.tdiv b ≤ 9223372036854775807) ∧ (-9223372036854775807 ≤ a.tmod b ∧ a.tmod b ≤ 9223372036854775807) ∧ (a.tmod b).natAbs < b.natAbs := by
  have e1 : (a.tdiv b).natAbs = a.natAbs / b.natAbs := Int.natAbs_tdiv a b
  have e2 := Int.natAbs_tmod a b
  have l1 : a.natAbs / b.natAbs ≤ a.natAbs := Nat.div_le_self _ _
  have l2 : a.natAbs % b.natAbs ≤ a.natAbs := Nat.mod_le _ _
  have l3 : a.natAbs % b.natAbs < b.natAbs := Nat.mod_lt _ (by omega)
  rw [← e1] at l1
  rw [← e2] at l2 l3
  clear e1 e2
  omega
/-- what is left, with b's sign -/
def modI (a b : Int) : Int := if (a.tmod b < 0 ∧ 0 < b) ∨ (0 < a.tmod b ∧ b < 0) then a.tmod b + b else a.tmod b
def bothD (a b : Int) : Bool := mayD a && mayD b && decide (b ≠ 0)
def modD (a b : Int) : Int × Bool := if bothD a b then (modI a b, true) else (0, false)
def quotD (a b : Int) : Int × Bool := if bothD a b then scaledD (a.tdiv b) 10000 1 else (0, false)
theorem bothD_no {a b : Int} (h : a < -9223372036854775807 ∨ b < -9223372036854775807 ∨ b = 0) : bothD a b = false := by
  unfold bothD
  rcases h with h | h | h
  · rw [mayD_no h]; rfl
  · rw [mayD_no h]; simp
  · subst h; simp
theorem bothD_yes {a b : Int} (h1 : -9223372036854775807 ≤ a) (h2 : -9223372036854775807 ≤ b) (h3 : b ≠ 0) : bothD a b = true := by
  unfold bothD
  rw [mayD_yes h1, mayD_yes h2, decide_eq_true h3]; rfl
theorem sign_three {t : Int} (h : -9223372036854775807 ≤ t) : (t < 0 ∧ signD t = -1) ∨ (t = 0 ∧ signD t = 0) ∨ (0 < t ∧ signD t = 1) := by
  unfold signD
  rw [if_neg (by omega)]
  by_cases h1 : t < 0
  · rw [if_pos h1]; exact .inl ⟨h1, rfl⟩
  · rw [if_neg h1]
    by_cases h2 : t = 0
    · rw [if_pos h2]; exact .inr (.inl ⟨h2, rfl⟩)
    · rw [if_neg h2]; exact .inr (.inr ⟨by omega, rfl⟩)
theorem sign_pair {t b : Int} (t1 : -9223372036854775807 ≤ t) (b1 : -9223372036854775807 ≤ b) : decide (signD t * signD b < 0) = decide ((t < 0 ∧ 0 < b) ∨ (0 < t ∧ b < 0)) := by
  rw [decide_eq_decide]
  rcases sign_three t1 with ⟨h1, e1⟩ | ⟨h1, e1⟩ | ⟨h1, e1⟩ <;> rcases sign_three b1 with ⟨h2, e2⟩ | ⟨h2, e2⟩ | ⟨h2, e2⟩ <;> rw [e1, e2] <;> omega
end Go.Proofs.YtckcoogmfgegeaaDoor.Rnd

/- What package dec's ratio, Scaled, Mul, Div, Of answer: for every number of 64 bits. -/
import Derived.Test.YtmoednmgmmgjeaaGreatDoorDecLeaf
namespace Go.Proofs.YtmoednmgmmgjeaaGreatDoor.Dec
open Go.RowKit Kit

def ratioD (n c : Nat) : Int × Bool := if roundN n c ≤ 9223372036854775807 then ((roundN n c : Int), true) else (0, false)
theorem ratioD_in {n c k : Nat} (h : roundN n c = k) (hk : k ≤ 9223372036854775807) : ratioD n c = ((k : Int), true) := by rw [ratioD, if_pos (by omega), h]
theorem ratioD_out {n c : Nat} (h : 9223372036854775807 < roundN n c) : ratioD n c = (0, false) := by rw [ratioD, if_neg (by omega)]
theorem roundN_ge (n c : Nat) : n / c ≤ roundN n c := by unfold roundN; split <;> omega
theorem roundN_up {n c q r : Nat} (hq : n / c = q) (hr : n % c = r) (h : c - r ≤ r) : roundN n c = q + 1 := by rw [roundN, hr, hq, if_pos h]
theorem roundN_down {n c q r : Nat} (hq : n / c = q) (hr : n % c = r) (h : r < c - r) : roundN n c = q := by rw [roundN, hr, hq, if_neg (by omega)]
theorem roundN_zero {c : Nat} (hc : 0 < c) : roundN 0 c = 0 := by rw [roundN, Nat.zero_mod, Nat.zero_div, if_neg (by omega)]
/-- two results, in a world that may have drawn -/
def TwoD (n : Int) (b : Bool) (w : World) : Ending → World → Prop := fun e w' => e = .returned (.tuple #[.int .i64 n, .bool b]) ∧ Drawn w w'
theorem far_out {n c : Nat} (hc : 0 < c) (h : c ≤ n / 18446744073709551616) : 9223372036854775807 < roundN n c := by
  refine Nat.lt_of_lt_of_le ?_ (roundN_ge n c)
  have h1 := Nat.div_mul_le_self n 18446744073709551616
  have h2 : c * 18446744073709551616 ≤ n := Nat.le_trans (Nat.mul_le_mul_right _ h) h1
  have h3 : 18446744073709551616 ≤ n / c := by rw [Nat.le_div_iff_mul_le hc, Nat.mul_comm]; exact h2
  omega

theorem scaledD_none {a b c : Int} (h : a < -9223372036854775807 ∨ b < -9223372036854775807 ∨ c < -9223372036854775807 ∨ c = 0) : scaledD a b c = (0, false) := by
  refine giveD_out (.inl ?_)
  rcases h with h | h | h | h
  · rw [mayD_no h]; simp
  · rw [mayD_no h]; simp
  · rw [mayD_no h]; simp
  · subst h; simp
theorem scaledD_may {a b c : Int} (h1 : -9223372036854775807 ≤ a) (h2 : -9223372036854775807 ≤ b) (h3 : -9223372036854775807 ≤ c) (h4 : c ≠ 0) : scaledD a b c = giveD true (signed (negs a b c) (roundN (a.natAbs * b.natAbs) c.natAbs)) := by
  rw [scaledD, mayD_yes h1, mayD_yes h2, mayD_yes h3, decide_eq_true h4]; rfl
theorem scaledD_out {a b c : Int} (h : 9223372036854775807 < roundN (a.natAbs * b.natAbs) c.natAbs) : scaledD a b c = (0, false) := by
  refine giveD_out (.inr ?_)
  unfold signed
  split <;> omega
theorem scaledD_in {a b c : Int} (h1 : -9223372036854775807 ≤ a) (h2 : -9223372036854775807 ≤ b) (h3 : -9223372036854775807 ≤ c) (h4 : c ≠ 0) {k : Nat} (hk : roundN (a.natAbs * b.natAbs) c.natAbs = k) (hl : k ≤ 9223372036854775807) :
    scaledD a b c = (signed (negs a b c) k, true) := by
  rw [scaledD_may h1 h2 h3 h4, hk]
  unfold signed
  split
  · exact giveD_in (by omega) (by omega)
  · exact giveD_in (by omega) (by omega)
/-- the signs, multiplied -/
theorem signs {a b c : Int} (h1 : -9223372036854775807 ≤ a) (h2 : -9223372036854775807 ≤ b) (h3 : -9223372036854775807 ≤ c) (h4 : c ≠ 0) {k : Nat} (hk : roundN (a.natAbs * b.natAbs) c.natAbs = k) :
    (k : Int) * (signD a * signD b * signD c) = signed (negs a b c) k := by
  have ez : ∀ x : Int, ¬ x < -9223372036854775807 → signD x = if x < 0 then -1 else if x = 0 then 0 else 1 := fun x hx => by rw [signD, if_neg hx]
  rw [ez a (by omega), ez b (by omega), ez c (by omega), if_neg h4]
  by_cases ha : a = 0
  · subst ha
    have : k = 0 := by rw [← hk]; simp only [Int.natAbs_zero, Nat.zero_mul]; exact roundN_zero (by omega)
    subst this
    simp [signed]
  by_cases hb : b = 0
  · subst hb
    have : k = 0 := by rw [← hk]; simp only [Int.natAbs_zero, Nat.mul_zero]; exact roundN_zero (by omega)
    subst this
    simp [signed]
  rw [if_neg ha, if_neg hb]
  unfold signed negs
  by_cases h5 : a < 0 <;> by_cases h6 : b < 0 <;> by_cases h7 : c < 0 <;> simp [h5, h6, h7]
theorem sign_room (a b c : Int) : (-1 ≤ signD a ∧ signD a ≤ 1) ∧ (-1 ≤ signD a * signD b ∧ signD a * signD b ≤ 1) ∧ (-1 ≤ signD a * signD b * signD c ∧ signD a * signD b * signD c ≤ 1) := by
  have ez : ∀ x : Int, signD x = -1 ∨ signD x = 0 ∨ signD x = 1 := fun x => by
    unfold signD
    split
    · simp
    · split
      · simp
      · split <;> simp
  rcases ez a with h | h | h <;> rcases ez b with h2 | h2 | h2 <;> rcases ez c with h3 | h3 | h3 <;> rw [h, h2, h3] <;> decide

end Go.Proofs.YtmoednmgmmgjeaaGreatDoor.Dec

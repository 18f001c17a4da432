/- math/bits.Div64 in natural numbers alone: the school method in two digits of 32 bits, each estimated by the divisor's upper digit. No function of the program is named here. -/
import Derived.Test.YtmoednmgmmgjeaaDoorDecMath
import Derived.Lib.ItoaNum
namespace Go.Proofs.YtmoednmgmmgjeaaDoor.Dec

/-- whether an estimated digit is too great -/
theorem est_cond {u y1 y0 d q rh : Nat} (hy : 0 < y1 * 4294967296 + y0) (h : q * y1 + rh = u) :
    (u * 4294967296 + d) / (y1 * 4294967296 + y0) < q ↔ rh * 4294967296 + d < q * y0 := by
  subst h
  rw [Nat.div_lt_iff_lt_mul hy, Nat.mul_add, ← Nat.mul_assoc, Nat.add_mul]
  omega
theorem est_lt {u y d : Nat} (h : u < y) (hd : d < 4294967296) : (u * 4294967296 + d) / y < 4294967296 := by
  rw [Nat.div_lt_iff_lt_mul (by omega)]
  have := Nat.mul_le_mul_right 4294967296 (show u + 1 ≤ y from h)
  rw [Nat.mul_comm 4294967296 y]
  omega
theorem est_first {u y1 y0 : Nat} (h : u < y1 * 4294967296 + y0) (h0 : y0 < 4294967296) (h1 : 2147483648 ≤ y1) : u / y1 ≤ 4294967297 := by
  have : u / y1 < 4294967298 := by
    rw [Nat.div_lt_iff_lt_mul (by omega)]
    omega
  omega
theorem est_ge {u y1 y0 d : Nat} (hd : d < 4294967296) (h1 : 0 < y1) : (u * 4294967296 + d) / (y1 * 4294967296 + y0) ≤ u / y1 := by
  rw [Nat.le_div_iff_mul_le h1]
  generalize hQ : (u * 4294967296 + d) / (y1 * 4294967296 + y0) = Q
  have h := Nat.div_mul_le_self (u * 4294967296 + d) (y1 * 4294967296 + y0)
  rw [hQ, Nat.mul_add, ← Nat.mul_assoc] at h
  generalize Q * y1 = a at *
  generalize Q * y0 = b at *
  omega
/-- a great rest of the estimate: the digit is not too great -/
theorem est_stop {u y1 y0 d q rh : Nat} (hy : 0 < y1 * 4294967296 + y0) (h : q * y1 + rh = u) (h0 : y0 < 4294967296) (hq : q ≤ 4294967296) (hr : 4294967296 ≤ rh) :
    q ≤ (u * 4294967296 + d) / (y1 * 4294967296 + y0) := by
  refine Nat.le_of_not_lt fun hlt => ?_
  have h2 := (est_cond (d := d) hy h).1 hlt
  have := Nat.mul_le_mul hq (Nat.le_refl y0)
  omega

/-- how an estimated digit stands as the loop goes on -/
structure Est (u y1 y0 d q rh : Nat) : Prop where
  sum : q * y1 + rh = u
  ge : (u * 4294967296 + d) / (y1 * 4294967296 + y0) ≤ q
  le : q ≤ 4294967297
theorem Est.start {u y1 y0 d : Nat} (h : u < y1 * 4294967296 + y0) (h0 : y0 < 4294967296) (h1 : 2147483648 ≤ y1) (hd : d < 4294967296) : Est u y1 y0 d (u / y1) (u % y1) :=
  ⟨by rw [Nat.mul_comm]; exact Nat.div_add_mod u y1, est_ge hd (by omega), est_first h h0 h1⟩
/-- one less -/
theorem Est.next {u y1 y0 d q rh : Nat} (h : Est u y1 y0 d q rh) (hlt : (u * 4294967296 + d) / (y1 * 4294967296 + y0) < q) : Est u y1 y0 d (q - 1) (rh + y1) := by
  obtain ⟨h1, h2, h3⟩ := h
  obtain ⟨k, rfl⟩ : ∃ k, q = k + 1 := ⟨q - 1, by have := Nat.zero_le ((u * 4294967296 + d) / (y1 * 4294967296 + y0)); omega⟩
  refine ⟨?_, Nat.le_of_lt_succ hlt, by omega⟩
  rw [Nat.add_mul] at h1
  simp only [Nat.add_sub_cancel]
  omega
/-- the products that the loop makes have room -/
theorem prod_lt {q y : Nat} (hq : q < 4294967296) (hy : y < 4294967296) : q * y < 18446744073709551616 := by
  have := Nat.mul_le_mul (show q ≤ 4294967295 by omega) (show y ≤ 4294967295 by omega)
  omega
/-- long division goes on by a digit -/
theorem digit {N y d : Nat} : (N * 4294967296 + d) / y = N / y * 4294967296 + (N % y * 4294967296 + d) / y ∧ (N * 4294967296 + d) % y = (N % y * 4294967296 + d) % y := by
  by_cases hy : y = 0
  · subst hy; simp
  have e : N * 4294967296 + d = (N % y * 4294967296 + d) + y * (N / y * 4294967296) := by
    have h := Nat.div_add_mod N y
    have e1 : y * (N / y * 4294967296) = y * (N / y) * 4294967296 := (Nat.mul_assoc ..).symm
    rw [e1]
    generalize y * (N / y) = a at *
    generalize N % y = b at *
    omega
  rw [e, Nat.add_mul_div_left _ _ (by omega), Nat.add_mul_mod_self_left]
  omega
/-- what stands behind a product is taken off, wrapped round -/
theorem take_off {u d q y r : Nat} (h : u * 4294967296 + d = q * y + r) (hr : r < 18446744073709551616) :
    (((u : Int) * 4294967296 % 18446744073709551616 + (d : Int)) % 18446744073709551616 - ((q : Int) * (y : Int)) % 18446744073709551616) % 18446744073709551616 = (r : Int) := by
  have e : (q : Int) * (y : Int) = ((q * y : Nat) : Int) := (Int.natCast_mul q y).symm
  rw [e]
  generalize q * y = P at *
  omega

/-- moved to the left by s, both -/
theorem moved {hi lo s : Nat} (hs : s ≤ 64) :
    (hi * 2 ^ s + lo / 2 ^ (64 - s)) * 18446744073709551616 + lo * 2 ^ s % 18446744073709551616 = (hi * 18446744073709551616 + lo) * 2 ^ s := by
  have e : (18446744073709551616 : Nat) = 2 ^ (64 - s) * 2 ^ s := by
    rw [← Nat.pow_add, show 64 - s + s = 64 by omega]
  have hp : 0 < 2 ^ s := Nat.pow_pos (by omega)
  have h1 : lo * 2 ^ s / 18446744073709551616 = lo / 2 ^ (64 - s) := by
    rw [e, Nat.mul_div_mul_right _ _ hp]
  have h2 := Nat.div_add_mod (lo * 2 ^ s) 18446744073709551616
  rw [h1] at h2
  rw [Nat.add_mul, Nat.add_mul _ _ (2 ^ s), Nat.mul_right_comm hi (2 ^ s)]
  omega
/-- how far a divisor is moved -/
theorem lead {y : Nat} (h0 : y ≠ 0) (hy : y < 18446744073709551616) : Lib.bitLen y ≤ 64 ∧ 1 ≤ Lib.bitLen y ∧ y * 2 ^ (64 - Lib.bitLen y) < 18446744073709551616 ∧ 9223372036854775808 ≤ y * 2 ^ (64 - Lib.bitLen y) := by
  have hl := Lib.bitLen_le y 64 (Nat.le_refl _) (by omega)
  obtain ⟨h1, h2, h3⟩ := Lib.bitLenAux_bounds 64 y (by omega) h0
  have e : Lib.bitLen y = Lib.bitLenAux 64 y := rfl
  rw [← e] at h1 h2 h3
  generalize Lib.bitLen y = b at *
  have p1 : 2 ^ b * 2 ^ (64 - b) = 18446744073709551616 := by rw [← Nat.pow_add, show b + (64 - b) = 64 by omega]
  have p2 : 2 ^ (b - 1) * 2 ^ (64 - b) = 9223372036854775808 := by rw [← Nat.pow_add, show b - 1 + (64 - b) = 63 by omega]
  have hp : 0 < 2 ^ (64 - b) := Nat.pow_pos (by omega)
  refine ⟨hl, h1, ?_, ?_⟩
  · rw [← p1]; exact Nat.mul_lt_mul_of_pos_right h3 hp
  · rw [← p2]; exact Nat.mul_le_mul_right _ h2
end Go.Proofs.YtmoednmgmmgjeaaDoor.Dec

/- Decimals, in integers alone: which may be, sums, scaled products rounded; long division bit by bit, products by halves. No function of the program is named here.
   math/bits.Div64 in natural numbers alone: the school method in two digits of 32 bits, each estimated by the divisor's upper digit. No function of the program is named here.
   What math/bits.Div64 answers where the quotient has 64 bits: two digits of 32 bits, each estimated and mended. -/
import Derived.Lib.ItoaNum
import Derived.Deep.CutBlock
import Derived.Deep.DeepCutAuto
import Derived.Test.YtbjomidkeignjaaGreatDoorKit
import Derived.Test.YtbjomidkeignjaaGreatDoorShelf
namespace Go.Proofs.YtbjomidkeignjaaGreatDoor.Dec

/-- a number of 64 bits with a sign -/
def I (x : Int) : Prop := -9223372036854775808 ≤ x ∧ x ≤ 9223372036854775807
/-- may a decimal be? -/
def mayD (x : Int) : Bool := decide (-9223372036854775807 ≤ x)
def okD (x : Int) : Bool := decide (-9223372036854775807 ≤ x) && decide (x ≤ 9223372036854775807)
/-- what comes out, if it may be -/
def giveD (b : Bool) (x : Int) : Int × Bool := if b && okD x then (x, true) else (0, false)
def addD (a b : Int) : Int × Bool := giveD (mayD a && mayD b) (a + b)
def subD (a b : Int) : Int × Bool := giveD (mayD a && mayD b) (a - b)
def negD (x : Int) : Int × Bool := giveD (mayD x) (-x)
def ofD (n : Int) : Int × Bool := giveD (mayD n) (n * 10000)
/-- a quotient of two numbers, rounded: of two that are equally near the greater one -/
def roundN (n by_ : Nat) : Nat := if by_ - n % by_ ≤ n % by_ then n / by_ + 1 else n / by_
def signed (neg : Bool) (q : Nat) : Int := if neg then -(q : Int) else q
def negs (a b c : Int) : Bool := (decide (a < 0) != decide (b < 0)) != decide (c < 0)
def scaledD (a b c : Int) : Int × Bool := giveD (mayD a && mayD b && mayD c && decide (c ≠ 0)) (signed (negs a b c) (roundN (a.natAbs * b.natAbs) c.natAbs))

theorem mul_halves (a b : Nat) (ha : a < 18446744073709551616) (hb : b < 18446744073709551616) :
    let low := (a % 4294967296) * (b % 4294967296)
    let x := (a / 4294967296) * (b % 4294967296) + low / 4294967296
    let y := (a % 4294967296) * (b / 4294967296) + x % 4294967296
    low < 18446744073709551616 ∧ x < 18446744073709551616 ∧ y < 18446744073709551616 ∧ (a / 4294967296) * (b / 4294967296) + x / 4294967296 + y / 4294967296 < 18446744073709551616 ∧
    (a / 4294967296) * (b / 4294967296) + x / 4294967296 + y / 4294967296 = a * b / 18446744073709551616 ∧
    (y % 4294967296) * 4294967296 + low % 4294967296 = a * b % 18446744073709551616 := by
  intro low x y
  obtain ⟨a1, ea⟩ : ∃ a1, a / 4294967296 = a1 := ⟨_, rfl⟩
  obtain ⟨a0, ea0⟩ : ∃ a0, a % 4294967296 = a0 := ⟨_, rfl⟩
  obtain ⟨b1, eb⟩ : ∃ b1, b / 4294967296 = b1 := ⟨_, rfl⟩
  obtain ⟨b0, eb0⟩ : ∃ b0, b % 4294967296 = b0 := ⟨_, rfl⟩
  have haa : a = a1 * 4294967296 + a0 := by omega
  have hbb : b = b1 * 4294967296 + b0 := by omega
  have l1 : a1 < 4294967296 := by omega
  have l2 : a0 < 4294967296 := by omega
  have l3 : b1 < 4294967296 := by omega
  have l4 : b0 < 4294967296 := by omega
  have m : ∀ u v : Nat, u < 4294967296 → v < 4294967296 → u * v ≤ 18446744065119617025 := fun u v h1 h2 => by
    have := Nat.mul_le_mul (show u ≤ 4294967295 by omega) (show v ≤ 4294967295 by omega)
    omega
  have m1 := m a0 b0 l2 l4
  have m2 := m a1 b0 l1 l4
  have m3 := m a0 b1 l2 l3
  have m4 := m a1 b1 l1 l3
  have hp : a * b = a1 * b1 * 18446744073709551616 + (a1 * b0 + a0 * b1) * 4294967296 + a0 * b0 := by
    have f1 : a1 * 4294967296 * (b1 * 4294967296) = a1 * b1 * 18446744073709551616 := Nat.mul_mul_mul_comm ..
    have f2 : a1 * 4294967296 * b0 = a1 * b0 * 4294967296 := Nat.mul_right_comm ..
    have f3 : a0 * (b1 * 4294967296) = a0 * b1 * 4294967296 := (Nat.mul_assoc ..).symm
    rw [haa, hbb, Nat.add_mul, Nat.mul_add, Nat.mul_add, f1, f2, f3]
    omega
  have hx : x = a1 * b0 + a0 * b0 / 4294967296 := by show (a / 4294967296) * (b % 4294967296) + _ = _; rw [ea, eb0]; show _ + (a % 4294967296) * (b % 4294967296) / _ = _; rw [ea0, eb0]
  have hy : y = a0 * b1 + x % 4294967296 := by show (a % 4294967296) * (b / 4294967296) + _ = _; rw [ea0, eb]
  have hlow : low = a0 * b0 := by show (a % 4294967296) * (b % 4294967296) = _; rw [ea0, eb0]
  clear_value x y low
  subst hlow
  rw [ea, eb, hp]
  generalize a1 * b1 = p4 at *
  generalize a1 * b0 = p2 at *
  generalize a0 * b1 = p3 at *
  generalize a0 * b0 = p1 at *
  clear m ea ea0 eb eb0 haa hbb hp
  omega

/-- long division of N (below 2^128) by a number, bit by bit: behind i steps -/
structure DivAt (N by_ i : Nat) (hi lo q r : Nat) (ok : Bool) : Prop where
  left : hi * 18446744073709551616 + lo = N * 2 ^ i % 340282366920938463463374607431768211456
  hiU : hi < 18446744073709551616
  loU : lo < 18446744073709551616
  rest : r = N / 2 ^ (128 - i) % by_
  quo : q = N / 2 ^ (128 - i) / by_ % 18446744073709551616
  room : ok = decide (N / 2 ^ (128 - i) / by_ < 18446744073709551616)
theorem DivAt.start {N by_ hi lo : Nat} (hN : hi * 18446744073709551616 + lo = N) (h1 : hi < 18446744073709551616) (h2 : lo < 18446744073709551616) : DivAt N by_ 0 hi lo 0 0 true := by
  have hlt : N < 340282366920938463463374607431768211456 := by omega
  have h0 : N / 2 ^ (128 - 0) = 0 := Nat.div_eq_of_lt (by simpa using hlt)
  refine ⟨?_, h1, h2, ?_, ?_, ?_⟩
  · rw [hN, Nat.pow_zero, Nat.mul_one, Nat.mod_eq_of_lt hlt]
  · rw [h0]; simp
  · rw [h0]; simp
  · rw [h0]; simp
theorem DivAt.done {N by_ hi lo q r : Nat} {ok : Bool} (h : DivAt N by_ 128 hi lo q r ok) : r = N % by_ ∧ q = N / by_ % 18446744073709551616 ∧ ok = decide (N / by_ < 18446744073709551616) := by
  have h3 := h.rest
  have h4 := h.quo
  have h5 := h.room
  simp only [Nat.sub_self, Nat.pow_zero, Nat.div_one] at h3 h4 h5
  exact ⟨h3, h4, h5⟩
theorem div_step {P P2 b by_ q r : Nat} (hb : 0 < by_) (hP2 : P2 = 2 * P + b) (hbit : b ≤ 1) (hr : r = P % by_) (hq : q = P / by_) :
    P2 / by_ = 2 * q + (if by_ ≤ 2 * r + b then 1 else 0) ∧ P2 % by_ = 2 * r + b - (if by_ ≤ 2 * r + b then by_ else 0) := by
  have h1 := Nat.div_add_mod P by_
  have hrl : r < by_ := by rw [hr]; exact Nat.mod_lt _ hb
  rw [← hr, ← hq] at h1
  by_cases hc : by_ ≤ 2 * r + b
  · rw [if_pos hc, if_pos hc]
    have e : P2 = (2 * r + b - by_) + by_ * (2 * q + 1) := by
      have e1 : by_ * (2 * q + 1) = 2 * (by_ * q) + by_ := by rw [Nat.mul_add, Nat.mul_one, Nat.mul_left_comm]
      omega
    rw [e, Nat.add_mul_div_left _ _ hb, Nat.add_mul_mod_self_left, Nat.div_eq_of_lt (by omega), Nat.mod_eq_of_lt (by omega)]
    omega
  · rw [if_neg hc, if_neg hc]
    have e : P2 = (2 * r + b) + by_ * (2 * q) := by
      have e1 : by_ * (2 * q) = 2 * (by_ * q) := Nat.mul_left_comm ..
      omega
    rw [e, Nat.add_mul_div_left _ _ hb, Nat.add_mul_mod_self_left, Nat.div_eq_of_lt (by omega), Nat.mod_eq_of_lt (by omega)]
    omega
theorem pow_128 (i : Nat) (hi : i < 128) : 2 ^ i * 2 ^ (128 - i) = 340282366920938463463374607431768211456 ∧ 2 ^ (128 - i) = 2 * 2 ^ (128 - (i + 1)) := by
  refine ⟨?_, ?_⟩
  · rw [← Nat.pow_add, show i + (128 - i) = 128 by omega]
  · rw [show 128 - i = (128 - (i + 1)) + 1 by omega, Nat.pow_succ, Nat.mul_comm]
/-- the next bit -/
theorem next_bit {N i : Nat} (hi : i < 128) : N / 2 ^ (128 - (i + 1)) = 2 * (N / 2 ^ (128 - i)) + (N * 2 ^ i % 340282366920938463463374607431768211456) / 170141183460469231731687303715884105728 := by
  obtain ⟨h1, h2⟩ := pow_128 i hi
  have hA : 0 < 2 ^ (128 - (i + 1)) := Nat.pow_pos (by omega)
  have hC : 0 < 2 ^ i := Nat.pow_pos (by omega)
  rw [h2] at h1 ⊢
  generalize 2 ^ (128 - (i + 1)) = A at *
  generalize 2 ^ i = C at *
  have h3 : C * A = 170141183460469231731687303715884105728 := by
    have : C * (2 * A) = 2 * (C * A) := Nat.mul_left_comm ..
    omega
  rw [← Nat.div_div_eq_div_mul]
  have e : N * C % 340282366920938463463374607431768211456 = C * (N % (2 * A)) := by
    rw [Nat.mul_comm N C, ← h1, Nat.mul_mod_mul_left]
  rw [e, ← h3, Nat.mul_div_mul_left _ _ hC]
  have e2 : N % (2 * A) / A = N / A % 2 := by
    rw [Nat.mul_comm 2 A, Nat.mod_mul_right_div_self]
  have e3 : N / 2 / A = N / A / 2 := by rw [Nat.div_div_eq_div_mul, Nat.div_div_eq_div_mul, Nat.mul_comm]
  rw [e2, e3]
  omega
set_option maxRecDepth 100000 in
theorem DivAt.step {N by_ i hi lo q r : Nat} {ok : Bool} (hb : 0 < by_) (hb2 : by_ ≤ 9223372036854775808) (hlt : i < 128) (h : DivAt N by_ i hi lo q r ok) :
    r * 2 + hi / 9223372036854775808 < 18446744073709551616 ∧
    DivAt N by_ (i + 1) ((hi * 2 + lo / 9223372036854775808) % 18446744073709551616) (lo * 2 % 18446744073709551616)
      (if by_ ≤ r * 2 + hi / 9223372036854775808 then q * 2 % 18446744073709551616 + 1 else q * 2 % 18446744073709551616)
      (if by_ ≤ r * 2 + hi / 9223372036854775808 then r * 2 + hi / 9223372036854775808 - by_ else r * 2 + hi / 9223372036854775808) (ok && decide (q < 9223372036854775808)) := by
  obtain ⟨h1, h2, h3, h4, h5, h6⟩ := h
  have hnb := next_bit (N := N) hlt
  rw [← h1] at hnb
  have hbit : (hi * 18446744073709551616 + lo) / 170141183460469231731687303715884105728 = hi / 9223372036854775808 := by omega
  rw [hbit] at hnb
  have hr : r < by_ := by rw [h4]; exact Nat.mod_lt _ hb
  obtain ⟨s1, s2⟩ := div_step hb hnb (by omega) h4 rfl
  have hp : N * 2 ^ (i + 1) = 2 * (N * 2 ^ i) := by rw [Nat.pow_succ, ← Nat.mul_assoc, Nat.mul_comm]
  obtain ⟨P2, hP2⟩ : ∃ x, N / 2 ^ (128 - (i + 1)) = x := ⟨_, rfl⟩
  obtain ⟨P, hP⟩ : ∃ x, N / 2 ^ (128 - i) = x := ⟨_, rfl⟩
  obtain ⟨M, hM⟩ : ∃ x, N * 2 ^ i = x := ⟨_, rfl⟩
  rw [hP2, hP] at s1
  rw [hP2] at s2
  rw [hP] at h5 h6
  rw [hM] at h1 hp
  have e0 : 2 * r + hi / 9223372036854775808 = r * 2 + hi / 9223372036854775808 := by omega
  rw [e0] at s1 s2
  refine ⟨by omega, ⟨?_, by omega, by omega, ?_, ?_, ?_⟩⟩
  · clear s1 s2 h4 h5 h6 hP2 hP hM hnb hbit
    rw [hp, ← Nat.mul_mod_mod 2 M, ← h1]
    obtain ⟨d, hd⟩ : ∃ d, (hi * 2 + lo / 9223372036854775808) / 18446744073709551616 = d := ⟨_, rfl⟩
    obtain ⟨m, hm⟩ : ∃ m, (hi * 2 + lo / 9223372036854775808) % 18446744073709551616 = m := ⟨_, rfl⟩
    obtain ⟨k, hk⟩ : ∃ k, lo * 2 % 18446744073709551616 = k := ⟨_, rfl⟩
    rw [hm, hk, show 2 * (hi * 18446744073709551616 + lo) = m * 18446744073709551616 + k + 340282366920938463463374607431768211456 * d by omega, Nat.add_mul_mod_self_left, Nat.mod_eq_of_lt (by omega)]
  · rw [hP2, s2]; split <;> omega
  · rw [hP2, s1, h5]; split <;> omega
  · rw [hP2, s1, h6, h5, Bool.eq_iff_iff, Bool.and_eq_true, decide_eq_true_eq, decide_eq_true_eq, decide_eq_true_eq]
    split <;> omega
end Go.Proofs.YtbjomidkeignjaaGreatDoor.Dec
namespace Go.Proofs.YtbjomidkeignjaaGreatDoor.Dec

/-- whether an estimated digit is too great -/
theorem est_cond {u y1 y0 d q rh : Nat} (hy : 0 < y1 * 4294967296 + y0) (h : q * y1 + rh = u) :
    (u * 4294967296 + d) / (y1 * 4294967296 + y0) < q ↔ rh * 4294967296 + d < q * y0 := by
  subst h
  rw [Nat.div_lt_iff_lt_mul hy, Nat.mul_add, ← Nat.mul_assoc, Nat.add_mul]
  omega
theorem est_lt {u y d : Nat} (h : u < y) (hd : d < 4294967296) : (u * 4294967296 + d) / y < 4294967296 := by
  rw [Nat.div_lt_iff_lt_mul (by omega)]
  have := Nat.mul_le_mul_right 4294967296 (show u + 1 ≤ y from h)
  rw [Nat.mul_comm 4294967296 y]
  omega
theorem est_first {u y1 y0 : Nat} (h : u < y1 * 4294967296 + y0) (h0 : y0 < 4294967296) (h1 : 2147483648 ≤ y1) : u / y1 ≤ 4294967297 := by
  have : u / y1 < 4294967298 := by
    rw [Nat.div_lt_iff_lt_mul (by omega)]
    omega
  omega
theorem est_ge {u y1 y0 d : Nat} (hd : d < 4294967296) (h1 : 0 < y1) : (u * 4294967296 + d) / (y1 * 4294967296 + y0) ≤ u / y1 := by
  rw [Nat.le_div_iff_mul_le h1]
  generalize hQ : (u * 4294967296 + d) / (y1 * 4294967296 + y0) = Q
  have h := Nat.div_mul_le_self (u * 4294967296 + d) (y1 * 4294967296 + y0)
  rw [hQ, Nat.mul_add, ← Nat.mul_assoc] at h
  generalize Q * y1 = a at *
  generalize Q * y0 = b at *
  omega
/-- a great rest of the estimate: the digit is not too great -/
theorem est_stop {u y1 y0 d q rh : Nat} (hy : 0 < y1 * 4294967296 + y0) (h : q * y1 + rh = u) (h0 : y0 < 4294967296) (hq : q ≤ 4294967296) (hr : 4294967296 ≤ rh) :
    q ≤ (u * 4294967296 + d) / (y1 * 4294967296 + y0) := by
  refine Nat.le_of_not_lt fun hlt => ?_
  have h2 := (est_cond (d := d) hy h).1 hlt
  have := Nat.mul_le_mul hq (Nat.le_refl y0)
  omega

/-- how an estimated digit stands as the loop goes on -/
structure Est (u y1 y0 d q rh : Nat) : Prop where
  sum : q * y1 + rh = u
  ge : (u * 4294967296 + d) / (y1 * 4294967296 + y0) ≤ q
  le : q ≤ 4294967297
theorem Est.start {u y1 y0 d : Nat} (h : u < y1 * 4294967296 + y0) (h0 : y0 < 4294967296) (h1 : 2147483648 ≤ y1) (hd : d < 4294967296) : Est u y1 y0 d (u / y1) (u % y1) :=
  ⟨by rw [Nat.mul_comm]; exact Nat.div_add_mod u y1, est_ge hd (by omega), est_first h h0 h1⟩
/-- one less -/
theorem Est.next {u y1 y0 d q rh : Nat} (h : Est u y1 y0 d q rh) (hlt : (u * 4294967296 + d) / (y1 * 4294967296 + y0) < q) : Est u y1 y0 d (q - 1) (rh + y1) := by
  obtain ⟨h1, h2, h3⟩ := h
  obtain ⟨k, rfl⟩ : ∃ k, q = k + 1 := ⟨q - 1, by have := Nat.zero_le ((u * 4294967296 + d) / (y1 * 4294967296 + y0)); omega⟩
  refine ⟨?_, Nat.le_of_lt_succ hlt, by omega⟩
  rw [Nat.add_mul] at h1
  simp only [Nat.add_sub_cancel]
  omega
/-- the products that the loop makes have room -/
theorem prod_lt {q y : Nat} (hq : q < 4294967296) (hy : y < 4294967296) : q * y < 18446744073709551616 := by
  have := Nat.mul_le_mul (show q ≤ 4294967295 by omega) (show y ≤ 4294967295 by omega)
  omega
/-- long division goes on by a digit -/
theorem digit {N y d : Nat} : (N * 4294967296 + d) / y = N / y * 4294967296 + (N % y * 4294967296 + d) / y ∧ (N * 4294967296 + d) % y = (N % y * 4294967296 + d) % y := by
  by_cases hy : y = 0
  · subst hy; simp
  have e : N * 4294967296 + d = (N % y * 4294967296 + d) + y * (N / y * 4294967296) := by
    have h := Nat.div_add_mod N y
    have e1 : y * (N / y * 4294967296) = y * (N / y) * 4294967296 := (Nat.mul_assoc ..).symm
    rw [e1]
    generalize y * (N / y) = a at *
    generalize N % y = b at *
    omega
  rw [e, Nat.add_mul_div_left _ _ (by omega), Nat.add_mul_mod_self_left]
  omega
/-- what stands behind a product is taken off, wrapped round -/
theorem take_off {u d q y r : Nat} (h : u * 4294967296 + d = q * y + r) (hr : r < 18446744073709551616) :
    (((u : Int) * 4294967296 % 18446744073709551616 + (d : Int)) % 18446744073709551616 - ((q : Int) * (y : Int)) % 18446744073709551616) % 18446744073709551616 = (r : Int) := by
  have e : (q : Int) * (y : Int) = ((q * y : Nat) : Int) := (Int.natCast_mul q y).symm
  rw [e]
  generalize q * y = P at *
  omega

/-- moved to the left by s, both -/
theorem moved {hi lo s : Nat} (hs : s ≤ 64) :
    (hi * 2 ^ s + lo / 2 ^ (64 - s)) * 18446744073709551616 + lo * 2 ^ s % 18446744073709551616 = (hi * 18446744073709551616 + lo) * 2 ^ s := by
  have e : (18446744073709551616 : Nat) = 2 ^ (64 - s) * 2 ^ s := by
    rw [← Nat.pow_add, show 64 - s + s = 64 by omega]
  have hp : 0 < 2 ^ s := Nat.pow_pos (by omega)
  have h1 : lo * 2 ^ s / 18446744073709551616 = lo / 2 ^ (64 - s) := by
    rw [e, Nat.mul_div_mul_right _ _ hp]
  have h2 := Nat.div_add_mod (lo * 2 ^ s) 18446744073709551616
  rw [h1] at h2
  rw [Nat.add_mul, Nat.add_mul _ _ (2 ^ s), Nat.mul_right_comm hi (2 ^ s)]
  omega
/-- how far a divisor is moved -/
theorem lead {y : Nat} (h0 : y ≠ 0) (hy : y < 18446744073709551616) : Lib.bitLen y ≤ 64 ∧ 1 ≤ Lib.bitLen y ∧ y * 2 ^ (64 - Lib.bitLen y) < 18446744073709551616 ∧ 9223372036854775808 ≤ y * 2 ^ (64 - Lib.bitLen y) := by
  have hl := Lib.bitLen_le y 64 (Nat.le_refl _) (by omega)
  obtain ⟨h1, h2, h3⟩ := Lib.bitLenAux_bounds 64 y (by omega) h0
  have e : Lib.bitLen y = Lib.bitLenAux 64 y := rfl
  rw [← e] at h1 h2 h3
  generalize Lib.bitLen y = b at *
  have p1 : 2 ^ b * 2 ^ (64 - b) = 18446744073709551616 := by rw [← Nat.pow_add, show b + (64 - b) = 64 by omega]
  have p2 : 2 ^ (b - 1) * 2 ^ (64 - b) = 9223372036854775808 := by rw [← Nat.pow_add, show b - 1 + (64 - b) = 63 by omega]
  have hp : 0 < 2 ^ (64 - b) := Nat.pow_pos (by omega)
  refine ⟨hl, h1, ?_, ?_⟩
  · rw [← p1]; exact Nat.mul_lt_mul_of_pos_right h3 hp
  · rw [← p2]; exact Nat.mul_le_mul_right _ h2
end Go.Proofs.YtbjomidkeignjaaGreatDoor.Dec
namespace Go.Proofs.YtbjomidkeignjaaGreatDoor.Dec
open Go.RowKit Kit
/-- the world has drawn some orders, and is else as it was -/
def Drawn (w wr : World) : Prop := ∃ q, wr = w.drewN q
theorem Drawn.refl (w : World) : Drawn w w := ⟨0, rfl⟩
theorem mask32 (a : Nat) (ha : a < 18446744073709551616) : bits .and .u64 (a : Int) 4294967295 = ((a % 4294967296 : Nat) : Int) := Mul64.maskN a ha
theorem wrapU {a : Nat} (ha : a < 18446744073709551616) : IntKind.u64.wrap (a : Int) = (a : Int) := Mul64.wrapN a ha
/-- what stands in the lower s bits is joined -/
theorem joined (a b s : Nat) (hs : s ≤ 64) (h : a * 2 ^ s < 18446744073709551616) (hb : b < 2 ^ s) : bits .or .u64 ((a * 2 ^ s : Nat) : Int) (b : Int) = ((a * 2 ^ s + b : Nat) : Int) := by
  have hp : 2 ^ s ≤ 18446744073709551616 := Nat.pow_le_pow_right (n := 2) (by omega) hs
  rw [bits_or_u64_nat _ _ h (Nat.lt_of_lt_of_le hb hp), ← Nat.shiftLeft_eq, Nat.shiftLeft_add_eq_or_of_lt hb]
/-- the words of an estimate -/
theorem est_words {u y1 y0 d : Nat} (hu : u < y1 * 4294967296 + y0) (h0 : y0 < 4294967296) (h1 : 2147483648 ≤ y1) (h2 : y1 < 4294967296) (hd : d < 4294967296) :
    ∃ q r : Nat, Est u y1 y0 d q r ∧ r < 4294967296 ∧ IntKind.u64.wrap ((u : Int) / (y1 : Int)) = (q : Int) ∧ IntKind.u64.wrap ((u : Int) - IntKind.u64.wrap ((q : Int) * (y1 : Int))) = (r : Int) := by
  have hS := Est.start hu h0 h1 hd
  have hr : u % y1 < y1 := Nat.mod_lt u (by omega)
  have e : (u : Int) / (y1 : Int) = ((u / y1 : Nat) : Int) := by rw [Int.natCast_ediv]
  generalize u / y1 = q at *
  generalize u % y1 = r at *
  obtain ⟨s1, s2, s3⟩ := hS
  refine ⟨q, r, ⟨s1, s2, s3⟩, by omega, by rw [e]; exact wrapU (by omega), ?_⟩
  rw [← Int.natCast_mul]
  generalize q * y1 = m at *
  rw [wrapU (by omega), show (u : Int) - (m : Int) = (r : Int) by omega]
  exact wrapU (by omega)
theorem off_words {u d q y r : Nat} (h : u * 4294967296 + d = q * y + r) (hr : r < 18446744073709551616) :
    IntKind.u64.wrap (IntKind.u64.wrap (IntKind.u64.wrap ((u : Int) * 4294967296) + (d : Int)) - IntKind.u64.wrap ((q : Int) * (y : Int))) = (r : Int) := by
  rw [IntKind.wrap_u64, IntKind.wrap_u64, IntKind.wrap_u64, IntKind.wrap_u64]
  exact take_off h hr
/-- how the loop's test stands, a number too great by one or more -/
theorem Est.test {u y1 y0 Y d Q k m : Nat} (h : Est u y1 y0 d k m) (hY : y1 * 4294967296 + y0 = Y) (h1 : 2147483648 ≤ y1) (hQ : (u * 4294967296 + d) / Y = Q) :
    Q ≤ k ∧ k ≤ 4294967297 ∧ (Q < k ↔ m * 4294967296 + d < k * y0) := by
  subst hY hQ
  exact ⟨h.ge, h.le, est_cond (by omega) h.sum⟩
theorem Est.less {u y1 y0 Y d Q k m : Nat} (h : Est u y1 y0 d (k + 1) m) (hY : y1 * 4294967296 + y0 = Y) (h1 : 2147483648 ≤ y1) (h0 : y0 < 4294967296) (hQ : (u * 4294967296 + d) / Y = Q) (hlt : Q < k + 1) :
    Est u y1 y0 d k (m + y1) ∧ (4294967296 ≤ m + y1 → k = Q) := by
  subst hY hQ
  have hn := h.next hlt
  refine ⟨hn, fun hg => ?_⟩
  have h2 := est_stop (d := d) (by omega) hn.sum h0 (by have := h.le; simp only [Nat.add_sub_cancel]; omega) hg
  simp only [Nat.add_sub_cancel] at h2
  omega
/-- two digits, together -/
theorem two_digits {hi lo y s U X Y x1 x0 : Nat} (hp : 0 < 2 ^ s) (hY : y * 2 ^ s = Y) (hm : U * 18446744073709551616 + X = (hi * 18446744073709551616 + lo) * 2 ^ s) (hX : x1 * 4294967296 + x0 = X) :
    (U * 4294967296 + x1) / Y * 4294967296 + ((U * 4294967296 + x1) % Y * 4294967296 + x0) / Y = (hi * 18446744073709551616 + lo) / y ∧
    ((U * 4294967296 + x1) % Y * 4294967296 + x0) % Y / 2 ^ s = (hi * 18446744073709551616 + lo) % y := by
  obtain ⟨d1, d2⟩ := @digit (U * 4294967296 + x1) Y x0
  have e : (U * 4294967296 + x1) * 4294967296 + x0 = U * 18446744073709551616 + X := by clear hm hY d1 d2; subst hX; omega
  rw [← d1, ← d2, e, hm, ← hY, Nat.mul_div_mul_right _ _ hp, Nat.mul_mod_mul_right, Nat.mul_div_cancel _ hp]
  exact ⟨rfl, rfl⟩

set_option maxRecDepth 100000 in
set_option maxHeartbeats 1000000 in
theorem div64_c (hi lo y : Nat) (h0 : 0 < hi) (hy : hi < y) (hU : y < 18446744073709551616) (hl : lo < 18446744073709551616) (w : World) :
    Calls Tryz.prog 107 #[.int .u64 hi, .int .u64 lo, .int .u64 y] w fun e w' => e = .returned (.tuple #[.int .u64 (((hi * 18446744073709551616 + lo) / y : Nat) : Int), .int .u64 (((hi * 18446744073709551616 + lo) % y : Nat) : Int)]) ∧ w = w' := by
  obtain ⟨b1, b2, b3, b4⟩ := lead (by omega) hU
  obtain ⟨s, hs⟩ : ∃ s, 64 - Lib.bitLen y = s := ⟨_, rfl⟩
  have hs2 : 64 - ((Lib.bitLen y : Nat) : Int) = (s : Int) := by omega
  have hs3 : (s : Int) ≤ 63 := by omega
  rw [hs] at b3 b4
  have L : Hid (∀ w1 : World, Calls Tryz.prog 125 #[.int .u64 (y : Int)] w1 fun e w' => e = .returned (.int .i64 (s : Int)) ∧ w1 = w') := Lib.hid (fun w1 => by
    refine (Tryz.bits_LeadingZeros64 (y : Int) w1 (by omega) (by omega)).mono ?_
    rintro e w' ⟨rfl, rfl⟩
    rw [Int.toNat_natCast, hs2]
    exact ⟨rfl, rfl⟩)
  clear hs hs2 b1 b2
  have hp : 0 < 2 ^ s := Nat.pow_pos (by omega)
  have hp2 : 2 ^ (64 - s) * 2 ^ s = 18446744073709551616 := by rw [← Nat.pow_add, show 64 - s + s = 64 by omega]
  have hlo : lo / 2 ^ (64 - s) < 2 ^ s := by rw [Nat.div_lt_iff_lt_mul (Nat.pow_pos (by omega)), Nat.mul_comm, hp2]; exact hl
  have hmv := moved (hi := hi) (lo := lo) (s := s) (by omega)
  have hhi : (hi + 1) * 2 ^ s ≤ y * 2 ^ s := Nat.mul_le_mul_right _ hy
  rw [Nat.add_mul, Nat.one_mul] at hhi
  have E1 : IntKind.u64.wrap ((y : Int) * 2 ^ s) = ((y * 2 ^ s : Nat) : Int) := by
    rw [← wrapU b3]; congr 1
  have E2 : IntKind.u64.wrap ((hi : Int) * 2 ^ s) = ((hi * 2 ^ s : Nat) : Int) := by
    rw [← wrapU (a := hi * 2 ^ s) (by omega)]; congr 1
  have E3 : IntKind.u64.wrap ((lo : Int) * 2 ^ s) = ((lo * 2 ^ s % 18446744073709551616 : Nat) : Int) := by
    rw [IntKind.wrap_u64]; simp
  have E4 : bits .or .u64 ((hi * 2 ^ s : Nat) : Int) ((lo : Int) / 2 ^ (64 - s)) = ((hi * 2 ^ s + lo / 2 ^ (64 - s) : Nat) : Int) := by
    rw [← joined hi _ s (by omega) (by omega) hlo]; simp
  obtain ⟨Y, hY⟩ : ∃ Y, y * 2 ^ s = Y := ⟨_, rfl⟩
  obtain ⟨H, hH⟩ : ∃ H, hi * 2 ^ s = H := ⟨_, rfl⟩
  obtain ⟨U, hU2⟩ : ∃ U, hi * 2 ^ s + lo / 2 ^ (64 - s) = U := ⟨_, rfl⟩
  obtain ⟨X, hX⟩ : ∃ X, lo * 2 ^ s % 18446744073709551616 = X := ⟨_, rfl⟩
  have hUY : U < Y := by omega
  have hXl : X < 18446744073709551616 := by omega
  rw [hU2] at E4
  rw [hX] at E3
  rw [hY] at E1 b3 b4
  rw [hU2, hX] at hmv
  replace hmv := Lib.hid hmv
  rw [hH] at E2 E4
  have F1 : (Y : Int) / 4294967296 = ((Y / 4294967296 : Nat) : Int) := by simp
  have F2 := mask32 Y b3
  have F3 : (X : Int) / 4294967296 = ((X / 4294967296 : Nat) : Int) := by simp
  have F4 := mask32 X hXl
  obtain ⟨y1, hy1⟩ : ∃ y1, Y / 4294967296 = y1 := ⟨_, rfl⟩
  obtain ⟨y0, hy0⟩ : ∃ y0, Y % 4294967296 = y0 := ⟨_, rfl⟩
  obtain ⟨x1, hx1⟩ : ∃ x1, X / 4294967296 = x1 := ⟨_, rfl⟩
  obtain ⟨x0, hx0⟩ : ∃ x0, X % 4294967296 = x0 := ⟨_, rfl⟩
  rw [hy1] at F1
  rw [hy0] at F2
  rw [hx1] at F3
  rw [hx0] at F4
  replace hX := Lib.hid hX
  have hYe : y1 * 4294967296 + y0 = Y := by rw [← hy1, ← hy0]; exact Nat.div_add_mod' Y _
  have hXe : x1 * 4294967296 + x0 = X := by rw [← hx1, ← hx0]; exact Nat.div_add_mod' X _
  have hy1n : ¬ (y1 : Int) = 0 := by omega
  have hT := Lib.hid (two_digits hp hY hmv.out hXe)
  have j1 : y1 < 4294967296 := by omega
  have j0 : y0 < 4294967296 := by omega
  have k1 : x1 < 4294967296 := by omega
  have k0 : x0 < 4294967296 := by omega
  have i1 : 2147483648 ≤ y1 := by omega
  clear hmv hhi hlo hp2 hU2 hX hy1 hy0 hx1 hx0
  -- the first digit
  obtain ⟨q, r, hS, hr, G1, G2⟩ := est_words (u := U) (d := x1) (by omega) j0 i1 j1 k1
  obtain ⟨Q, hQ⟩ : ∃ Q, (U * 4294967296 + x1) / Y = Q := ⟨_, rfl⟩
  obtain ⟨R, hR⟩ : ∃ R, (U * 4294967296 + x1) % Y = R := ⟨_, rfl⟩
  have hQl : Q < 4294967296 := by rw [← hQ]; exact est_lt hUY k1
  have hRY : R < Y := by rw [← hR]; exact Nat.mod_lt _ (by omega)
  have T1 := off_words (u := U) (d := x1) (q := Q) (y := Y) (r := R) (by rw [← hQ, ← hR, Nat.mul_comm _ Y]; exact (Nat.div_add_mod _ _).symm) (by omega)
  -- the second digit
  obtain ⟨q2, r2, hS2, hr2, G3, G4⟩ := est_words (u := R) (d := x0) (by omega) j0 i1 j1 k0
  obtain ⟨Q2, hQ2⟩ : ∃ Q2, (R * 4294967296 + x0) / Y = Q2 := ⟨_, rfl⟩
  obtain ⟨R2, hR2⟩ : ∃ R2, (R * 4294967296 + x0) % Y = R2 := ⟨_, rfl⟩
  have hQl2 : Q2 < 4294967296 := by rw [← hQ2]; exact est_lt hRY k0
  have hRY2 : R2 < Y := by rw [← hR2]; exact Nat.mod_lt _ (by omega)
  have T2 := off_words (u := R) (d := x0) (q := Q2) (y := Y) (r := R2) (by rw [← hQ2, ← hR2, Nat.mul_comm _ Y]; exact (Nat.div_add_mod _ _).symm) (by omega)
  have hT2 := hT.out
  rw [hQ, hR, hQ2, hR2] at hT2
  obtain ⟨f1, f2⟩ := hT2
  rw [← f1, ← f2]
  clear f1 f2 hT
  replace hS := Lib.hid hS
  replace hS2 := Lib.hid hS2
  replace hQ := Lib.hid hQ
  replace hQ2 := Lib.hid hQ2
  replace hR := Lib.hid hR
  replace hR2 := Lib.hid hR2
  replace hY := Lib.hid hY
  replace hYe := Lib.hid hYe
  clear hXe
  replace hH := Lib.hid hH
  go_enter Tryz.func107, Tryz.ntmps107
  go_upto_block 0 with (go_at_call 125; refine (L.out _).mono ?_; rintro e w' ⟨rfl, rfl⟩)
  go_cut [15, 16] from 67 to 85 (fun a b wx => ∃ m : Nat, a = .int .u64 Q ∧ b = .int .u64 m ∧ w = wx)
  case first =>
    go_wp2_with fail
    go_loopw [15, 16] (fun a b wr => ∃ k m : Nat, a = .int .u64 k ∧ b = .int .u64 m ∧ m < 4294967296 ∧ Hid (Est U y1 y0 x1 k m) ∧ wr = w) (fun a _ _ => (intOf a).toNat)
    case atStart => exact ⟨q, r, rfl, rfl, hr, hS, rfl⟩
    case round =>
      obtain ⟨k, m, rfl, rfl, hm, hE, rfl⟩ := hrel
      obtain ⟨t1, t2, t3⟩ := hE.out.test hYe.out i1 hQ.out
      clear E1 E2 E3 E4 F1 F2 F3 F4 T1 T2 G1 G2 G3 G4 hS hS2 b3 b4 hUY hXl hRY hRY2 hr hr2 hy h0 hl hp hs3
      by_cases hlt : Q < k
      · have t4 := t3.1 hlt
        obtain ⟨j, hj⟩ : ∃ j, k = j + 1 := ⟨k - 1, by omega⟩
        obtain ⟨m2, hm2⟩ : ∃ m2, m + y1 = m2 := ⟨_, rfl⟩
        have hL := Lib.hid (show Est U y1 y0 x1 j m2 ∧ (4294967296 ≤ m2 → j = Q) by
          subst hj hm2; exact hE.out.less hYe.out i1 j0 hQ.out hlt)
        have hj2 : (k : Int) - 1 = (j : Int) := by omega
        have hm3 : (m : Int) + (y1 : Int) = (m2 : Int) := by omega
        have hm4 : (m2 : Int) < 8589934592 := by omega
        obtain ⟨P, hP⟩ : ∃ P, k * y0 = P := ⟨_, rfl⟩
        have hP2 : (k : Int) * (y0 : Int) = (P : Int) := by rw [← hP, Int.natCast_mul]
        have t5 : 4294967296 * (m : Int) + (x1 : Int) < (P : Int) := by omega
        by_cases hB : 4294967296 ≤ k
        · have hB2 : decide ((4294967296 : Int) ≤ (k : Int)) = true := decide_eq_true (by omega)
          clear t3 hE hj hm2 hP t4 hB t5 hP2
          by_cases hst : 4294967296 ≤ m2
          · obtain rfl := hL.out.2 hst
            have hst2 : decide ((4294967296 : Int) ≤ (m2 : Int)) = true := decide_eq_true (by omega)
            clear hst
            go_wp2_with fail
            go_meet
            exact ⟨m2, rfl, rfl, rfl⟩
          · have hst2 : decide ((4294967296 : Int) ≤ (m2 : Int)) = false := decide_eq_false (by omega)
            clear hst
            go_wp2_with fail
            have hst := of_decide_eq_false hst2
            exact ⟨⟨j, m2, rfl, rfl, by omega, Lib.hid hL.out.1, trivial⟩, show (j : Int).toNat < (k : Int).toNat by omega⟩
        · have hB2 : decide ((4294967296 : Int) ≤ (k : Int)) = false := decide_eq_false (by omega)
          have hB3 : decide (4294967296 * (m : Int) + (x1 : Int) < (P : Int)) = true := decide_eq_true (by omega)
          have hP4 : (P : Int) < 18446744073709551616 := by have := prod_lt (q := k) (y := y0) (by omega) j0; omega
          clear t3 hE hj hm2 hP t4 hB
          by_cases hst : 4294967296 ≤ m2
          · obtain rfl := hL.out.2 hst
            have hst2 : decide ((4294967296 : Int) ≤ (m2 : Int)) = true := decide_eq_true (by omega)
            clear hst
            go_wp2_with fail
            go_meet
            exact ⟨m2, rfl, rfl, rfl⟩
          · have hst2 : decide ((4294967296 : Int) ≤ (m2 : Int)) = false := decide_eq_false (by omega)
            clear hst
            go_wp2_with fail
            have hst := of_decide_eq_false hst2
            exact ⟨⟨j, m2, rfl, rfl, by omega, Lib.hid hL.out.1, trivial⟩, show (j : Int).toNat < (k : Int).toNat by omega⟩
      · obtain rfl : k = Q := by omega
        obtain ⟨P, hP⟩ : ∃ P, k * y0 = P := ⟨_, rfl⟩
        have hP2 : (k : Int) * (y0 : Int) = (P : Int) := by rw [← hP, Int.natCast_mul]
        have t5 : (P : Int) ≤ 4294967296 * (m : Int) + (x1 : Int) := by omega
        have hP4 : (P : Int) < 18446744073709551616 := by have := prod_lt (q := k) (y := y0) (by omega) j0; omega
        have hB2 : decide ((4294967296 : Int) ≤ (k : Int)) = false := decide_eq_false (by omega)
        have hB3 : decide (4294967296 * (m : Int) + (x1 : Int) < (P : Int)) = false := decide_eq_false (by omega)
        clear t3 hE hlt hP
        go_wp2_with fail
        go_meet
        exact ⟨m, rfl, rfl, rfl⟩
  case rest =>
    obtain ⟨m1, rfl, rfl, rfl⟩ := hcut
    clear E1 E2 E3 E4 F1 F2 F3 F4 G1 G2 hS
    go_upto_block 2 with fail
    go_cut [18, 16] from 102 to 120 (fun a b wx => ∃ m : Nat, a = .int .u64 Q2 ∧ b = .int .u64 m ∧ w = wx)
    case first =>
      go_wp2_with fail
      go_loopw [18, 16] (fun a b wr => ∃ k m : Nat, a = .int .u64 k ∧ b = .int .u64 m ∧ m < 4294967296 ∧ Hid (Est R y1 y0 x0 k m) ∧ wr = w) (fun a _ _ => (intOf a).toNat)
      case atStart => exact ⟨q2, r2, rfl, rfl, hr2, hS2, rfl⟩
      case round =>
        obtain ⟨k, m, rfl, rfl, hm, hE, rfl⟩ := hrel
        obtain ⟨t1, t2, t3⟩ := hE.out.test hYe.out i1 hQ2.out
        clear T2 G3 G4 hS2 b3 b4 hXl hRY hRY2 hr2 hy h0 hl hp hs3
        by_cases hlt : Q2 < k
        · have t4 := t3.1 hlt
          obtain ⟨j, hj⟩ : ∃ j, k = j + 1 := ⟨k - 1, by omega⟩
          obtain ⟨m2, hm2⟩ : ∃ m2, m + y1 = m2 := ⟨_, rfl⟩
          have hL := Lib.hid (show Est R y1 y0 x0 j m2 ∧ (4294967296 ≤ m2 → j = Q2) by
            subst hj hm2; exact hE.out.less hYe.out i1 j0 hQ2.out hlt)
          have hj2 : (k : Int) - 1 = (j : Int) := by omega
          have hm3 : (m : Int) + (y1 : Int) = (m2 : Int) := by omega
          have hm4 : (m2 : Int) < 8589934592 := by omega
          obtain ⟨P, hP⟩ : ∃ P, k * y0 = P := ⟨_, rfl⟩
          have hP2 : (k : Int) * (y0 : Int) = (P : Int) := by rw [← hP, Int.natCast_mul]
          have t5 : 4294967296 * (m : Int) + (x0 : Int) < (P : Int) := by omega
          by_cases hB : 4294967296 ≤ k
          · have hB2 : decide ((4294967296 : Int) ≤ (k : Int)) = true := decide_eq_true (by omega)
            clear t3 hE hj hm2 hP t4 hB t5 hP2
            by_cases hst : 4294967296 ≤ m2
            · obtain rfl := hL.out.2 hst
              have hst2 : decide ((4294967296 : Int) ≤ (m2 : Int)) = true := decide_eq_true (by omega)
              clear hst
              go_wp2_with fail
              go_meet
              exact ⟨m2, rfl, rfl, rfl⟩
            · have hst2 : decide ((4294967296 : Int) ≤ (m2 : Int)) = false := decide_eq_false (by omega)
              clear hst
              go_wp2_with fail
              have hst := of_decide_eq_false hst2
              exact ⟨⟨j, m2, rfl, rfl, by omega, Lib.hid hL.out.1, trivial⟩, show (j : Int).toNat < (k : Int).toNat by omega⟩
          · have hB2 : decide ((4294967296 : Int) ≤ (k : Int)) = false := decide_eq_false (by omega)
            have hB3 : decide (4294967296 * (m : Int) + (x0 : Int) < (P : Int)) = true := decide_eq_true (by omega)
            have hP4 : (P : Int) < 18446744073709551616 := by have := prod_lt (q := k) (y := y0) (by omega) j0; omega
            clear t3 hE hj hm2 hP t4 hB
            by_cases hst : 4294967296 ≤ m2
            · obtain rfl := hL.out.2 hst
              have hst2 : decide ((4294967296 : Int) ≤ (m2 : Int)) = true := decide_eq_true (by omega)
              clear hst
              go_wp2_with fail
              go_meet
              exact ⟨m2, rfl, rfl, rfl⟩
            · have hst2 : decide ((4294967296 : Int) ≤ (m2 : Int)) = false := decide_eq_false (by omega)
              clear hst
              go_wp2_with fail
              have hst := of_decide_eq_false hst2
              exact ⟨⟨j, m2, rfl, rfl, by omega, Lib.hid hL.out.1, trivial⟩, show (j : Int).toNat < (k : Int).toNat by omega⟩
        · obtain rfl : k = Q2 := by omega
          obtain ⟨P, hP⟩ : ∃ P, k * y0 = P := ⟨_, rfl⟩
          have hP2 : (k : Int) * (y0 : Int) = (P : Int) := by rw [← hP, Int.natCast_mul]
          have t5 : (P : Int) ≤ 4294967296 * (m : Int) + (x0 : Int) := by omega
          have hP4 : (P : Int) < 18446744073709551616 := by have := prod_lt (q := k) (y := y0) (by omega) j0; omega
          have hB2 : decide ((4294967296 : Int) ≤ (k : Int)) = false := decide_eq_false (by omega)
          have hB3 : decide (4294967296 * (m : Int) + (x0 : Int) < (P : Int)) = false := decide_eq_false (by omega)
          clear t3 hE hlt hP
          go_wp2_with fail
          go_meet
          exact ⟨m, rfl, rfl, rfl⟩
    case rest =>
      obtain ⟨m1, rfl, rfl, rfl⟩ := hcut
      clear hS2 G3 G4
      go_wp2_with fail
      go_ret2
      refine ⟨?_, rfl⟩
      rw [show ((Q * 4294967296 + Q2 : Nat) : Int) = (Q : Int) * 4294967296 + (Q2 : Int) by omega, show ((R2 / 2 ^ s : Nat) : Int) = (R2 : Int) / 2 ^ s by simp]
      rfl
set_option maxRecDepth 100000 in
set_option maxHeartbeats 1000000 in
theorem div64_low (lo y : Nat) (h0 : 0 < y) (hU : y < 18446744073709551616) (hl : lo < 18446744073709551616) (w : World) :
    Calls Tryz.prog 107 #[.int .u64 0, .int .u64 lo, .int .u64 y] w fun e w' => e = .returned (.tuple #[.int .u64 ((lo / y : Nat) : Int), .int .u64 ((lo % y : Nat) : Int)]) ∧ Drawn w w' := by
  have hn : ¬ (y : Int) = 0 := by omega
  have hle : lo / y ≤ lo := Nat.div_le_self _ _
  have hml : lo % y < y := Nat.mod_lt _ h0
  have g1 : IntKind.u64.wrap ((lo : Int) / (y : Int)) = ((lo / y : Nat) : Int) := by rw [← Int.natCast_ediv]; exact wrapU (by omega)
  have g2 : IntKind.u64.wrap ((lo : Int) % (y : Int)) = ((lo % y : Nat) : Int) := by rw [← Int.natCast_emod]; exact wrapU (by omega)
  go_enter Tryz.func107, Tryz.ntmps107
  go_wp2_with fail
  go_region
  all_goals (try go_wp2)
  all_goals go_ret2
  all_goals exact ⟨rfl, 1, rfl⟩
/-- Div64, in one -/
theorem div64_all (hi lo y : Nat) (hy : hi < y) (hU : y < 18446744073709551616) (hl : lo < 18446744073709551616) (q r : Nat) (hq : (hi * 18446744073709551616 + lo) / y = q) (hr : (hi * 18446744073709551616 + lo) % y = r) (w : World) :
    Calls Tryz.prog 107 #[.int .u64 hi, .int .u64 lo, .int .u64 y] w fun e w' => e = .returned (.tuple #[.int .u64 (q : Int), .int .u64 (r : Int)]) ∧ Drawn w w' := by
  subst hq hr
  by_cases h0 : hi = 0
  · subst h0
    have h := div64_low lo y hy hU hl w
    simp only [Nat.zero_mul, Nat.zero_add]
    exact h
  · exact (div64_c hi lo y (by omega) hy hU hl w).mono fun e w' ⟨he, hw⟩ => ⟨he, hw ▸ Drawn.refl w⟩
end Go.Proofs.YtbjomidkeignjaaGreatDoor.Dec

/- Decimals, in integers alone: which may be, sums, scaled products rounded; long division bit by bit, products by halves. No function of the program is named here. -/
import Derived.Test.YtmoednmgmmgjeaaDoorKit
namespace Go.Proofs.YtmoednmgmmgjeaaDoor.Dec

/-- a number of 64 bits with a sign -/
def I (x : Int) : Prop := -9223372036854775808 ≤ x ∧ x ≤ 9223372036854775807
/-- may a decimal be? -/
def mayD (x : Int) : Bool := decide (-9223372036854775807 ≤ x)
def okD (x : Int) : Bool := decide (-9223372036854775807 ≤ x) && decide (x ≤ 9223372036854775807)
/-- what comes out, if it may be -/
def giveD (b : Bool) (x : Int) : Int × Bool := if b && okD x then (x, true) else (0, false)
def addD (a b : Int) : Int × Bool := giveD (mayD a && mayD b) (a + b)
def subD (a b : Int) : Int × Bool := giveD (mayD a && mayD b) (a - b)
def negD (x : Int) : Int × Bool := giveD (mayD x) (-x)
def ofD (n : Int) : Int × Bool := giveD (mayD n) (n * 10000)
/-- a quotient of two numbers, rounded: of two that are equally near the greater one -/
def roundN (n by_ : Nat) : Nat := if by_ - n % by_ ≤ n % by_ then n / by_ + 1 else n / by_
def signed (neg : Bool) (q : Nat) : Int := if neg then -(q : Int) else q
def negs (a b c : Int) : Bool := (decide (a < 0) != decide (b < 0)) != decide (c < 0)
def scaledD (a b c : Int) : Int × Bool := giveD (mayD a && mayD b && mayD c && decide (c ≠ 0)) (signed (negs a b c) (roundN (a.natAbs * b.natAbs) c.natAbs))

theorem mul_halves (a b : Nat) (ha : a < 18446744073709551616) (hb : b < 18446744073709551616) :
    let low := (a % 4294967296) * (b % 4294967296)
    let x := (a / 4294967296) * (b % 4294967296) + low / 4294967296
    let y := (a % 4294967296) * (b / 4294967296) + x % 4294967296
    low < 18446744073709551616 ∧ x < 18446744073709551616 ∧ y < 18446744073709551616 ∧ (a / 4294967296) * (b / 4294967296) + x / 4294967296 + y / 4294967296 < 18446744073709551616 ∧
    (a / 4294967296) * (b / 4294967296) + x / 4294967296 + y / 4294967296 = a * b / 18446744073709551616 ∧
    (y % 4294967296) * 4294967296 + low % 4294967296 = a * b % 18446744073709551616 := by
  intro low x y
  obtain ⟨a1, ea⟩ : ∃ a1, a / 4294967296 = a1 := ⟨_, rfl⟩
  obtain ⟨a0, ea0⟩ : ∃ a0, a % 4294967296 = a0 := ⟨_, rfl⟩
  obtain ⟨b1, eb⟩ : ∃ b1, b / 4294967296 = b1 := ⟨_, rfl⟩
  obtain ⟨b0, eb0⟩ : ∃ b0, b % 4294967296 = b0 := ⟨_, rfl⟩
  have haa : a = a1 * 4294967296 + a0 := by omega
  have hbb : b = b1 * 4294967296 + b0 := by omega
  have l1 : a1 < 4294967296 := by omega
  have l2 : a0 < 4294967296 := by omega
  have l3 : b1 < 4294967296 := by omega
  have l4 : b0 < 4294967296 := by omega
  have m : ∀ u v : Nat, u < 4294967296 → v < 4294967296 → u * v ≤ 18446744065119617025 := fun u v h1 h2 => by
    have := Nat.mul_le_mul (show u ≤ 4294967295 by omega) (show v ≤ 4294967295 by omega)
    omega
  have m1 := m a0 b0 l2 l4
  have m2 := m a1 b0 l1 l4
  have m3 := m a0 b1 l2 l3
  have m4 := m a1 b1 l1 l3
  have hp : a * b = a1 * b1 * 18446744073709551616 + (a1 * b0 + a0 * b1) * 4294967296 + a0 * b0 := by
    have f1 : a1 * 4294967296 * (b1 * 4294967296) = a1 * b1 * 18446744073709551616 := Nat.mul_mul_mul_comm ..
    have f2 : a1 * 4294967296 * b0 = a1 * b0 * 4294967296 := Nat.mul_right_comm ..
    have f3 : a0 * (b1 * 4294967296) = a0 * b1 * 4294967296 := (Nat.mul_assoc ..).symm
    rw [haa, hbb, Nat.add_mul, Nat.mul_add, Nat.mul_add, f1, f2, f3]
    omega
  have hx : x = a1 * b0 + a0 * b0 / 4294967296 := by show (a / 4294967296) * (b % 4294967296) + _ = _; rw [ea, eb0]; show _ + (a % 4294967296) * (b % 4294967296) / _ = _; rw [ea0, eb0]
  have hy : y = a0 * b1 + x % 4294967296 := by show (a % 4294967296) * (b / 4294967296) + _ = _; rw [ea0, eb]
  have hlow : low = a0 * b0 := by show (a % 4294967296) * (b % 4294967296) = _; rw [ea0, eb0]
  clear_value x y low
  subst hlow
  rw [ea, eb, hp]
  generalize a1 * b1 = p4 at *
  generalize a1 * b0 = p2 at *
  generalize a0 * b1 = p3 at *
  generalize a0 * b0 = p1 at *
  clear m ea ea0 eb eb0 haa hbb hp
  omega

/-- long division of N (below 2^128) by a number, bit by bit: behind i steps -/
structure DivAt (N by_ i : Nat) (hi lo q r : Nat) (ok : Bool) : Prop where
  left : hi * 18446744073709551616 + lo = N * 2 ^ i % 340282366920938463463374607431768211456
  hiU : hi < 18446744073709551616
  loU : lo < 18446744073709551616
  rest : r = N / 2 ^ (128 - i) % by_
  quo : q = N / 2 ^ (128 - i) / by_ % 18446744073709551616
  room : ok = decide (N / 2 ^ (128 - i) / by_ < 18446744073709551616)
theorem DivAt.start {N by_ hi lo : Nat} (hN : hi * 18446744073709551616 + lo = N) (h1 : hi < 18446744073709551616) (h2 : lo < 18446744073709551616) : DivAt N by_ 0 hi lo 0 0 true := by
  have hlt : N < 340282366920938463463374607431768211456 := by omega
  have h0 : N / 2 ^ (128 - 0) = 0 := Nat.div_eq_of_lt (by simpa using hlt)
  refine ⟨?_, h1, h2, ?_, ?_, ?_⟩
  · rw [hN, Nat.pow_zero, Nat.mul_one, Nat.mod_eq_of_lt hlt]
  · rw [h0]; simp
  · rw [h0]; simp
  · rw [h0]; simp
theorem DivAt.done {N by_ hi lo q r : Nat} {ok : Bool} (h : DivAt N by_ 128 hi lo q r ok) : r = N % by_ ∧ q = N / by_ % 18446744073709551616 ∧ ok = decide (N / by_ < 18446744073709551616) := by
  have h3 := h.rest
  have h4 := h.quo
  have h5 := h.room
  simp only [Nat.sub_self, Nat.pow_zero, Nat.div_one] at h3 h4 h5
  exact ⟨h3, h4, h5⟩
theorem div_step {P P2 b by_ q r : Nat} (hb : 0 < by_) (hP2 : P2 = 2 * P + b) (hbit : b ≤ 1) (hr : r = P % by_) (hq : q = P / by_) :
    P2 / by_ = 2 * q + (if by_ ≤ 2 * r + b then 1 else 0) ∧ P2 % by_ = 2 * r + b - (if by_ ≤ 2 * r + b then by_ else 0) := by
  have h1 := Nat.div_add_mod P by_
  have hrl : r < by_ := by rw [hr]; exact Nat.mod_lt _ hb
  rw [← hr, ← hq] at h1
  by_cases hc : by_ ≤ 2 * r + b
  · rw [if_pos hc, if_pos hc]
    have e : P2 = (2 * r + b - by_) + by_ * (2 * q + 1) := by
      have e1 : by_ * (2 * q + 1) = 2 * (by_ * q) + by_ := by rw [Nat.mul_add, Nat.mul_one, Nat.mul_left_comm]
      omega
    rw [e, Nat.add_mul_div_left _ _ hb, Nat.add_mul_mod_self_left, Nat.div_eq_of_lt (by omega), Nat.mod_eq_of_lt (by omega)]
    omega
  · rw [if_neg hc, if_neg hc]
    have e : P2 = (2 * r + b) + by_ * (2 * q) := by
      have e1 : by_ * (2 * q) = 2 * (by_ * q) := Nat.mul_left_comm ..
      omega
    rw [e, Nat.add_mul_div_left _ _ hb, Nat.add_mul_mod_self_left, Nat.div_eq_of_lt (by omega), Nat.mod_eq_of_lt (by omega)]
    omega
theorem pow_128 (i : Nat) (hi : i < 128) : 2 ^ i * 2 ^ (128 - i) = 340282366920938463463374607431768211456 ∧ 2 ^ (128 - i) = 2 * 2 ^ (128 - (i + 1)) := by
  refine ⟨?_, ?_⟩
  · rw [← Nat.pow_add, show i + (128 - i) = 128 by omega]
  · rw [show 128 - i = (128 - (i + 1)) + 1 by omega, Nat.pow_succ, Nat.mul_comm]
/-- the next bit -/
theorem next_bit {N i : Nat} (hi : i < 128) : N / 2 ^ (128 - (i + 1)) = 2 * (N / 2 ^ (128 - i)) + (N * 2 ^ i % 340282366920938463463374607431768211456) / 170141183460469231731687303715884105728 := by
  obtain ⟨h1, h2⟩ := pow_128 i hi
  have hA : 0 < 2 ^ (128 - (i + 1)) := Nat.pow_pos (by omega)
  have hC : 0 < 2 ^ i := Nat.pow_pos (by omega)
  rw [h2] at h1 ⊢
  generalize 2 ^ (128 - (i + 1)) = A at *
  generalize 2 ^ i = C at *
  have h3 : C * A = 170141183460469231731687303715884105728 := by
    have : C * (2 * A) = 2 * (C * A) := Nat.mul_left_comm ..
    omega
  rw [← Nat.div_div_eq_div_mul]
  have e : N * C % 340282366920938463463374607431768211456 = C * (N % (2 * A)) := by
    rw [Nat.mul_comm N C, ← h1, Nat.mul_mod_mul_left]
  rw [e, ← h3, Nat.mul_div_mul_left _ _ hC]
  have e2 : N % (2 * A) / A = N / A % 2 := by
    rw [Nat.mul_comm 2 A, Nat.mod_mul_right_div_self]
  have e3 : N / 2 / A = N / A / 2 := by rw [Nat.div_div_eq_div_mul, Nat.div_div_eq_div_mul, Nat.mul_comm]
  rw [e2, e3]
  omega
set_option maxRecDepth 100000 in
theorem DivAt.step {N by_ i hi lo q r : Nat} {ok : Bool} (hb : 0 < by_) (hb2 : by_ ≤ 9223372036854775808) (hlt : i < 128) (h : DivAt N by_ i hi lo q r ok) :
    r * 2 + hi / 9223372036854775808 < 18446744073709551616 ∧
    DivAt N by_ (i + 1) ((hi * 2 + lo / 9223372036854775808) % 18446744073709551616) (lo * 2 % 18446744073709551616)
      (if by_ ≤ r * 2 + hi / 9223372036854775808 then q * 2 % 18446744073709551616 + 1 else q * 2 % 18446744073709551616)
      (if by_ ≤ r * 2 + hi / 9223372036854775808 then r * 2 + hi / 9223372036854775808 - by_ else r * 2 + hi / 9223372036854775808) (ok && decide (q < 9223372036854775808)) := by
  obtain ⟨h1, h2, h3, h4, h5, h6⟩ := h
  have hnb := next_bit (N := N) hlt
  rw [← h1] at hnb
  have hbit : (hi * 18446744073709551616 + lo) / 170141183460469231731687303715884105728 = hi / 9223372036854775808 := by omega
  rw [hbit] at hnb
  have hr : r < by_ := by rw [h4]; exact Nat.mod_lt _ hb
  obtain ⟨s1, s2⟩ := div_step hb hnb (by omega) h4 rfl
  have hp : N * 2 ^ (i + 1) = 2 * (N * 2 ^ i) := by rw [Nat.pow_succ, ← Nat.mul_assoc, Nat.mul_comm]
  obtain ⟨P2, hP2⟩ : ∃ x, N / 2 ^ (128 - (i + 1)) = x := ⟨_, rfl⟩
  obtain ⟨P, hP⟩ : ∃ x, N / 2 ^ (128 - i) = x := ⟨_, rfl⟩
  obtain ⟨M, hM⟩ : ∃ x, N * 2 ^ i = x := ⟨_, rfl⟩
  rw [hP2, hP] at s1
  rw [hP2] at s2
  rw [hP] at h5 h6
  rw [hM] at h1 hp
  have e0 : 2 * r + hi / 9223372036854775808 = r * 2 + hi / 9223372036854775808 := by omega
  rw [e0] at s1 s2
  refine ⟨by omega, ⟨?_, by omega, by omega, ?_, ?_, ?_⟩⟩
  · clear s1 s2 h4 h5 h6 hP2 hP hM hnb hbit
    rw [hp, ← Nat.mul_mod_mod 2 M, ← h1]
    obtain ⟨d, hd⟩ : ∃ d, (hi * 2 + lo / 9223372036854775808) / 18446744073709551616 = d := ⟨_, rfl⟩
    obtain ⟨m, hm⟩ : ∃ m, (hi * 2 + lo / 9223372036854775808) % 18446744073709551616 = m := ⟨_, rfl⟩
    obtain ⟨k, hk⟩ : ∃ k, lo * 2 % 18446744073709551616 = k := ⟨_, rfl⟩
    rw [hm, hk, show 2 * (hi * 18446744073709551616 + lo) = m * 18446744073709551616 + k + 340282366920938463463374607431768211456 * d by omega, Nat.add_mul_mod_self_left, Nat.mod_eq_of_lt (by omega)]
  · rw [hP2, s2]; split <;> omega
  · rw [hP2, s1, h5]; split <;> omega
  · rw [hP2, s1, h6, h5, Bool.eq_iff_iff, Bool.and_eq_true, decide_eq_true_eq, decide_eq_true_eq, decide_eq_true_eq]
    split <;> omega
end Go.Proofs.YtmoednmgmmgjeaaDoor.Dec

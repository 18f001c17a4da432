/- Decimals, in integers alone: which may be, sums, scaled products rounded; long division bit by bit, products by halves. No function of the program is named here.
   What package dec's small functions answer: May, size, Sign, Neg, Add, Sub, Units, Whole: for every number of 64 bits. -/
import Derived.Test.YtcgpggknmhlnkaaDoorPs03
import Derived.Lib.ItoaNum
import Derived.Deep.CutBlock
import Derived.Deep.DeepCutAuto
namespace Go.Proofs.YtcgpggknmhlnkaaDoor.Dec
/-- may a decimal be? -/
def mayD (x : Int) : Bool := decide (-9223372036854775807 ≤ x)
def okD (x : Int) : Bool := decide (-9223372036854775807 ≤ x) && decide (x ≤ 9223372036854775807)
/-- what comes out, if it may be -/
def giveD (b : Bool) (x : Int) : Int × Bool := if b && okD x then (x, true) else (0, false)
def signed (neg : Bool) (q : Nat) : Int := if neg then -(q : Int) else q
/-- long division of N (below 2^128) by a number, bit by bit: behind i steps -/
structure DivAt (N by_ i : Nat) (hi lo q r : Nat) (ok : Bool) : Prop where
  left : hi * 18446744073709551616 + lo = N * 2 ^ i % 340282366920938463463374607431768211456
  hiU : hi < 18446744073709551616
  loU : lo < 18446744073709551616
  rest : r = N / 2 ^ (128 - i) % by_
  quo : q = N / 2 ^ (128 - i) / by_ % 18446744073709551616
  room : ok = decide (N / 2 ^ (128 - i) / by_ < 18446744073709551616)
theorem DivAt.start {N by_ hi lo : Nat} (hN : hi * 18446744073709551616 + lo = N) (h1 : hi < 18446744073709551616) (h2 : lo < 18446744073709551616) : DivAt N by_ 0 hi lo 0 0 true := by
  have hlt : N < 340282366920938463463374607431768211456 := by omega
  have h0 : N / 2 ^ (128 - 0) = 0 := Nat.div_eq_of_lt (by simpa using hlt)
  refine ⟨?_, h1, h2, ?_, ?_, ?_⟩
  · rw [hN, Nat.pow_zero, Nat.mul_one, Nat.mod_eq_of_lt hlt]
  · rw [h0]; simp
  · rw [h0]; simp
  · rw [h0]; simp
theorem DivAt.done {N by_ hi lo q r : Nat} {ok : Bool} (h : DivAt N by_ 128 hi lo q r ok) : r = N % by_ ∧ q = N / by_ % 18446744073709551616 ∧ ok = decide (N / by_ < 18446744073709551616) := by
  have h3 := h.rest
  have h4 := h.quo
  have h5 := h.room
  simp only [Nat.sub_self, Nat.pow_zero, Nat.div_one] at h3 h4 h5
  exact ⟨h3, h4, h5⟩
theorem div_step {P P2 b by_ q r : Nat} (hb : 0 < by_) (hP2 : P2 = 2 * P + b) (hbit : b ≤ 1) (hr : r = P % by_) (hq : q = P / by_) :
    P2 / by_ = 2 * q + (if by_ ≤ 2 * r + b then 1 else 0) ∧ P2 % by_ = 2 * r + b - (if by_ ≤ 2 * r + b then by_ else 0) := by
  have h1 := Nat.div_add_mod P by_
  have hrl : r < by_ := by rw [hr]; exact Nat.mod_lt _ hb
  rw [← hr, ← hq] at h1
  by_cases hc : by_ ≤ 2 * r + b
  · rw [if_pos hc, if_pos hc]
    have e : P2 = (2 * r + b - by_) + by_ * (2 * q + 1) := by
      have e1 : by_ * (2 * q + 1) = 2 * (by_ * q) + by_ := by rw [Nat.mul_add, Nat.mul_one, Nat.mul_left_comm]
      omega
    rw [e, Nat.add_mul_div_left _ _ hb, Nat.add_mul_mod_self_left, Nat.div_eq_of_lt (by omega), Nat.mod_eq_of_lt (by omega)]
    omega
  · rw [if_neg hc, if_neg hc]
    have e : P2 = (2 * r + b) + by_ * (2 * q) := by
      have e1 : by_ * (2 * q) = 2 * (by_ * q) := Nat.mul_left_comm ..
      omega
    rw [e, Nat.add_mul_div_left _ _ hb, Nat.add_mul_mod_self_left, Nat.div_eq_of_lt (by omega), Nat.mod_eq_of_lt (by omega)]
    omega
theorem pow_128 (i : Nat) (hi : i < 128) : 2 ^ i * 2 ^ (128 - i) = 340282366920938463463374607431768211456 ∧ 2 ^ (128 - i) = 2 * 2 ^ (128 - (i + 1)) := by
  refine ⟨?_, ?_⟩
  · rw [← Nat.pow_add, show i + (128 - i) = 128 by omega]
  · rw [show 128 - i = (128 - (i + 1)) + 1 by omega, Nat.pow_succ, Nat.mul_comm]
/-- the next bit -/
theorem next_bit {N i : Nat} (hi : i < 128) : N / 2 ^ (128 - (i + 1)) = 2 * (N / 2 ^ (128 - i)) + (N * 2 ^ i % 340282366920938463463374607431768211456) / 170141183460469231731687303715884105728 := by
  obtain ⟨h1, h2⟩ := pow_128 i hi
  have hA : 0 < 2 ^ (128 - (i + 1)) := Nat.pow_pos (by omega)
  have hC : 0 < 2 ^ i := Nat.pow_pos (by omega)
  rw [h2] at h1 ⊢
  generalize 2 ^ (128 - (i + 1)) = A at *
  generalize 2 ^ i = C at *
  have h3 : C * A = 170141183460469231731687303715884105728 := by
    have : C * (2 * A) = 2 * (C * A) := Nat.mul_left_comm ..
    omega
  rw [← Nat.div_div_eq_div_mul]
  have e : N * C % 340282366920938463463374607431768211456 = C * (N % (2 * A)) := by
    rw [Nat.mul_comm N C, ← h1, Nat.mul_mod_mul_left]
  rw [e, ← h3, Nat.mul_div_mul_left _ _ hC]
  have e2 : N % (2 * A) / A = N / A % 2 := by
    rw [Nat.mul_comm 2 A, Nat.mod_mul_right_div_self]
  have e3 : N / 2 / A = N / A / 2 := by rw [Nat.div_div_eq_div_mul, Nat.div_div_eq_div_mul, Nat.mul_comm]
  rw [e2, e3]
  omega
set_option maxRecDepth 100000 in
theorem DivAt.step {N by_ i hi lo q r : Nat} {ok : Bool} (hb : 0 < by_) (hb2 : by_ ≤ 9223372036854775808) (hlt : i < 128) (h : DivAt N by_ i hi lo q r ok) :
    r * 2 + hi / 9223372036854775808 < 18446744073709551616 ∧
    DivAt N by_ (i + 1) ((hi * 2 + lo / 9223372036854775808) % 18446744073709551616) (lo * 2 % 18446744073709551616)
      (if by_ ≤ r * 2 + hi / 9223372036854775808 then q * 2 % 18446744073709551616 + 1 else q * 2 % 18446744073709551616)
      (if by_ ≤ r * 2 + hi / 9223372036854775808 then r * 2 + hi / 9223372036854775808 - by_ else r * 2 + hi / 9223372036854775808) (ok && decide (q < 9223372036854775808)) := by
  obtain ⟨h1, h2, h3, h4, h5, h6⟩ := h
  have hnb := next_bit (N := N) hlt
  rw [← h1] at hnb
  have hbit : (hi * 18446744073709551616 + lo) / 170141183460469231731687303715884105728 = hi / 9223372036854775808 := by omega
  rw [hbit] at hnb
  have hr : r < by_ := by rw [h4]; exact Nat.mod_lt _ hb
  obtain ⟨s1, s2⟩ := div_step hb hnb (by omega) h4 rfl
  have hp : N * 2 ^ (i + 1) = 2 * (N * 2 ^ i) := by rw [Nat.pow_succ, ← Nat.mul_assoc, Nat.mul_comm]
  obtain ⟨P2, hP2⟩ : ∃ x, N / 2 ^ (128 - (i + 1)) = x := ⟨_, rfl⟩
  obtain ⟨P, hP⟩ : ∃ x, N / 2 ^ (128 - i) = x := ⟨_, rfl⟩
  obtain ⟨M, hM⟩ : ∃ x, N * 2 ^ i = x := ⟨_, rfl⟩
  rw [hP2, hP] at s1
  rw [hP2] at s2
  rw [hP] at h5 h6
  rw [hM] at h1 hp
  have e0 : 2 * r + hi / 9223372036854775808 = r * 2 + hi / 9223372036854775808 := by omega
  rw [e0] at s1 s2
  refine ⟨by omega, ⟨?_, by omega, by omega, ?_, ?_, ?_⟩⟩
  · clear s1 s2 h4 h5 h6 hP2 hP hM hnb hbit
    rw [hp, ← Nat.mul_mod_mod 2 M, ← h1]
    obtain ⟨d, hd⟩ : ∃ d, (hi * 2 + lo / 9223372036854775808) / 18446744073709551616 = d := ⟨_, rfl⟩
    obtain ⟨m, hm⟩ : ∃ m, (hi * 2 + lo / 9223372036854775808) % 18446744073709551616 = m := ⟨_, rfl⟩
    obtain ⟨k, hk⟩ : ∃ k, lo * 2 % 18446744073709551616 = k := ⟨_, rfl⟩
    rw [hm, hk, show 2 * (hi * 18446744073709551616 + lo) = m * 18446744073709551616 + k + 340282366920938463463374607431768211456 * d by omega, Nat.add_mul_mod_self_left, Nat.mod_eq_of_lt (by omega)]
  · rw [hP2, s2]; split <;> omega
  · rw [hP2, s1, h5]; split <;> omega
  · rw [hP2, s1, h6, h5, Bool.eq_iff_iff, Bool.and_eq_true, decide_eq_true_eq, decide_eq_true_eq, decide_eq_true_eq]
    split <;> omega
def Drawn (w wr : World) : Prop := ∃ q, wr = w.drewN q
theorem Drawn.refl (w : World) : Drawn w w := ⟨0, rfl⟩
end Go.Proofs.YtcgpggknmhlnkaaDoor.Dec
namespace Go.Proofs.YtcgpggknmhlnkaaDoor.Dec
open Go.RowKit Kit
theorem giveD_in {x : Int} (h1 : -9223372036854775807 ≤ x) (h2 : x ≤ 9223372036854775807) : giveD true x = (x, true) := by simp [giveD, okD, h1, h2]
set_option maxRecDepth 100000 in
set_option maxHeartbeats 400000 in
theorem may_c (x : Int) (b : Bool) (hb : mayD x = b) (w : World) : Calls Tryd.prog 43 #[.int .i64 x] w fun e w' => e = .returned (.bool b) ∧ w = w' := by
  have HB := Lib.hid hb
  clear hb
  go_enter Tryd.func43, Tryd.ntmps43
  go_wp2
  go_ret
  exact ⟨ret_bool (by rw [← HB.out]; rfl), rfl⟩
end Go.Proofs.YtcgpggknmhlnkaaDoor.Dec

/- What package power's Sqrt answers: for every number of 64 bits. -/
import Derived.Test.YtdinbokbooikbaaPowGo
namespace Go.Proofs.Ytdinbokbooikbaa.Pow
open Go.RowKit Kit Dec

/-- a number of 128 bits, by its halves -/
theorem halves (N : Nat) : N = N / 18446744073709551616 * 18446744073709551616 + N % 18446744073709551616 := by omega
set_option maxRecDepth 100000 in
set_option maxHeartbeats 400000 in
theorem above_c (r x : Nat) (hr : r ≤ 9223372036854775807) (hx : x ≤ 9223372036854775807) (b : Bool) (hb : decide (x * 10000 < r * r) = b) (w : World) :
    Calls Try.prog 31 #[.int .i64 r, .int .i64 x] w fun e w' => e = .returned (.bool b) ∧ w = w' := by
  subst hb
  have M := Lib.hid (fun w1 => Try.bits_Mul64 r r (by omega) (by omega) w1)
  have M2 : Hid (∀ w1, Calls Try.prog 38 #[.int .u64 x, .int .u64 10000] w1 fun e w' => e = .returned (.tuple #[.int .u64 ((x * 10000 / 18446744073709551616 : Nat) : Int), .int .u64 ((x * 10000 % 18446744073709551616 : Nat) : Int)]) ∧ w' = w1) := Lib.hid (fun w1 => Try.bits_Mul64 x 10000 (by omega) (by omega) w1)
  have e1 := halves (r * r)
  have e2 := halves (x * 10000)
  have l1 : r * r % 18446744073709551616 < 18446744073709551616 := Nat.mod_lt _ (by omega)
  have l2 : x * 10000 % 18446744073709551616 < 18446744073709551616 := Nat.mod_lt _ (by omega)
  rw [e1, e2]
  generalize r * r / 18446744073709551616 = H at *
  generalize r * r % 18446744073709551616 = L at *
  generalize x * 10000 / 18446744073709551616 = I at *
  generalize x * 10000 % 18446744073709551616 = J at *
  clear e1 e2
  have hh : (H ≤ I ∧ I ≤ H → H = I) := fun h => by omega
  by_cases h1 : I < H
  · rw [decide_eq_true (show I * 18446744073709551616 + J < H * 18446744073709551616 + L by omega)]
    clear hh
    go_enter Try.func31, Try.ntmps31
    go_wp2_with (go_at_call 38; first | ((with_reducible refine (M.out _).mono ?_); rintro e w' ⟨rfl, rfl⟩) | ((with_reducible refine (M2.out _).mono ?_); rintro e w' ⟨rfl, rfl⟩))
    go_ret
    exact ⟨rfl, rfl⟩
  by_cases h2 : H < I
  · rw [decide_eq_false (show ¬ I * 18446744073709551616 + J < H * 18446744073709551616 + L by omega)]
    have t1 : (H == I) = false := by simp; omega
    have t2 : ((H : Int) == (I : Int)) = false := by simp; omega
    clear hh
    go_enter Try.func31, Try.ntmps31
    go_wp2_with (go_at_call 38; first | ((with_reducible refine (M.out _).mono ?_); rintro e w' ⟨rfl, rfl⟩) | ((with_reducible refine (M2.out _).mono ?_); rintro e w' ⟨rfl, rfl⟩))
    go_ret
    exact ⟨rfl, rfl⟩
  · obtain rfl : H = I := hh (by omega)
    rw [show decide (H * 18446744073709551616 + J < H * 18446744073709551616 + L) = decide (J < L) from decide_eq_decide.2 (by omega)]
    clear hh
    go_enter Try.func31, Try.ntmps31
    go_wp2_with (go_at_call 38; first | ((with_reducible refine (M.out _).mono ?_); rintro e w' ⟨rfl, rfl⟩) | ((with_reducible refine (M2.out _).mono ?_); rintro e w' ⟨rfl, rfl⟩))
    go_ret
    exact ⟨rfl, rfl⟩
set_option maxRecDepth 100000 in
set_option maxHeartbeats 400000 in
theorem sqrt_low (x : Int) (h : x < 0) (w : World) : Calls Try.prog 10 #[.int .i64 x] w (TwoD 0 false w) := by
  go_enter Try.func10, Try.ntmps10
  go_wp2
  go_ret2
  exact ⟨rfl, 0, rfl⟩
set_option maxRecDepth 100000 in
set_option maxHeartbeats 1000000 in
theorem sqrt_c (x r : Nat) (x2 : x ≤ 9223372036854775807) (hr : RootOf r (x * 10000)) (w : World) : Calls Try.prog 10 #[.int .i64 x] w (TwoD r true w) := by
  have HR := Lib.hid hr
  have H0 := Lib.hid (SqAt.start (N := x * 10000) (by omega))
  clear hr
  go_enter Try.func10, Try.ntmps10
  go_wp2
  go_loop [4, 9] (fun a i => ∃ k b : Nat, k ≤ 39 ∧ i = .int .i64 k ∧ a = .int .i64 b ∧ Hid (SqAt (x * 10000) k b)) (fun _ i => 39 - (intOf i).toNat)
  case atStart => exact ⟨0, 0, by omega, rfl, rfl, H0⟩
  case round =>
    clear H0
    obtain ⟨k, b, hk, rfl, rfl, hs⟩ := hrel
    by_cases hlt : k < 39
    · obtain ⟨p, hp⟩ : ∃ p, 2 ^ (38 - k) = p := ⟨_, rfl⟩
      have hpi : (2 : Int) ^ (38 - k) = (p : Int) := by rw [← hp]; simp
      have hbig := hs.out.2.2
      rw [(bit_next hlt).1, hp] at hbig
      have hno := fun h => hs.out.leave hlt (by rw [hp]; exact h)
      have hyes := fun h => hs.out.take hlt (by rw [hp]; exact h)
      rw [hp] at hyes
      have l1 : p ≤ 549755813888 := by omega
      have l2 : b + p ≤ 549755813888 := by omega
      have ce : ((b + p : Nat) : Int) = (b : Int) + (p : Int) := Int.natCast_add b p
      by_cases hc : x * 10000 < (b + p) * (b + p)
      · have A := Lib.hid (fun w1 => above_c (b + p) x (by omega) x2 true (decide_eq_true hc) w1)
        have hn := Lib.hid (hno hc)
        rw [ce] at A
        clear hyes hno hc hs HR hp hbig ce
        go_wp2_with (go_at_call 31; refine (A.out _).mono ?_; rintro e w' ⟨rfl, rfl⟩)
        exact ⟨⟨k + 1, b, by omega, by go_num, rfl, hn⟩, by simp [intOf]; omega⟩
      · have A := Lib.hid (fun w1 => above_c (b + p) x (by omega) x2 false (decide_eq_false hc) w1)
        have hn := Lib.hid (hyes (by omega))
        rw [ce] at A
        clear hyes hno hc hs HR hp hbig
        go_wp2_with (go_at_call 31; refine (A.out _).mono ?_; rintro e w' ⟨rfl, rfl⟩)
        exact ⟨⟨k + 1, b + p, by omega, by go_num, by rw [ce], hn⟩, by simp [intOf]; omega⟩
    · obtain rfl : k = 39 := by omega
      obtain rfl := root_one HR.out hs.out.done
      clear HR hs
      go_wp2
      go_ret2
      exact ⟨rfl, 0, rfl⟩
end Go.Proofs.Ytdinbokbooikbaa.Pow

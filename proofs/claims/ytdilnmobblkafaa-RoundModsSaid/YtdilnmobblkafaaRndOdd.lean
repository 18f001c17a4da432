/- What package round's Quot and Odd answer: for every number of 64 bits. -/
import Derived.Test.YtdilnmobblkafaaRndMod
namespace Go.Proofs.Ytdilnmobblkafaa.Rnd
open Go.RowKit Kit Dec

set_option maxRecDepth 100000 in
set_option maxHeartbeats 400000 in
theorem quot_none (a b : Int) (h : a < -9223372036854775807 ∨ b < -9223372036854775807 ∨ b = 0) (w : World) :
    Calls Try.prog 15 #[.int .i64 a, .int .i64 b] w (Two 0 false w) := by
  by_cases h1 : a < -9223372036854775807
  · have M := Lib.hid (fun w1 => may_c a false (mayD_no h1) w1)
    clear h
    go_enter Try.func15, Try.ntmps15
    go_wp2_with (go_at_call 20; refine (M.out _).mono ?_; rintro e w' ⟨rfl, rfl⟩)
    go_ret2
    exact ⟨rfl, rfl⟩
  have M := Lib.hid (fun w1 => may_c a true (mayD_yes (by omega)) w1)
  by_cases h2 : b < -9223372036854775807
  · have M2 := Lib.hid (fun w1 => may_c b false (mayD_no h2) w1)
    clear h
    go_enter Try.func15, Try.ntmps15
    go_wp2_with (go_at_call 20; first | ((with_reducible refine (M.out _).mono ?_); rintro e w' ⟨rfl, rfl⟩) | ((with_reducible refine (M2.out _).mono ?_); rintro e w' ⟨rfl, rfl⟩))
    go_ret2
    exact ⟨rfl, rfl⟩
  obtain rfl : b = 0 := by omega
  have M2 := Lib.hid (fun w1 => may_c 0 true (by decide) w1)
  clear h
  go_enter Try.func15, Try.ntmps15
  go_wp2_with (go_at_call 20; first | ((with_reducible refine (M.out _).mono ?_); rintro e w' ⟨rfl, rfl⟩) | ((with_reducible refine (M2.out _).mono ?_); rintro e w' ⟨rfl, rfl⟩))
  go_ret2
  exact ⟨rfl, rfl⟩
set_option maxRecDepth 100000 in
set_option maxHeartbeats 400000 in
theorem quot_some (a b : Int) (a1 : -9223372036854775807 ≤ a) (a2 : a ≤ 9223372036854775807) (b1 : -9223372036854775807 ≤ b) (b0 : b ≠ 0) (n : Int) (k : Bool) (hn : scaledD (a.tdiv b) 10000 1 = (n, k)) (w : World) :
    Calls Try.prog 15 #[.int .i64 a, .int .i64 b] w (TwoD n k w) := by
  have M := Lib.hid (fun w1 => may_c a true (mayD_yes a1) w1)
  have M2 := Lib.hid (fun w1 => may_c b true (mayD_yes b1) w1)
  obtain ⟨⟨t1, t2⟩, _, _⟩ := cut_any b0 a1 a2
  have hz2 : (b == 0) = false := by simpa using b0
  obtain ⟨t, ht⟩ : ∃ t, a.tdiv b = t := ⟨_, rfl⟩
  rw [ht] at t1 t2 hn
  have O := Lib.hid (fun w1 => of_c t t2 n k hn w1)
  clear hn
  go_enter Try.func15, Try.ntmps15
  go_wp2_with (first
    | (go_at_call 20; first | ((with_reducible refine (M.out _).mono ?_); rintro e w' ⟨rfl, rfl⟩) | ((with_reducible refine (M2.out _).mono ?_); rintro e w' ⟨rfl, rfl⟩))
    | (go_at_call 28; refine (O.out _).mono ?_; rintro e w' ⟨rfl, q, rfl⟩))
  go_ret2
  exact ⟨rfl, _, rfl⟩
theorem quot_c (a b : Int) (a2 : a ≤ 9223372036854775807) (n : Int) (k : Bool) (hn : quotD a b = (n, k)) (w : World) :
    Calls Try.prog 15 #[.int .i64 a, .int .i64 b] w (TwoD n k w) := by
  unfold quotD at hn
  by_cases h : a < -9223372036854775807 ∨ b < -9223372036854775807 ∨ b = 0
  · rw [bothD_no h] at hn
    obtain ⟨rfl, rfl⟩ := Prod.mk.inj hn
    refine (quot_none a b h w).mono ?_
    rintro e w' ⟨rfl, rfl⟩
    exact ⟨rfl, 0, rfl⟩
  · rw [bothD_yes (by omega) (by omega) (by omega)] at hn
    exact quot_some a b (by omega) a2 (by omega) (by omega) n k hn w

/-- the least odd number of units that is not below n -/
def oddN (n : Nat) : Nat := if n ≤ (2 * (n / 20000) + 1) * 10000 then (2 * (n / 20000) + 1) * 10000 else (2 * (n / 20000) + 3) * 10000
def oddD (x : Int) : Int × Bool := if mayD x && decide (oddN x.natAbs ≤ 9223372036854775807) then (if x < 0 then -(oddN x.natAbs : Int) else oddN x.natAbs, true) else (0, false)
theorem odd_even (n : Nat) (h : n ≤ 9223372036854775807) :
    (oddN n ≤ 9223372036854775807 → stepD ((n : Int) - 10000) 20000 5 = ((oddN n : Int) - 10000, true)) ∧ (9223372036854775807 < oddN n → stepD ((n : Int) - 10000) 20000 5 = (0, false)) ∧ (10000 ≤ oddN n) := by
  have hf : Fl ((n : Int) - 10000) 20000 (((n : Int) - 10000) / 20000) (((n : Int) - 10000) % 20000) := fl_of (by omega)
  obtain ⟨q, hq⟩ : ∃ q, ((n : Int) - 10000) / 20000 = q := ⟨_, rfl⟩
  obtain ⟨l, hl⟩ : ∃ l, ((n : Int) - 10000) % 20000 = l := ⟨_, rfl⟩
  rw [hq, hl] at hf
  clear hq hl
  have he := hf.eq
  have l0 := hf.l0
  have ls := hf.ls
  have hR : roundI ((n : Int) - 10000) 20000 5 = (oddN n : Int) - 10000 := by
    unfold oddN
    by_cases hz : l = 0
    · subst hz
      rw [roundI_zero hf (by omega), if_pos (by omega)]
      omega
    · rw [roundI_up hf (by omega) (by omega) rfl]
      split <;> omega
  have hodd : oddN n % 20000 = 10000 ∧ 10000 ≤ oddN n := by
    unfold oddN
    split <;> omega
  rw [stepD_may (by omega) (by omega) (by omega) (by omega), hR]
  exact ⟨fun h1 => giveD_in (by omega) (by omega), fun h1 => giveD_out (by omega), hodd.2⟩
set_option maxRecDepth 100000 in
set_option maxHeartbeats 400000 in
theorem odd_none (x : Int) (h : x < -9223372036854775807) (w : World) : Calls Try.prog 18 #[.int .i64 x] w (Two 0 false w) := by
  have M := Lib.hid (fun w1 => may_c x false (mayD_no h) w1)
  go_enter Try.func18, Try.ntmps18
  go_wp2_with (go_at_call 20; refine (M.out _).mono ?_; rintro e w' ⟨rfl, rfl⟩)
  go_ret2
  exact ⟨rfl, rfl⟩
set_option maxRecDepth 100000 in
set_option maxHeartbeats 400000 in
theorem odd_some (x : Int) (x1 : -9223372036854775807 ≤ x) (x2 : x ≤ 9223372036854775807) (n : Int) (k : Bool) (hn : oddD x = (n, k)) (w : World) :
    Calls Try.prog 18 #[.int .i64 x] w (Two n k w) := by
  have M := Lib.hid (fun w1 => may_c x true (mayD_yes x1) w1)
  obtain ⟨a, ha⟩ : ∃ a, x.natAbs = a := ⟨_, rfl⟩
  have Z := Lib.hid (fun w1 => size_r x x1 x2 a ha w1)
  have la : a ≤ 9223372036854775807 := by omega
  unfold oddD at hn
  rw [ha, mayD_yes x1, Bool.true_and] at hn
  obtain ⟨h1, h2, h3⟩ := odd_even a la
  obtain ⟨o, ho⟩ : ∃ o, oddN a = o := ⟨_, rfl⟩
  rw [ho] at hn h1 h2 h3
  by_cases hc : o ≤ 9223372036854775807
  · rw [decide_eq_true hc, if_pos rfl] at hn
    obtain ⟨hn1, rfl⟩ := Prod.mk.inj hn
    have S := Lib.hid (fun w1 => step_c ((a : Int) - 10000) 20000 5 (by omega) (by omega) _ true (h1 hc) w1)
    clear h1 h2 hn ho ha
    by_cases hx : x < 0
    · rw [if_pos hx] at hn1
      subst hn1
      go_enter Try.func18, Try.ntmps18
      go_wp2_with (first
        | (go_at_call 20; refine (M.out _).mono ?_; rintro e w' ⟨rfl, rfl⟩)
        | (go_at_call 29; refine (Z.out _).mono ?_; rintro e w' ⟨rfl, rfl⟩)
        | (go_at_call 6; refine (S.out _).mono ?_; rintro e w' ⟨rfl, rfl⟩))
      go_ret2
      exact ⟨by congr 3, rfl⟩
    · rw [if_neg hx] at hn1
      subst hn1
      go_enter Try.func18, Try.ntmps18
      go_wp2_with (first
        | (go_at_call 20; refine (M.out _).mono ?_; rintro e w' ⟨rfl, rfl⟩)
        | (go_at_call 29; refine (Z.out _).mono ?_; rintro e w' ⟨rfl, rfl⟩)
        | (go_at_call 6; refine (S.out _).mono ?_; rintro e w' ⟨rfl, rfl⟩))
      go_ret2
      exact ⟨by congr 3, rfl⟩
  · rw [decide_eq_false hc, if_neg (by decide)] at hn
    obtain ⟨rfl, rfl⟩ := Prod.mk.inj hn
    have S := Lib.hid (fun w1 => step_c ((a : Int) - 10000) 20000 5 (by omega) (by omega) _ false (h2 (by omega)) w1)
    clear h1 h2 hn ho ha hc
    go_enter Try.func18, Try.ntmps18
    go_wp2_with (first
      | (go_at_call 20; refine (M.out _).mono ?_; rintro e w' ⟨rfl, rfl⟩)
      | (go_at_call 29; refine (Z.out _).mono ?_; rintro e w' ⟨rfl, rfl⟩)
      | (go_at_call 6; refine (S.out _).mono ?_; rintro e w' ⟨rfl, rfl⟩))
    go_ret2
    exact ⟨rfl, rfl⟩
theorem odd_c (x : Int) (x2 : x ≤ 9223372036854775807) (n : Int) (k : Bool) (hn : oddD x = (n, k)) (w : World) :
    Calls Try.prog 18 #[.int .i64 x] w (Two n k w) := by
  by_cases h : x < -9223372036854775807
  · unfold oddD at hn
    rw [mayD_no h, Bool.false_and, if_neg (by decide)] at hn
    obtain ⟨rfl, rfl⟩ := Prod.mk.inj hn
    exact odd_none x h w
  · exact odd_some x (by omega) x2 n k hn w
end Go.Proofs.Ytdilnmobblkafaa.Rnd

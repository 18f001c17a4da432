/- What package round's Mod, Quot, Odd answer: for every number of 64 bits. -/
import Derived.Test.YtdilnmobblkafaaRndPlaces
import Derived.Test.YtdilnmobblkafaaDecScale
namespace Go.Proofs.Ytdilnmobblkafaa.Rnd
open Go.RowKit Kit Dec

/-- a quotient that is cut off, and its rest -/
theorem cut_any {a b : Int} (h : b ≠ 0) (a1 : -9223372036854775807 ≤ a) (a2 : a ≤ 9223372036854775807) :
    (-9223372036854775807 ≤ a.tdiv b ∧ a.tdiv b ≤ 9223372036854775807) ∧ (-9223372036854775807 ≤ a.tmod b ∧ a.tmod b ≤ 9223372036854775807) ∧ (a.tmod b).natAbs < b.natAbs := by
  have e1 : (a.tdiv b).natAbs = a.natAbs / b.natAbs := Int.natAbs_tdiv a b
  have e2 := Int.natAbs_tmod a b
  have l1 : a.natAbs / b.natAbs ≤ a.natAbs := Nat.div_le_self _ _
  have l2 : a.natAbs % b.natAbs ≤ a.natAbs := Nat.mod_le _ _
  have l3 : a.natAbs % b.natAbs < b.natAbs := Nat.mod_lt _ (by omega)
  rw [← e1] at l1
  rw [← e2] at l2 l3
  clear e1 e2
  omega
/-- what is left, with b's sign -/
def modI (a b : Int) : Int := if (a.tmod b < 0 ∧ 0 < b) ∨ (0 < a.tmod b ∧ b < 0) then a.tmod b + b else a.tmod b
def bothD (a b : Int) : Bool := mayD a && mayD b && decide (b ≠ 0)
def modD (a b : Int) : Int × Bool := if bothD a b then (modI a b, true) else (0, false)
def quotD (a b : Int) : Int × Bool := if bothD a b then scaledD (a.tdiv b) 10000 1 else (0, false)
theorem bothD_no {a b : Int} (h : a < -9223372036854775807 ∨ b < -9223372036854775807 ∨ b = 0) : bothD a b = false := by
  unfold bothD
  rcases h with h | h | h
  · rw [mayD_no h]; rfl
  · rw [mayD_no h]; simp
  · subst h; simp
theorem bothD_yes {a b : Int} (h1 : -9223372036854775807 ≤ a) (h2 : -9223372036854775807 ≤ b) (h3 : b ≠ 0) : bothD a b = true := by
  unfold bothD
  rw [mayD_yes h1, mayD_yes h2, decide_eq_true h3]; rfl
set_option maxRecDepth 100000 in
set_option maxHeartbeats 400000 in
theorem mod_none (a b : Int) (h : a < -9223372036854775807 ∨ b < -9223372036854775807 ∨ b = 0) (w : World) :
    Calls Try.prog 13 #[.int .i64 a, .int .i64 b] w (Two 0 false w) := by
  by_cases h1 : a < -9223372036854775807
  · have M := Lib.hid (fun w1 => may_c a false (mayD_no h1) w1)
    clear h
    go_enter Try.func13, Try.ntmps13
    go_wp2_with (go_at_call 20; refine (M.out _).mono ?_; rintro e w' ⟨rfl, rfl⟩)
    go_ret2
    exact ⟨rfl, rfl⟩
  have M := Lib.hid (fun w1 => may_c a true (mayD_yes (by omega)) w1)
  by_cases h2 : b < -9223372036854775807
  · have M2 := Lib.hid (fun w1 => may_c b false (mayD_no h2) w1)
    clear h
    go_enter Try.func13, Try.ntmps13
    go_wp2_with (go_at_call 20; first | ((with_reducible refine (M.out _).mono ?_); rintro e w' ⟨rfl, rfl⟩) | ((with_reducible refine (M2.out _).mono ?_); rintro e w' ⟨rfl, rfl⟩))
    go_ret2
    exact ⟨rfl, rfl⟩
  obtain rfl : b = 0 := by omega
  have M2 := Lib.hid (fun w1 => may_c 0 true (by decide) w1)
  clear h
  go_enter Try.func13, Try.ntmps13
  go_wp2_with (go_at_call 20; first | ((with_reducible refine (M.out _).mono ?_); rintro e w' ⟨rfl, rfl⟩) | ((with_reducible refine (M2.out _).mono ?_); rintro e w' ⟨rfl, rfl⟩))
  go_ret2
  exact ⟨rfl, rfl⟩
theorem sign_three {t : Int} (h : -9223372036854775807 ≤ t) : (t < 0 ∧ signD t = -1) ∨ (t = 0 ∧ signD t = 0) ∨ (0 < t ∧ signD t = 1) := by
  unfold signD
  rw [if_neg (by omega)]
  by_cases h1 : t < 0
  · rw [if_pos h1]; exact .inl ⟨h1, rfl⟩
  · rw [if_neg h1]
    by_cases h2 : t = 0
    · rw [if_pos h2]; exact .inr (.inl ⟨h2, rfl⟩)
    · rw [if_neg h2]; exact .inr (.inr ⟨by omega, rfl⟩)
theorem sign_pair {t b : Int} (t1 : -9223372036854775807 ≤ t) (b1 : -9223372036854775807 ≤ b) : decide (signD t * signD b < 0) = decide ((t < 0 ∧ 0 < b) ∨ (0 < t ∧ b < 0)) := by
  rw [decide_eq_decide]
  rcases sign_three t1 with ⟨h1, e1⟩ | ⟨h1, e1⟩ | ⟨h1, e1⟩ <;> rcases sign_three b1 with ⟨h2, e2⟩ | ⟨h2, e2⟩ | ⟨h2, e2⟩ <;> rw [e1, e2] <;> omega
set_option maxRecDepth 100000 in
set_option maxHeartbeats 400000 in
theorem mod_some (a b : Int) (a1 : -9223372036854775807 ≤ a) (a2 : a ≤ 9223372036854775807) (b1 : -9223372036854775807 ≤ b) (b2 : b ≤ 9223372036854775807) (b0 : b ≠ 0) (w : World) :
    Calls Try.prog 13 #[.int .i64 a, .int .i64 b] w (Two (modI a b) true w) := by
  have M := Lib.hid (fun w1 => may_c a true (mayD_yes a1) w1)
  have M2 := Lib.hid (fun w1 => may_c b true (mayD_yes b1) w1)
  obtain ⟨_, ⟨t1, t2⟩, t3⟩ := cut_any b0 a1 a2
  have hz2 : (b == 0) = false := by simpa using b0
  unfold modI
  obtain ⟨t, ht⟩ : ∃ t, a.tmod b = t := ⟨_, rfl⟩
  rw [ht] at t1 t2 t3 ⊢
  obtain ⟨u, hu⟩ : ∃ u, signD t = u := ⟨_, rfl⟩
  obtain ⟨v, hv⟩ : ∃ v, signD b = v := ⟨_, rfl⟩
  have S1 := Lib.hid (fun w1 => sign_c t u hu w1)
  have S2 := Lib.hid (fun w1 => sign_c b v hv w1)
  have hs := sign_pair (t := t) (b := b) (by omega) b1
  rw [hu, hv] at hs
  have hr := (sign_room t b 0).2.1
  rw [hu, hv] at hr
  obtain ⟨p, hp⟩ : ∃ p, u * v = p := ⟨_, rfl⟩
  rw [hp] at hs hr
  clear hu hv
  by_cases hc : (t < 0 ∧ 0 < b) ∨ (0 < t ∧ b < 0)
  · rw [if_pos hc]
    rw [decide_eq_true hc] at hs
    have hsum : -9223372036854775807 ≤ t + b ∧ t + b ≤ 9223372036854775807 := by omega
    clear t3
    go_enter Try.func13, Try.ntmps13
    go_wp2_with (first
      | (go_at_call 20; first | ((with_reducible refine (M.out _).mono ?_); rintro e w' ⟨rfl, rfl⟩) | ((with_reducible refine (M2.out _).mono ?_); rintro e w' ⟨rfl, rfl⟩))
      | (go_at_call 27; first | ((with_reducible refine (S1.out _).mono ?_); rintro e w' ⟨rfl, rfl⟩) | ((with_reducible refine (S2.out _).mono ?_); rintro e w' ⟨rfl, rfl⟩)))
    go_ret2
    exact ⟨rfl, rfl⟩
  · rw [if_neg hc]
    rw [decide_eq_false hc] at hs
    clear t3
    go_enter Try.func13, Try.ntmps13
    go_wp2_with (first
      | (go_at_call 20; first | ((with_reducible refine (M.out _).mono ?_); rintro e w' ⟨rfl, rfl⟩) | ((with_reducible refine (M2.out _).mono ?_); rintro e w' ⟨rfl, rfl⟩))
      | (go_at_call 27; first | ((with_reducible refine (S1.out _).mono ?_); rintro e w' ⟨rfl, rfl⟩) | ((with_reducible refine (S2.out _).mono ?_); rintro e w' ⟨rfl, rfl⟩)))
    go_ret2
    exact ⟨rfl, rfl⟩
theorem mod_c (a b : Int) (a2 : a ≤ 9223372036854775807) (b2 : b ≤ 9223372036854775807) (n : Int) (k : Bool) (hn : modD a b = (n, k)) (w : World) :
    Calls Try.prog 13 #[.int .i64 a, .int .i64 b] w (Two n k w) := by
  unfold modD at hn
  by_cases h : a < -9223372036854775807 ∨ b < -9223372036854775807 ∨ b = 0
  · rw [bothD_no h] at hn
    obtain ⟨rfl, rfl⟩ := Prod.mk.inj hn
    exact mod_none a b h w
  · rw [bothD_yes (by omega) (by omega) (by omega)] at hn
    obtain ⟨rfl, rfl⟩ := Prod.mk.inj hn
    exact mod_some a b (by omega) a2 (by omega) b2 (by omega) w
end Go.Proofs.Ytdilnmobblkafaa.Rnd

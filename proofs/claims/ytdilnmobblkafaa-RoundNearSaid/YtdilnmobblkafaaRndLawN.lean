/- RoundNear, walked: what is rounded is a multiple of the step, less than a step away, and stays when it is rounded again. -/
import Derived.Test.YtdilnmobblkafaaRndAlive
import Derived.Test.YtdilnmobblkafaaDecRef
namespace Go.Proofs.Ytdilnmobblkafaa.Rnd
open Go.RowKit Kit Dec

/-- what is at hand of what is rounded -/
structure Near (x s m y : Int) : Prop where
  x1 : -9223372036854775807 ≤ x
  s0 : 0 < s
  m1 : 1 ≤ m
  m2 : m ≤ 5
  y1 : -9223372036854775807 ≤ y
  y2 : y ≤ 9223372036854775807
  rest : y.tmod s = 0
  again : stepD y s m = (y, true)
  near : y - x < s ∧ x - y < s
  half : m = 1 → 2 * (y - x) ≤ s ∧ 2 * (x - y) ≤ s
  down : m = 2 → y.natAbs ≤ x.natAbs
  up : m = 3 → x.natAbs ≤ y.natAbs
  floor : m = 4 → y ≤ x
  ceil : m = 5 → x ≤ y
theorem near_of {x s m y : Int} (x2 : x ≤ 9223372036854775807) (h : stepD x s m = (y, true)) : Near x s m y := by
  by_cases hno : x < -9223372036854775807 ∨ s ≤ 0 ∨ m < 1 ∨ 5 < m
  · rw [stepD_none hno] at h; exact absurd (congrArg Prod.snd h) (by simp)
  have x1 : -9223372036854775807 ≤ x := by omega
  have s0 : 0 < s := by omega
  have m1 : 1 ≤ m := by omega
  have m2 : m ≤ 5 := by omega
  clear hno
  rw [stepD_may x1 s0 m1 m2] at h
  by_cases ho : roundI x s m < -9223372036854775807 ∨ 9223372036854775807 < roundI x s m
  · rw [giveD_out (.inr ho)] at h; exact absurd (congrArg Prod.snd h) (by simp)
  rw [giveD_in (by omega) (by omega)] at h
  have hy : roundI x s m = y := congrArg Prod.fst h
  rw [hy] at ho
  clear h
  obtain ⟨q, l, hf⟩ : ∃ q l, Fl x s q l := ⟨_, _, fl_of s0⟩
  have he := hf.eq
  have l0 := hf.l0
  have ls := hf.ls
  have hmul : ∃ p, Fl y s p 0 ∧ ((p = q ∧ y = x - l ∧ (0 < l → upI x l s m = false)) ∨ (p = q + 1 ∧ y = x - l + s ∧ 0 < l ∧ upI x l s m = true)) := by
    by_cases hl : l = 0
    · subst hl
      rw [roundI_zero hf s0] at hy
      exact ⟨q, ⟨by omega, by omega, s0⟩, .inl ⟨rfl, by omega, fun h => absurd h (by omega)⟩⟩
    · cases hu : upI x l s m
      · rw [roundI_down hf s0 (by omega) hu] at hy
        exact ⟨q, ⟨by omega, by omega, s0⟩, .inl ⟨rfl, by omega, fun _ => rfl⟩⟩
      · rw [roundI_up hf s0 (by omega) hu] at hy
        exact ⟨q + 1, ⟨by rw [Int.add_mul, Int.one_mul]; omega, by omega, s0⟩, .inr ⟨rfl, by omega, by omega, rfl⟩⟩
  obtain ⟨p, hp, hc⟩ := hmul
  have hrest : y.tmod s = 0 := by
    rw [hp.eq, Int.add_zero]; exact Int.mul_tmod_left p s
  have hag : stepD y s m = (y, true) := by
    rw [stepD_may (by omega) s0 m1 m2, roundI_zero hp s0]; exact giveD_in (by omega) (by omega)
  have hpos : 0 ≤ x → 0 ≤ x - l := by
    intro hx
    by_cases hq : 0 ≤ q
    · have := Int.mul_nonneg hq (show 0 ≤ s by omega); omega
    · have := Int.mul_le_mul_of_nonneg_right (show q ≤ -1 by omega) (show 0 ≤ s by omega); omega
  have hneg : x < 0 → x - l + s ≤ 0 ∨ l = 0 := by
    intro hx
    by_cases hq : q < 0
    · have := Int.mul_le_mul_of_nonneg_right (show q ≤ -1 by omega) (show 0 ≤ s by omega); omega
    · have := Int.mul_nonneg (show 0 ≤ q by omega) (show 0 ≤ s by omega); omega
  clear hf he hp hy
  have hup : ∀ b, (0 < l → upI x l s m = b) → 0 < l → (m = 1 → b = true → s - l ≤ l) ∧ (m = 1 → b = false → l ≤ s - l) ∧ (m = 2 → b = true → x < 0) ∧ (m = 2 → b = false → 0 ≤ x) ∧ (m = 3 → b = true → 0 < x) ∧ (m = 3 → b = false → x ≤ 0) ∧ (m = 4 → b = false) ∧ (m = 5 → b = true) := by
    intro b hb hl
    have hb := hb hl
    subst hb
    unfold upI
    refine ⟨?_, ?_, ?_, ?_, ?_, ?_, ?_, ?_⟩
    · rintro rfl h; rw [if_pos rfl] at h; simp at h; omega
    · rintro rfl h; rw [if_pos rfl] at h; simp at h; omega
    · rintro rfl h; simp at h; exact h
    · rintro rfl h; simp at h; exact h
    · rintro rfl h; simp at h; exact h
    · rintro rfl h; simp at h; exact h
    · rintro rfl; rfl
    · rintro rfl; rfl
  rcases hc with ⟨_, hy, hu⟩ | ⟨_, hy, hl, hu⟩
  · have hu2 := hup false hu
    simp only [Bool.false_eq_true, false_implies, implies_true, true_implies, true_and, imp_false] at hu2
    refine ⟨x1, s0, m1, m2, by omega, by omega, hrest, hag, by omega, ?_, ?_, ?_, ?_, ?_⟩
    all_goals intro hm
    all_goals by_cases hl0 : l = 0
    all_goals try omega
    all_goals have hu3 := hu2 (by omega)
    all_goals omega
  · have hu2 := hup true (fun _ => hu) hl
    simp only [Bool.true_eq_false, false_implies, implies_true, true_implies, true_and, imp_false] at hu2
    refine ⟨x1, s0, m1, m2, by omega, by omega, hrest, hag, by omega, ?_, ?_, ?_, ?_, ?_⟩
    all_goals intro hm
    all_goals omega
theorem stepD_false {x s m y : Int} (h : stepD x s m = (y, false)) : y = 0 := by
  unfold stepD giveD at h
  split at h
  · exact absurd (congrArg Prod.snd h) (by simp)
  · exact (congrArg Prod.fst h).symm
set_option maxRecDepth 100000 in
set_option maxHeartbeats 1000000 in
/-- there is none -/
theorem near_none (x s m : Int) (x2 : x ≤ 9223372036854775807) (s2 : s ≤ 9223372036854775807) (h : stepD x s m = (0, false)) (w : World) :
    Calls Try.prog 4 #[.int .i64 x, .int .i64 s, .int .i64 m] w (LawEnd w) := by
  have C1 := Lib.hid (fun w1 => step_c x s m x2 s2 0 false h w1)
  clear h
  go_enter Try.func4, Try.ntmps4
  go_wp2_with (first
    | (go_at_call 6; refine (C1.out _).mono ?_; rintro e w' ⟨rfl, rfl⟩)
    | (go_at_call 11; refine (alive_c _).mono ?_; rintro e w' ⟨rfl, rfl⟩))
  go_ret
  exact ⟨rfl, Below.refl _ _⟩
set_option maxRecDepth 100000 in
set_option maxHeartbeats 4000000 in
theorem near_some (x s m y : Int) (x2 : x ≤ 9223372036854775807) (s2 : s ≤ 9223372036854775807) (h : stepD x s m = (y, true)) (w : World) :
    Calls Try.prog 4 #[.int .i64 x, .int .i64 s, .int .i64 m] w (LawEnd w) := by
  obtain ⟨x1, s1, m1, m2, y1, y2, hrest, hag, ⟨n1, n2⟩, hhalf, hdown, hup, hfloor, hceil⟩ := near_of x2 h
  have C1 := Lib.hid (fun w1 => step_c x s m x2 s2 y true h w1)
  have C2 := Lib.hid (fun w1 => step_c y s m y2 s2 y true hag w1)
  have S1 := Lib.hid (fun w1 => rabs_c x x1 x2 w1)
  have S2 := Lib.hid (fun w1 => rabs_c y y1 y2 w1)
  have hz : ¬ s = 0 := by omega
  have hz2 : (s == 0) = false := by simpa using hz
  obtain ⟨a, ha⟩ : ∃ a, x.natAbs = a := ⟨_, rfl⟩
  obtain ⟨b, hb⟩ : ∃ b, y.natAbs = b := ⟨_, rfl⟩
  rw [ha] at S1 hdown hup
  rw [hb] at S2 hdown hup
  have la : a ≤ 9223372036854775807 := by omega
  have lb : b ≤ 9223372036854775807 := by omega
  have hcase : ∃ D : Nat, ((D : Int) < s) ∧ ((b < a ∧ (a : Int) - (b : Int) = (D : Int)) ∨ (a ≤ b ∧ (b : Int) - (a : Int) = (D : Int))) ∧ ((m = 1 ∧ (D : Int) ≤ s - (D : Int)) ∨ (m = 2 ∧ b ≤ a) ∨ (m = 3 ∧ a ≤ b) ∨ (m = 4 ∧ y ≤ x) ∨ (m = 5 ∧ x ≤ y)) := by
    refine ⟨(a - b) + (b - a), ?_, ?_, ?_⟩
    · omega
    · omega
    · obtain hm | hm | hm | hm | hm : m = 1 ∨ m = 2 ∨ m = 3 ∨ m = 4 ∨ m = 5 := by omega
      · have := hhalf hm; omega
      · have := hdown hm; omega
      · have := hup hm; omega
      · have := hfloor hm; omega
      · have := hceil hm; omega
  obtain ⟨D, hD, hside, hmode⟩ := hcase
  clear hhalf hdown hup hfloor hceil n1 n2 h hag ha hb m1 m2
  rcases hside with ⟨hs, hd⟩ | ⟨hs, hd⟩ <;> rcases hmode with ⟨rfl, hm⟩ | ⟨rfl, hm⟩ | ⟨rfl, hm⟩ | ⟨rfl, hm⟩ | ⟨rfl, hm⟩
  all_goals go_enter Try.func4, Try.ntmps4
  all_goals go_wp2_with (first
    | (go_at_call 6; first | ((with_reducible refine (C1.out _).mono ?_); rintro e w' ⟨rfl, rfl⟩) | ((with_reducible refine (C2.out _).mono ?_); rintro e w' ⟨rfl, rfl⟩))
    | (go_at_call 12; first | ((with_reducible refine (S1.out _).mono ?_); rintro e w' ⟨rfl, rfl⟩) | ((with_reducible refine (S2.out _).mono ?_); rintro e w' ⟨rfl, rfl⟩))
    | (go_at_call 11; refine (alive_c _).mono ?_; rintro e w' ⟨rfl, rfl⟩))
  all_goals go_ret
  all_goals exact ⟨rfl, Below.refl _ _⟩
theorem near_law (x s m : Int) (x2 : x ≤ 9223372036854775807) (s2 : s ≤ 9223372036854775807) (w : World) :
    Calls Try.prog 4 #[.int .i64 x, .int .i64 s, .int .i64 m] w (LawEnd w) := by
  obtain ⟨⟨y, k⟩, h⟩ : ∃ r, stepD x s m = r := ⟨_, rfl⟩
  cases k
  · obtain rfl := stepD_false h
    exact near_none x s m x2 s2 h w
  · exact near_some x s m y x2 s2 h w
end Go.Proofs.Ytdilnmobblkafaa.Rnd

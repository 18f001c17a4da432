/- What package dec's small functions answer: May, size, Sign, Neg, Add, Sub, Units, Whole: for every number of 64 bits. -/
import Derived.Test.YtebjedbppiphgaaGreatDoorKtu06
namespace Go.Proofs.YtebjedbppiphgaaGreatDoor.Dec
open Go.RowKit Kit
theorem mayD_yes {x : Int} (h : -9223372036854775807 ≤ x) : mayD x = true := by simp [mayD, h]
theorem mayD_no {x : Int} (h : x < -9223372036854775807) : mayD x = false := by simp [mayD]; omega
theorem giveD_in {x : Int} (h1 : -9223372036854775807 ≤ x) (h2 : x ≤ 9223372036854775807) : giveD true x = (x, true) := by simp [giveD, okD, h1, h2]
theorem giveD_out {b : Bool} {x : Int} (h : b = false ∨ x < -9223372036854775807 ∨ 9223372036854775807 < x) : giveD b x = (0, false) := by
  unfold giveD
  rw [if_neg]
  rintro h2
  simp only [Bool.and_eq_true, okD, decide_eq_true_eq] at h2
  rcases h with h | h | h
  · rw [h] at h2; exact absurd h2.1 (by decide)
  · omega
  · omega
theorem addD_in {a b : Int} (h1 : -9223372036854775807 ≤ a) (h2 : -9223372036854775807 ≤ b) (h3 : -9223372036854775807 ≤ a + b) (h4 : a + b ≤ 9223372036854775807) : addD a b = (a + b, true) := by
  rw [addD, mayD_yes h1, mayD_yes h2]; exact giveD_in h3 h4
theorem addD_a {a b : Int} (h : a < -9223372036854775807) : addD a b = (0, false) := by rw [addD, mayD_no h]; exact giveD_out (.inl rfl)
theorem addD_b {a b : Int} (h : b < -9223372036854775807) : addD a b = (0, false) := by rw [addD, mayD_no h, Bool.and_false]; exact giveD_out (.inl rfl)
theorem addD_out {a b : Int} (h : a + b < -9223372036854775807 ∨ 9223372036854775807 < a + b) : addD a b = (0, false) := giveD_out (.inr h)
theorem negD_in {x : Int} (h1 : -9223372036854775807 ≤ x) (h2 : x ≤ 9223372036854775807) : negD x = (-x, true) := by rw [negD, mayD_yes h1]; exact giveD_in (by omega) (by omega)
theorem negD_out {x : Int} (h1 : x < -9223372036854775807) : negD x = (0, false) := by rw [negD, mayD_no h1]; exact giveD_out (.inl rfl)
theorem subD_in {a b : Int} (h1 : -9223372036854775807 ≤ b) (h2 : b ≤ 9223372036854775807) : subD a b = addD a (-b) := by
  unfold subD addD
  rw [mayD_yes h1, mayD_yes (x := -b) (by omega)]
  rfl
theorem subD_out {a b : Int} (h : b < -9223372036854775807) : subD a b = (0, false) := by rw [subD, mayD_no h, Bool.and_false]; exact giveD_out (.inl rfl)

/-- two results -/
def Two (n : Int) (b : Bool) (w : World) : Ending → World → Prop := fun e w' => e = .returned (.tuple #[.int .i64 n, .bool b]) ∧ w = w'
set_option maxRecDepth 100000 in
set_option maxHeartbeats 400000 in
theorem may_c (x : Int) (b : Bool) (hb : mayD x = b) (w : World) : Calls Tryz.prog 75 #[.int .i64 x] w fun e w' => e = .returned (.bool b) ∧ w = w' := by
  have HB := Lib.hid hb
  clear hb
  go_enter Tryz.func75, Tryz.ntmps75
  go_wp2
  go_ret
  exact ⟨ret_bool (by rw [← HB.out]; rfl), rfl⟩
set_option maxRecDepth 100000 in
set_option maxHeartbeats 400000 in
theorem size_c (x : Int) (h1 : -9223372036854775807 ≤ x) (h2 : x ≤ 9223372036854775807) (w : World) : Calls Tryz.prog 264 #[.int .i64 x] w fun e w' => e = .returned (.int .u64 (x.natAbs : Int)) ∧ w = w' := by
  by_cases h : x < 0
  · go_enter Tryz.func264, Tryz.ntmps264
    go_wp2
    go_ret
    exact ⟨ret_u64 (by omega), rfl⟩
  · go_enter Tryz.func264, Tryz.ntmps264
    go_wp2
    go_ret
    exact ⟨ret_u64 (by omega), rfl⟩
def signD (x : Int) : Int := if x < -9223372036854775807 then 0 else if x < 0 then -1 else if x = 0 then 0 else 1
set_option maxRecDepth 100000 in
set_option maxHeartbeats 400000 in
theorem sign_c (x : Int) (s : Int) (hs : signD x = s) (w : World) : Calls Tryz.prog 201 #[.int .i64 x] w fun e w' => e = .returned (.int .i64 s) ∧ w = w' := by
  subst hs
  by_cases h0 : x < -9223372036854775807
  · have M := Lib.hid (fun w1 => may_c x false (mayD_no h0) w1)
    rw [signD, if_pos h0]
    go_enter Tryz.func201, Tryz.ntmps201
    go_wp2_with (go_at_call 75; refine (M.out _).mono ?_; rintro e w' ⟨rfl, rfl⟩)
    go_ret
    exact ⟨rfl, rfl⟩
  · have M := Lib.hid (fun w1 => may_c x true (mayD_yes (by omega)) w1)
    rw [signD, if_neg h0]
    by_cases h1 : x < 0
    · rw [if_pos h1]
      have hz : (x == 0) = false := by simp; omega
      go_enter Tryz.func201, Tryz.ntmps201
      go_wp2_with (go_at_call 75; refine (M.out _).mono ?_; rintro e w' ⟨rfl, rfl⟩)
      go_ret
      exact ⟨rfl, rfl⟩
    · rw [if_neg h1]
      by_cases h2 : x = 0
      · subst h2
        go_enter Tryz.func201, Tryz.ntmps201
        go_wp2_with (go_at_call 75; refine (M.out _).mono ?_; rintro e w' ⟨rfl, rfl⟩)
        go_ret
        exact ⟨rfl, rfl⟩
      · rw [if_neg h2]
        have hz : (x == 0) = false := by simpa using h2
        go_enter Tryz.func201, Tryz.ntmps201
        go_wp2_with (go_at_call 75; refine (M.out _).mono ?_; rintro e w' ⟨rfl, rfl⟩)
        go_ret
        exact ⟨rfl, rfl⟩
set_option maxRecDepth 100000 in
set_option maxHeartbeats 400000 in
theorem neg_c (x : Int) (h2 : x ≤ 9223372036854775807) (n : Int) (b : Bool) (hn : negD x = (n, b)) (w : World) : Calls Tryz.prog 44 #[.int .i64 x] w (Two n b w) := by
  by_cases h1 : -9223372036854775807 ≤ x
  · rw [negD_in h1 h2] at hn
    obtain ⟨rfl, rfl⟩ := Prod.mk.inj hn
    have M := Lib.hid (fun w1 => may_c x true (mayD_yes h1) w1)
    go_enter Tryz.func44, Tryz.ntmps44
    go_wp2_with (go_at_call 75; refine (M.out _).mono ?_; rintro e w' ⟨rfl, rfl⟩)
    go_ret2
    exact ⟨rfl, rfl⟩
  · rw [negD_out (by omega)] at hn
    obtain ⟨rfl, rfl⟩ := Prod.mk.inj hn
    have M := Lib.hid (fun w1 => may_c x false (mayD_no (by omega)) w1)
    go_enter Tryz.func44, Tryz.ntmps44
    go_wp2_with (go_at_call 75; refine (M.out _).mono ?_; rintro e w' ⟨rfl, rfl⟩)
    go_ret2
    exact ⟨rfl, rfl⟩
set_option maxRecDepth 100000 in
set_option maxHeartbeats 400000 in
theorem add_in (a b : Int) (a1 : -9223372036854775807 ≤ a) (a2 : a ≤ 9223372036854775807) (b1 : -9223372036854775807 ≤ b) (b2 : b ≤ 9223372036854775807) (h3 : -9223372036854775807 ≤ a + b) (h4 : a + b ≤ 9223372036854775807) (w : World) :
    Calls Tryz.prog 78 #[.int .i64 a, .int .i64 b] w (Two (a + b) true w) := by
  have M1 := Lib.hid (fun w1 => may_c a true (mayD_yes a1) w1)
  have M2 := Lib.hid (fun w1 => may_c b true (mayD_yes b1) w1)
  by_cases h5 : 0 < a
  · have t1 : decide (9223372036854775807 - a < b) = false := decide_eq_false (by omega)
    go_enter Tryz.func78, Tryz.ntmps78
    go_wp2_with (go_at_call 75; first | (refine (M1.out _).mono ?_; rintro e w' ⟨rfl, rfl⟩) | (refine (M2.out _).mono ?_; rintro e w' ⟨rfl, rfl⟩))
    go_ret2
    exact ⟨rfl, rfl⟩
  · by_cases h6 : a < 0
    · have t1 : decide (b < -9223372036854775807 - a) = false := decide_eq_false (by omega)
      go_enter Tryz.func78, Tryz.ntmps78
      go_wp2_with (go_at_call 75; first | (refine (M1.out _).mono ?_; rintro e w' ⟨rfl, rfl⟩) | (refine (M2.out _).mono ?_; rintro e w' ⟨rfl, rfl⟩))
      go_ret2
      exact ⟨rfl, rfl⟩
    · obtain rfl : a = 0 := by omega
      go_enter Tryz.func78, Tryz.ntmps78
      go_wp2_with (go_at_call 75; first | (refine (M1.out _).mono ?_; rintro e w' ⟨rfl, rfl⟩) | (refine (M2.out _).mono ?_; rintro e w' ⟨rfl, rfl⟩))
      go_ret2
      exact ⟨by simp, rfl⟩
set_option maxRecDepth 100000 in
set_option maxHeartbeats 400000 in
theorem add_over (a b : Int) (a1 : -9223372036854775807 ≤ a) (a2 : a ≤ 9223372036854775807) (b1 : -9223372036854775807 ≤ b) (b2 : b ≤ 9223372036854775807) (h : 9223372036854775807 < a + b) (w : World) :
    Calls Tryz.prog 78 #[.int .i64 a, .int .i64 b] w (Two 0 false w) := by
  have M1 := Lib.hid (fun w1 => may_c a true (mayD_yes a1) w1)
  have M2 := Lib.hid (fun w1 => may_c b true (mayD_yes b1) w1)
  have h5 : 0 < a := by omega
  have t1 : decide (9223372036854775807 - a < b) = true := decide_eq_true (by omega)
  go_enter Tryz.func78, Tryz.ntmps78
  go_wp2_with (go_at_call 75; first | (refine (M1.out _).mono ?_; rintro e w' ⟨rfl, rfl⟩) | (refine (M2.out _).mono ?_; rintro e w' ⟨rfl, rfl⟩))
  go_ret2
  exact ⟨rfl, rfl⟩
set_option maxRecDepth 100000 in
set_option maxHeartbeats 400000 in
theorem add_under (a b : Int) (a1 : -9223372036854775807 ≤ a) (a2 : a ≤ 9223372036854775807) (b1 : -9223372036854775807 ≤ b) (b2 : b ≤ 9223372036854775807) (h : a + b < -9223372036854775807) (w : World) :
    Calls Tryz.prog 78 #[.int .i64 a, .int .i64 b] w (Two 0 false w) := by
  have M1 := Lib.hid (fun w1 => may_c a true (mayD_yes a1) w1)
  have M2 := Lib.hid (fun w1 => may_c b true (mayD_yes b1) w1)
  have h5 : a < 0 := by omega
  have t1 : decide (b < -9223372036854775807 - a) = true := decide_eq_true (by omega)
  go_enter Tryz.func78, Tryz.ntmps78
  go_wp2_with (go_at_call 75; first | (refine (M1.out _).mono ?_; rintro e w' ⟨rfl, rfl⟩) | (refine (M2.out _).mono ?_; rintro e w' ⟨rfl, rfl⟩))
  go_ret2
  exact ⟨rfl, rfl⟩
set_option maxRecDepth 100000 in
set_option maxHeartbeats 400000 in
theorem add_none (a b : Int) (h : a < -9223372036854775807 ∨ b < -9223372036854775807) (w : World) :
    Calls Tryz.prog 78 #[.int .i64 a, .int .i64 b] w (Two 0 false w) := by
  by_cases ha : a < -9223372036854775807
  · have M1 := Lib.hid (fun w1 => may_c a false (mayD_no ha) w1)
    clear h
    go_enter Tryz.func78, Tryz.ntmps78
    go_wp2_with (go_at_call 75; refine (M1.out _).mono ?_; rintro e w' ⟨rfl, rfl⟩)
    go_ret2
    exact ⟨rfl, rfl⟩
  · have M1 := Lib.hid (fun w1 => may_c a true (mayD_yes (by omega)) w1)
    have M2 := Lib.hid (fun w1 => may_c b false (mayD_no (by omega)) w1)
    clear h
    go_enter Tryz.func78, Tryz.ntmps78
    go_wp2_with (go_at_call 75; first | (refine (M1.out _).mono ?_; rintro e w' ⟨rfl, rfl⟩) | (refine (M2.out _).mono ?_; rintro e w' ⟨rfl, rfl⟩))
    go_ret2
    exact ⟨rfl, rfl⟩
theorem add_c (a b : Int) (a2 : a ≤ 9223372036854775807) (b2 : b ≤ 9223372036854775807) (n : Int) (k : Bool) (h : addD a b = (n, k)) (w : World) :
    Calls Tryz.prog 78 #[.int .i64 a, .int .i64 b] w (Two n k w) := by
  by_cases ha : a < -9223372036854775807
  · obtain ⟨rfl, rfl⟩ := Prod.mk.inj ((addD_a ha).symm.trans h); exact add_none a b (.inl ha) w
  by_cases hb : b < -9223372036854775807
  · obtain ⟨rfl, rfl⟩ := Prod.mk.inj ((addD_b hb).symm.trans h); exact add_none a b (.inr hb) w
  by_cases hu : a + b < -9223372036854775807
  · obtain ⟨rfl, rfl⟩ := Prod.mk.inj ((addD_out (.inl hu)).symm.trans h); exact add_under a b (by omega) a2 (by omega) b2 hu w
  by_cases ho : 9223372036854775807 < a + b
  · obtain ⟨rfl, rfl⟩ := Prod.mk.inj ((addD_out (.inr ho)).symm.trans h); exact add_over a b (by omega) a2 (by omega) b2 ho w
  · obtain ⟨rfl, rfl⟩ := Prod.mk.inj ((addD_in (by omega) (by omega) (by omega) (by omega)).symm.trans h); exact add_in a b (by omega) a2 (by omega) b2 (by omega) (by omega) w
set_option maxRecDepth 100000 in
set_option maxHeartbeats 400000 in
theorem sub_c (a b : Int) (a2 : a ≤ 9223372036854775807) (b2 : b ≤ 9223372036854775807) (n : Int) (k : Bool) (h : subD a b = (n, k)) (w : World) :
    Calls Tryz.prog 79 #[.int .i64 a, .int .i64 b] w (Two n k w) := by
  by_cases hb : b < -9223372036854775807
  · obtain ⟨rfl, rfl⟩ := Prod.mk.inj ((subD_out hb).symm.trans h)
    have N := Lib.hid (fun w1 => neg_c b b2 0 false (negD_out hb) w1)
    clear h
    go_enter Tryz.func79, Tryz.ntmps79
    go_wp2_with (go_at_call 44; refine (N.out _).mono ?_; rintro e w' ⟨rfl, rfl⟩)
    go_ret2
    exact ⟨rfl, rfl⟩
  · rw [subD_in (by omega) b2] at h
    have N := Lib.hid (fun w1 => neg_c b b2 (-b) true (negD_in (by omega) b2) w1)
    have S := Lib.hid (fun w1 => add_c a (-b) a2 (by omega) n k h w1)
    clear h
    go_enter Tryz.func79, Tryz.ntmps79
    go_wp2_with (first | (go_at_call 44; refine (N.out _).mono ?_; rintro e w' ⟨rfl, rfl⟩) | (go_at_call 78; refine (S.out _).mono ?_; rintro e w' ⟨rfl, rfl⟩))
    go_ret2
    exact ⟨rfl, rfl⟩
theorem cut_pos {x : Int} (h : 0 ≤ x) : x.tdiv 10000 = x / 10000 ∧ x.tmod 10000 = x % 10000 := ⟨Int.tdiv_eq_ediv_of_nonneg h, Int.tmod_eq_emod_of_nonneg h⟩
theorem cut_neg {x : Int} (h : x < 0) : x.tdiv 10000 = -((-x) / 10000) ∧ x.tmod 10000 = -((-x) % 10000) := by
  obtain ⟨h1, h2⟩ := cut_pos (x := -x) (by omega)
  rw [Int.neg_tdiv] at h1
  rw [Int.neg_tmod] at h2
  omega
theorem cut_room {x : Int} (h1 : -9223372036854775807 ≤ x) (h2 : x ≤ 9223372036854775807) : (-9223372036854775808 ≤ x.tdiv 10000 ∧ x.tdiv 10000 ≤ 9223372036854775807) ∧ (-9223372036854775808 ≤ x.tmod 10000 ∧ x.tmod 10000 ≤ 9223372036854775807) := by
  by_cases h : 0 ≤ x
  · obtain ⟨e1, e2⟩ := cut_pos h
    rw [e1, e2]; omega
  · obtain ⟨e1, e2⟩ := cut_neg (x := x) (by omega)
    rw [e1, e2]; omega
def unitsD (x : Int) : Int := if x < -9223372036854775807 then 0 else Int.tdiv x 10000
def wholeD (x : Int) : Bool := mayD x && decide (Int.tmod x 10000 = 0)
set_option maxRecDepth 100000 in
set_option maxHeartbeats 400000 in
theorem units_c (x : Int) (h2 : x ≤ 9223372036854775807) (n : Int) (hn : unitsD x = n) (w : World) : Calls Tryz.prog 189 #[.int .i64 x] w fun e w' => e = .returned (.int .i64 n) ∧ w = w' := by
  subst hn
  by_cases h0 : x < -9223372036854775807
  · have M := Lib.hid (fun w1 => may_c x false (mayD_no h0) w1)
    rw [unitsD, if_pos h0]
    go_enter Tryz.func189, Tryz.ntmps189
    go_wp2_with (go_at_call 75; refine (M.out _).mono ?_; rintro e w' ⟨rfl, rfl⟩)
    go_ret
    exact ⟨rfl, rfl⟩
  · have M := Lib.hid (fun w1 => may_c x true (mayD_yes (by omega)) w1)
    rw [unitsD, if_neg h0]
    obtain ⟨ht1, ht2⟩ := (cut_room (x := x) (by omega) h2).1
    go_enter Tryz.func189, Tryz.ntmps189
    go_wp2_with (go_at_call 75; refine (M.out _).mono ?_; rintro e w' ⟨rfl, rfl⟩)
    go_ret
    exact ⟨rfl, rfl⟩
set_option maxRecDepth 100000 in
set_option maxHeartbeats 400000 in
theorem whole_c (x : Int) (h2 : x ≤ 9223372036854775807) (b : Bool) (hb : wholeD x = b) (w : World) : Calls Tryz.prog 265 #[.int .i64 x] w fun e w' => e = .returned (.bool b) ∧ w = w' := by
  subst hb
  by_cases h0 : x < -9223372036854775807
  · have M := Lib.hid (fun w1 => may_c x false (mayD_no h0) w1)
    rw [wholeD, mayD_no h0, Bool.false_and]
    go_enter Tryz.func265, Tryz.ntmps265
    go_wp2_with (go_at_call 75; refine (M.out _).mono ?_; rintro e w' ⟨rfl, rfl⟩)
    go_ret
    exact ⟨rfl, rfl⟩
  · have M := Lib.hid (fun w1 => may_c x true (mayD_yes (by omega)) w1)
    rw [wholeD, mayD_yes (by omega), Bool.true_and]
    obtain ⟨ht1, ht2⟩ := (cut_room (x := x) (by omega) h2).2
    go_enter Tryz.func265, Tryz.ntmps265
    go_wp2_with (go_at_call 75; refine (M.out _).mono ?_; rintro e w' ⟨rfl, rfl⟩)
    go_ret
    exact ⟨rfl, rfl⟩
end Go.Proofs.YtebjedbppiphgaaGreatDoor.Dec

/- What the reference's May, Abs, Add, Times on decimals answer: for every number of 64 bits. -/
import Derived.Test.YtmoednmgmmgjeaaGreatDoorDecLeaf
namespace Go.Proofs.YtmoednmgmmgjeaaGreatDoor.Dec
open Go.RowKit Kit

/-- a decimal, or that there is none, as the reference tells it -/
def GotIs (n : Int) (k : Bool) (w : World) : Ending → World → Prop := fun e w' => e = .returned (.agg #[.int .i64 n, .bool k]) ∧ Below w.heap.size w w'
set_option maxRecDepth 100000 in
set_option maxHeartbeats 400000 in
theorem rmay_c (x : Int) (b : Bool) (hb : mayD x = b) (w : World) : Calls Tryz.prog 41 #[.int .i64 x] w fun e w' => e = .returned (.bool b) ∧ w = w' := by
  have HB := Lib.hid hb
  clear hb
  go_enter Tryz.func41, Tryz.ntmps41
  go_wp2
  go_ret
  exact ⟨ret_bool (by rw [← HB.out]; rfl), rfl⟩
set_option maxRecDepth 100000 in
set_option maxHeartbeats 400000 in
theorem rabs_c (x : Int) (h1 : -9223372036854775807 ≤ x) (h2 : x ≤ 9223372036854775807) (w : World) : Calls Tryz.prog 42 #[.int .i64 x] w fun e w' => e = .returned (.int .u64 (x.natAbs : Int)) ∧ w = w' := by
  by_cases h : x < 0
  · go_enter Tryz.func42, Tryz.ntmps42
    go_wp2
    go_ret
    exact ⟨ret_u64 (by omega), rfl⟩
  · go_enter Tryz.func42, Tryz.ntmps42
    go_wp2
    go_ret
    exact ⟨ret_u64 (by omega), rfl⟩
set_option maxRecDepth 100000 in
set_option maxHeartbeats 400000 in
theorem radd_in (a b : Int) (a1 : -9223372036854775807 ≤ a) (a2 : a ≤ 9223372036854775807) (b1 : -9223372036854775807 ≤ b) (b2 : b ≤ 9223372036854775807) (h3 : -9223372036854775807 ≤ a + b) (h4 : a + b ≤ 9223372036854775807) (w : World) :
    Calls Tryz.prog 64 #[.int .i64 a, .int .i64 b] w (GotIs (a + b) true w) := by
  have M1 := Lib.hid (fun w1 => rmay_c a true (mayD_yes a1) w1)
  have M2 := Lib.hid (fun w1 => rmay_c b true (mayD_yes b1) w1)
  by_cases h5 : 0 < b
  · have t1 : decide (9223372036854775807 - b < a) = false := decide_eq_false (by omega)
    go_enter Tryz.func64, Tryz.ntmps64
    go_wp2_with (go_at_call 41; first | ((with_reducible refine (M1.out _).mono ?_); rintro e w' ⟨rfl, rfl⟩) | ((with_reducible refine (M2.out _).mono ?_); rintro e w' ⟨rfl, rfl⟩))
    exact bodyPost_ret (v := .agg #[.int .i64 (a + b), .bool true]) (by simp [results, Tryz.results64, go_sem]) rfl ⟨rfl, below1 _ _⟩
  · by_cases h6 : b < 0
    · have t1 : decide (a < -9223372036854775807 - b) = false := decide_eq_false (by omega)
      go_enter Tryz.func64, Tryz.ntmps64
      go_wp2_with (go_at_call 41; first | ((with_reducible refine (M1.out _).mono ?_); rintro e w' ⟨rfl, rfl⟩) | ((with_reducible refine (M2.out _).mono ?_); rintro e w' ⟨rfl, rfl⟩))
      exact bodyPost_ret (v := .agg #[.int .i64 (a + b), .bool true]) (by simp [results, Tryz.results64, go_sem]) rfl ⟨rfl, below1 _ _⟩
    · obtain rfl : b = 0 := by omega
      go_enter Tryz.func64, Tryz.ntmps64
      go_wp2_with (go_at_call 41; first | ((with_reducible refine (M1.out _).mono ?_); rintro e w' ⟨rfl, rfl⟩) | ((with_reducible refine (M2.out _).mono ?_); rintro e w' ⟨rfl, rfl⟩))
      exact bodyPost_ret (v := .agg #[.int .i64 (a + 0), .bool true]) (by simp [results, Tryz.results64, go_sem]) rfl ⟨rfl, below1 _ _⟩
set_option maxRecDepth 100000 in
set_option maxHeartbeats 400000 in
theorem radd_over (a b : Int) (a1 : -9223372036854775807 ≤ a) (a2 : a ≤ 9223372036854775807) (b1 : -9223372036854775807 ≤ b) (b2 : b ≤ 9223372036854775807) (h : 9223372036854775807 < a + b) (w : World) :
    Calls Tryz.prog 64 #[.int .i64 a, .int .i64 b] w (GotIs 0 false w) := by
  have M1 := Lib.hid (fun w1 => rmay_c a true (mayD_yes a1) w1)
  have M2 := Lib.hid (fun w1 => rmay_c b true (mayD_yes b1) w1)
  have h5 : 0 < b := by omega
  have t1 : decide (9223372036854775807 - b < a) = true := decide_eq_true (by omega)
  go_enter Tryz.func64, Tryz.ntmps64
  go_wp2_with (go_at_call 41; first | ((with_reducible refine (M1.out _).mono ?_); rintro e w' ⟨rfl, rfl⟩) | ((with_reducible refine (M2.out _).mono ?_); rintro e w' ⟨rfl, rfl⟩))
  exact bodyPost_ret (v := .agg #[.int .i64 0, .bool false]) (by simp [results, Tryz.results64, go_sem]) rfl ⟨rfl, below1 _ _⟩
set_option maxRecDepth 100000 in
set_option maxHeartbeats 400000 in
theorem radd_under (a b : Int) (a1 : -9223372036854775807 ≤ a) (a2 : a ≤ 9223372036854775807) (b1 : -9223372036854775807 ≤ b) (b2 : b ≤ 9223372036854775807) (h : a + b < -9223372036854775807) (w : World) :
    Calls Tryz.prog 64 #[.int .i64 a, .int .i64 b] w (GotIs 0 false w) := by
  have M1 := Lib.hid (fun w1 => rmay_c a true (mayD_yes a1) w1)
  have M2 := Lib.hid (fun w1 => rmay_c b true (mayD_yes b1) w1)
  have h5 : b < 0 := by omega
  have t1 : decide (a < -9223372036854775807 - b) = true := decide_eq_true (by omega)
  go_enter Tryz.func64, Tryz.ntmps64
  go_wp2_with (go_at_call 41; first | ((with_reducible refine (M1.out _).mono ?_); rintro e w' ⟨rfl, rfl⟩) | ((with_reducible refine (M2.out _).mono ?_); rintro e w' ⟨rfl, rfl⟩))
  exact bodyPost_ret (v := .agg #[.int .i64 0, .bool false]) (by simp [results, Tryz.results64, go_sem]) rfl ⟨rfl, below1 _ _⟩
set_option maxRecDepth 100000 in
set_option maxHeartbeats 400000 in
theorem radd_none (a b : Int) (h : a < -9223372036854775807 ∨ b < -9223372036854775807) (w : World) :
    Calls Tryz.prog 64 #[.int .i64 a, .int .i64 b] w (GotIs 0 false w) := by
  by_cases ha : a < -9223372036854775807
  · have M1 := Lib.hid (fun w1 => rmay_c a false (mayD_no ha) w1)
    clear h
    go_enter Tryz.func64, Tryz.ntmps64
    go_wp2_with (go_at_call 41; (with_reducible refine (M1.out _).mono ?_); rintro e w' ⟨rfl, rfl⟩)
    exact bodyPost_ret (v := .agg #[.int .i64 0, .bool false]) (by simp [results, Tryz.results64, go_sem]) rfl ⟨rfl, below1 _ _⟩
  · have M1 := Lib.hid (fun w1 => rmay_c a true (mayD_yes (by omega)) w1)
    have M2 := Lib.hid (fun w1 => rmay_c b false (mayD_no (by omega)) w1)
    clear h
    go_enter Tryz.func64, Tryz.ntmps64
    go_wp2_with (go_at_call 41; first | ((with_reducible refine (M1.out _).mono ?_); rintro e w' ⟨rfl, rfl⟩) | ((with_reducible refine (M2.out _).mono ?_); rintro e w' ⟨rfl, rfl⟩))
    exact bodyPost_ret (v := .agg #[.int .i64 0, .bool false]) (by simp [results, Tryz.results64, go_sem]) rfl ⟨rfl, below1 _ _⟩
theorem radd_c (a b : Int) (a2 : a ≤ 9223372036854775807) (b2 : b ≤ 9223372036854775807) (n : Int) (k : Bool) (h : addD a b = (n, k)) (w : World) :
    Calls Tryz.prog 64 #[.int .i64 a, .int .i64 b] w (GotIs n k w) := by
  by_cases ha : a < -9223372036854775807
  · obtain ⟨rfl, rfl⟩ := Prod.mk.inj ((addD_a ha).symm.trans h); exact radd_none a b (.inl ha) w
  by_cases hb : b < -9223372036854775807
  · obtain ⟨rfl, rfl⟩ := Prod.mk.inj ((addD_b hb).symm.trans h); exact radd_none a b (.inr hb) w
  by_cases hu : a + b < -9223372036854775807
  · obtain ⟨rfl, rfl⟩ := Prod.mk.inj ((addD_out (.inl hu)).symm.trans h); exact radd_under a b (by omega) a2 (by omega) b2 hu w
  by_cases ho : 9223372036854775807 < a + b
  · obtain ⟨rfl, rfl⟩ := Prod.mk.inj ((addD_out (.inr ho)).symm.trans h); exact radd_over a b (by omega) a2 (by omega) b2 ho w
  · obtain ⟨rfl, rfl⟩ := Prod.mk.inj ((addD_in (by omega) (by omega) (by omega) (by omega)).symm.trans h); exact radd_in a b (by omega) a2 (by omega) b2 (by omega) (by omega) w
end Go.Proofs.YtmoednmgmmgjeaaGreatDoor.Dec

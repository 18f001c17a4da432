/- What the reference's May, Abs, Add, Times on decimals answer: for every number of 64 bits.
   What the reference's Times answers: products by halves: for every two numbers of 64 bits. -/
import Derived.BigRegion
import Derived.BigQuiet
import Derived.Deep.QuietTactic
import Derived.Test.YtbjomidkeignjaaGreatDoorDecLeaf
namespace Go.Proofs.YtbjomidkeignjaaGreatDoor.Dec
open Go.RowKit Kit

/-- a decimal, or that there is none, as the reference tells it -/
def GotIs (n : Int) (k : Bool) (w : World) : Ending → World → Prop := fun e w' => e = .returned (.agg #[.int .i64 n, .bool k]) ∧ Below w.heap.size w w'
set_option maxRecDepth 100000 in
set_option maxHeartbeats 400000 in
theorem rmay_c (x : Int) (b : Bool) (hb : mayD x = b) (w : World) : Calls Tryz.prog 34 #[.int .i64 x] w fun e w' => e = .returned (.bool b) ∧ w = w' := by
  have HB := Lib.hid hb
  clear hb
  go_enter Tryz.func34, Tryz.ntmps34
  go_wp2
  go_ret
  exact ⟨ret_bool (by rw [← HB.out]; rfl), rfl⟩
set_option maxRecDepth 100000 in
set_option maxHeartbeats 400000 in
theorem rabs_c (x : Int) (h1 : -9223372036854775807 ≤ x) (h2 : x ≤ 9223372036854775807) (w : World) : Calls Tryz.prog 94 #[.int .i64 x] w fun e w' => e = .returned (.int .u64 (x.natAbs : Int)) ∧ w = w' := by
  by_cases h : x < 0
  · go_enter Tryz.func94, Tryz.ntmps94
    go_wp2
    go_ret
    exact ⟨ret_u64 (by omega), rfl⟩
  · go_enter Tryz.func94, Tryz.ntmps94
    go_wp2
    go_ret
    exact ⟨ret_u64 (by omega), rfl⟩
set_option maxRecDepth 100000 in
set_option maxHeartbeats 400000 in
theorem radd_in (a b : Int) (a1 : -9223372036854775807 ≤ a) (a2 : a ≤ 9223372036854775807) (b1 : -9223372036854775807 ≤ b) (b2 : b ≤ 9223372036854775807) (h3 : -9223372036854775807 ≤ a + b) (h4 : a + b ≤ 9223372036854775807) (w : World) :
    Calls Tryz.prog 57 #[.int .i64 a, .int .i64 b] w (GotIs (a + b) true w) := by
  have M1 := Lib.hid (fun w1 => rmay_c a true (mayD_yes a1) w1)
  have M2 := Lib.hid (fun w1 => rmay_c b true (mayD_yes b1) w1)
  by_cases h5 : 0 < b
  · have t1 : decide (9223372036854775807 - b < a) = false := decide_eq_false (by omega)
    go_enter Tryz.func57, Tryz.ntmps57
    go_wp2_with (go_at_call 34; first | ((with_reducible refine (M1.out _).mono ?_); rintro e w' ⟨rfl, rfl⟩) | ((with_reducible refine (M2.out _).mono ?_); rintro e w' ⟨rfl, rfl⟩))
    exact bodyPost_ret (v := .agg #[.int .i64 (a + b), .bool true]) (by simp [results, Tryz.results57, go_sem]) rfl ⟨rfl, below1 _ _⟩
  · by_cases h6 : b < 0
    · have t1 : decide (a < -9223372036854775807 - b) = false := decide_eq_false (by omega)
      go_enter Tryz.func57, Tryz.ntmps57
      go_wp2_with (go_at_call 34; first | ((with_reducible refine (M1.out _).mono ?_); rintro e w' ⟨rfl, rfl⟩) | ((with_reducible refine (M2.out _).mono ?_); rintro e w' ⟨rfl, rfl⟩))
      exact bodyPost_ret (v := .agg #[.int .i64 (a + b), .bool true]) (by simp [results, Tryz.results57, go_sem]) rfl ⟨rfl, below1 _ _⟩
    · obtain rfl : b = 0 := by omega
      go_enter Tryz.func57, Tryz.ntmps57
      go_wp2_with (go_at_call 34; first | ((with_reducible refine (M1.out _).mono ?_); rintro e w' ⟨rfl, rfl⟩) | ((with_reducible refine (M2.out _).mono ?_); rintro e w' ⟨rfl, rfl⟩))
      exact bodyPost_ret (v := .agg #[.int .i64 (a + 0), .bool true]) (by simp [results, Tryz.results57, go_sem]) rfl ⟨rfl, below1 _ _⟩
set_option maxRecDepth 100000 in
set_option maxHeartbeats 400000 in
theorem radd_over (a b : Int) (a1 : -9223372036854775807 ≤ a) (a2 : a ≤ 9223372036854775807) (b1 : -9223372036854775807 ≤ b) (b2 : b ≤ 9223372036854775807) (h : 9223372036854775807 < a + b) (w : World) :
    Calls Tryz.prog 57 #[.int .i64 a, .int .i64 b] w (GotIs 0 false w) := by
  have M1 := Lib.hid (fun w1 => rmay_c a true (mayD_yes a1) w1)
  have M2 := Lib.hid (fun w1 => rmay_c b true (mayD_yes b1) w1)
  have h5 : 0 < b := by omega
  have t1 : decide (9223372036854775807 - b < a) = true := decide_eq_true (by omega)
  go_enter Tryz.func57, Tryz.ntmps57
  go_wp2_with (go_at_call 34; first | ((with_reducible refine (M1.out _).mono ?_); rintro e w' ⟨rfl, rfl⟩) | ((with_reducible refine (M2.out _).mono ?_); rintro e w' ⟨rfl, rfl⟩))
  exact bodyPost_ret (v := .agg #[.int .i64 0, .bool false]) (by simp [results, Tryz.results57, go_sem]) rfl ⟨rfl, below1 _ _⟩
set_option maxRecDepth 100000 in
set_option maxHeartbeats 400000 in
theorem radd_under (a b : Int) (a1 : -9223372036854775807 ≤ a) (a2 : a ≤ 9223372036854775807) (b1 : -9223372036854775807 ≤ b) (b2 : b ≤ 9223372036854775807) (h : a + b < -9223372036854775807) (w : World) :
    Calls Tryz.prog 57 #[.int .i64 a, .int .i64 b] w (GotIs 0 false w) := by
  have M1 := Lib.hid (fun w1 => rmay_c a true (mayD_yes a1) w1)
  have M2 := Lib.hid (fun w1 => rmay_c b true (mayD_yes b1) w1)
  have h5 : b < 0 := by omega
  have t1 : decide (a < -9223372036854775807 - b) = true := decide_eq_true (by omega)
  go_enter Tryz.func57, Tryz.ntmps57
  go_wp2_with (go_at_call 34; first | ((with_reducible refine (M1.out _).mono ?_); rintro e w' ⟨rfl, rfl⟩) | ((with_reducible refine (M2.out _).mono ?_); rintro e w' ⟨rfl, rfl⟩))
  exact bodyPost_ret (v := .agg #[.int .i64 0, .bool false]) (by simp [results, Tryz.results57, go_sem]) rfl ⟨rfl, below1 _ _⟩
set_option maxRecDepth 100000 in
set_option maxHeartbeats 400000 in
theorem radd_none (a b : Int) (h : a < -9223372036854775807 ∨ b < -9223372036854775807) (w : World) :
    Calls Tryz.prog 57 #[.int .i64 a, .int .i64 b] w (GotIs 0 false w) := by
  by_cases ha : a < -9223372036854775807
  · have M1 := Lib.hid (fun w1 => rmay_c a false (mayD_no ha) w1)
    clear h
    go_enter Tryz.func57, Tryz.ntmps57
    go_wp2_with (go_at_call 34; (with_reducible refine (M1.out _).mono ?_); rintro e w' ⟨rfl, rfl⟩)
    exact bodyPost_ret (v := .agg #[.int .i64 0, .bool false]) (by simp [results, Tryz.results57, go_sem]) rfl ⟨rfl, below1 _ _⟩
  · have M1 := Lib.hid (fun w1 => rmay_c a true (mayD_yes (by omega)) w1)
    have M2 := Lib.hid (fun w1 => rmay_c b false (mayD_no (by omega)) w1)
    clear h
    go_enter Tryz.func57, Tryz.ntmps57
    go_wp2_with (go_at_call 34; first | ((with_reducible refine (M1.out _).mono ?_); rintro e w' ⟨rfl, rfl⟩) | ((with_reducible refine (M2.out _).mono ?_); rintro e w' ⟨rfl, rfl⟩))
    exact bodyPost_ret (v := .agg #[.int .i64 0, .bool false]) (by simp [results, Tryz.results57, go_sem]) rfl ⟨rfl, below1 _ _⟩
theorem radd_c (a b : Int) (a2 : a ≤ 9223372036854775807) (b2 : b ≤ 9223372036854775807) (n : Int) (k : Bool) (h : addD a b = (n, k)) (w : World) :
    Calls Tryz.prog 57 #[.int .i64 a, .int .i64 b] w (GotIs n k w) := by
  by_cases ha : a < -9223372036854775807
  · obtain ⟨rfl, rfl⟩ := Prod.mk.inj ((addD_a ha).symm.trans h); exact radd_none a b (.inl ha) w
  by_cases hb : b < -9223372036854775807
  · obtain ⟨rfl, rfl⟩ := Prod.mk.inj ((addD_b hb).symm.trans h); exact radd_none a b (.inr hb) w
  by_cases hu : a + b < -9223372036854775807
  · obtain ⟨rfl, rfl⟩ := Prod.mk.inj ((addD_out (.inl hu)).symm.trans h); exact radd_under a b (by omega) a2 (by omega) b2 hu w
  by_cases ho : 9223372036854775807 < a + b
  · obtain ⟨rfl, rfl⟩ := Prod.mk.inj ((addD_out (.inr ho)).symm.trans h); exact radd_over a b (by omega) a2 (by omega) b2 ho w
  · obtain ⟨rfl, rfl⟩ := Prod.mk.inj ((addD_in (by omega) (by omega) (by omega) (by omega)).symm.trans h); exact radd_in a b (by omega) a2 (by omega) b2 (by omega) (by omega) w
end Go.Proofs.YtbjomidkeignjaaGreatDoor.Dec
namespace Go.Proofs.YtbjomidkeignjaaGreatDoor.Dec
open Go.RowKit Kit Reg
set_option maxRecDepth 100000 in
set_option maxHeartbeats 1000000 in
theorem rtimes_c (a b H L : Nat) (ha : a < 18446744073709551616) (hb : b < 18446744073709551616) (hH : a * b / 18446744073709551616 = H) (hL : a * b % 18446744073709551616 = L) (w : World) :
    Calls Tryz.prog 96 #[.int .u64 a, .int .u64 b] w fun e w' => e = .returned (.agg #[.int .u64 H, .int .u64 L]) ∧ Below w.heap.size w w' := by
  obtain ⟨m1, m2, m3, m4, m5, m6⟩ := mul_halves a b ha hb
  rw [hH] at m5
  rw [hL] at m6
  have A1 : (a : Int) / 4294967296 = ((a / 4294967296 : Nat) : Int) := by simp
  have A0 : (a : Int) % 4294967296 = ((a % 4294967296 : Nat) : Int) := by simp
  have B1 : (b : Int) / 4294967296 = ((b / 4294967296 : Nat) : Int) := by simp
  have B0 : (b : Int) % 4294967296 = ((b % 4294967296 : Nat) : Int) := by simp
  have l1 : a / 4294967296 < 4294967296 := by omega
  have l2 : a % 4294967296 < 4294967296 := by omega
  have l3 : b / 4294967296 < 4294967296 := by omega
  have l4 : b % 4294967296 < 4294967296 := by omega
  generalize a / 4294967296 = a1 at *
  generalize a % 4294967296 = a0 at *
  generalize b / 4294967296 = b1 at *
  generalize b % 4294967296 = b0 at *
  have P1 : (a0 : Int) * (b0 : Int) = ((a0 * b0 : Nat) : Int) := by rw [Int.natCast_mul]
  have P2 : (a1 : Int) * (b0 : Int) = ((a1 * b0 : Nat) : Int) := by rw [Int.natCast_mul]
  have P3 : (a0 : Int) * (b1 : Int) = ((a0 * b1 : Nat) : Int) := by rw [Int.natCast_mul]
  have P4 : (a1 : Int) * (b1 : Int) = ((a1 * b1 : Nat) : Int) := by rw [Int.natCast_mul]
  have b1l := prod_lt l2 l4
  have b2l := prod_lt l1 l4
  have b3l := prod_lt l2 l3
  have b4l := prod_lt l1 l3
  generalize a0 * b0 = p1 at *
  generalize a1 * b0 = p2 at *
  generalize a0 * b1 = p3 at *
  generalize a1 * b1 = p4 at *
  have k1 : (p2 : Int) + (p1 : Int) / 4294967296 < 18446744073709551616 := by omega
  obtain ⟨x, hx⟩ : ∃ x, p2 + p1 / 4294967296 = x := ⟨_, rfl⟩
  have X : (p2 : Int) + (p1 : Int) / 4294967296 = (x : Int) := by omega
  rw [hx] at m2 m3 m4 m5 m6
  obtain ⟨y, hy⟩ : ∃ y, p3 + x % 4294967296 = y := ⟨_, rfl⟩
  have Y : (p3 : Int) + (x : Int) % 4294967296 = (y : Int) := by omega
  rw [hy] at m3 m4 m5 m6
  have HH : (p4 : Int) + (x : Int) / 4294967296 + (y : Int) / 4294967296 = (H : Int) := by omega
  have LL : (y : Int) % 4294967296 * 4294967296 + (p1 : Int) % 4294967296 = (L : Int) := by omega
  have HHl : (H : Int) < 18446744073709551616 := by omega
  have LLl : (L : Int) < 18446744073709551616 := by omega
  clear hx hy m5 m6 hH hL
  go_enter Tryz.func96, Tryz.ntmps96
  go_wp2
  go_quiet (fail)
  go_wp2
  go_quiet (fail)
  go_wp2
  go_quiet (fail)
  go_wp2
  generalize hwr : World.drewN _ _ = wr
  rw [World.drewN_drewN, World.drewN_drewN] at hwr
  obtain ⟨hc, hw⟩ := slot (cs := [.int .u64 0, .int .u64 0]) (ty := 115) (drew_below hwr.symm)
  obtain ⟨c0, c1, f0, f1⟩ := hc.two
  obtain ⟨e0, e1⟩ := two_set (u := .int .u64 H) (v := .int .u64 L) c0 c1
  clear hwr hc
  replace hw := Lib.hid hw
  replace e0 := Lib.hid e0
  replace e1 := Lib.hid e1
  go_region
  all_goals (try go_wp2)
  replace e0 := e0.out
  replace e1 := e1.out
  exact bodyPost_ret (v := .agg #[.int .u64 H, .int .u64 L]) (by simp [results, Tryz.results96, go_sem, e0, e1]) rfl ⟨rfl, on (set2 hw.out (Nat.le_refl _) _ _) (drew_below (n := 1) rfl)⟩
end Go.Proofs.YtbjomidkeignjaaGreatDoor.Dec

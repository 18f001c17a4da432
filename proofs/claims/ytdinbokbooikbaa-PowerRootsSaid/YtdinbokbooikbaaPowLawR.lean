/- PowerRoots, walked: a root's square is not above the decimal, and the next decimal's is; the root of a square is what was squared. -/
import Derived.Test.YtdinbokbooikbaaPowLawT
namespace Go.Proofs.Ytdinbokbooikbaa.Pow
open Go.RowKit Kit Dec Reg

theorem root_room {r x : Nat} (hr : RootOf r (x * 10000)) (hx : x ≤ 9223372036854775807) : r ≤ 549755813887 := by
  have h1 := hr.1
  have : r < 549755813888 := sq_mono (show r * r < 549755813888 * 549755813888 by omega)
  omega
set_option maxRecDepth 100000 in
/-- the square of a whole number -/
theorem square_power {d : Nat} (hd : d ≤ 54975581) (hs : d * d * 10000 ≤ 9223372036854775807) : powerD ((d * 10000 : Nat) : Int) 20000 = (((d * d * 10000 : Nat) : Int), true) := by
  have h1 : scaledD 10000 ((d * 10000 : Nat) : Int) 10000 = (((d * 10000 : Nat) : Int), true) := by
    have := scaledD_all (a := 10000) (b := d * 10000) (c := 10000) (k := d * 10000) (by omega) (by omega) (by omega) (by omega) (Nat.mul_comm _ _)
    rw [giveD_in (by omega) (by omega)] at this
    exact this
  have h2 : scaledD ((d * 10000 : Nat) : Int) ((d * 10000 : Nat) : Int) 10000 = (((d * d * 10000 : Nat) : Int), true) := by
    have := scaledD_all (a := d * 10000) (b := d * 10000) (c := 10000) (k := d * d * 10000) (by omega) (by omega) (by omega) (by omega) (by rw [Nat.mul_mul_mul_comm]; exact (Nat.mul_assoc _ _ _).symm)
    rw [giveD_in (by omega) (by omega)] at this
    exact this
  rw [powerD_up (mayD_yes (by omega)) (by decide) (by omega)]
  have hu : (unitsD 20000).natAbs = 2 := by decide
  rw [hu]
  exact mulsD_next (mulsD_next rfl h1) h2
theorem square_room {r x d : Nat} (hr : RootOf r (x * 10000)) (hd : r / 10000 = d) : d * d * 10000 ≤ x ∧ RootOf (d * 10000) (d * d * 10000 * 10000) := by
  have h1 := hr.1
  have h2 : d * 10000 ≤ r := by omega
  have h3 := Nat.mul_le_mul h2 h2
  rw [Nat.mul_mul_mul_comm] at h3
  have e : d * d * (10000 * 10000) = d * d * 10000 * 10000 := (Nat.mul_assoc _ _ _).symm
  rw [e] at h3
  refine ⟨?_, ?_, ?_⟩
  · exact Nat.le_of_mul_le_mul_right (Nat.le_trans h3 h1) (by decide)
  · rw [Nat.mul_mul_mul_comm, e]; exact Nat.le_refl _
  · have h5 : d * 10000 * (d * 10000) < (d * 10000 + 1) * (d * 10000 + 1) := Nat.mul_self_lt_mul_self (Nat.lt_succ_self _)
    rw [Nat.mul_mul_mul_comm d 10000 d 10000, e] at h5
    exact h5
set_option maxRecDepth 100000 in
set_option maxHeartbeats 1000000 in
theorem roots_low (x : Int) (h : x < 0) (w : World) :
    Calls Try.prog 4 #[.int .i64 x] w (LawEnd w) := by
  have C1 := Lib.hid (fun w1 => sqrt_low x h w1)
  go_enter Try.func4, Try.ntmps4
  go_wp2_with fail
  refine (C1.out _).mono ?_
  rintro e w0 ⟨rfl, hd0⟩
  have hw0 := drawn_below hd0
  clear hd0
  go_wp2_with fail
  refine (alive_c _).mono ?_
  rintro e w2 ⟨rfl, hd2⟩
  have hw2 := Lib.hid (on hw0 (drawn_below hd2))
  clear hd2 hw0
  go_wp2_with fail
  go_ret
  exact ⟨rfl, hw2.out⟩
set_option maxRecDepth 100000 in
set_option maxHeartbeats 1000000 in
theorem roots_some (x r d s : Nat) (x2 : x ≤ 9223372036854775807) (hr : RootOf r (x * 10000)) (hd : r / 10000 = d) (hs : d * d * 10000 = s) (w : World) :
    Calls Try.prog 4 #[.int .i64 x] w (LawEnd w) := by
  have r2 := root_room hr x2
  obtain ⟨q1, q2⟩ := square_room hr hd
  rw [hs] at q1 q2
  have d2 : d ≤ 54975581 := by omega
  have hp := square_power d2 (by omega)
  rw [hs] at hp
  have C1 := Lib.hid (fun w1 => sqrt_c x r x2 hr w1)
  have F1 := Lib.hid (fun w1 => fits_c r x (by omega) x2 true (decide_eq_true hr.1) w1)
  have F2 := Lib.hid (fun w1 => fits_c (r + 1) x (by omega) x2 false (decide_eq_false (by have := hr.2; omega)) w1)
  have P := Lib.hid (fun w1 => power_c ((d * 10000 : Nat) : Int) 20000 (by omega) (by omega) s true hp w1)
  have C2 := Lib.hid (fun w1 => sqrt_c s (d * 10000) (by omega) q2 w1)
  have hdi : (r : Int).tdiv 10000 = (d : Int) := by rw [Int.tdiv_eq_ediv_of_nonneg (by omega)]; omega
  rw [show ((r + 1 : Nat) : Int) = (r : Int) + 1 from rfl] at F2
  rw [show ((d * 10000 : Nat) : Int) = (d : Int) * 10000 by omega] at P C2
  clear hr hd hs q1 q2 hp
  go_enter Try.func4, Try.ntmps4
  go_wp2_with fail
  refine (C1.out _).mono ?_
  rintro e w0 ⟨rfl, hd0⟩
  have hw0 := drawn_below hd0
  clear hd0 C1
  go_wp2_with fail
  refine (F1.out _).mono ?_
  rintro e w1 ⟨rfl, hb1⟩
  have hw1 := on hw0 hb1
  clear hb1 hw0 F1
  go_wp2_with fail
  refine (F2.out _).mono ?_
  rintro e w2 ⟨rfl, hb2⟩
  have hw2 := on hw1 hb2
  clear hb2 hw1 F2
  go_wp2_with fail
  refine (P.out _).mono ?_
  rintro e w3 ⟨rfl, hd3⟩
  have hw3 := on hw2 (drawn_below hd3)
  clear hd3 hw2 P
  go_wp2_with fail
  refine (C2.out _).mono ?_
  rintro e w4 ⟨rfl, hd4⟩
  have hw4 := on hw3 (drawn_below hd4)
  clear hd4 hw3 C2
  go_wp2_with fail
  refine (alive_c _).mono ?_
  rintro e w5 ⟨rfl, hd5⟩
  have hw5 := Lib.hid (on hw4 (drawn_below hd5))
  clear hd5 hw4
  go_wp2_with fail
  go_ret
  exact ⟨rfl, hw5.out⟩
theorem roots_law (x : Int) (x2 : x ≤ 9223372036854775807) (w : World) :
    Calls Try.prog 4 #[.int .i64 x] w (LawEnd w) := by
  by_cases h : x < 0
  · exact roots_low x h w
  · obtain ⟨n, rfl⟩ : ∃ n : Nat, x = n := ⟨x.toNat, by omega⟩
    obtain ⟨r, hr⟩ := root_some (n * 10000)
    exact roots_some n r _ _ (by omega) hr rfl rfl w
end Go.Proofs.Ytdinbokbooikbaa.Pow

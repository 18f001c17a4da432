/- What the reference's Places, Mod, Quot answer. -/
import Derived.Test.YtdilnmobblkafaaRndRStep
namespace Go.Proofs.Ytdilnmobblkafaa.Rnd
open Go.RowKit Kit Dec Reg

set_option maxRecDepth 100000 in
set_option maxHeartbeats 400000 in
theorem rplaces_low (x p m : Int) (h : p < -14) (w : World) : Calls Try.prog 9 #[.int .i64 x, .int .i64 p, .int .i64 m] w (GotIs 0 false w) := by
  go_enter Try.func9, Try.ntmps9
  go_wp2
  exact bodyPost_ret (v := .agg #[.int .i64 0, .bool false]) (by simp [results, Try.results9, go_sem]) rfl ⟨rfl, below1 _ _⟩
set_option maxRecDepth 100000 in
set_option maxHeartbeats 400000 in
theorem rplaces_some (x p m : Int) (x2 : x ≤ 9223372036854775807) (h : -14 ≤ p) (p2 : p ≤ 9223372036854775807) (n : Int) (k : Bool) (hn : stepD x ((10 ^ (4 - p).toNat : Nat) : Int) m = (n, k)) (w : World) :
    Calls Try.prog 9 #[.int .i64 x, .int .i64 p, .int .i64 m] w (GotIs n k w) := by
  obtain ⟨c, hc⟩ : ∃ c, (4 - p).toNat = c := ⟨_, rfl⟩
  have hc18 : c ≤ 18 := by omega
  rw [hc] at hn
  obtain ⟨Q, hQ⟩ : ∃ Q, TenAt c Q := ⟨_, rfl⟩
  have S := Lib.hid (fun w1 => rstep_c x Q m x2 (by have := (hQ.room hc18).2; omega) n k (by rw [show Q = 10 ^ c from hQ]; exact hn) w1)
  replace hQ := Lib.hid hQ
  clear hn
  have H0 : Hid (TenAt 0 1) := Lib.hid rfl
  go_enter Try.func9, Try.ntmps9
  go_wp2
  go_loop [1, 7] (fun i q => ∃ j r : Nat, j ≤ c ∧ i = .int .i64 (p + j) ∧ Hid (TenAt j r) ∧ q = .int .i64 r) (fun i _ => c - (intOf i - p).toNat)
  case atStart => exact ⟨0, 1, by omega, by simp, H0, rfl⟩
  case round =>
    clear H0
    obtain ⟨j, r, hj, rfl, hr, rfl⟩ := hrel
    by_cases hlt : j < c
    · obtain ⟨r0, r1⟩ := hr.out.room (by omega)
      have r2 := (hr.out.next).room (by omega)
      have hn2 := Lib.hid hr.out.next
      have ht : decide (p + (j : Int) < 4) = true := decide_eq_true (by omega)
      go_wp2
      exact ⟨⟨j + 1, r * 10, by omega, by go_num, hn2, by go_num⟩, by simp [intOf]; omega⟩
    · obtain rfl : j = c := by omega
      obtain rfl : r = Q := by rw [show r = 10 ^ j from hr.out, show Q = 10 ^ j from hQ.out]
      obtain ⟨r0, r1⟩ := hr.out.room hc18
      have ht : decide (p + (j : Int) < 4) = false := decide_eq_false (by omega)
      go_wp2_with fail
      refine (S.out _).mono ?_
      rintro e w1 ⟨rfl, hb1⟩
      obtain ⟨hc2, hw⟩ := slot (cs := [.int .i64 0, .bool false]) (ty := 26) hb1
      obtain ⟨p0, p1, f0, f1⟩ := hc2.two
      obtain ⟨e0, e1⟩ := two_set (u := .int .i64 n) (v := .bool k) p0 p1
      have hw3 := Lib.hid hw
      replace e0 := Lib.hid e0
      replace e1 := Lib.hid e1
      have hlt2 := hc2.1
      clear hb1 hc2 hw
      go_wp2_with fail
      exact bodyPost_ret (v := .agg #[.int .i64 n, .bool k]) (by simp [results, Try.results9, go_sem, e0.out, e1.out]) rfl ⟨rfl, set2 hw3.out (Nat.le_refl _) _ _⟩
theorem rplaces_c (x p m : Int) (x2 : x ≤ 9223372036854775807) (p2 : p ≤ 9223372036854775807) (n : Int) (k : Bool) (hn : placesD x p m = (n, k)) (w : World) :
    Calls Try.prog 9 #[.int .i64 x, .int .i64 p, .int .i64 m] w (GotIs n k w) := by
  unfold placesD at hn
  by_cases h : p < -14
  · rw [if_pos h] at hn
    obtain ⟨rfl, rfl⟩ := Prod.mk.inj hn
    exact rplaces_low x p m h w
  · rw [if_neg h] at hn
    exact rplaces_some x p m x2 (by omega) p2 n k hn w

set_option maxRecDepth 100000 in
set_option maxHeartbeats 400000 in
theorem rmod_none (a b : Int) (h : a < -9223372036854775807 ∨ b < -9223372036854775807 ∨ b = 0) (w : World) :
    Calls Try.prog 14 #[.int .i64 a, .int .i64 b] w (GotIs 0 false w) := by
  by_cases h3 : b = 0
  · subst h3
    clear h
    go_enter Try.func14, Try.ntmps14
    go_wp2
    exact bodyPost_ret (v := .agg #[.int .i64 0, .bool false]) (by simp [results, Try.results14, go_sem]) rfl ⟨rfl, below1 _ _⟩
  have hz2 : (b == 0) = false := by simpa using h3
  by_cases h1 : a < -9223372036854775807
  · have M := Lib.hid (fun w1 => rmay_c a false (mayD_no h1) w1)
    clear h
    go_enter Try.func14, Try.ntmps14
    go_wp2_with (go_at_call 24; refine (M.out _).mono ?_; rintro e w' ⟨rfl, rfl⟩)
    exact bodyPost_ret (v := .agg #[.int .i64 0, .bool false]) (by simp [results, Try.results14, go_sem]) rfl ⟨rfl, below1 _ _⟩
  have M := Lib.hid (fun w1 => rmay_c a true (mayD_yes (by omega)) w1)
  have M2 := Lib.hid (fun w1 => rmay_c b false (mayD_no (by omega)) w1)
  clear h
  go_enter Try.func14, Try.ntmps14
  go_wp2_with (go_at_call 24; first | ((with_reducible refine (M.out _).mono ?_); rintro e w' ⟨rfl, rfl⟩) | ((with_reducible refine (M2.out _).mono ?_); rintro e w' ⟨rfl, rfl⟩))
  exact bodyPost_ret (v := .agg #[.int .i64 0, .bool false]) (by simp [results, Try.results14, go_sem]) rfl ⟨rfl, below1 _ _⟩
set_option maxRecDepth 100000 in
set_option maxHeartbeats 400000 in
theorem rmod_some (a b : Int) (a1 : -9223372036854775807 ≤ a) (a2 : a ≤ 9223372036854775807) (b1 : -9223372036854775807 ≤ b) (b2 : b ≤ 9223372036854775807) (b0 : b ≠ 0) (w : World) :
    Calls Try.prog 14 #[.int .i64 a, .int .i64 b] w (GotIs (modI a b) true w) := by
  have M := Lib.hid (fun w1 => rmay_c a true (mayD_yes a1) w1)
  have M2 := Lib.hid (fun w1 => rmay_c b true (mayD_yes b1) w1)
  obtain ⟨_, ⟨t1, t2⟩, t3⟩ := cut_any b0 a1 a2
  have hz2 : (b == 0) = false := by simpa using b0
  unfold modI
  obtain ⟨t, ht⟩ : ∃ t, a.tmod b = t := ⟨_, rfl⟩
  rw [ht] at t1 t2 t3 ⊢
  have hcase : ((t < 0 ∧ 0 < b) ∧ -9223372036854775808 ≤ t + b ∧ t + b ≤ 9223372036854775807) ∨ ((0 < t ∧ b < 0) ∧ -9223372036854775808 ≤ t + b ∧ t + b ≤ 9223372036854775807) ∨ (0 ≤ t ∧ 0 < b) ∨ (t ≤ 0 ∧ b < 0) := by omega
  clear t3
  rcases hcase with ⟨⟨h1, h2⟩, h3⟩ | ⟨⟨h1, h2⟩, h3⟩ | ⟨h1, h2⟩ | ⟨h1, h2⟩
  · rw [if_pos (by omega)]
    go_enter Try.func14, Try.ntmps14
    go_wp2_with (go_at_call 24; first | ((with_reducible refine (M.out _).mono ?_); rintro e w' ⟨rfl, rfl⟩) | ((with_reducible refine (M2.out _).mono ?_); rintro e w' ⟨rfl, rfl⟩))
    exact bodyPost_ret (v := .agg #[.int .i64 (t + b), .bool true]) (by simp [results, Try.results14, go_sem]) rfl ⟨rfl, below1 _ _⟩
  · rw [if_pos (by omega)]
    go_enter Try.func14, Try.ntmps14
    go_wp2_with (go_at_call 24; first | ((with_reducible refine (M.out _).mono ?_); rintro e w' ⟨rfl, rfl⟩) | ((with_reducible refine (M2.out _).mono ?_); rintro e w' ⟨rfl, rfl⟩))
    exact bodyPost_ret (v := .agg #[.int .i64 (t + b), .bool true]) (by simp [results, Try.results14, go_sem]) rfl ⟨rfl, below1 _ _⟩
  · rw [if_neg (by omega)]
    go_enter Try.func14, Try.ntmps14
    go_wp2_with (go_at_call 24; first | ((with_reducible refine (M.out _).mono ?_); rintro e w' ⟨rfl, rfl⟩) | ((with_reducible refine (M2.out _).mono ?_); rintro e w' ⟨rfl, rfl⟩))
    exact bodyPost_ret (v := .agg #[.int .i64 t, .bool true]) (by simp [results, Try.results14, go_sem]) rfl ⟨rfl, below1 _ _⟩
  · rw [if_neg (by omega)]
    go_enter Try.func14, Try.ntmps14
    go_wp2_with (go_at_call 24; first | ((with_reducible refine (M.out _).mono ?_); rintro e w' ⟨rfl, rfl⟩) | ((with_reducible refine (M2.out _).mono ?_); rintro e w' ⟨rfl, rfl⟩))
    exact bodyPost_ret (v := .agg #[.int .i64 t, .bool true]) (by simp [results, Try.results14, go_sem]) rfl ⟨rfl, below1 _ _⟩
theorem rmod_c (a b : Int) (a2 : a ≤ 9223372036854775807) (b2 : b ≤ 9223372036854775807) (n : Int) (k : Bool) (hn : modD a b = (n, k)) (w : World) :
    Calls Try.prog 14 #[.int .i64 a, .int .i64 b] w (GotIs n k w) := by
  unfold modD at hn
  by_cases h : a < -9223372036854775807 ∨ b < -9223372036854775807 ∨ b = 0
  · rw [bothD_no h] at hn
    obtain ⟨rfl, rfl⟩ := Prod.mk.inj hn
    exact rmod_none a b h w
  · rw [bothD_yes (by omega) (by omega) (by omega)] at hn
    obtain ⟨rfl, rfl⟩ := Prod.mk.inj hn
    exact rmod_some a b (by omega) a2 (by omega) b2 (by omega) w

set_option maxRecDepth 100000 in
set_option maxHeartbeats 400000 in
theorem rquot_none (a b : Int) (h : a < -9223372036854775807 ∨ b < -9223372036854775807 ∨ b = 0) (w : World) :
    Calls Try.prog 16 #[.int .i64 a, .int .i64 b] w (GotIs 0 false w) := by
  by_cases h3 : b = 0
  · subst h3
    clear h
    go_enter Try.func16, Try.ntmps16
    go_wp2
    exact bodyPost_ret (v := .agg #[.int .i64 0, .bool false]) (by simp [results, Try.results16, go_sem]) rfl ⟨rfl, below1 _ _⟩
  have hz2 : (b == 0) = false := by simpa using h3
  by_cases h1 : a < -9223372036854775807
  · have M := Lib.hid (fun w1 => rmay_c a false (mayD_no h1) w1)
    clear h
    go_enter Try.func16, Try.ntmps16
    go_wp2_with (go_at_call 24; refine (M.out _).mono ?_; rintro e w' ⟨rfl, rfl⟩)
    exact bodyPost_ret (v := .agg #[.int .i64 0, .bool false]) (by simp [results, Try.results16, go_sem]) rfl ⟨rfl, below1 _ _⟩
  have M := Lib.hid (fun w1 => rmay_c a true (mayD_yes (by omega)) w1)
  have M2 := Lib.hid (fun w1 => rmay_c b false (mayD_no (by omega)) w1)
  clear h
  go_enter Try.func16, Try.ntmps16
  go_wp2_with (go_at_call 24; first | ((with_reducible refine (M.out _).mono ?_); rintro e w' ⟨rfl, rfl⟩) | ((with_reducible refine (M2.out _).mono ?_); rintro e w' ⟨rfl, rfl⟩))
  exact bodyPost_ret (v := .agg #[.int .i64 0, .bool false]) (by simp [results, Try.results16, go_sem]) rfl ⟨rfl, below1 _ _⟩
set_option maxRecDepth 100000 in
set_option maxHeartbeats 400000 in
theorem rquot_some (a b : Int) (a1 : -9223372036854775807 ≤ a) (a2 : a ≤ 9223372036854775807) (b1 : -9223372036854775807 ≤ b) (b0 : b ≠ 0) (n : Int) (k : Bool) (hn : scaledD (a.tdiv b) 10000 1 = (n, k)) (w : World) :
    Calls Try.prog 16 #[.int .i64 a, .int .i64 b] w (GotIs n k w) := by
  have M := Lib.hid (fun w1 => rmay_c a true (mayD_yes a1) w1)
  have M2 := Lib.hid (fun w1 => rmay_c b true (mayD_yes b1) w1)
  obtain ⟨⟨t1, t2⟩, _, _⟩ := cut_any b0 a1 a2
  have hz2 : (b == 0) = false := by simpa using b0
  obtain ⟨t, ht⟩ : ∃ t, a.tdiv b = t := ⟨_, rfl⟩
  rw [ht] at t1 t2 hn
  have T := Lib.hid (fun w1 => times_c t 10000 t2 (by omega) n k hn w1)
  clear hn
  go_enter Try.func16, Try.ntmps16
  go_wp2_with (go_at_call 24; first | ((with_reducible refine (M.out _).mono ?_); rintro e w' ⟨rfl, rfl⟩) | ((with_reducible refine (M2.out _).mono ?_); rintro e w' ⟨rfl, rfl⟩))
  refine (T.out _).mono ?_
  rintro e w1 ⟨rfl, hb1⟩
  obtain ⟨hc, hw⟩ := slot (cs := [.int .i64 0, .bool false]) (ty := 26) hb1
  obtain ⟨p0, p1, f0, f1⟩ := hc.two
  obtain ⟨e0, e1⟩ := two_set (u := .int .i64 n) (v := .bool k) p0 p1
  have hw3 := Lib.hid hw
  replace e0 := Lib.hid e0
  replace e1 := Lib.hid e1
  have hlt := hc.1
  clear hb1 hc hw
  go_wp2_with fail
  exact bodyPost_ret (v := .agg #[.int .i64 n, .bool k]) (by simp [results, Try.results16, go_sem, e0.out, e1.out]) rfl ⟨rfl, set2 hw3.out (Nat.le_refl _) _ _⟩
theorem rquot_c (a b : Int) (a2 : a ≤ 9223372036854775807) (n : Int) (k : Bool) (hn : quotD a b = (n, k)) (w : World) :
    Calls Try.prog 16 #[.int .i64 a, .int .i64 b] w (GotIs n k w) := by
  unfold quotD at hn
  by_cases h : a < -9223372036854775807 ∨ b < -9223372036854775807 ∨ b = 0
  · rw [bothD_no h] at hn
    obtain ⟨rfl, rfl⟩ := Prod.mk.inj hn
    exact rquot_none a b h w
  · rw [bothD_yes (by omega) (by omega) (by omega)] at hn
    exact rquot_some a b (by omega) a2 (by omega) (by omega) n k hn w
end Go.Proofs.Ytdilnmobblkafaa.Rnd

/- What the reference's Scaled, Mul, Div answer: for every number of 64 bits. -/
import Derived.Test.YtmoednmgmmgjeaaGreatDoorDecDivide
import Derived.Test.YtmoednmgmmgjeaaGreatDoorDecScale
namespace Go.Proofs.YtmoednmgmmgjeaaGreatDoor.Dec
open Go.RowKit Kit Reg

set_option maxRecDepth 100000 in
set_option maxHeartbeats 400000 in
theorem rscaled_none (a b c : Int) (h : a < -9223372036854775807 ∨ b < -9223372036854775807 ∨ c < -9223372036854775807 ∨ c = 0) (w : World) :
    Calls Tryz.prog 63 #[.int .i64 a, .int .i64 b, .int .i64 c] w (GotIs 0 false w) := by
  by_cases h1 : a < -9223372036854775807
  · have M := Lib.hid (fun w1 => rmay_c a false (mayD_no h1) w1)
    clear h
    go_enter Tryz.func63, Tryz.ntmps63
    go_wp2_with (go_at_call 41; (with_reducible refine (M.out _).mono ?_); rintro e w' ⟨rfl, rfl⟩)
    exact bodyPost_ret (v := .agg #[.int .i64 0, .bool false]) (by simp [results, Tryz.results63, go_sem]) rfl ⟨rfl, below1 _ _⟩
  have M := Lib.hid (fun w1 => rmay_c a true (mayD_yes (by omega)) w1)
  by_cases h2 : b < -9223372036854775807
  · have M2 := Lib.hid (fun w1 => rmay_c b false (mayD_no h2) w1)
    clear h
    go_enter Tryz.func63, Tryz.ntmps63
    go_wp2_with (go_at_call 41; first | ((with_reducible refine (M.out _).mono ?_); rintro e w' ⟨rfl, rfl⟩) | ((with_reducible refine (M2.out _).mono ?_); rintro e w' ⟨rfl, rfl⟩))
    exact bodyPost_ret (v := .agg #[.int .i64 0, .bool false]) (by simp [results, Tryz.results63, go_sem]) rfl ⟨rfl, below1 _ _⟩
  have M2 := Lib.hid (fun w1 => rmay_c b true (mayD_yes (by omega)) w1)
  by_cases h3 : c < -9223372036854775807
  · have M3 := Lib.hid (fun w1 => rmay_c c false (mayD_no h3) w1)
    clear h
    go_enter Tryz.func63, Tryz.ntmps63
    go_wp2_with (go_at_call 41; first | ((with_reducible refine (M.out _).mono ?_); rintro e w' ⟨rfl, rfl⟩) | ((with_reducible refine (M2.out _).mono ?_); rintro e w' ⟨rfl, rfl⟩) | ((with_reducible refine (M3.out _).mono ?_); rintro e w' ⟨rfl, rfl⟩))
    exact bodyPost_ret (v := .agg #[.int .i64 0, .bool false]) (by simp [results, Tryz.results63, go_sem]) rfl ⟨rfl, below1 _ _⟩
  have M3 := Lib.hid (fun w1 => rmay_c c true (mayD_yes (by omega)) w1)
  obtain rfl : c = 0 := by omega
  clear h
  go_enter Tryz.func63, Tryz.ntmps63
  go_wp2_with (go_at_call 41; first | ((with_reducible refine (M.out _).mono ?_); rintro e w' ⟨rfl, rfl⟩) | ((with_reducible refine (M2.out _).mono ?_); rintro e w' ⟨rfl, rfl⟩) | ((with_reducible refine (M3.out _).mono ?_); rintro e w' ⟨rfl, rfl⟩))
  exact bodyPost_ret (v := .agg #[.int .i64 0, .bool false]) (by simp [results, Tryz.results63, go_sem]) rfl ⟨rfl, below1 _ _⟩

set_option maxRecDepth 100000 in
set_option maxHeartbeats 1000000 in
theorem rscaled_may (a b c : Int) (a1 : -9223372036854775807 ≤ a) (a2 : a ≤ 9223372036854775807) (b1 : -9223372036854775807 ≤ b) (b2 : b ≤ 9223372036854775807) (c1 : -9223372036854775807 ≤ c) (c2 : c ≤ 9223372036854775807) (c0 : c ≠ 0)
    (n : Int) (k : Bool) (hn : scaledD a b c = (n, k)) (w : World) :
    Calls Tryz.prog 63 #[.int .i64 a, .int .i64 b, .int .i64 c] w (GotIs n k w) := by
  have M := Lib.hid (fun w1 => rmay_c a true (mayD_yes a1) w1)
  have M2 := Lib.hid (fun w1 => rmay_c b true (mayD_yes b1) w1)
  have M3 := Lib.hid (fun w1 => rmay_c c true (mayD_yes c1) w1)
  obtain ⟨x, hx⟩ : ∃ x, a.natAbs = x := ⟨_, rfl⟩
  obtain ⟨y, hy⟩ : ∃ y, b.natAbs = y := ⟨_, rfl⟩
  obtain ⟨z, hz⟩ : ∃ z, c.natAbs = z := ⟨_, rfl⟩
  have S := Lib.hid (fun w1 => rabs_c a a1 a2 w1)
  have S2 := Lib.hid (fun w1 => rabs_c b b1 b2 w1)
  have S3 := Lib.hid (fun w1 => rabs_c c c1 c2 w1)
  rw [hx] at S; rw [hy] at S2; rw [hz] at S3
  have hc0 : (c == 0) = false := by simpa using c0
  have hz0 : 0 < z := by omega
  have hzl : z ≤ 9223372036854775807 := by omega
  obtain ⟨N, hN⟩ : ∃ N, x * y = N := ⟨_, rfl⟩
  obtain ⟨H, hH⟩ : ∃ H, N / 18446744073709551616 = H := ⟨_, rfl⟩
  obtain ⟨L, hL⟩ : ∃ L, N % 18446744073709551616 = L := ⟨_, rfl⟩
  have hNl : x * y < 18446744073709551616 * 18446744073709551616 := Nat.mul_lt_mul'' (by omega) (by omega)
  have T := Lib.hid (fun w1 => rtimes_c x y H L (by omega) (by omega) (by rw [hN]; exact hH) (by rw [hN]; exact hL) w1)
  have D := Lib.hid (fun w1 => rdivide_c H L N z (by rw [← hH, Nat.div_lt_iff_lt_mul (by omega), ← hN]; exact hNl) (by rw [← hL]; exact Nat.mod_lt _ (by omega)) (by rw [← hH, ← hL]; exact Nat.div_add_mod' _ _) hz0 (by omega) w1)
  have hNe : a.natAbs * b.natAbs = N := by rw [hx, hy, hN]
  obtain ⟨q, hq⟩ : ∃ q, N / z = q := ⟨_, rfl⟩
  obtain ⟨r, hr⟩ : ∃ r, N % z = r := ⟨_, rfl⟩
  have hrz : r < z := by rw [← hr]; exact Nat.mod_lt _ hz0
  have hge : q ≤ roundN N z := by rw [← hq]; exact roundN_ge N z
  rw [hq, hr] at D
  clear hNl hH hL
  by_cases hbig : 18446744073709551616 ≤ q
  · obtain ⟨rfl, rfl⟩ := Prod.mk.inj ((scaledD_out (by rw [hNe, hz]; omega)).symm.trans hn)
    rw [decide_eq_false (by omega)] at D
    obtain ⟨q0, hq0⟩ : ∃ q0, q % 18446744073709551616 = q0 := ⟨_, rfl⟩
    rw [hq0] at D
    clear hbig hq0 hq hr hge hn hNe hN hx hy hz c0
    go_enter Tryz.func63, Tryz.ntmps63
    go_wp2_with (first
      | (go_at_call 41; first | ((with_reducible refine (M.out _).mono ?_); rintro e w' ⟨rfl, rfl⟩) | ((with_reducible refine (M2.out _).mono ?_); rintro e w' ⟨rfl, rfl⟩) | ((with_reducible refine (M3.out _).mono ?_); rintro e w' ⟨rfl, rfl⟩))
      | (go_at_call 42; first | ((with_reducible refine (S.out _).mono ?_); rintro e w' ⟨rfl, rfl⟩) | ((with_reducible refine (S2.out _).mono ?_); rintro e w' ⟨rfl, rfl⟩) | ((with_reducible refine (S3.out _).mono ?_); rintro e w' ⟨rfl, rfl⟩)))
    refine (T.out _).mono ?_
    rintro e w1 ⟨rfl, hb1⟩
    go_wp2_with fail
    refine (D.out _).mono ?_
    rintro e w2 ⟨rfl, hb2⟩
    obtain ⟨hc, hw⟩ := slot (cs := [.int .i64 0, .bool false]) (ty := 60) (on hb1 hb2)
    have hlt := hc.1
    obtain ⟨p0, p1, f0, f1⟩ := hc.two
    obtain ⟨e0, e1⟩ := two_set (u := .int .i64 (0)) (v := .bool false) p0 p1
    have hw3 := Lib.hid hw
    replace e0 := Lib.hid (kept_alloc (.cells #[.int .u64 q0, .int .u64 r, .bool false] 118) e0)
    replace e1 := Lib.hid (kept_alloc (.cells #[.int .u64 q0, .int .u64 r, .bool false] 118) e1)
    clear hb1 hb2 hc hw
    go_wp2_with fail
    exact bodyPost_ret (v := .agg #[.int .i64 (0), .bool false]) (by simp [results, Tryz.results63, go_sem, e0.out, e1.out]) rfl ⟨rfl, on_alloc (set2 hw3.out (Nat.le_refl _) _ _) _⟩
  rw [decide_eq_true (by omega), Nat.mod_eq_of_lt (by omega)] at D
  by_cases hqb : 9223372036854775807 < q
  · obtain ⟨rfl, rfl⟩ := Prod.mk.inj ((scaledD_out (by rw [hNe, hz]; omega)).symm.trans hn)
    have t2 : decide ((9223372036854775807 : Int) < (q : Int)) = true := decide_eq_true (by omega)
    clear hbig hqb hq hr hge hn hNe hN hx hy hz c0
    go_enter Tryz.func63, Tryz.ntmps63
    go_wp2_with (first
      | (go_at_call 41; first | ((with_reducible refine (M.out _).mono ?_); rintro e w' ⟨rfl, rfl⟩) | ((with_reducible refine (M2.out _).mono ?_); rintro e w' ⟨rfl, rfl⟩) | ((with_reducible refine (M3.out _).mono ?_); rintro e w' ⟨rfl, rfl⟩))
      | (go_at_call 42; first | ((with_reducible refine (S.out _).mono ?_); rintro e w' ⟨rfl, rfl⟩) | ((with_reducible refine (S2.out _).mono ?_); rintro e w' ⟨rfl, rfl⟩) | ((with_reducible refine (S3.out _).mono ?_); rintro e w' ⟨rfl, rfl⟩)))
    refine (T.out _).mono ?_
    rintro e w1 ⟨rfl, hb1⟩
    go_wp2_with fail
    refine (D.out _).mono ?_
    rintro e w2 ⟨rfl, hb2⟩
    obtain ⟨hc, hw⟩ := slot (cs := [.int .i64 0, .bool false]) (ty := 60) (on hb1 hb2)
    have hlt := hc.1
    obtain ⟨p0, p1, f0, f1⟩ := hc.two
    obtain ⟨e0, e1⟩ := two_set (u := .int .i64 (0)) (v := .bool false) p0 p1
    have hw3 := Lib.hid hw
    replace e0 := Lib.hid (kept_alloc (.cells #[.int .u64 q, .int .u64 r, .bool true] 118) e0)
    replace e1 := Lib.hid (kept_alloc (.cells #[.int .u64 q, .int .u64 r, .bool true] 118) e1)
    clear hb1 hb2 hc hw
    go_wp2_with fail
    exact bodyPost_ret (v := .agg #[.int .i64 (0), .bool false]) (by simp [results, Tryz.results63, go_sem, e0.out, e1.out]) rfl ⟨rfl, on_alloc (set2 hw3.out (Nat.le_refl _) _ _) _⟩
  have t2 : decide ((9223372036854775807 : Int) < (q : Int)) = false := decide_eq_false (by omega)
  by_cases hup : z - r ≤ r
  · have t3 : decide ((z : Int) - (r : Int) ≤ (r : Int)) = true := decide_eq_true (by omega)
    have e := roundN_up hq hr hup
    by_cases hov : q = 9223372036854775807
    · obtain ⟨rfl, rfl⟩ := Prod.mk.inj ((scaledD_out (by rw [hNe, hz]; omega)).symm.trans hn)
      subst hov
      clear hbig hqb hq hr hge hn hNe hN hx hy hz c0 e hup
      go_enter Tryz.func63, Tryz.ntmps63
      go_wp2_with (first
        | (go_at_call 41; first | ((with_reducible refine (M.out _).mono ?_); rintro e w' ⟨rfl, rfl⟩) | ((with_reducible refine (M2.out _).mono ?_); rintro e w' ⟨rfl, rfl⟩) | ((with_reducible refine (M3.out _).mono ?_); rintro e w' ⟨rfl, rfl⟩))
        | (go_at_call 42; first | ((with_reducible refine (S.out _).mono ?_); rintro e w' ⟨rfl, rfl⟩) | ((with_reducible refine (S2.out _).mono ?_); rintro e w' ⟨rfl, rfl⟩) | ((with_reducible refine (S3.out _).mono ?_); rintro e w' ⟨rfl, rfl⟩)))
      refine (T.out _).mono ?_
      rintro e w1 ⟨rfl, hb1⟩
      go_wp2_with fail
      refine (D.out _).mono ?_
      rintro e w2 ⟨rfl, hb2⟩
      obtain ⟨hc, hw⟩ := slot (cs := [.int .i64 0, .bool false]) (ty := 60) (on hb1 hb2)
      have hlt := hc.1
      obtain ⟨p0, p1, f0, f1⟩ := hc.two
      obtain ⟨e0, e1⟩ := two_set (u := .int .i64 (0)) (v := .bool false) p0 p1
      have hw3 := Lib.hid hw
      replace e0 := Lib.hid (kept_alloc (.cells #[.int .u64 9223372036854775807, .int .u64 r, .bool true] 118) e0)
      replace e1 := Lib.hid (kept_alloc (.cells #[.int .u64 9223372036854775807, .int .u64 r, .bool true] 118) e1)
      clear hb1 hb2 hc hw
      go_wp2_with fail
      exact bodyPost_ret (v := .agg #[.int .i64 (0), .bool false]) (by simp [results, Tryz.results63, go_sem, e0.out, e1.out]) rfl ⟨rfl, on_alloc (set2 hw3.out (Nat.le_refl _) _ _) _⟩
    obtain ⟨m, hm⟩ : ∃ m, q + 1 = m := ⟨_, rfl⟩
    rw [hm] at e
    have hsR : roundN (a.natAbs * b.natAbs) c.natAbs = m := by rw [hNe, hz]; exact e
    have hm2 : (q : Int) + 1 = (m : Int) := by omega
    obtain ⟨rfl, rfl⟩ := Prod.mk.inj ((scaledD_in a1 b1 c1 c0 hsR (by omega)).symm.trans hn)
    have t4 : decide ((9223372036854775807 : Int) < (m : Int)) = false := decide_eq_false (by omega)
    have hml : m ≤ 9223372036854775807 := by omega
    obtain ⟨v, hv⟩ : ∃ v, (decide (a < 0) != decide (b < 0)) = v := ⟨_, rfl⟩
    obtain ⟨u, hu⟩ : ∃ u, decide (c < 0) = u := ⟨_, rfl⟩
    have hv2 : (!(decide (a < 0) == decide (b < 0))) = v := by rw [← hv]; cases decide (a < 0) <;> cases decide (b < 0) <;> rfl
    unfold negs
    rw [hv, hu]
    clear hbig hqb hq hr hge hn hNe hN hx hy hz c0 e hup hov hm hsR
    cases v <;> cases u
    · show Calls _ _ _ w (GotIs ((m : Int)) true w)
      go_enter Tryz.func63, Tryz.ntmps63
      go_wp2_with (first
        | (go_at_call 41; first | ((with_reducible refine (M.out _).mono ?_); rintro e w' ⟨rfl, rfl⟩) | ((with_reducible refine (M2.out _).mono ?_); rintro e w' ⟨rfl, rfl⟩) | ((with_reducible refine (M3.out _).mono ?_); rintro e w' ⟨rfl, rfl⟩))
        | (go_at_call 42; first | ((with_reducible refine (S.out _).mono ?_); rintro e w' ⟨rfl, rfl⟩) | ((with_reducible refine (S2.out _).mono ?_); rintro e w' ⟨rfl, rfl⟩) | ((with_reducible refine (S3.out _).mono ?_); rintro e w' ⟨rfl, rfl⟩)))
      refine (T.out _).mono ?_
      rintro e w1 ⟨rfl, hb1⟩
      go_wp2_with fail
      refine (D.out _).mono ?_
      rintro e w2 ⟨rfl, hb2⟩
      obtain ⟨hc, hw⟩ := slot (cs := [.int .i64 0, .bool false]) (ty := 60) (on hb1 hb2)
      have hlt := hc.1
      obtain ⟨p0, p1, f0, f1⟩ := hc.two
      obtain ⟨e0, e1⟩ := two_set (u := .int .i64 ((m : Int))) (v := .bool true) p0 p1
      have hw3 := Lib.hid hw
      replace e0 := Lib.hid (kept_alloc (.cells #[.int .u64 q, .int .u64 r, .bool true] 118) e0)
      replace e1 := Lib.hid (kept_alloc (.cells #[.int .u64 q, .int .u64 r, .bool true] 118) e1)
      clear hb1 hb2 hc hw
      go_wp2_with fail
      exact bodyPost_ret (v := .agg #[.int .i64 ((m : Int)), .bool true]) (by simp [results, Tryz.results63, go_sem, e0.out, e1.out]) rfl ⟨rfl, on_alloc (set2 hw3.out (Nat.le_refl _) _ _) _⟩
    · show Calls _ _ _ w (GotIs (-(m : Int)) true w)
      go_enter Tryz.func63, Tryz.ntmps63
      go_wp2_with (first
        | (go_at_call 41; first | ((with_reducible refine (M.out _).mono ?_); rintro e w' ⟨rfl, rfl⟩) | ((with_reducible refine (M2.out _).mono ?_); rintro e w' ⟨rfl, rfl⟩) | ((with_reducible refine (M3.out _).mono ?_); rintro e w' ⟨rfl, rfl⟩))
        | (go_at_call 42; first | ((with_reducible refine (S.out _).mono ?_); rintro e w' ⟨rfl, rfl⟩) | ((with_reducible refine (S2.out _).mono ?_); rintro e w' ⟨rfl, rfl⟩) | ((with_reducible refine (S3.out _).mono ?_); rintro e w' ⟨rfl, rfl⟩)))
      refine (T.out _).mono ?_
      rintro e w1 ⟨rfl, hb1⟩
      go_wp2_with fail
      refine (D.out _).mono ?_
      rintro e w2 ⟨rfl, hb2⟩
      obtain ⟨hc, hw⟩ := slot (cs := [.int .i64 0, .bool false]) (ty := 60) (on hb1 hb2)
      have hlt := hc.1
      obtain ⟨p0, p1, f0, f1⟩ := hc.two
      obtain ⟨e0, e1⟩ := two_set (u := .int .i64 (-(m : Int))) (v := .bool true) p0 p1
      have hw3 := Lib.hid hw
      replace e0 := Lib.hid (kept_alloc (.cells #[.int .u64 q, .int .u64 r, .bool true] 118) e0)
      replace e1 := Lib.hid (kept_alloc (.cells #[.int .u64 q, .int .u64 r, .bool true] 118) e1)
      clear hb1 hb2 hc hw
      go_wp2_with fail
      exact bodyPost_ret (v := .agg #[.int .i64 (-(m : Int)), .bool true]) (by simp [results, Tryz.results63, go_sem, e0.out, e1.out]) rfl ⟨rfl, on_alloc (set2 hw3.out (Nat.le_refl _) _ _) _⟩
    · show Calls _ _ _ w (GotIs (-(m : Int)) true w)
      go_enter Tryz.func63, Tryz.ntmps63
      go_wp2_with (first
        | (go_at_call 41; first | ((with_reducible refine (M.out _).mono ?_); rintro e w' ⟨rfl, rfl⟩) | ((with_reducible refine (M2.out _).mono ?_); rintro e w' ⟨rfl, rfl⟩) | ((with_reducible refine (M3.out _).mono ?_); rintro e w' ⟨rfl, rfl⟩))
        | (go_at_call 42; first | ((with_reducible refine (S.out _).mono ?_); rintro e w' ⟨rfl, rfl⟩) | ((with_reducible refine (S2.out _).mono ?_); rintro e w' ⟨rfl, rfl⟩) | ((with_reducible refine (S3.out _).mono ?_); rintro e w' ⟨rfl, rfl⟩)))
      refine (T.out _).mono ?_
      rintro e w1 ⟨rfl, hb1⟩
      go_wp2_with fail
      refine (D.out _).mono ?_
      rintro e w2 ⟨rfl, hb2⟩
      obtain ⟨hc, hw⟩ := slot (cs := [.int .i64 0, .bool false]) (ty := 60) (on hb1 hb2)
      have hlt := hc.1
      obtain ⟨p0, p1, f0, f1⟩ := hc.two
      obtain ⟨e0, e1⟩ := two_set (u := .int .i64 (-(m : Int))) (v := .bool true) p0 p1
      have hw3 := Lib.hid hw
      replace e0 := Lib.hid (kept_alloc (.cells #[.int .u64 q, .int .u64 r, .bool true] 118) e0)
      replace e1 := Lib.hid (kept_alloc (.cells #[.int .u64 q, .int .u64 r, .bool true] 118) e1)
      clear hb1 hb2 hc hw
      go_wp2_with fail
      exact bodyPost_ret (v := .agg #[.int .i64 (-(m : Int)), .bool true]) (by simp [results, Tryz.results63, go_sem, e0.out, e1.out]) rfl ⟨rfl, on_alloc (set2 hw3.out (Nat.le_refl _) _ _) _⟩
    · show Calls _ _ _ w (GotIs ((m : Int)) true w)
      go_enter Tryz.func63, Tryz.ntmps63
      go_wp2_with (first
        | (go_at_call 41; first | ((with_reducible refine (M.out _).mono ?_); rintro e w' ⟨rfl, rfl⟩) | ((with_reducible refine (M2.out _).mono ?_); rintro e w' ⟨rfl, rfl⟩) | ((with_reducible refine (M3.out _).mono ?_); rintro e w' ⟨rfl, rfl⟩))
        | (go_at_call 42; first | ((with_reducible refine (S.out _).mono ?_); rintro e w' ⟨rfl, rfl⟩) | ((with_reducible refine (S2.out _).mono ?_); rintro e w' ⟨rfl, rfl⟩) | ((with_reducible refine (S3.out _).mono ?_); rintro e w' ⟨rfl, rfl⟩)))
      refine (T.out _).mono ?_
      rintro e w1 ⟨rfl, hb1⟩
      go_wp2_with fail
      refine (D.out _).mono ?_
      rintro e w2 ⟨rfl, hb2⟩
      obtain ⟨hc, hw⟩ := slot (cs := [.int .i64 0, .bool false]) (ty := 60) (on hb1 hb2)
      have hlt := hc.1
      obtain ⟨p0, p1, f0, f1⟩ := hc.two
      obtain ⟨e0, e1⟩ := two_set (u := .int .i64 ((m : Int))) (v := .bool true) p0 p1
      have hw3 := Lib.hid hw
      replace e0 := Lib.hid (kept_alloc (.cells #[.int .u64 q, .int .u64 r, .bool true] 118) e0)
      replace e1 := Lib.hid (kept_alloc (.cells #[.int .u64 q, .int .u64 r, .bool true] 118) e1)
      clear hb1 hb2 hc hw
      go_wp2_with fail
      exact bodyPost_ret (v := .agg #[.int .i64 ((m : Int)), .bool true]) (by simp [results, Tryz.results63, go_sem, e0.out, e1.out]) rfl ⟨rfl, on_alloc (set2 hw3.out (Nat.le_refl _) _ _) _⟩
  · have t3 : decide ((z : Int) - (r : Int) ≤ (r : Int)) = false := decide_eq_false (by omega)
    have e := roundN_down hq hr (by omega)
    have hsR : roundN (a.natAbs * b.natAbs) c.natAbs = q := by rw [hNe, hz]; exact e
    obtain ⟨rfl, rfl⟩ := Prod.mk.inj ((scaledD_in a1 b1 c1 c0 hsR (by omega)).symm.trans hn)
    have hml : q ≤ 9223372036854775807 := by omega
    obtain ⟨v, hv⟩ : ∃ v, (decide (a < 0) != decide (b < 0)) = v := ⟨_, rfl⟩
    obtain ⟨u, hu⟩ : ∃ u, decide (c < 0) = u := ⟨_, rfl⟩
    have hv2 : (!(decide (a < 0) == decide (b < 0))) = v := by rw [← hv]; cases decide (a < 0) <;> cases decide (b < 0) <;> rfl
    unfold negs
    rw [hv, hu]
    clear hbig hqb hq hr hge hn hNe hN hx hy hz c0 e hup hsR
    cases v <;> cases u
    · show Calls _ _ _ w (GotIs ((q : Int)) true w)
      go_enter Tryz.func63, Tryz.ntmps63
      go_wp2_with (first
        | (go_at_call 41; first | ((with_reducible refine (M.out _).mono ?_); rintro e w' ⟨rfl, rfl⟩) | ((with_reducible refine (M2.out _).mono ?_); rintro e w' ⟨rfl, rfl⟩) | ((with_reducible refine (M3.out _).mono ?_); rintro e w' ⟨rfl, rfl⟩))
        | (go_at_call 42; first | ((with_reducible refine (S.out _).mono ?_); rintro e w' ⟨rfl, rfl⟩) | ((with_reducible refine (S2.out _).mono ?_); rintro e w' ⟨rfl, rfl⟩) | ((with_reducible refine (S3.out _).mono ?_); rintro e w' ⟨rfl, rfl⟩)))
      refine (T.out _).mono ?_
      rintro e w1 ⟨rfl, hb1⟩
      go_wp2_with fail
      refine (D.out _).mono ?_
      rintro e w2 ⟨rfl, hb2⟩
      obtain ⟨hc, hw⟩ := slot (cs := [.int .i64 0, .bool false]) (ty := 60) (on hb1 hb2)
      have hlt := hc.1
      obtain ⟨p0, p1, f0, f1⟩ := hc.two
      obtain ⟨e0, e1⟩ := two_set (u := .int .i64 ((q : Int))) (v := .bool true) p0 p1
      have hw3 := Lib.hid hw
      replace e0 := Lib.hid (kept_alloc (.cells #[.int .u64 q, .int .u64 r, .bool true] 118) e0)
      replace e1 := Lib.hid (kept_alloc (.cells #[.int .u64 q, .int .u64 r, .bool true] 118) e1)
      clear hb1 hb2 hc hw
      go_wp2_with fail
      exact bodyPost_ret (v := .agg #[.int .i64 ((q : Int)), .bool true]) (by simp [results, Tryz.results63, go_sem, e0.out, e1.out]) rfl ⟨rfl, on_alloc (set2 hw3.out (Nat.le_refl _) _ _) _⟩
    · show Calls _ _ _ w (GotIs (-(q : Int)) true w)
      go_enter Tryz.func63, Tryz.ntmps63
      go_wp2_with (first
        | (go_at_call 41; first | ((with_reducible refine (M.out _).mono ?_); rintro e w' ⟨rfl, rfl⟩) | ((with_reducible refine (M2.out _).mono ?_); rintro e w' ⟨rfl, rfl⟩) | ((with_reducible refine (M3.out _).mono ?_); rintro e w' ⟨rfl, rfl⟩))
        | (go_at_call 42; first | ((with_reducible refine (S.out _).mono ?_); rintro e w' ⟨rfl, rfl⟩) | ((with_reducible refine (S2.out _).mono ?_); rintro e w' ⟨rfl, rfl⟩) | ((with_reducible refine (S3.out _).mono ?_); rintro e w' ⟨rfl, rfl⟩)))
      refine (T.out _).mono ?_
      rintro e w1 ⟨rfl, hb1⟩
      go_wp2_with fail
      refine (D.out _).mono ?_
      rintro e w2 ⟨rfl, hb2⟩
      obtain ⟨hc, hw⟩ := slot (cs := [.int .i64 0, .bool false]) (ty := 60) (on hb1 hb2)
      have hlt := hc.1
      obtain ⟨p0, p1, f0, f1⟩ := hc.two
      obtain ⟨e0, e1⟩ := two_set (u := .int .i64 (-(q : Int))) (v := .bool true) p0 p1
      have hw3 := Lib.hid hw
      replace e0 := Lib.hid (kept_alloc (.cells #[.int .u64 q, .int .u64 r, .bool true] 118) e0)
      replace e1 := Lib.hid (kept_alloc (.cells #[.int .u64 q, .int .u64 r, .bool true] 118) e1)
      clear hb1 hb2 hc hw
      go_wp2_with fail
      exact bodyPost_ret (v := .agg #[.int .i64 (-(q : Int)), .bool true]) (by simp [results, Tryz.results63, go_sem, e0.out, e1.out]) rfl ⟨rfl, on_alloc (set2 hw3.out (Nat.le_refl _) _ _) _⟩
    · show Calls _ _ _ w (GotIs (-(q : Int)) true w)
      go_enter Tryz.func63, Tryz.ntmps63
      go_wp2_with (first
        | (go_at_call 41; first | ((with_reducible refine (M.out _).mono ?_); rintro e w' ⟨rfl, rfl⟩) | ((with_reducible refine (M2.out _).mono ?_); rintro e w' ⟨rfl, rfl⟩) | ((with_reducible refine (M3.out _).mono ?_); rintro e w' ⟨rfl, rfl⟩))
        | (go_at_call 42; first | ((with_reducible refine (S.out _).mono ?_); rintro e w' ⟨rfl, rfl⟩) | ((with_reducible refine (S2.out _).mono ?_); rintro e w' ⟨rfl, rfl⟩) | ((with_reducible refine (S3.out _).mono ?_); rintro e w' ⟨rfl, rfl⟩)))
      refine (T.out _).mono ?_
      rintro e w1 ⟨rfl, hb1⟩
      go_wp2_with fail
      refine (D.out _).mono ?_
      rintro e w2 ⟨rfl, hb2⟩
      obtain ⟨hc, hw⟩ := slot (cs := [.int .i64 0, .bool false]) (ty := 60) (on hb1 hb2)
      have hlt := hc.1
      obtain ⟨p0, p1, f0, f1⟩ := hc.two
      obtain ⟨e0, e1⟩ := two_set (u := .int .i64 (-(q : Int))) (v := .bool true) p0 p1
      have hw3 := Lib.hid hw
      replace e0 := Lib.hid (kept_alloc (.cells #[.int .u64 q, .int .u64 r, .bool true] 118) e0)
      replace e1 := Lib.hid (kept_alloc (.cells #[.int .u64 q, .int .u64 r, .bool true] 118) e1)
      clear hb1 hb2 hc hw
      go_wp2_with fail
      exact bodyPost_ret (v := .agg #[.int .i64 (-(q : Int)), .bool true]) (by simp [results, Tryz.results63, go_sem, e0.out, e1.out]) rfl ⟨rfl, on_alloc (set2 hw3.out (Nat.le_refl _) _ _) _⟩
    · show Calls _ _ _ w (GotIs ((q : Int)) true w)
      go_enter Tryz.func63, Tryz.ntmps63
      go_wp2_with (first
        | (go_at_call 41; first | ((with_reducible refine (M.out _).mono ?_); rintro e w' ⟨rfl, rfl⟩) | ((with_reducible refine (M2.out _).mono ?_); rintro e w' ⟨rfl, rfl⟩) | ((with_reducible refine (M3.out _).mono ?_); rintro e w' ⟨rfl, rfl⟩))
        | (go_at_call 42; first | ((with_reducible refine (S.out _).mono ?_); rintro e w' ⟨rfl, rfl⟩) | ((with_reducible refine (S2.out _).mono ?_); rintro e w' ⟨rfl, rfl⟩) | ((with_reducible refine (S3.out _).mono ?_); rintro e w' ⟨rfl, rfl⟩)))
      refine (T.out _).mono ?_
      rintro e w1 ⟨rfl, hb1⟩
      go_wp2_with fail
      refine (D.out _).mono ?_
      rintro e w2 ⟨rfl, hb2⟩
      obtain ⟨hc, hw⟩ := slot (cs := [.int .i64 0, .bool false]) (ty := 60) (on hb1 hb2)
      have hlt := hc.1
      obtain ⟨p0, p1, f0, f1⟩ := hc.two
      obtain ⟨e0, e1⟩ := two_set (u := .int .i64 ((q : Int))) (v := .bool true) p0 p1
      have hw3 := Lib.hid hw
      replace e0 := Lib.hid (kept_alloc (.cells #[.int .u64 q, .int .u64 r, .bool true] 118) e0)
      replace e1 := Lib.hid (kept_alloc (.cells #[.int .u64 q, .int .u64 r, .bool true] 118) e1)
      clear hb1 hb2 hc hw
      go_wp2_with fail
      exact bodyPost_ret (v := .agg #[.int .i64 ((q : Int)), .bool true]) (by simp [results, Tryz.results63, go_sem, e0.out, e1.out]) rfl ⟨rfl, on_alloc (set2 hw3.out (Nat.le_refl _) _ _) _⟩
theorem rscaled_c (a b c : Int) (a2 : a ≤ 9223372036854775807) (b2 : b ≤ 9223372036854775807) (c2 : c ≤ 9223372036854775807) (n : Int) (k : Bool) (hn : scaledD a b c = (n, k)) (w : World) :
    Calls Tryz.prog 63 #[.int .i64 a, .int .i64 b, .int .i64 c] w (GotIs n k w) := by
  by_cases h : a < -9223372036854775807 ∨ b < -9223372036854775807 ∨ c < -9223372036854775807 ∨ c = 0
  · obtain ⟨rfl, rfl⟩ := Prod.mk.inj ((scaledD_none h).symm.trans hn)
    exact rscaled_none a b c h w
  · exact rscaled_may a b c (by omega) a2 (by omega) b2 (by omega) c2 (by omega) n k hn w
end Go.Proofs.YtmoednmgmmgjeaaGreatDoor.Dec

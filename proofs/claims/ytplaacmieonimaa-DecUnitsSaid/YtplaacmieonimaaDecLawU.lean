/- DecUnits, walked: the whole number that a decimal has, its sign, and whether it is whole. -/
import Derived.Test.YtplaacmieonimaaDecLawA
namespace Go.Proofs.Ytplaacmieonimaa.Dec
open Go.RowKit Kit Reg

/-- a number, cut off -/
theorem cut_all {x : Int} (h1 : -9223372036854775807 ≤ x) (h2 : x ≤ 9223372036854775807) : ∃ n r : Int, unitsD x = n ∧ wholeD x = decide (r = 0) ∧ x - n * 10000 = r ∧ -10000 < r ∧ r < 10000 ∧ (0 < x → 0 ≤ r) ∧ (x < 0 → r ≤ 0) ∧
    -9223372036854775807 ≤ n * 10000 ∧ n * 10000 ≤ 9223372036854775807 ∧ (x = 0 → r = 0) := by
  refine ⟨x.tdiv 10000, x.tmod 10000, by rw [unitsD, if_neg (by omega)], by rw [wholeD, mayD_yes h1, Bool.true_and], ?_⟩
  by_cases h : 0 ≤ x
  · obtain ⟨e1, e2⟩ := cut_pos h
    rw [e1, e2]; omega
  · obtain ⟨e1, e2⟩ := cut_neg (x := x) (by omega)
    rw [e1, e2]; omega
set_option maxRecDepth 100000 in
set_option maxHeartbeats 1000000 in
theorem units_none (x : Int) (h2 : x ≤ 9223372036854775807) (h : x < -9223372036854775807) (w : World) :
    Calls Try.prog 6 #[.int .i64 x] w (LawEnd w) := by
  have RM := Lib.hid (fun w1 => rmay_c x false (mayD_no h) w1)
  have C := Lib.hid (fun w1 => units_c x h2 0 (by rw [unitsD, if_pos h]) w1)
  have W := Lib.hid (fun w1 => whole_c x h2 false (by rw [wholeD, mayD_no h]; rfl) w1)
  clear h h2
  go_enter Try.func6, Try.ntmps6
  go_wp2_with (first
    | (go_at_call 24; refine (C.out _).mono ?_; rintro e w' ⟨rfl, rfl⟩)
    | (go_at_call 25; refine (W.out _).mono ?_; rintro e w' ⟨rfl, rfl⟩)
    | (go_at_call 11; refine (RM.out _).mono ?_; rintro e w' ⟨rfl, rfl⟩)
    | (go_at_call 13; refine (alive_c _).mono ?_; rintro e w' ⟨rfl, q, rfl⟩))
  go_ret
  exact ⟨rfl, drew_below rfl⟩
set_option maxRecDepth 100000 in
set_option maxHeartbeats 1000000 in
theorem units_some (x : Int) (h1 : -9223372036854775807 ≤ x) (h2 : x ≤ 9223372036854775807) (w : World) :
    Calls Try.prog 6 #[.int .i64 x] w (LawEnd w) := by
  obtain ⟨n, r, k1, k2, k3, k4, k5, k6, k7, k8, k9, k10⟩ := cut_all h1 h2
  obtain ⟨v, hv⟩ : ∃ v, decide (r = 0) = v := ⟨_, rfl⟩
  have RM := Lib.hid (fun w1 => rmay_c x true (mayD_yes h1) w1)
  have C := Lib.hid (fun w1 => units_c x h2 n k1 w1)
  have W := Lib.hid (fun w1 => whole_c x h2 v (k2.trans hv) w1)
  obtain ⟨s, hs⟩ : ∃ s, signD x = s := ⟨_, rfl⟩
  have S := Lib.hid (fun w1 => sign_c x s hs w1)
  rw [signD, if_neg (by omega)] at hs
  have t1 : decide (r ≤ -10000) = false := decide_eq_false (by omega)
  have t2 : decide (10000 ≤ r) = false := decide_eq_false (by omega)
  have t3 : (r == 0) = v := by rw [← hv]; exact Bool.eq_iff_iff.2 (by simp)
  by_cases hx : x < 0
  · rw [if_pos hx] at hs
    subst hs
    have t4 : decide (x < 0) = true := decide_eq_true hx
    have t5 : decide (0 < x) = false := decide_eq_false (by omega)
    have t6 : decide (0 < r) = false := decide_eq_false (by omega)
    cases v
    · have t7 : decide (r < 0) = true := decide_eq_true (by have := of_decide_eq_false hv; omega)
      clear k1 k2 k6 k7 k10 hv hx
      go_enter Try.func6, Try.ntmps6
      go_wp2_with (first
        | (go_at_call 24; refine (C.out _).mono ?_; rintro e w' ⟨rfl, rfl⟩)
        | (go_at_call 25; refine (W.out _).mono ?_; rintro e w' ⟨rfl, rfl⟩)
        | (go_at_call 26; refine (S.out _).mono ?_; rintro e w' ⟨rfl, rfl⟩)
        | (go_at_call 11; refine (RM.out _).mono ?_; rintro e w' ⟨rfl, rfl⟩)
        | (go_at_call 13; refine (alive_c _).mono ?_; rintro e w' ⟨rfl, q, rfl⟩))
      go_ret
      exact ⟨rfl, drew_below rfl⟩
    · obtain rfl := of_decide_eq_true hv
      clear k1 k2 k6 k7 k10 hv hx t1 t2 t3 t6
      go_enter Try.func6, Try.ntmps6
      go_wp2_with (first
        | (go_at_call 24; refine (C.out _).mono ?_; rintro e w' ⟨rfl, rfl⟩)
        | (go_at_call 25; refine (W.out _).mono ?_; rintro e w' ⟨rfl, rfl⟩)
        | (go_at_call 26; refine (S.out _).mono ?_; rintro e w' ⟨rfl, rfl⟩)
        | (go_at_call 11; refine (RM.out _).mono ?_; rintro e w' ⟨rfl, rfl⟩)
        | (go_at_call 13; refine (alive_c _).mono ?_; rintro e w' ⟨rfl, q, rfl⟩))
      go_ret
      exact ⟨rfl, drew_below rfl⟩
  rw [if_neg hx] at hs
  by_cases h0 : x = 0
  · subst h0
    subst hs
    obtain rfl := k10 rfl
    obtain rfl : n = 0 := by omega
    have hv2 : v = true := by rw [← hv]; rfl
    subst hv2
    clear k1 k2 k3 k4 k5 k6 k7 k8 k9 k10 hv hx t1 t2 t3
    go_enter Try.func6, Try.ntmps6
    go_wp2_with (first
      | (go_at_call 24; refine (C.out _).mono ?_; rintro e w' ⟨rfl, rfl⟩)
      | (go_at_call 25; refine (W.out _).mono ?_; rintro e w' ⟨rfl, rfl⟩)
      | (go_at_call 26; refine (S.out _).mono ?_; rintro e w' ⟨rfl, rfl⟩)
      | (go_at_call 11; refine (RM.out _).mono ?_; rintro e w' ⟨rfl, rfl⟩)
      | (go_at_call 13; refine (alive_c _).mono ?_; rintro e w' ⟨rfl, q, rfl⟩))
    go_ret
    exact ⟨rfl, drew_below rfl⟩
  rw [if_neg h0] at hs
  subst hs
  have t4 : decide (x < 0) = false := decide_eq_false hx
  have t5 : decide (0 < x) = true := decide_eq_true (by omega)
  cases v
  · have t7 : decide (r < 0) = false := decide_eq_false (by omega)
    have t6 : decide (0 < r) = true := decide_eq_true (by have := of_decide_eq_false hv; omega)
    clear k1 k2 k6 k7 k10 hv hx h0
    go_enter Try.func6, Try.ntmps6
    go_wp2_with (first
      | (go_at_call 24; refine (C.out _).mono ?_; rintro e w' ⟨rfl, rfl⟩)
      | (go_at_call 25; refine (W.out _).mono ?_; rintro e w' ⟨rfl, rfl⟩)
      | (go_at_call 26; refine (S.out _).mono ?_; rintro e w' ⟨rfl, rfl⟩)
      | (go_at_call 11; refine (RM.out _).mono ?_; rintro e w' ⟨rfl, rfl⟩)
      | (go_at_call 13; refine (alive_c _).mono ?_; rintro e w' ⟨rfl, q, rfl⟩))
    go_ret
    exact ⟨rfl, drew_below rfl⟩
  · obtain rfl := of_decide_eq_true hv
    clear k1 k2 k6 k7 k10 hv hx h0 t1 t2 t3
    go_enter Try.func6, Try.ntmps6
    go_wp2_with (first
      | (go_at_call 24; refine (C.out _).mono ?_; rintro e w' ⟨rfl, rfl⟩)
      | (go_at_call 25; refine (W.out _).mono ?_; rintro e w' ⟨rfl, rfl⟩)
      | (go_at_call 26; refine (S.out _).mono ?_; rintro e w' ⟨rfl, rfl⟩)
      | (go_at_call 11; refine (RM.out _).mono ?_; rintro e w' ⟨rfl, rfl⟩)
      | (go_at_call 13; refine (alive_c _).mono ?_; rintro e w' ⟨rfl, q, rfl⟩))
    go_ret
    exact ⟨rfl, drew_below rfl⟩
theorem units_law (x : Int) (h2 : x ≤ 9223372036854775807) (w : World) :
    Calls Try.prog 6 #[.int .i64 x] w (LawEnd w) := by
  by_cases h : x < -9223372036854775807
  · exact units_none x h2 h w
  · exact units_some x (by omega) h2 w
end Go.Proofs.Ytplaacmieonimaa.Dec

/- What the reference's Step answers. -/
import Derived.Test.YtckcoogmfgegeaaDoorRndRef
namespace Go.Proofs.YtckcoogmfgegeaaDoor.Rnd
open Go.RowKit Kit Dec Reg

set_option maxRecDepth 100000 in
set_option maxHeartbeats 400000 in
theorem rstep_none (x s m : Int) (h : x < -9223372036854775807 ∨ s ≤ 0 ∨ m < 1 ∨ 5 < m) (w : World) :
    Calls Tryd.prog 59 #[.int .i64 x, .int .i64 s, .int .i64 m] w (GotIs 0 false w) := by
  by_cases h2 : s ≤ 0
  · clear h
    go_enter Tryd.func59, Tryd.ntmps59
    go_wp2
    exact bodyPost_ret (v := .agg #[.int .i64 0, .bool false]) (by simp [results, Tryd.results59, go_sem]) rfl ⟨rfl, below1 _ _⟩
  by_cases h1 : x < -9223372036854775807
  · have M := Lib.hid (fun w1 => rmay_c x false (mayD_no h1) w1)
    clear h
    go_enter Tryd.func59, Tryd.ntmps59
    go_wp2_with (go_at_call 60; refine (M.out _).mono ?_; rintro e w' ⟨rfl, rfl⟩)
    exact bodyPost_ret (v := .agg #[.int .i64 0, .bool false]) (by simp [results, Tryd.results59, go_sem]) rfl ⟨rfl, below1 _ _⟩
  have M := Lib.hid (fun w1 => rmay_c x true (mayD_yes (by omega)) w1)
  by_cases h3 : m < 1
  · clear h
    go_enter Tryd.func59, Tryd.ntmps59
    go_wp2_with (go_at_call 60; refine (M.out _).mono ?_; rintro e w' ⟨rfl, rfl⟩)
    exact bodyPost_ret (v := .agg #[.int .i64 0, .bool false]) (by simp [results, Tryd.results59, go_sem]) rfl ⟨rfl, below1 _ _⟩
  have h4 : 5 < m := by omega
  clear h
  go_enter Tryd.func59, Tryd.ntmps59
  go_wp2_with (go_at_call 60; refine (M.out _).mono ?_; rintro e w' ⟨rfl, rfl⟩)
  exact bodyPost_ret (v := .agg #[.int .i64 0, .bool false]) (by simp [results, Tryd.results59, go_sem]) rfl ⟨rfl, below1 _ _⟩
/-- what is left, in numbers of 64 bits -/
theorem low_wrap {x s q l : Int} (h : Fl x s q l) (s2 : s ≤ 9223372036854775807) : IntKind.u64.wrap (IntKind.u64.wrap x - IntKind.u64.wrap (IntKind.u64.wrap q * s)) = l := by
  rw [IntKind.wrap_u64, IntKind.wrap_u64, IntKind.wrap_u64, IntKind.wrap_u64]
  have e : q % 18446744073709551616 * s = q * s - 18446744073709551616 * (q / 18446744073709551616 * s) := by
    have e1 : q % 18446744073709551616 = q - 18446744073709551616 * (q / 18446744073709551616) := by omega
    rw [e1, Int.sub_mul, Int.mul_assoc]
  rw [e, Int.sub_mul_emod_self_left]
  have h1 := h.eq
  have h2 := h.l0
  have h3 := h.ls
  generalize q * s = p at *
  clear e
  omega
theorem Fl.room {x s q l : Int} (h : Fl x s q l) (x1 : -9223372036854775807 ≤ x) (x2 : x ≤ 9223372036854775807) (s2 : s ≤ 9223372036854775807) (hl : 0 < l) : -9223372036854775807 ≤ q ∧ q + 1 ≤ 9223372036854775807 := by
  have h1 := h.eq
  have h3 := h.ls
  constructor
  · by_cases hq : -9223372036854775807 ≤ q
    · exact hq
    · exfalso
      have g := Int.mul_le_mul_of_nonneg_right (show q ≤ -9223372036854775808 by omega) (show 0 ≤ s by omega)
      omega
  · by_cases hq : q + 1 ≤ 9223372036854775807
    · exact hq
    · exfalso
      have g := Int.mul_le_mul_of_nonneg_right (show 9223372036854775807 ≤ q by omega) (show 0 ≤ s by omega)
      omega
set_option maxRecDepth 100000 in
set_option maxHeartbeats 400000 in
theorem rstep_zero (x s m q : Int) (x1 : -9223372036854775807 ≤ x) (x2 : x ≤ 9223372036854775807) (s1 : 0 < s) (s2 : s ≤ 9223372036854775807) (m1 : 1 ≤ m) (m2 : m ≤ 5) (h : Fl x s q 0) (w : World) :
    Calls Tryd.prog 59 #[.int .i64 x, .int .i64 s, .int .i64 m] w (GotIs x true w) := by
  have M := Lib.hid (fun w1 => rmay_c x true (mayD_yes x1) w1)
  have D := Lib.hid (fun w1 => down_c x s q 0 x1 x2 s1 s2 h w1)
  have hW := low_wrap h s2
  clear h
  go_enter Tryd.func59, Tryd.ntmps59
  go_wp2_with (first
    | (go_at_call 60; refine (M.out _).mono ?_; rintro e w' ⟨rfl, rfl⟩)
    | (go_at_call 83; refine (D.out _).mono ?_; rintro e w' ⟨rfl, rfl⟩))
  exact bodyPost_ret (v := .agg #[.int .i64 x, .bool true]) (by simp [results, Tryd.results59, go_sem]) rfl ⟨rfl, below1 _ _⟩
set_option maxRecDepth 100000 in
set_option maxHeartbeats 2000000 in
theorem rstep_some (x s m q l : Int) (x1 : -9223372036854775807 ≤ x) (x2 : x ≤ 9223372036854775807) (s1 : 0 < s) (s2 : s ≤ 9223372036854775807) (m1 : 1 ≤ m) (m2 : m ≤ 5) (h : Fl x s q l) (l0 : 0 < l) (u : Bool) (hu : upI x l s m = u)
    (n : Int) (k : Bool) (hn : scaledD (if u then q + 1 else q) s 1 = (n, k)) (w : World) :
    Calls Tryd.prog 59 #[.int .i64 x, .int .i64 s, .int .i64 m] w (GotIs n k w) := by
  have M := Lib.hid (fun w1 => rmay_c x true (mayD_yes x1) w1)
  have D := Lib.hid (fun w1 => down_c x s q l x1 x2 s1 s2 h w1)
  have hW := low_wrap h s2
  have hls := h.ls
  obtain ⟨q1, q2⟩ := h.room x1 x2 s2 l0
  have T := Lib.hid (fun w1 => times_c (if u then q + 1 else q) s (by split <;> omega) s2 n k hn w1)
  have hz : (l == 0) = false := by simp; omega
  clear hn h
  have hcase : (m = 1 ∧ s - l < l) ∨ (m = 1 ∧ s - l = l ∧ 0 < x) ∨ (m = 1 ∧ s - l = l ∧ x ≤ 0) ∨ (m = 1 ∧ l < s - l) ∨ (m = 2 ∧ x < 0) ∨ (m = 2 ∧ 0 ≤ x) ∨ (m = 3 ∧ 0 < x) ∨ (m = 3 ∧ x ≤ 0) ∨ m = 4 ∨ m = 5 := by omega
  clear m1 m2
  rcases hcase with ⟨rfl, hc⟩ | ⟨rfl, hc, hx⟩ | ⟨rfl, hc, hx⟩ | ⟨rfl, hc⟩ | ⟨rfl, hx⟩ | ⟨rfl, hx⟩ | ⟨rfl, hx⟩ | ⟨rfl, hx⟩ | rfl | rfl
  · obtain rfl : true = u := by rw [← hu]; unfold upI; rw [if_pos rfl, decide_eq_true hc]; rfl
    clear hu
    go_enter Tryd.func59, Tryd.ntmps59
    go_wp2_with (first
      | (go_at_call 60; refine (M.out _).mono ?_; rintro e w' ⟨rfl, rfl⟩)
      | (go_at_call 83; refine (D.out _).mono ?_; rintro e w' ⟨rfl, rfl⟩))
    refine (T.out _).mono ?_
    rintro e w1 ⟨rfl, hb1⟩
    obtain ⟨hc, hw⟩ := slot (cs := [.int .i64 0, .bool false]) (ty := 42) hb1
    obtain ⟨p0, p1, f0, f1⟩ := hc.two
    obtain ⟨e0, e1⟩ := two_set (u := .int .i64 n) (v := .bool k) p0 p1
    have hw3 := Lib.hid hw
    replace e0 := Lib.hid e0
    replace e1 := Lib.hid e1
    have hlt := hc.1
    clear hb1 hc hw
    go_wp2_with fail
    exact bodyPost_ret (v := .agg #[.int .i64 n, .bool k]) (by simp [results, Tryd.results59, go_sem, e0.out, e1.out]) rfl ⟨rfl, set2 hw3.out (Nat.le_refl _) _ _⟩
  · obtain rfl : true = u := by rw [← hu]; unfold upI; rw [if_pos rfl, decide_eq_true hc, decide_eq_true hx]; simp
    clear hu
    replace hW : IntKind.u64.wrap (x - IntKind.u64.wrap (IntKind.u64.wrap q * s)) = l := by
      have e : IntKind.u64.wrap x = x := by rw [IntKind.wrap_u64]; omega
      rw [e] at hW; exact hW
    go_enter Tryd.func59, Tryd.ntmps59
    go_wp2_with (first
      | (go_at_call 60; refine (M.out _).mono ?_; rintro e w' ⟨rfl, rfl⟩)
      | (go_at_call 83; refine (D.out _).mono ?_; rintro e w' ⟨rfl, rfl⟩))
    refine (T.out _).mono ?_
    rintro e w1 ⟨rfl, hb1⟩
    obtain ⟨hc, hw⟩ := slot (cs := [.int .i64 0, .bool false]) (ty := 42) hb1
    obtain ⟨p0, p1, f0, f1⟩ := hc.two
    obtain ⟨e0, e1⟩ := two_set (u := .int .i64 n) (v := .bool k) p0 p1
    have hw3 := Lib.hid hw
    replace e0 := Lib.hid e0
    replace e1 := Lib.hid e1
    have hlt := hc.1
    clear hb1 hc hw
    go_wp2_with fail
    exact bodyPost_ret (v := .agg #[.int .i64 n, .bool k]) (by simp [results, Tryd.results59, go_sem, e0.out, e1.out]) rfl ⟨rfl, set2 hw3.out (Nat.le_refl _) _ _⟩
  · obtain rfl : false = u := by rw [← hu]; unfold upI; rw [if_pos rfl, decide_eq_false (p := s - l < l) (by omega), decide_eq_false (p := 0 < x) (by omega)]; simp
    clear hu
    go_enter Tryd.func59, Tryd.ntmps59
    go_wp2_with (first
      | (go_at_call 60; refine (M.out _).mono ?_; rintro e w' ⟨rfl, rfl⟩)
      | (go_at_call 83; refine (D.out _).mono ?_; rintro e w' ⟨rfl, rfl⟩))
    refine (T.out _).mono ?_
    rintro e w1 ⟨rfl, hb1⟩
    obtain ⟨hc, hw⟩ := slot (cs := [.int .i64 0, .bool false]) (ty := 42) hb1
    obtain ⟨p0, p1, f0, f1⟩ := hc.two
    obtain ⟨e0, e1⟩ := two_set (u := .int .i64 n) (v := .bool k) p0 p1
    have hw3 := Lib.hid hw
    replace e0 := Lib.hid e0
    replace e1 := Lib.hid e1
    have hlt := hc.1
    clear hb1 hc hw
    go_wp2_with fail
    exact bodyPost_ret (v := .agg #[.int .i64 n, .bool k]) (by simp [results, Tryd.results59, go_sem, e0.out, e1.out]) rfl ⟨rfl, set2 hw3.out (Nat.le_refl _) _ _⟩
  · obtain rfl : false = u := by rw [← hu]; unfold upI; rw [if_pos rfl, decide_eq_false (p := s - l < l) (by omega), decide_eq_false (p := s - l = l) (by omega)]; rfl
    have hne : (s - l == l) = false := by simp; omega
    clear hu
    go_enter Tryd.func59, Tryd.ntmps59
    go_wp2_with (first
      | (go_at_call 60; refine (M.out _).mono ?_; rintro e w' ⟨rfl, rfl⟩)
      | (go_at_call 83; refine (D.out _).mono ?_; rintro e w' ⟨rfl, rfl⟩))
    refine (T.out _).mono ?_
    rintro e w1 ⟨rfl, hb1⟩
    obtain ⟨hc, hw⟩ := slot (cs := [.int .i64 0, .bool false]) (ty := 42) hb1
    obtain ⟨p0, p1, f0, f1⟩ := hc.two
    obtain ⟨e0, e1⟩ := two_set (u := .int .i64 n) (v := .bool k) p0 p1
    have hw3 := Lib.hid hw
    replace e0 := Lib.hid e0
    replace e1 := Lib.hid e1
    have hlt := hc.1
    clear hb1 hc hw
    go_wp2_with fail
    exact bodyPost_ret (v := .agg #[.int .i64 n, .bool k]) (by simp [results, Tryd.results59, go_sem, e0.out, e1.out]) rfl ⟨rfl, set2 hw3.out (Nat.le_refl _) _ _⟩
  · obtain rfl : true = u := by rw [← hu]; exact (decide_eq_true hx).symm
    clear hu
    go_enter Tryd.func59, Tryd.ntmps59
    go_wp2_with (first
      | (go_at_call 60; refine (M.out _).mono ?_; rintro e w' ⟨rfl, rfl⟩)
      | (go_at_call 83; refine (D.out _).mono ?_; rintro e w' ⟨rfl, rfl⟩))
    refine (T.out _).mono ?_
    rintro e w1 ⟨rfl, hb1⟩
    obtain ⟨hc, hw⟩ := slot (cs := [.int .i64 0, .bool false]) (ty := 42) hb1
    obtain ⟨p0, p1, f0, f1⟩ := hc.two
    obtain ⟨e0, e1⟩ := two_set (u := .int .i64 n) (v := .bool k) p0 p1
    have hw3 := Lib.hid hw
    replace e0 := Lib.hid e0
    replace e1 := Lib.hid e1
    have hlt := hc.1
    clear hb1 hc hw
    go_wp2_with fail
    exact bodyPost_ret (v := .agg #[.int .i64 n, .bool k]) (by simp [results, Tryd.results59, go_sem, e0.out, e1.out]) rfl ⟨rfl, set2 hw3.out (Nat.le_refl _) _ _⟩
  · obtain rfl : false = u := by rw [← hu]; exact (decide_eq_false (by omega)).symm
    clear hu
    replace hW : IntKind.u64.wrap (x - IntKind.u64.wrap (IntKind.u64.wrap q * s)) = l := by
      have e : IntKind.u64.wrap x = x := by rw [IntKind.wrap_u64]; omega
      rw [e] at hW; exact hW
    go_enter Tryd.func59, Tryd.ntmps59
    go_wp2_with (first
      | (go_at_call 60; refine (M.out _).mono ?_; rintro e w' ⟨rfl, rfl⟩)
      | (go_at_call 83; refine (D.out _).mono ?_; rintro e w' ⟨rfl, rfl⟩))
    refine (T.out _).mono ?_
    rintro e w1 ⟨rfl, hb1⟩
    obtain ⟨hc, hw⟩ := slot (cs := [.int .i64 0, .bool false]) (ty := 42) hb1
    obtain ⟨p0, p1, f0, f1⟩ := hc.two
    obtain ⟨e0, e1⟩ := two_set (u := .int .i64 n) (v := .bool k) p0 p1
    have hw3 := Lib.hid hw
    replace e0 := Lib.hid e0
    replace e1 := Lib.hid e1
    have hlt := hc.1
    clear hb1 hc hw
    go_wp2_with fail
    exact bodyPost_ret (v := .agg #[.int .i64 n, .bool k]) (by simp [results, Tryd.results59, go_sem, e0.out, e1.out]) rfl ⟨rfl, set2 hw3.out (Nat.le_refl _) _ _⟩
  · obtain rfl : true = u := by rw [← hu]; exact (decide_eq_true hx).symm
    clear hu
    replace hW : IntKind.u64.wrap (x - IntKind.u64.wrap (IntKind.u64.wrap q * s)) = l := by
      have e : IntKind.u64.wrap x = x := by rw [IntKind.wrap_u64]; omega
      rw [e] at hW; exact hW
    go_enter Tryd.func59, Tryd.ntmps59
    go_wp2_with (first
      | (go_at_call 60; refine (M.out _).mono ?_; rintro e w' ⟨rfl, rfl⟩)
      | (go_at_call 83; refine (D.out _).mono ?_; rintro e w' ⟨rfl, rfl⟩))
    refine (T.out _).mono ?_
    rintro e w1 ⟨rfl, hb1⟩
    obtain ⟨hc, hw⟩ := slot (cs := [.int .i64 0, .bool false]) (ty := 42) hb1
    obtain ⟨p0, p1, f0, f1⟩ := hc.two
    obtain ⟨e0, e1⟩ := two_set (u := .int .i64 n) (v := .bool k) p0 p1
    have hw3 := Lib.hid hw
    replace e0 := Lib.hid e0
    replace e1 := Lib.hid e1
    have hlt := hc.1
    clear hb1 hc hw
    go_wp2_with fail
    exact bodyPost_ret (v := .agg #[.int .i64 n, .bool k]) (by simp [results, Tryd.results59, go_sem, e0.out, e1.out]) rfl ⟨rfl, set2 hw3.out (Nat.le_refl _) _ _⟩
  · obtain rfl : false = u := by rw [← hu]; exact (decide_eq_false (by omega)).symm
    clear hu
    go_enter Tryd.func59, Tryd.ntmps59
    go_wp2_with (first
      | (go_at_call 60; refine (M.out _).mono ?_; rintro e w' ⟨rfl, rfl⟩)
      | (go_at_call 83; refine (D.out _).mono ?_; rintro e w' ⟨rfl, rfl⟩))
    refine (T.out _).mono ?_
    rintro e w1 ⟨rfl, hb1⟩
    obtain ⟨hc, hw⟩ := slot (cs := [.int .i64 0, .bool false]) (ty := 42) hb1
    obtain ⟨p0, p1, f0, f1⟩ := hc.two
    obtain ⟨e0, e1⟩ := two_set (u := .int .i64 n) (v := .bool k) p0 p1
    have hw3 := Lib.hid hw
    replace e0 := Lib.hid e0
    replace e1 := Lib.hid e1
    have hlt := hc.1
    clear hb1 hc hw
    go_wp2_with fail
    exact bodyPost_ret (v := .agg #[.int .i64 n, .bool k]) (by simp [results, Tryd.results59, go_sem, e0.out, e1.out]) rfl ⟨rfl, set2 hw3.out (Nat.le_refl _) _ _⟩
  · obtain rfl : false = u := hu
    go_enter Tryd.func59, Tryd.ntmps59
    go_wp2_with (first
      | (go_at_call 60; refine (M.out _).mono ?_; rintro e w' ⟨rfl, rfl⟩)
      | (go_at_call 83; refine (D.out _).mono ?_; rintro e w' ⟨rfl, rfl⟩))
    refine (T.out _).mono ?_
    rintro e w1 ⟨rfl, hb1⟩
    obtain ⟨hc, hw⟩ := slot (cs := [.int .i64 0, .bool false]) (ty := 42) hb1
    obtain ⟨p0, p1, f0, f1⟩ := hc.two
    obtain ⟨e0, e1⟩ := two_set (u := .int .i64 n) (v := .bool k) p0 p1
    have hw3 := Lib.hid hw
    replace e0 := Lib.hid e0
    replace e1 := Lib.hid e1
    have hlt := hc.1
    clear hb1 hc hw
    go_wp2_with fail
    exact bodyPost_ret (v := .agg #[.int .i64 n, .bool k]) (by simp [results, Tryd.results59, go_sem, e0.out, e1.out]) rfl ⟨rfl, set2 hw3.out (Nat.le_refl _) _ _⟩
  · obtain rfl : true = u := hu
    go_enter Tryd.func59, Tryd.ntmps59
    go_wp2_with (first
      | (go_at_call 60; refine (M.out _).mono ?_; rintro e w' ⟨rfl, rfl⟩)
      | (go_at_call 83; refine (D.out _).mono ?_; rintro e w' ⟨rfl, rfl⟩))
    refine (T.out _).mono ?_
    rintro e w1 ⟨rfl, hb1⟩
    obtain ⟨hc, hw⟩ := slot (cs := [.int .i64 0, .bool false]) (ty := 42) hb1
    obtain ⟨p0, p1, f0, f1⟩ := hc.two
    obtain ⟨e0, e1⟩ := two_set (u := .int .i64 n) (v := .bool k) p0 p1
    have hw3 := Lib.hid hw
    replace e0 := Lib.hid e0
    replace e1 := Lib.hid e1
    have hlt := hc.1
    clear hb1 hc hw
    go_wp2_with fail
    exact bodyPost_ret (v := .agg #[.int .i64 n, .bool k]) (by simp [results, Tryd.results59, go_sem, e0.out, e1.out]) rfl ⟨rfl, set2 hw3.out (Nat.le_refl _) _ _⟩
theorem rstep_c (x s m : Int) (x2 : x ≤ 9223372036854775807) (s2 : s ≤ 9223372036854775807) (n : Int) (k : Bool) (hn : stepD x s m = (n, k)) (w : World) :
    Calls Tryd.prog 59 #[.int .i64 x, .int .i64 s, .int .i64 m] w (GotIs n k w) := by
  by_cases h : x < -9223372036854775807 ∨ s ≤ 0 ∨ m < 1 ∨ 5 < m
  · obtain ⟨rfl, rfl⟩ := Prod.mk.inj ((stepD_none h).symm.trans hn)
    exact rstep_none x s m h w
  have hs : 0 < s := by omega
  obtain ⟨q, l, hf⟩ : ∃ q l, Fl x s q l := ⟨_, _, fl_of hs⟩
  rw [stepD_may (by omega) hs (by omega) (by omega)] at hn
  by_cases hl : l = 0
  · subst hl
    rw [roundI_zero hf hs, giveD_in (by omega) x2] at hn
    obtain ⟨rfl, rfl⟩ := Prod.mk.inj hn
    exact rstep_zero x s m q (by omega) x2 hs s2 (by omega) (by omega) hf w
  have l0 : 0 < l := by have := hf.l0; omega
  obtain ⟨q1, q2⟩ := hf.room (by omega) x2 s2 l0
  have he := hf.eq
  cases hu : upI x l s m
  · refine rstep_some x s m q l (by omega) x2 hs s2 (by omega) (by omega) hf l0 false hu n k ?_ w
    rw [if_neg (by decide), scaled_one q1 hs, show q * s = x - l by omega, ← roundI_down hf hs l0 hu]
    exact hn
  · refine rstep_some x s m q l (by omega) x2 hs s2 (by omega) (by omega) hf l0 true hu n k ?_ w
    rw [if_pos rfl, scaled_one (by omega) hs, Int.add_mul, Int.one_mul, show q * s = x - l by omega, ← roundI_up hf hs l0 hu]
    exact hn
end Go.Proofs.YtckcoogmfgegeaaDoor.Rnd

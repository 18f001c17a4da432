/- What package power's between, counts, multiplied, Power answer: for every number of 64 bits. -/
import Derived.Test.YtdinbokbooikbaaPowMath
namespace Go.Proofs.Ytdinbokbooikbaa.Pow
open Go.RowKit Kit Dec

theorem drawn_more {w wr : World} (h : Drawn w wr) (y : Nat) : Drawn w (wr.drewN y) := by
  obtain ⟨q, rfl⟩ := h
  exact ⟨q + y, by rw [World.drewN_drewN]⟩
set_option maxRecDepth 100000 in
set_option maxHeartbeats 400000 in
theorem between_c (x f t : Int) (x2 : x ≤ 9223372036854775807) (b : Bool) (hb : wholeIn x f t = b) (w : World) :
    Calls Try.prog 22 #[.int .i64 x, .int .i64 f, .int .i64 t] w fun e w' => e = .returned (.bool b) ∧ w = w' := by
  subst hb
  have M := Lib.hid (fun w1 => whole_c x x2 _ rfl w1)
  have U := Lib.hid (fun w1 => units_c x x2 _ rfl w1)
  unfold wholeIn
  generalize wholeD x = b at *
  generalize unitsD x = m at *
  cases b
  · rw [Bool.false_and]
    go_enter Try.func22, Try.ntmps22
    go_wp2_with (go_at_call 36; refine (M.out _).mono ?_; rintro e w' ⟨rfl, rfl⟩)
    go_ret
    exact ⟨rfl, rfl⟩
  · rw [Bool.true_and]
    by_cases h : f ≤ m
    · rw [decide_eq_true h, Bool.true_and]
      go_enter Try.func22, Try.ntmps22
      go_wp2_with (first
        | (go_at_call 36; refine (M.out _).mono ?_; rintro e w' ⟨rfl, rfl⟩)
        | (go_at_call 24; refine (U.out _).mono ?_; rintro e w' ⟨rfl, rfl⟩))
      go_ret
      exact ⟨rfl, rfl⟩
    · rw [decide_eq_false h, Bool.false_and]
      go_enter Try.func22, Try.ntmps22
      go_wp2_with (first
        | (go_at_call 36; refine (M.out _).mono ?_; rintro e w' ⟨rfl, rfl⟩)
        | (go_at_call 24; refine (U.out _).mono ?_; rintro e w' ⟨rfl, rfl⟩))
      go_ret
      exact ⟨rfl, rfl⟩
set_option maxRecDepth 100000 in
set_option maxHeartbeats 400000 in
theorem counts_c (x : Int) (x2 : x ≤ 9223372036854775807) (b : Bool) (hb : cntD x = b) (w : World) :
    Calls Try.prog 32 #[.int .i64 x] w fun e w' => e = .returned (.bool b) ∧ w = w' := by
  subst hb
  have M := Lib.hid (fun w1 => whole_c x x2 _ rfl w1)
  unfold cntD
  generalize wholeD x = b at *
  by_cases h : 0 ≤ x
  · rw [decide_eq_true h, Bool.true_and]
    go_enter Try.func32, Try.ntmps32
    go_wp2_with (go_at_call 36; refine (M.out _).mono ?_; rintro e w' ⟨rfl, rfl⟩)
    go_ret
    exact ⟨rfl, rfl⟩
  · rw [decide_eq_false h, Bool.false_and]
    go_enter Try.func32, Try.ntmps32
    go_wp2_with (go_at_call 36; refine (M.out _).mono ?_; rintro e w' ⟨rfl, rfl⟩)
    go_ret
    exact ⟨rfl, rfl⟩
set_option maxRecDepth 100000 in
set_option maxHeartbeats 1000000 in
theorem multiplied_c (x : Int) (t : Nat) (x2 : x ≤ 9223372036854775807) (ht : t ≤ 1000) (n : Int) (b : Bool) (hn : mulsD x t = (n, b)) (w : World) :
    Calls Try.prog 23 #[.int .i64 x, .int .i64 t] w (TwoD n b w) := by
  have HN := Lib.hid hn
  have M := Lib.hid (fun (p : Int) (p2 : p ≤ 9223372036854775807) w1 => mul_c p x p2 x2 _ _ rfl w1)
  clear hn
  go_enter Try.func23, Try.ntmps23
  go_wp2
  go_loopw [6, 7, 9] (fun p o i wr => ∃ (k : Nat) (q : Int), k ≤ t ∧ i = .int .i64 k ∧ p = .int .i64 q ∧ o = .bool true ∧ Hid (mulsD x k = (q, true)) ∧ Drawn w wr) (fun _ _ i _ => t - (intOf i).toNat)
  case atStart => exact ⟨0, 10000, by omega, rfl, rfl, rfl, Lib.hid rfl, Drawn.refl w⟩
  case round =>
    obtain ⟨k, q, hk, rfl, rfl, rfl, hq, hd⟩ := hrel
    have hr := mulsD_room x k
    rw [hq.out] at hr
    obtain ⟨q1, q2⟩ := hr
    dsimp only at q1 q2
    by_cases hlt : k < t
    · obtain ⟨⟨n2, b2⟩, hr2⟩ : ∃ r, scaledD q x 10000 = r := ⟨_, rfl⟩
      have M2 := Lib.hid (fun w1 => mul_c q x q2 x2 _ _ hr2 w1)
      have hx := mulsD_next hq.out hr2
      cases b2
      · have he := mulsD_stop (show k + 1 ≤ t by omega) hx
        obtain ⟨rfl, rfl⟩ := Prod.mk.inj (HN.out.symm.trans he)
        clear he hx hr2 hq HN
        go_wp2_with (go_at_call 37; refine (M2.out _).mono ?_; rintro e w' ⟨rfl, y, rfl⟩)
        go_ret2
        exact ⟨rfl, drawn_more hd _⟩
      · have hx := Lib.hid hx
        clear hr2 hq HN
        go_wp2_with (go_at_call 37; refine (M2.out _).mono ?_; rintro e w' ⟨rfl, y, rfl⟩)
        exact ⟨⟨k + 1, n2, by omega, by go_num, rfl, rfl, hx, drawn_more hd _⟩, by simp [intOf]; omega⟩
    · obtain rfl : k = t := by omega
      obtain ⟨rfl, rfl⟩ := Prod.mk.inj (HN.out.symm.trans hq.out)
      clear HN hq
      go_wp2
      go_ret2
      exact ⟨rfl, hd⟩
set_option maxRecDepth 100000 in
set_option maxHeartbeats 400000 in
theorem power_none (x n : Int) (_ : x ≤ 9223372036854775807) (n2 : n ≤ 9223372036854775807) (h : mayD x = false ∨ wholeIn n (-1000) 1000 = false) (w : World) :
    Calls Try.prog 7 #[.int .i64 x, .int .i64 n] w (TwoD 0 false w) := by
  have M := Lib.hid (fun w1 => may_c x _ rfl w1)
  have B := Lib.hid (fun w1 => between_c n (-1000) 1000 n2 _ rfl w1)
  cases hm : mayD x
  · rw [hm] at M
    clear h
    go_enter Try.func7, Try.ntmps7
    go_wp2_with (go_at_call 21; refine (M.out _).mono ?_; rintro e w' ⟨rfl, rfl⟩)
    go_ret2
    exact ⟨rfl, 0, rfl⟩
  · rw [hm] at M h
    rw [show wholeIn n (-1000) 1000 = false by simpa using h] at B
    clear h
    go_enter Try.func7, Try.ntmps7
    go_wp2_with (first
      | (go_at_call 21; refine (M.out _).mono ?_; rintro e w' ⟨rfl, rfl⟩)
      | (go_at_call 22; refine (B.out _).mono ?_; rintro e w' ⟨rfl, rfl⟩))
    go_ret2
    exact ⟨rfl, 0, rfl⟩
set_option maxRecDepth 100000 in
set_option maxHeartbeats 400000 in
theorem power_up (x n : Int) (x2 : x ≤ 9223372036854775807) (n2 : n ≤ 9223372036854775807) (h : mayD x = true) (h2 : wholeIn n (-1000) 1000 = true) (h3 : 0 ≤ n) (y : Int) (k : Bool) (hy : mulsD x (unitsD n).natAbs = (y, k)) (w : World) :
    Calls Try.prog 7 #[.int .i64 x, .int .i64 n] w (TwoD y k w) := by
  have M := Lib.hid (fun w1 => may_c x _ h w1)
  have B := Lib.hid (fun w1 => between_c n (-1000) 1000 n2 _ h2 w1)
  have U := Lib.hid (fun w1 => units_c n n2 _ rfl w1)
  obtain ⟨e, _, e3, _⟩ := wholeIn_yes h2
  have hs : unitsD n = ((unitsD n).natAbs : Nat) := by omega
  rw [hs] at U
  have P := Lib.hid (fun w1 => multiplied_c x (unitsD n).natAbs x2 (by omega) y k hy w1)
  clear hy hs e e3 h h2
  generalize (unitsD n).natAbs = t at *
  go_enter Try.func7, Try.ntmps7
  go_wp2_with (first
    | (go_at_call 21; refine (M.out _).mono ?_; rintro e w' ⟨rfl, rfl⟩)
    | (go_at_call 22; refine (B.out _).mono ?_; rintro e w' ⟨rfl, rfl⟩)
    | (go_at_call 24; refine (U.out _).mono ?_; rintro e w' ⟨rfl, rfl⟩)
    | (go_at_call 23; refine (P.out _).mono ?_; rintro e w' ⟨rfl, q, rfl⟩))
  go_ret2
  exact ⟨rfl, _, rfl⟩
set_option maxRecDepth 100000 in
set_option maxHeartbeats 400000 in
theorem power_down (x n : Int) (x2 : x ≤ 9223372036854775807) (n2 : n ≤ 9223372036854775807) (h : mayD x = true) (h2 : wholeIn n (-1000) 1000 = true) (h3 : n < 0) (p : Int) (b : Bool) (hp : mulsD x (unitsD n).natAbs = (p, b))
    (y : Int) (k : Bool) (hy : (if b then scaledD 10000 10000 p else (0, false)) = (y, k)) (w : World) :
    Calls Try.prog 7 #[.int .i64 x, .int .i64 n] w (TwoD y k w) := by
  have M := Lib.hid (fun w1 => may_c x _ h w1)
  have B := Lib.hid (fun w1 => between_c n (-1000) 1000 n2 _ h2 w1)
  have U := Lib.hid (fun w1 => units_c n n2 _ rfl w1)
  obtain ⟨e, e2, e3, _⟩ := wholeIn_yes h2
  have hr := mulsD_room x (unitsD n).natAbs
  rw [hp] at hr
  obtain ⟨hr1, hr2⟩ := hr
  dsimp only at hr1 hr2
  obtain ⟨t, ht⟩ : ∃ t, (unitsD n).natAbs = t := ⟨_, rfl⟩
  have hs : unitsD n = -(t : Int) := by omega
  have ht2 : t ≤ 1000 := by omega
  rw [hs] at U
  rw [ht] at hp
  have P := Lib.hid (fun w1 => multiplied_c x t x2 ht2 p b hp w1)
  clear hp hs e e2 e3 h h2 ht
  cases b
  · obtain ⟨rfl, rfl⟩ := Prod.mk.inj hy
    clear hy
    go_enter Try.func7, Try.ntmps7
    go_wp2_with (first
      | (go_at_call 21; refine (M.out _).mono ?_; rintro e w' ⟨rfl, rfl⟩)
      | (go_at_call 22; refine (B.out _).mono ?_; rintro e w' ⟨rfl, rfl⟩)
      | (go_at_call 24; refine (U.out _).mono ?_; rintro e w' ⟨rfl, rfl⟩)
      | (go_at_call 23; refine (P.out _).mono ?_; rintro e w' ⟨rfl, q, rfl⟩))
    go_ret2
    exact ⟨rfl, _, rfl⟩
  · rw [if_pos rfl] at hy
    have D := Lib.hid (fun w1 => div_c 10000 p (by omega) hr2 y k hy w1)
    clear hy
    go_enter Try.func7, Try.ntmps7
    go_wp2_with (first
      | (go_at_call 21; refine (M.out _).mono ?_; rintro e w' ⟨rfl, rfl⟩)
      | (go_at_call 22; refine (B.out _).mono ?_; rintro e w' ⟨rfl, rfl⟩)
      | (go_at_call 24; refine (U.out _).mono ?_; rintro e w' ⟨rfl, rfl⟩)
      | (go_at_call 23; refine (P.out _).mono ?_; rintro e w' ⟨rfl, q, rfl⟩)
      | (go_at_call 25; refine (D.out _).mono ?_; rintro e w' ⟨rfl, q2, rfl⟩))
    go_ret2
    exact ⟨rfl, _, rfl⟩
theorem power_c (x n : Int) (x2 : x ≤ 9223372036854775807) (n2 : n ≤ 9223372036854775807) (y : Int) (k : Bool) (hy : powerD x n = (y, k)) (w : World) :
    Calls Try.prog 7 #[.int .i64 x, .int .i64 n] w (TwoD y k w) := by
  cases h1 : mayD x
  · obtain ⟨rfl, rfl⟩ := Prod.mk.inj (hy.symm.trans (powerD_none (.inl h1)))
    exact power_none x n x2 n2 (.inl h1) w
  cases h2 : wholeIn n (-1000) 1000
  · obtain ⟨rfl, rfl⟩ := Prod.mk.inj (hy.symm.trans (powerD_none (.inr h2)))
    exact power_none x n x2 n2 (.inr h2) w
  by_cases h3 : 0 ≤ n
  · rw [powerD_up h1 h2 h3] at hy
    exact power_up x n x2 n2 h1 h2 h3 y k hy w
  · rw [powerD_down h1 h2 (by omega)] at hy
    exact power_down x n x2 n2 h1 h2 (by omega) _ _ rfl y k hy w
end Go.Proofs.Ytdinbokbooikbaa.Pow

/- What package power's Fact, Combin answer: for every two numbers of 64 bits. -/
import Derived.Test.YtdinbokbooikbaaPowDiv
namespace Go.Proofs.Ytdinbokbooikbaa.Pow
open Go.RowKit Kit Dec

set_option maxRecDepth 100000 in
set_option maxHeartbeats 400000 in
theorem fact_none (x : Int) (x2 : x ≤ 9223372036854775807) (h : wholeIn x 0 1000 = false) (w : World) :
    Calls Try.prog 17 #[.int .i64 x] w (TwoD 0 false w) := by
  have B := Lib.hid (fun w1 => between_c x 0 1000 x2 false h w1)
  clear h
  go_enter Try.func17, Try.ntmps17
  go_wp2_with (go_at_call 22; (with_reducible refine (B.out _).mono ?_); rintro e w' ⟨rfl, rfl⟩)
  go_ret2
  exact ⟨rfl, 0, rfl⟩
set_option maxRecDepth 100000 in
set_option maxHeartbeats 1000000 in
theorem fact_some (x : Int) (x2 : x ≤ 9223372036854775807) (h : wholeIn x 0 1000 = true) (n : Int) (b : Bool) (hn : factsD (unitsD x).toNat = (n, b)) (w : World) :
    Calls Try.prog 17 #[.int .i64 x] w (TwoD n b w) := by
  have B := Lib.hid (fun w1 => between_c x 0 1000 x2 true h w1)
  obtain ⟨e, e1, e2, _⟩ := wholeIn_yes h
  have U := Lib.hid (fun w1 => units_c x x2 _ rfl w1)
  obtain ⟨t, ht⟩ : ∃ t, (unitsD x).toNat = t := ⟨_, rfl⟩
  have hu : unitsD x = (t : Int) := by omega
  have ht2 : t ≤ 1000 := by omega
  rw [ht] at hn
  rw [hu] at U
  have HN := Lib.hid hn
  clear hn ht hu e e1 e2 h
  go_enter Try.func17, Try.ntmps17
  go_wp2_with (first
    | (go_at_call 22; (with_reducible refine (B.out _).mono ?_); rintro e w' ⟨rfl, rfl⟩)
    | (go_at_call 24; (with_reducible refine (U.out _).mono ?_); rintro e w' ⟨rfl, rfl⟩))
  go_loopw [4, 5, 12] (fun p o i wr => ∃ (k : Nat) (q : Int), k ≤ t ∧ i = .int .i64 k ∧ p = .int .i64 q ∧ o = .bool true ∧ Hid (factsD k = (q, true)) ∧ Drawn w wr) (fun _ _ i _ => t - (intOf i).toNat)
  case atStart => exact ⟨0, 10000, by omega, rfl, rfl, rfl, Lib.hid rfl, Drawn.refl w⟩
  case round =>
    clear B U
    obtain ⟨k, q, hk, rfl, rfl, rfl, hq, hd⟩ := hrel
    have hr := factsD_room k
    rw [hq.out] at hr
    obtain ⟨q1, q2⟩ := hr
    dsimp only at q1 q2
    by_cases hlt : k < t
    · obtain ⟨⟨n2, b2⟩, hr2⟩ : ∃ r, scaledD q ((k + 1 : Nat) : Int) 1 = r := ⟨_, rfl⟩
      have hx := factsD_next hq.out hr2
      have M2 := Lib.hid (fun w1 => scaled_c q ((k + 1 : Nat) : Int) 1 q2 (by omega) (by omega) _ _ hr2 w1)
      rw [show ((k + 1 : Nat) : Int) = (k : Int) + 1 from rfl] at M2
      cases b2
      · have he := factsD_stop (show k + 1 ≤ t by omega) hx
        obtain ⟨rfl, rfl⟩ := Prod.mk.inj (HN.out.symm.trans he)
        clear he hx hr2 hq HN
        go_wp2_with (go_at_call 33; (with_reducible refine (M2.out _).mono ?_); rintro e w' ⟨rfl, y, rfl⟩)
        go_ret2
        exact ⟨rfl, drawn_more hd _⟩
      · have hx := Lib.hid hx
        clear hr2 hq HN
        go_wp2_with (go_at_call 33; (with_reducible refine (M2.out _).mono ?_); rintro e w' ⟨rfl, y, rfl⟩)
        exact ⟨⟨k + 1, n2, by omega, by go_num, rfl, rfl, hx, drawn_more hd _⟩, by simp [intOf]; omega⟩
    · obtain rfl : k = t := by omega
      obtain ⟨rfl, rfl⟩ := Prod.mk.inj (HN.out.symm.trans hq.out)
      clear HN hq
      go_wp2
      go_ret2
      exact ⟨rfl, hd⟩
theorem fact_c (x : Int) (x2 : x ≤ 9223372036854775807) (n : Int) (b : Bool) (hn : factD x = (n, b)) (w : World) :
    Calls Try.prog 17 #[.int .i64 x] w (TwoD n b w) := by
  unfold factD at hn
  cases h : wholeIn x 0 1000
  · rw [h] at hn
    obtain ⟨rfl, rfl⟩ := Prod.mk.inj hn
    exact fact_none x x2 h w
  · rw [h, if_pos rfl] at hn
    exact fact_some x x2 h n b hn w

/-- in how many ways k of n are chosen, of decimals -/
def combD (n k : Int) : Int × Bool := if wholeIn n 0 1000 && wholeIn k 0 (unitsD n) then waysD (unitsD n).toNat (unitsD k).toNat else (0, false)
theorem combD_none {n k : Int} (h : wholeIn n 0 1000 = false ∨ wholeIn k 0 (unitsD n) = false) : combD n k = (0, false) := by
  unfold combD
  rcases h with h | h
  · rw [h]; simp
  · rw [h]; simp
theorem combD_some {n k : Int} (h : wholeIn n 0 1000 = true) (h2 : wholeIn k 0 (unitsD n) = true) : combD n k = waysD (unitsD n).toNat (unitsD k).toNat := by
  rw [combD, h, h2]; rfl
set_option maxRecDepth 100000 in
set_option maxHeartbeats 400000 in
theorem comb_none (x y : Int) (x2 : x ≤ 9223372036854775807) (y2 : y ≤ 9223372036854775807) (h : wholeIn x 0 1000 = false ∨ wholeIn y 0 (unitsD x) = false) (w : World) :
    Calls Try.prog 19 #[.int .i64 x, .int .i64 y] w (TwoD 0 false w) := by
  have U := Lib.hid (fun w1 => units_c x x2 _ rfl w1)
  cases hx : wholeIn x 0 1000
  · have B := Lib.hid (fun w1 => between_c x 0 1000 x2 false hx w1)
    clear h
    go_enter Try.func19, Try.ntmps19
    go_wp2_with (go_at_call 22; (with_reducible refine (B.out _).mono ?_); rintro e w' ⟨rfl, rfl⟩)
    go_ret2
    exact ⟨rfl, 0, rfl⟩
  · have B := Lib.hid (fun w1 => between_c x 0 1000 x2 true hx w1)
    have B2 := Lib.hid (fun w1 => between_c y 0 (unitsD x) y2 false (by rw [hx] at h; simpa using h) w1)
    generalize unitsD x = m at *
    clear h
    go_enter Try.func19, Try.ntmps19
    go_wp2_with (first
      | (go_at_call 22; first | ((with_reducible refine (B.out _).mono ?_); rintro e w' ⟨rfl, rfl⟩) | ((with_reducible refine (B2.out _).mono ?_); rintro e w' ⟨rfl, rfl⟩))
      | (go_at_call 24; (with_reducible refine (U.out _).mono ?_); rintro e w' ⟨rfl, rfl⟩))
    go_ret2
    exact ⟨rfl, 0, rfl⟩
set_option maxRecDepth 100000 in
set_option maxHeartbeats 1000000 in
theorem comb_some (x y : Int) (x2 : x ≤ 9223372036854775807) (y2 : y ≤ 9223372036854775807) (h : wholeIn x 0 1000 = true) (h2 : wholeIn y 0 (unitsD x) = true) (n : Int) (b : Bool) (hn : waysD (unitsD x).toNat (unitsD y).toNat = (n, b)) (w : World) :
    Calls Try.prog 19 #[.int .i64 x, .int .i64 y] w (TwoD n b w) := by
  have B := Lib.hid (fun w1 => between_c x 0 1000 x2 true h w1)
  have B2 := Lib.hid (fun w1 => between_c y 0 (unitsD x) y2 true h2 w1)
  obtain ⟨e, e1, e2, _⟩ := wholeIn_yes h
  obtain ⟨f, f1, f2, _⟩ := wholeIn_yes h2
  have U := Lib.hid (fun w1 => units_c x x2 _ rfl w1)
  have V := Lib.hid (fun w1 => units_c y y2 _ rfl w1)
  obtain ⟨t, ht⟩ : ∃ t, (unitsD y).toNat = t := ⟨_, rfl⟩
  obtain ⟨r, hr⟩ : ∃ r, (unitsD x).toNat = r + t := ⟨(unitsD x).toNat - t, by omega⟩
  have hv : unitsD y = (t : Int) := by omega
  have hu : unitsD x = (r : Int) + (t : Int) := by omega
  have ht2 : r + t ≤ 1000 := by omega
  rw [ht, hr] at hn
  rw [hu] at U B2
  rw [hv] at V
  have hsub : (r : Int) + (t : Int) - (t : Int) = (r : Int) := by omega
  have HN := Lib.hid hn
  have H0 : Hid (waysD (r + 0) 0 = (10000, true)) := Lib.hid (by rw [waysD, chs_zero]; exact giveD_in (by omega) (by omega))
  clear hn ht hr hu hv e e1 e2 f f1 f2 h h2
  go_enter Try.func19, Try.ntmps19
  go_wp2_with (first
    | (go_at_call 22; first | ((with_reducible refine (B.out _).mono ?_); rintro e w' ⟨rfl, rfl⟩) | ((with_reducible refine (B2.out _).mono ?_); rintro e w' ⟨rfl, rfl⟩))
    | (go_at_call 24; first | ((with_reducible refine (U.out _).mono ?_); rintro e w' ⟨rfl, rfl⟩) | ((with_reducible refine (V.out _).mono ?_); rintro e w' ⟨rfl, rfl⟩)))
  go_loopw [7, 8, 27] (fun p o i wr => ∃ (k : Nat) (q : Int), k ≤ t ∧ i = .int .i64 k ∧ p = .int .i64 q ∧ o = .bool true ∧ Hid (waysD (r + k) k = (q, true)) ∧ Drawn w wr) (fun _ _ i _ => t - (intOf i).toNat)
  case atStart => exact ⟨0, 10000, by omega, rfl, rfl, rfl, H0, Drawn.refl w⟩
  case round =>
    clear B B2 U V H0
    obtain ⟨k, q, hk, rfl, rfl, rfl, hq, hd⟩ := hrel
    obtain ⟨q3, q1, q2⟩ := giveD_yes hq.out
    rw [← q3] at q1 q2
    clear q3
    by_cases hlt : k < t
    · obtain ⟨⟨n2, b2⟩, hr2⟩ : ∃ s, scaledD q ((r + k + 1 : Nat) : Int) ((k + 1 : Nat) : Int) = s := ⟨_, rfl⟩
      have hx := waysD_next hq.out (by omega) hr2
      have M2 := Lib.hid (fun w1 => scaled_c q ((r + k + 1 : Nat) : Int) ((k + 1 : Nat) : Int) q2 (by omega) (by omega) _ _ hr2 w1)
      rw [show ((k + 1 : Nat) : Int) = (k : Int) + 1 from rfl, show ((r + k + 1 : Nat) : Int) = (r : Int) + (k : Int) + 1 by omega] at M2
      cases b2
      · have he := waysD_stop (d := t - (k + 1)) hx
        rw [show k + 1 + (t - (k + 1)) = t by omega] at he
        obtain ⟨rfl, rfl⟩ := Prod.mk.inj (HN.out.symm.trans he)
        clear he hx hr2 hq HN
        go_wp2_with (go_at_call 33; (with_reducible refine (M2.out _).mono ?_); rintro e w' ⟨rfl, y, rfl⟩)
        go_ret2
        exact ⟨rfl, drawn_more hd _⟩
      · have hx := Lib.hid hx
        clear hr2 hq HN
        go_wp2_with (go_at_call 33; (with_reducible refine (M2.out _).mono ?_); rintro e w' ⟨rfl, y, rfl⟩)
        exact ⟨⟨k + 1, n2, by omega, by go_num, rfl, rfl, hx, drawn_more hd _⟩, by simp [intOf]; omega⟩
    · obtain rfl : k = t := by omega
      obtain ⟨rfl, rfl⟩ := Prod.mk.inj (HN.out.symm.trans hq.out)
      clear HN hq
      go_wp2
      go_ret2
      exact ⟨rfl, hd⟩
theorem comb_c (x y : Int) (x2 : x ≤ 9223372036854775807) (y2 : y ≤ 9223372036854775807) (n : Int) (b : Bool) (hn : combD x y = (n, b)) (w : World) :
    Calls Try.prog 19 #[.int .i64 x, .int .i64 y] w (TwoD n b w) := by
  cases h1 : wholeIn x 0 1000
  · obtain ⟨rfl, rfl⟩ := Prod.mk.inj (hn.symm.trans (combD_none (.inl h1)))
    exact comb_none x y x2 y2 (.inl h1) w
  cases h2 : wholeIn y 0 (unitsD x)
  · obtain ⟨rfl, rfl⟩ := Prod.mk.inj (hn.symm.trans (combD_none (.inr h2)))
    exact comb_none x y x2 y2 (.inr h2) w
  rw [combD_some h1 h2] at hn
  exact comb_some x y x2 y2 h1 h2 n b hn w
end Go.Proofs.Ytdinbokbooikbaa.Pow

/- Powers, roots, divisors, and in how many ways some are chosen, in integers alone. No function of the program is named here.
   What package power's between, counts, multiplied, Power answer: for every number of 64 bits. -/
import Derived.Test.YtebjedbppiphgaaGreatDoorKfa08
namespace Go.Proofs.YtebjedbppiphgaaGreatDoor.Pow
open Dec
theorem giveD_room (b : Bool) (x : Int) : -9223372036854775807 ≤ (giveD b x).1 ∧ (giveD b x).1 ≤ 9223372036854775807 := by
  unfold giveD
  split
  · rename_i h
    simp only [Bool.and_eq_true, okD, decide_eq_true_eq] at h
    exact h.2
  · exact ⟨by simp, by simp⟩
theorem giveD_no {b : Bool} {x n : Int} (h : giveD b x = (n, false)) : n = 0 := by
  unfold giveD at h
  split at h
  · cases h
  · cases h; rfl
/-- a whole number from one on to another one -/
def wholeIn (x f t : Int) : Bool := wholeD x && (decide (f ≤ unitsD x) && decide (unitsD x ≤ t))
theorem whole_units {x : Int} (h : wholeD x = true) : x = unitsD x * 10000 ∧ -9223372036854775807 ≤ x := by
  unfold wholeD at h
  simp only [Bool.and_eq_true, mayD, decide_eq_true_eq] at h
  obtain ⟨h1, h2⟩ := h
  rw [unitsD, if_neg (by omega)]
  by_cases hx : 0 ≤ x
  · obtain ⟨e1, e2⟩ := cut_pos hx
    rw [e2] at h2
    rw [e1]
    exact ⟨by omega, h1⟩
  · obtain ⟨e1, e2⟩ := cut_neg (x := x) (by omega)
    rw [e2] at h2
    rw [e1]
    exact ⟨by omega, h1⟩
theorem wholeIn_yes {x f t : Int} (h : wholeIn x f t = true) : x = unitsD x * 10000 ∧ f ≤ unitsD x ∧ unitsD x ≤ t ∧ wholeD x = true := by
  unfold wholeIn at h
  simp only [Bool.and_eq_true, decide_eq_true_eq] at h
  exact ⟨(whole_units h.1).1, h.2.1, h.2.2, h.1⟩
/-- one, so many times multiplied, each time rounded -/
def mulsD (x : Int) : Nat → Int × Bool
  | 0 => (10000, true)
  | k + 1 => if (mulsD x k).2 then scaledD (mulsD x k).1 x 10000 else (0, false)
theorem mulsD_room (x : Int) (k : Nat) : -9223372036854775807 ≤ (mulsD x k).1 ∧ (mulsD x k).1 ≤ 9223372036854775807 := by
  cases k with
  | zero => simp [mulsD]
  | succ k =>
    unfold mulsD
    split
    · exact giveD_room _ _
    · simp
theorem mulsD_next {x p n : Int} {k : Nat} {b : Bool} (h : mulsD x k = (p, true)) (hn : scaledD p x 10000 = (n, b)) : mulsD x (k + 1) = (n, b) := by
  rw [mulsD, h]; exact hn
theorem mulsD_no {x p : Int} {k : Nat} (h : mulsD x k = (p, false)) : p = 0 := by
  cases k with
  | zero => simp [mulsD] at h
  | succ k =>
    unfold mulsD at h
    split at h
    · exact giveD_no h
    · cases h; rfl
theorem mulsD_stop {x p : Int} {k t : Nat} (hk : k ≤ t) (h : mulsD x k = (p, false)) : mulsD x t = (0, false) := by
  obtain ⟨d, rfl⟩ : ∃ d, t = k + d := ⟨t - k, by omega⟩
  clear hk
  induction d with
  | zero =>
    have := mulsD_no h
    subst this
    exact h
  | succ d ih =>
    rw [← Nat.add_assoc, mulsD, ih]; rfl
/-- a power -/
def powerD (x n : Int) : Int × Bool :=
  if mayD x && wholeIn n (-1000) 1000 then
    (if 0 ≤ n then mulsD x (unitsD n).natAbs else if (mulsD x (unitsD n).natAbs).2 then scaledD 10000 10000 (mulsD x (unitsD n).natAbs).1 else (0, false))
  else (0, false)
theorem powerD_none {x n : Int} (h : mayD x = false ∨ wholeIn n (-1000) 1000 = false) : powerD x n = (0, false) := by
  unfold powerD
  rw [if_neg]
  rcases h with h | h
  · rw [h]; simp
  · rw [h]; simp
theorem powerD_up {x n : Int} (h : mayD x = true) (h2 : wholeIn n (-1000) 1000 = true) (h3 : 0 ≤ n) : powerD x n = mulsD x (unitsD n).natAbs := by
  rw [powerD, h, h2, Bool.and_self, if_pos rfl, if_pos h3]
theorem powerD_down {x n : Int} (h : mayD x = true) (h2 : wholeIn n (-1000) 1000 = true) (h3 : n < 0) :
    powerD x n = if (mulsD x (unitsD n).natAbs).2 then scaledD 10000 10000 (mulsD x (unitsD n).natAbs).1 else (0, false) := by
  rw [powerD, h, h2, Bool.and_self, if_pos rfl, if_neg (by omega)]

/-- the greatest number whose square is not above another one -/
def RootOf (r N : Nat) : Prop := r * r ≤ N ∧ N < (r + 1) * (r + 1)
theorem root_some (N : Nat) : ∃ r, RootOf r N := by
  induction N with
  | zero => exact ⟨0, by simp [RootOf]⟩
  | succ N ih =>
    obtain ⟨r, h1, h2⟩ := ih
    by_cases h : (r + 1) * (r + 1) ≤ N + 1
    · refine ⟨r + 1, h, ?_⟩
      have e : (r + 1 + 1) * (r + 1 + 1) = (r + 1) * (r + 1) + 2 * (r + 1) + 1 := by
        rw [Nat.add_mul (r + 1) 1, Nat.mul_add, Nat.mul_one, Nat.one_mul]; omega
      omega
    · exact ⟨r, by omega, by omega⟩
theorem sq_mono {a b : Nat} (h : a * a < b * b) : a < b := by
  rcases Nat.lt_or_ge a b with h1 | h1
  · exact h1
  · have := Nat.mul_le_mul h1 h1
    omega
theorem root_one {r s N : Nat} (h1 : RootOf r N) (h2 : RootOf s N) : r = s := by
  have a := sq_mono (Nat.lt_of_le_of_lt h1.1 h2.2)
  have b := sq_mono (Nat.lt_of_le_of_lt h2.1 h1.2)
  omega
/-- a root, behind so many bits -/
def SqAt (N k a : Nat) : Prop := a * a ≤ N ∧ N < (a + 2 ^ (39 - k)) * (a + 2 ^ (39 - k)) ∧ a + 2 ^ (39 - k) ≤ 549755813888
theorem SqAt.start {N : Nat} (h : N < 302231454903657293676544) : SqAt N 0 0 := by
  refine ⟨Nat.zero_le _, ?_, by decide⟩
  have e : (0 + 2 ^ (39 - 0)) * (0 + 2 ^ (39 - 0)) = 302231454903657293676544 := by decide
  rw [e]; exact h
theorem SqAt.done {N a : Nat} (h : SqAt N 39 a) : RootOf a N := ⟨h.1, h.2.1⟩
theorem bit_next {k : Nat} (hk : k < 39) : 2 ^ (39 - k) = 2 ^ (38 - k) + 2 ^ (38 - k) ∧ 39 - (k + 1) = 38 - k := by
  refine ⟨?_, by omega⟩
  rw [show 39 - k = (38 - k) + 1 by omega, Nat.pow_succ]; omega
theorem SqAt.take {N k a : Nat} (h : SqAt N k a) (hk : k < 39) (h2 : (a + 2 ^ (38 - k)) * (a + 2 ^ (38 - k)) ≤ N) : SqAt N (k + 1) (a + 2 ^ (38 - k)) := by
  obtain ⟨e1, e2⟩ := bit_next hk
  obtain ⟨h1, h3, h4⟩ := h
  unfold SqAt
  rw [e2]
  rw [e1, ← Nat.add_assoc] at h3 h4
  exact ⟨h2, h3, h4⟩
theorem SqAt.leave {N k a : Nat} (h : SqAt N k a) (hk : k < 39) (h2 : N < (a + 2 ^ (38 - k)) * (a + 2 ^ (38 - k))) : SqAt N (k + 1) a := by
  obtain ⟨e1, e2⟩ := bit_next hk
  obtain ⟨h1, h3, h4⟩ := h
  unfold SqAt
  rw [e2]
  rw [e1] at h4
  exact ⟨h1, h2, Nat.le_trans (by rw [← Nat.add_assoc]; exact Nat.le_add_right _ _) h4⟩

/-- a whole number from 0 on -/
def cntD (x : Int) : Bool := decide (0 ≤ x) && wholeD x
/-- the product of all up to a number -/
def factsD : Nat → Int × Bool
  | 0 => (10000, true)
  | k + 1 => if (factsD k).2 then scaledD (factsD k).1 ((k + 1 : Nat) : Int) 1 else (0, false)
def factD (n : Int) : Int × Bool := if wholeIn n 0 1000 then factsD (unitsD n).toNat else (0, false)
theorem factsD_room (k : Nat) : -9223372036854775807 ≤ (factsD k).1 ∧ (factsD k).1 ≤ 9223372036854775807 := by
  cases k with
  | zero => simp [factsD]
  | succ k =>
    unfold factsD
    split
    · exact giveD_room _ _
    · simp
theorem factsD_next {p n : Int} {k : Nat} {b : Bool} (h : factsD k = (p, true)) (hn : scaledD p ((k + 1 : Nat) : Int) 1 = (n, b)) : factsD (k + 1) = (n, b) := by
  rw [factsD, h]; exact hn
theorem factsD_no {p : Int} {k : Nat} (h : factsD k = (p, false)) : p = 0 := by
  cases k with
  | zero => simp [factsD] at h
  | succ k =>
    unfold factsD at h
    split at h
    · exact giveD_no h
    · cases h; rfl
theorem factsD_stop {p : Int} {k t : Nat} (hk : k ≤ t) (h : factsD k = (p, false)) : factsD t = (0, false) := by
  obtain ⟨d, rfl⟩ : ∃ d, t = k + d := ⟨t - k, by omega⟩
  clear hk
  induction d with
  | zero =>
    have := factsD_no h
    subst this
    exact h
  | succ d ih =>
    rw [← Nat.add_assoc, factsD, ih]; rfl

end Go.Proofs.YtebjedbppiphgaaGreatDoor.Pow
namespace Go.Proofs.YtebjedbppiphgaaGreatDoor.Pow
open Go.RowKit Kit Dec
theorem drawn_more {w wr : World} (h : Drawn w wr) (y : Nat) : Drawn w (wr.drewN y) := by
  obtain ⟨q, rfl⟩ := h
  exact ⟨q + y, by rw [World.drewN_drewN]⟩
set_option maxRecDepth 100000 in
set_option maxHeartbeats 400000 in
theorem between_c (x f t : Int) (x2 : x ≤ 9223372036854775807) (b : Bool) (hb : wholeIn x f t = b) (w : World) :
    Calls Tryz.prog 187 #[.int .i64 x, .int .i64 f, .int .i64 t] w fun e w' => e = .returned (.bool b) ∧ w = w' := by
  subst hb
  have M := Lib.hid (fun w1 => whole_c x x2 _ rfl w1)
  have U := Lib.hid (fun w1 => units_c x x2 _ rfl w1)
  unfold wholeIn
  generalize wholeD x = b at *
  generalize unitsD x = m at *
  cases b
  · rw [Bool.false_and]
    go_enter Tryz.func187, Tryz.ntmps187
    go_wp2_with (go_at_call 265; refine (M.out _).mono ?_; rintro e w' ⟨rfl, rfl⟩)
    go_ret
    exact ⟨rfl, rfl⟩
  · rw [Bool.true_and]
    by_cases h : f ≤ m
    · rw [decide_eq_true h, Bool.true_and]
      go_enter Tryz.func187, Tryz.ntmps187
      go_wp2_with (first
        | (go_at_call 265; refine (M.out _).mono ?_; rintro e w' ⟨rfl, rfl⟩)
        | (go_at_call 189; refine (U.out _).mono ?_; rintro e w' ⟨rfl, rfl⟩))
      go_ret
      exact ⟨rfl, rfl⟩
    · rw [decide_eq_false h, Bool.false_and]
      go_enter Tryz.func187, Tryz.ntmps187
      go_wp2_with (first
        | (go_at_call 265; refine (M.out _).mono ?_; rintro e w' ⟨rfl, rfl⟩)
        | (go_at_call 189; refine (U.out _).mono ?_; rintro e w' ⟨rfl, rfl⟩))
      go_ret
      exact ⟨rfl, rfl⟩
set_option maxRecDepth 100000 in
set_option maxHeartbeats 400000 in
theorem counts_c (x : Int) (x2 : x ≤ 9223372036854775807) (b : Bool) (hb : cntD x = b) (w : World) :
    Calls Tryz.prog 274 #[.int .i64 x] w fun e w' => e = .returned (.bool b) ∧ w = w' := by
  subst hb
  have M := Lib.hid (fun w1 => whole_c x x2 _ rfl w1)
  unfold cntD
  generalize wholeD x = b at *
  by_cases h : 0 ≤ x
  · rw [decide_eq_true h, Bool.true_and]
    go_enter Tryz.func274, Tryz.ntmps274
    go_wp2_with (go_at_call 265; refine (M.out _).mono ?_; rintro e w' ⟨rfl, rfl⟩)
    go_ret
    exact ⟨rfl, rfl⟩
  · rw [decide_eq_false h, Bool.false_and]
    go_enter Tryz.func274, Tryz.ntmps274
    go_wp2_with (go_at_call 265; refine (M.out _).mono ?_; rintro e w' ⟨rfl, rfl⟩)
    go_ret
    exact ⟨rfl, rfl⟩
set_option maxRecDepth 100000 in
set_option maxHeartbeats 1000000 in
theorem multiplied_c (x : Int) (t : Nat) (x2 : x ≤ 9223372036854775807) (ht : t ≤ 1000) (n : Int) (b : Bool) (hn : mulsD x t = (n, b)) (w : World) :
    Calls Tryz.prog 188 #[.int .i64 x, .int .i64 t] w (TwoD n b w) := by
  have HN := Lib.hid hn
  have M := Lib.hid (fun (p : Int) (p2 : p ≤ 9223372036854775807) w1 => mul_c p x p2 x2 _ _ rfl w1)
  clear hn
  go_enter Tryz.func188, Tryz.ntmps188
  go_wp2
  go_loopw [6, 7, 9] (fun p o i wr => ∃ (k : Nat) (q : Int), k ≤ t ∧ i = .int .i64 k ∧ p = .int .i64 q ∧ o = .bool true ∧ Hid (mulsD x k = (q, true)) ∧ Drawn w wr) (fun _ _ i _ => t - (intOf i).toNat)
  case atStart => exact ⟨0, 10000, by omega, rfl, rfl, rfl, Lib.hid rfl, Drawn.refl w⟩
  case round =>
    obtain ⟨k, q, hk, rfl, rfl, rfl, hq, hd⟩ := hrel
    have hr := mulsD_room x k
    rw [hq.out] at hr
    obtain ⟨q1, q2⟩ := hr
    dsimp only at q1 q2
    by_cases hlt : k < t
    · obtain ⟨⟨n2, b2⟩, hr2⟩ : ∃ r, scaledD q x 10000 = r := ⟨_, rfl⟩
      have M2 := Lib.hid (fun w1 => mul_c q x q2 x2 _ _ hr2 w1)
      have hx := mulsD_next hq.out hr2
      cases b2
      · have he := mulsD_stop (show k + 1 ≤ t by omega) hx
        obtain ⟨rfl, rfl⟩ := Prod.mk.inj (HN.out.symm.trans he)
        clear he hx hr2 hq HN
        go_wp2_with (go_at_call 80; refine (M2.out _).mono ?_; rintro e w' ⟨rfl, y, rfl⟩)
        go_ret2
        exact ⟨rfl, drawn_more hd _⟩
      · have hx := Lib.hid hx
        clear hr2 hq HN
        go_wp2_with (go_at_call 80; refine (M2.out _).mono ?_; rintro e w' ⟨rfl, y, rfl⟩)
        exact ⟨⟨k + 1, n2, by omega, by go_num, rfl, rfl, hx, drawn_more hd _⟩, by simp [intOf]; omega⟩
    · obtain rfl : k = t := by omega
      obtain ⟨rfl, rfl⟩ := Prod.mk.inj (HN.out.symm.trans hq.out)
      clear HN hq
      go_wp2
      go_ret2
      exact ⟨rfl, hd⟩
set_option maxRecDepth 100000 in
set_option maxHeartbeats 400000 in
theorem power_none (x n : Int) (_ : x ≤ 9223372036854775807) (n2 : n ≤ 9223372036854775807) (h : mayD x = false ∨ wholeIn n (-1000) 1000 = false) (w : World) :
    Calls Tryz.prog 83 #[.int .i64 x, .int .i64 n] w (TwoD 0 false w) := by
  have M := Lib.hid (fun w1 => may_c x _ rfl w1)
  have B := Lib.hid (fun w1 => between_c n (-1000) 1000 n2 _ rfl w1)
  cases hm : mayD x
  · rw [hm] at M
    clear h
    go_enter Tryz.func83, Tryz.ntmps83
    go_wp2_with (go_at_call 75; refine (M.out _).mono ?_; rintro e w' ⟨rfl, rfl⟩)
    go_ret2
    exact ⟨rfl, 0, rfl⟩
  · rw [hm] at M h
    rw [show wholeIn n (-1000) 1000 = false by simpa using h] at B
    clear h
    go_enter Tryz.func83, Tryz.ntmps83
    go_wp2_with (first
      | (go_at_call 75; refine (M.out _).mono ?_; rintro e w' ⟨rfl, rfl⟩)
      | (go_at_call 187; refine (B.out _).mono ?_; rintro e w' ⟨rfl, rfl⟩))
    go_ret2
    exact ⟨rfl, 0, rfl⟩
set_option maxRecDepth 100000 in
set_option maxHeartbeats 400000 in
theorem power_up (x n : Int) (x2 : x ≤ 9223372036854775807) (n2 : n ≤ 9223372036854775807) (h : mayD x = true) (h2 : wholeIn n (-1000) 1000 = true) (h3 : 0 ≤ n) (y : Int) (k : Bool) (hy : mulsD x (unitsD n).natAbs = (y, k)) (w : World) :
    Calls Tryz.prog 83 #[.int .i64 x, .int .i64 n] w (TwoD y k w) := by
  have M := Lib.hid (fun w1 => may_c x _ h w1)
  have B := Lib.hid (fun w1 => between_c n (-1000) 1000 n2 _ h2 w1)
  have U := Lib.hid (fun w1 => units_c n n2 _ rfl w1)
  obtain ⟨e, _, e3, _⟩ := wholeIn_yes h2
  have hs : unitsD n = ((unitsD n).natAbs : Nat) := by omega
  rw [hs] at U
  have P := Lib.hid (fun w1 => multiplied_c x (unitsD n).natAbs x2 (by omega) y k hy w1)
  clear hy hs e e3 h h2
  generalize (unitsD n).natAbs = t at *
  go_enter Tryz.func83, Tryz.ntmps83
  go_wp2_with (first
    | (go_at_call 75; refine (M.out _).mono ?_; rintro e w' ⟨rfl, rfl⟩)
    | (go_at_call 187; refine (B.out _).mono ?_; rintro e w' ⟨rfl, rfl⟩)
    | (go_at_call 189; refine (U.out _).mono ?_; rintro e w' ⟨rfl, rfl⟩)
    | (go_at_call 188; refine (P.out _).mono ?_; rintro e w' ⟨rfl, q, rfl⟩))
  go_ret2
  exact ⟨rfl, _, rfl⟩
set_option maxRecDepth 100000 in
set_option maxHeartbeats 400000 in
theorem power_down (x n : Int) (x2 : x ≤ 9223372036854775807) (n2 : n ≤ 9223372036854775807) (h : mayD x = true) (h2 : wholeIn n (-1000) 1000 = true) (h3 : n < 0) (p : Int) (b : Bool) (hp : mulsD x (unitsD n).natAbs = (p, b))
    (y : Int) (k : Bool) (hy : (if b then scaledD 10000 10000 p else (0, false)) = (y, k)) (w : World) :
    Calls Tryz.prog 83 #[.int .i64 x, .int .i64 n] w (TwoD y k w) := by
  have M := Lib.hid (fun w1 => may_c x _ h w1)
  have B := Lib.hid (fun w1 => between_c n (-1000) 1000 n2 _ h2 w1)
  have U := Lib.hid (fun w1 => units_c n n2 _ rfl w1)
  obtain ⟨e, e2, e3, _⟩ := wholeIn_yes h2
  have hr := mulsD_room x (unitsD n).natAbs
  rw [hp] at hr
  obtain ⟨hr1, hr2⟩ := hr
  dsimp only at hr1 hr2
  obtain ⟨t, ht⟩ : ∃ t, (unitsD n).natAbs = t := ⟨_, rfl⟩
  have hs : unitsD n = -(t : Int) := by omega
  have ht2 : t ≤ 1000 := by omega
  rw [hs] at U
  rw [ht] at hp
  have P := Lib.hid (fun w1 => multiplied_c x t x2 ht2 p b hp w1)
  clear hp hs e e2 e3 h h2 ht
  cases b
  · obtain ⟨rfl, rfl⟩ := Prod.mk.inj hy
    clear hy
    go_enter Tryz.func83, Tryz.ntmps83
    go_wp2_with (first
      | (go_at_call 75; refine (M.out _).mono ?_; rintro e w' ⟨rfl, rfl⟩)
      | (go_at_call 187; refine (B.out _).mono ?_; rintro e w' ⟨rfl, rfl⟩)
      | (go_at_call 189; refine (U.out _).mono ?_; rintro e w' ⟨rfl, rfl⟩)
      | (go_at_call 188; refine (P.out _).mono ?_; rintro e w' ⟨rfl, q, rfl⟩))
    go_ret2
    exact ⟨rfl, _, rfl⟩
  · rw [if_pos rfl] at hy
    have D := Lib.hid (fun w1 => div_c 10000 p (by omega) hr2 y k hy w1)
    clear hy
    go_enter Tryz.func83, Tryz.ntmps83
    go_wp2_with (first
      | (go_at_call 75; refine (M.out _).mono ?_; rintro e w' ⟨rfl, rfl⟩)
      | (go_at_call 187; refine (B.out _).mono ?_; rintro e w' ⟨rfl, rfl⟩)
      | (go_at_call 189; refine (U.out _).mono ?_; rintro e w' ⟨rfl, rfl⟩)
      | (go_at_call 188; refine (P.out _).mono ?_; rintro e w' ⟨rfl, q, rfl⟩)
      | (go_at_call 82; refine (D.out _).mono ?_; rintro e w' ⟨rfl, q2, rfl⟩))
    go_ret2
    exact ⟨rfl, _, rfl⟩
theorem power_c (x n : Int) (x2 : x ≤ 9223372036854775807) (n2 : n ≤ 9223372036854775807) (y : Int) (k : Bool) (hy : powerD x n = (y, k)) (w : World) :
    Calls Tryz.prog 83 #[.int .i64 x, .int .i64 n] w (TwoD y k w) := by
  cases h1 : mayD x
  · obtain ⟨rfl, rfl⟩ := Prod.mk.inj (hy.symm.trans (powerD_none (.inl h1)))
    exact power_none x n x2 n2 (.inl h1) w
  cases h2 : wholeIn n (-1000) 1000
  · obtain ⟨rfl, rfl⟩ := Prod.mk.inj (hy.symm.trans (powerD_none (.inr h2)))
    exact power_none x n x2 n2 (.inr h2) w
  by_cases h3 : 0 ≤ n
  · rw [powerD_up h1 h2 h3] at hy
    exact power_up x n x2 n2 h1 h2 h3 y k hy w
  · rw [powerD_down h1 h2 (by omega)] at hy
    exact power_down x n x2 n2 h1 h2 (by omega) _ _ rfl y k hy w
end Go.Proofs.YtebjedbppiphgaaGreatDoor.Pow

/- What package power's Sqrt answers: for every number of 64 bits.
   What package power's Fact, Combin answer: for every two numbers of 64 bits.
   What package round's Quot and Odd answer: for every number of 64 bits. -/
import Derived.Test.YtebjedbppiphgaaGreatDoorKfa17
import Derived.Test.YtebjedbppiphgaaGreatDoorKfa14
import Derived.Test.YtebjedbppiphgaaGreatDoorKfa08
namespace Go.Proofs.YtebjedbppiphgaaGreatDoor.Pow
open Go.RowKit Kit Dec
/-- a number of 128 bits, by its halves -/
theorem halves (N : Nat) : N = N / 18446744073709551616 * 18446744073709551616 + N % 18446744073709551616 := by omega
set_option maxRecDepth 100000 in
set_option maxHeartbeats 400000 in
theorem above_c (r x : Nat) (hr : r ≤ 9223372036854775807) (hx : x ≤ 9223372036854775807) (b : Bool) (hb : decide (x * 10000 < r * r) = b) (w : World) :
    Calls Tryz.prog 270 #[.int .i64 r, .int .i64 x] w fun e w' => e = .returned (.bool b) ∧ w = w' := by
  subst hb
  have M := Lib.hid (fun w1 => Tryz.bits_Mul64 r r (by omega) (by omega) w1)
  have M2 : Hid (∀ w1, Calls Tryz.prog 305 #[.int .u64 x, .int .u64 10000] w1 fun e w' => e = .returned (.tuple #[.int .u64 ((x * 10000 / 18446744073709551616 : Nat) : Int), .int .u64 ((x * 10000 % 18446744073709551616 : Nat) : Int)]) ∧ w' = w1) := Lib.hid (fun w1 => Tryz.bits_Mul64 x 10000 (by omega) (by omega) w1)
  have e1 := halves (r * r)
  have e2 := halves (x * 10000)
  have l1 : r * r % 18446744073709551616 < 18446744073709551616 := Nat.mod_lt _ (by omega)
  have l2 : x * 10000 % 18446744073709551616 < 18446744073709551616 := Nat.mod_lt _ (by omega)
  rw [e1, e2]
  generalize r * r / 18446744073709551616 = H at *
  generalize r * r % 18446744073709551616 = L at *
  generalize x * 10000 / 18446744073709551616 = I at *
  generalize x * 10000 % 18446744073709551616 = J at *
  clear e1 e2
  have hh : (H ≤ I ∧ I ≤ H → H = I) := fun h => by omega
  by_cases h1 : I < H
  · rw [decide_eq_true (show I * 18446744073709551616 + J < H * 18446744073709551616 + L by omega)]
    clear hh
    go_enter Tryz.func270, Tryz.ntmps270
    go_wp2_with (go_at_call 305; first | ((with_reducible refine (M.out _).mono ?_); rintro e w' ⟨rfl, rfl⟩) | ((with_reducible refine (M2.out _).mono ?_); rintro e w' ⟨rfl, rfl⟩))
    go_ret
    exact ⟨rfl, rfl⟩
  by_cases h2 : H < I
  · rw [decide_eq_false (show ¬ I * 18446744073709551616 + J < H * 18446744073709551616 + L by omega)]
    have t1 : (H == I) = false := by simp; omega
    have t2 : ((H : Int) == (I : Int)) = false := by simp; omega
    clear hh
    go_enter Tryz.func270, Tryz.ntmps270
    go_wp2_with (go_at_call 305; first | ((with_reducible refine (M.out _).mono ?_); rintro e w' ⟨rfl, rfl⟩) | ((with_reducible refine (M2.out _).mono ?_); rintro e w' ⟨rfl, rfl⟩))
    go_ret
    exact ⟨rfl, rfl⟩
  · obtain rfl : H = I := hh (by omega)
    rw [show decide (H * 18446744073709551616 + J < H * 18446744073709551616 + L) = decide (J < L) from decide_eq_decide.2 (by omega)]
    clear hh
    go_enter Tryz.func270, Tryz.ntmps270
    go_wp2_with (go_at_call 305; first | ((with_reducible refine (M.out _).mono ?_); rintro e w' ⟨rfl, rfl⟩) | ((with_reducible refine (M2.out _).mono ?_); rintro e w' ⟨rfl, rfl⟩))
    go_ret
    exact ⟨rfl, rfl⟩
set_option maxRecDepth 100000 in
set_option maxHeartbeats 400000 in
theorem sqrt_low (x : Int) (h : x < 0) (w : World) : Calls Tryz.prog 206 #[.int .i64 x] w (TwoD 0 false w) := by
  go_enter Tryz.func206, Tryz.ntmps206
  go_wp2
  go_ret2
  exact ⟨rfl, 0, rfl⟩
set_option maxRecDepth 100000 in
set_option maxHeartbeats 1000000 in
theorem sqrt_c (x r : Nat) (x2 : x ≤ 9223372036854775807) (hr : RootOf r (x * 10000)) (w : World) : Calls Tryz.prog 206 #[.int .i64 x] w (TwoD r true w) := by
  have HR := Lib.hid hr
  have H0 := Lib.hid (SqAt.start (N := x * 10000) (by omega))
  clear hr
  go_enter Tryz.func206, Tryz.ntmps206
  go_wp2
  go_loop [4, 9] (fun a i => ∃ k b : Nat, k ≤ 39 ∧ i = .int .i64 k ∧ a = .int .i64 b ∧ Hid (SqAt (x * 10000) k b)) (fun _ i => 39 - (intOf i).toNat)
  case atStart => exact ⟨0, 0, by omega, rfl, rfl, H0⟩
  case round =>
    clear H0
    obtain ⟨k, b, hk, rfl, rfl, hs⟩ := hrel
    by_cases hlt : k < 39
    · obtain ⟨p, hp⟩ : ∃ p, 2 ^ (38 - k) = p := ⟨_, rfl⟩
      have hpi : (2 : Int) ^ (38 - k) = (p : Int) := by rw [← hp]; simp
      have hbig := hs.out.2.2
      rw [(bit_next hlt).1, hp] at hbig
      have hno := fun h => hs.out.leave hlt (by rw [hp]; exact h)
      have hyes := fun h => hs.out.take hlt (by rw [hp]; exact h)
      rw [hp] at hyes
      have l1 : p ≤ 549755813888 := by omega
      have l2 : b + p ≤ 549755813888 := by omega
      have ce : ((b + p : Nat) : Int) = (b : Int) + (p : Int) := Int.natCast_add b p
      by_cases hc : x * 10000 < (b + p) * (b + p)
      · have A := Lib.hid (fun w1 => above_c (b + p) x (by omega) x2 true (decide_eq_true hc) w1)
        have hn := Lib.hid (hno hc)
        rw [ce] at A
        clear hyes hno hc hs HR hp hbig ce
        go_wp2_with (go_at_call 270; refine (A.out _).mono ?_; rintro e w' ⟨rfl, rfl⟩)
        exact ⟨⟨k + 1, b, by omega, by go_num, rfl, hn⟩, by simp [intOf]; omega⟩
      · have A := Lib.hid (fun w1 => above_c (b + p) x (by omega) x2 false (decide_eq_false hc) w1)
        have hn := Lib.hid (hyes (by omega))
        rw [ce] at A
        clear hyes hno hc hs HR hp hbig
        go_wp2_with (go_at_call 270; refine (A.out _).mono ?_; rintro e w' ⟨rfl, rfl⟩)
        exact ⟨⟨k + 1, b + p, by omega, by go_num, by rw [ce], hn⟩, by simp [intOf]; omega⟩
    · obtain rfl : k = 39 := by omega
      obtain rfl := root_one HR.out hs.out.done
      clear HR hs
      go_wp2
      go_ret2
      exact ⟨rfl, 0, rfl⟩
end Go.Proofs.YtebjedbppiphgaaGreatDoor.Pow
namespace Go.Proofs.YtebjedbppiphgaaGreatDoor.Pow
open Go.RowKit Kit Dec
set_option maxRecDepth 100000 in
set_option maxHeartbeats 400000 in
theorem fact_none (x : Int) (x2 : x ≤ 9223372036854775807) (h : wholeIn x 0 1000 = false) (w : World) :
    Calls Tryz.prog 207 #[.int .i64 x] w (TwoD 0 false w) := by
  have B := Lib.hid (fun w1 => between_c x 0 1000 x2 false h w1)
  clear h
  go_enter Tryz.func207, Tryz.ntmps207
  go_wp2_with (go_at_call 187; (with_reducible refine (B.out _).mono ?_); rintro e w' ⟨rfl, rfl⟩)
  go_ret2
  exact ⟨rfl, 0, rfl⟩
set_option maxRecDepth 100000 in
set_option maxHeartbeats 1000000 in
theorem fact_some (x : Int) (x2 : x ≤ 9223372036854775807) (h : wholeIn x 0 1000 = true) (n : Int) (b : Bool) (hn : factsD (unitsD x).toNat = (n, b)) (w : World) :
    Calls Tryz.prog 207 #[.int .i64 x] w (TwoD n b w) := by
  have B := Lib.hid (fun w1 => between_c x 0 1000 x2 true h w1)
  obtain ⟨e, e1, e2, _⟩ := wholeIn_yes h
  have U := Lib.hid (fun w1 => units_c x x2 _ rfl w1)
  obtain ⟨t, ht⟩ : ∃ t, (unitsD x).toNat = t := ⟨_, rfl⟩
  have hu : unitsD x = (t : Int) := by omega
  have ht2 : t ≤ 1000 := by omega
  rw [ht] at hn
  rw [hu] at U
  have HN := Lib.hid hn
  clear hn ht hu e e1 e2 h
  go_enter Tryz.func207, Tryz.ntmps207
  go_wp2_with (first
    | (go_at_call 187; (with_reducible refine (B.out _).mono ?_); rintro e w' ⟨rfl, rfl⟩)
    | (go_at_call 189; (with_reducible refine (U.out _).mono ?_); rintro e w' ⟨rfl, rfl⟩))
  go_loopw [4, 5, 12] (fun p o i wr => ∃ (k : Nat) (q : Int), k ≤ t ∧ i = .int .i64 k ∧ p = .int .i64 q ∧ o = .bool true ∧ Hid (factsD k = (q, true)) ∧ Drawn w wr) (fun _ _ i _ => t - (intOf i).toNat)
  case atStart => exact ⟨0, 10000, by omega, rfl, rfl, rfl, Lib.hid rfl, Drawn.refl w⟩
  case round =>
    clear B U
    obtain ⟨k, q, hk, rfl, rfl, rfl, hq, hd⟩ := hrel
    have hr := factsD_room k
    rw [hq.out] at hr
    obtain ⟨q1, q2⟩ := hr
    dsimp only at q1 q2
    by_cases hlt : k < t
    · obtain ⟨⟨n2, b2⟩, hr2⟩ : ∃ r, scaledD q ((k + 1 : Nat) : Int) 1 = r := ⟨_, rfl⟩
      have hx := factsD_next hq.out hr2
      have M2 := Lib.hid (fun w1 => scaled_c q ((k + 1 : Nat) : Int) 1 q2 (by omega) (by omega) _ _ hr2 w1)
      rw [show ((k + 1 : Nat) : Int) = (k : Int) + 1 from rfl] at M2
      cases b2
      · have he := factsD_stop (show k + 1 ≤ t by omega) hx
        obtain ⟨rfl, rfl⟩ := Prod.mk.inj (HN.out.symm.trans he)
        clear he hx hr2 hq HN
        go_wp2_with (go_at_call 186; (with_reducible refine (M2.out _).mono ?_); rintro e w' ⟨rfl, y, rfl⟩)
        go_ret2
        exact ⟨rfl, drawn_more hd _⟩
      · have hx := Lib.hid hx
        clear hr2 hq HN
        go_wp2_with (go_at_call 186; (with_reducible refine (M2.out _).mono ?_); rintro e w' ⟨rfl, y, rfl⟩)
        exact ⟨⟨k + 1, n2, by omega, by go_num, rfl, rfl, hx, drawn_more hd _⟩, by simp [intOf]; omega⟩
    · obtain rfl : k = t := by omega
      obtain ⟨rfl, rfl⟩ := Prod.mk.inj (HN.out.symm.trans hq.out)
      clear HN hq
      go_wp2
      go_ret2
      exact ⟨rfl, hd⟩
theorem fact_c (x : Int) (x2 : x ≤ 9223372036854775807) (n : Int) (b : Bool) (hn : factD x = (n, b)) (w : World) :
    Calls Tryz.prog 207 #[.int .i64 x] w (TwoD n b w) := by
  unfold factD at hn
  cases h : wholeIn x 0 1000
  · rw [h] at hn
    obtain ⟨rfl, rfl⟩ := Prod.mk.inj hn
    exact fact_none x x2 h w
  · rw [h, if_pos rfl] at hn
    exact fact_some x x2 h n b hn w

end Go.Proofs.YtebjedbppiphgaaGreatDoor.Pow
namespace Go.Proofs.YtebjedbppiphgaaGreatDoor.Rnd
open Go.RowKit Kit Dec
/-- the least odd number of units that is not below n -/
def oddN (n : Nat) : Nat := if n ≤ (2 * (n / 20000) + 1) * 10000 then (2 * (n / 20000) + 1) * 10000 else (2 * (n / 20000) + 3) * 10000
def oddD (x : Int) : Int × Bool := if mayD x && decide (oddN x.natAbs ≤ 9223372036854775807) then (if x < 0 then -(oddN x.natAbs : Int) else oddN x.natAbs, true) else (0, false)
theorem odd_even (n : Nat) (h : n ≤ 9223372036854775807) :
    (oddN n ≤ 9223372036854775807 → stepD ((n : Int) - 10000) 20000 5 = ((oddN n : Int) - 10000, true)) ∧ (9223372036854775807 < oddN n → stepD ((n : Int) - 10000) 20000 5 = (0, false)) ∧ (10000 ≤ oddN n) := by
  have hf : Fl ((n : Int) - 10000) 20000 (((n : Int) - 10000) / 20000) (((n : Int) - 10000) % 20000) := fl_of (by omega)
  obtain ⟨q, hq⟩ : ∃ q, ((n : Int) - 10000) / 20000 = q := ⟨_, rfl⟩
  obtain ⟨l, hl⟩ : ∃ l, ((n : Int) - 10000) % 20000 = l := ⟨_, rfl⟩
  rw [hq, hl] at hf
  clear hq hl
  have he := hf.eq
  have l0 := hf.l0
  have ls := hf.ls
  have hR : roundI ((n : Int) - 10000) 20000 5 = (oddN n : Int) - 10000 := by
    unfold oddN
    by_cases hz : l = 0
    · subst hz
      rw [roundI_zero hf (by omega), if_pos (by omega)]
      omega
    · rw [roundI_up hf (by omega) (by omega) rfl]
      split <;> omega
  have hodd : oddN n % 20000 = 10000 ∧ 10000 ≤ oddN n := by
    unfold oddN
    split <;> omega
  rw [stepD_may (by omega) (by omega) (by omega) (by omega), hR]
  exact ⟨fun h1 => giveD_in (by omega) (by omega), fun h1 => giveD_out (by omega), hodd.2⟩
set_option maxRecDepth 100000 in
set_option maxHeartbeats 400000 in
theorem odd_none (x : Int) (h : x < -9223372036854775807) (w : World) : Calls Tryz.prog 205 #[.int .i64 x] w (Two 0 false w) := by
  have M := Lib.hid (fun w1 => may_c x false (mayD_no h) w1)
  go_enter Tryz.func205, Tryz.ntmps205
  go_wp2_with (go_at_call 75; refine (M.out _).mono ?_; rintro e w' ⟨rfl, rfl⟩)
  go_ret2
  exact ⟨rfl, rfl⟩
set_option maxRecDepth 100000 in
set_option maxHeartbeats 400000 in
theorem odd_some (x : Int) (x1 : -9223372036854775807 ≤ x) (x2 : x ≤ 9223372036854775807) (n : Int) (k : Bool) (hn : oddD x = (n, k)) (w : World) :
    Calls Tryz.prog 205 #[.int .i64 x] w (Two n k w) := by
  have M := Lib.hid (fun w1 => may_c x true (mayD_yes x1) w1)
  obtain ⟨a, ha⟩ : ∃ a, x.natAbs = a := ⟨_, rfl⟩
  have Z := Lib.hid (fun w1 => size_r x x1 x2 a ha w1)
  have la : a ≤ 9223372036854775807 := by omega
  unfold oddD at hn
  rw [ha, mayD_yes x1, Bool.true_and] at hn
  obtain ⟨h1, h2, h3⟩ := odd_even a la
  obtain ⟨o, ho⟩ : ∃ o, oddN a = o := ⟨_, rfl⟩
  rw [ho] at hn h1 h2 h3
  by_cases hc : o ≤ 9223372036854775807
  · rw [decide_eq_true hc, if_pos rfl] at hn
    obtain ⟨hn1, rfl⟩ := Prod.mk.inj hn
    have S := Lib.hid (fun w1 => step_c ((a : Int) - 10000) 20000 5 (by omega) (by omega) _ true (h1 hc) w1)
    clear h1 h2 hn ho ha
    by_cases hx : x < 0
    · rw [if_pos hx] at hn1
      subst hn1
      go_enter Tryz.func205, Tryz.ntmps205
      go_wp2_with (first
        | (go_at_call 75; refine (M.out _).mono ?_; rintro e w' ⟨rfl, rfl⟩)
        | (go_at_call 269; refine (Z.out _).mono ?_; rintro e w' ⟨rfl, rfl⟩)
        | (go_at_call 209; refine (S.out _).mono ?_; rintro e w' ⟨rfl, rfl⟩))
      go_ret2
      exact ⟨by congr 3, rfl⟩
    · rw [if_neg hx] at hn1
      subst hn1
      go_enter Tryz.func205, Tryz.ntmps205
      go_wp2_with (first
        | (go_at_call 75; refine (M.out _).mono ?_; rintro e w' ⟨rfl, rfl⟩)
        | (go_at_call 269; refine (Z.out _).mono ?_; rintro e w' ⟨rfl, rfl⟩)
        | (go_at_call 209; refine (S.out _).mono ?_; rintro e w' ⟨rfl, rfl⟩))
      go_ret2
      exact ⟨by congr 3, rfl⟩
  · rw [decide_eq_false hc, if_neg (by decide)] at hn
    obtain ⟨rfl, rfl⟩ := Prod.mk.inj hn
    have S := Lib.hid (fun w1 => step_c ((a : Int) - 10000) 20000 5 (by omega) (by omega) _ false (h2 (by omega)) w1)
    clear h1 h2 hn ho ha hc
    go_enter Tryz.func205, Tryz.ntmps205
    go_wp2_with (first
      | (go_at_call 75; refine (M.out _).mono ?_; rintro e w' ⟨rfl, rfl⟩)
      | (go_at_call 269; refine (Z.out _).mono ?_; rintro e w' ⟨rfl, rfl⟩)
      | (go_at_call 209; refine (S.out _).mono ?_; rintro e w' ⟨rfl, rfl⟩))
    go_ret2
    exact ⟨rfl, rfl⟩
theorem odd_c (x : Int) (x2 : x ≤ 9223372036854775807) (n : Int) (k : Bool) (hn : oddD x = (n, k)) (w : World) :
    Calls Tryz.prog 205 #[.int .i64 x] w (Two n k w) := by
  by_cases h : x < -9223372036854775807
  · unfold oddD at hn
    rw [mayD_no h, Bool.false_and, if_neg (by decide)] at hn
    obtain ⟨rfl, rfl⟩ := Prod.mk.inj hn
    exact odd_none x h w
  · exact odd_some x (by omega) x2 n k hn w
end Go.Proofs.YtebjedbppiphgaaGreatDoor.Rnd

/- What the statement CatsTells answers: yes, for every input. -/
import Derived.Test.YtdnnnkeadgcknaaDoorCatsAlive
namespace Go.Proofs.YtdnnnkeadgcknaaDoor.Cats
open Go.RowKit

theorem upto_or (t k : Nat) (h : t.testBit k = false) (j : Nat) : upto j (t ||| 2 ^ k) = upto j t + if k < j then 2 ^ k else 0 := by
  induction j with
  | zero => simp [upto_zero]
  | succ j ih =>
    have hb : (t ||| 2 ^ k).testBit j = (t.testBit j || decide (k = j)) := by rw [Nat.testBit_or, Nat.testBit_two_pow]
    by_cases hj : k = j
    · subst hj
      rw [upto_yes (by rw [hb]; simp), upto_no h, ih, if_neg (by omega), if_pos (by omega), Nat.add_zero]
    · have e : (if k < j + 1 then 2 ^ k else 0) = if k < j then 2 ^ k else 0 := by
        by_cases h1 : k < j
        · rw [if_pos h1, if_pos (by omega)]
        · rw [if_neg h1, if_neg (by omega)]
      rw [e]
      cases hc : t.testBit j
      · rw [upto_no hc, upto_no (by rw [hb, hc]; simpa using hj), ih]
      · rw [upto_yes hc, upto_yes (by rw [hb, hc]; rfl), ih]
        omega
theorem or_add {t k : Nat} (ht : U t) (hk : k < 64) (h : t.testBit k = false) : t ||| 2 ^ k = t + 2 ^ k := by
  have e := upto_or t k h 64
  rw [upto_all (U_or ht (U_pow hk)), upto_all ht, if_pos hk] at e
  exact e
theorem without_yes {s k : Nat} (hs : U s) (hk : k < 64) (h : s.testBit k = true) : s &&& (18446744073709551615 - 2 ^ k) = s - 2 ^ k ∧ 2 ^ k ≤ s := by
  have hU : U (s &&& (18446744073709551615 - 2 ^ k)) := U_and _ hs
  have hno : (s &&& (18446744073709551615 - 2 ^ k)).testBit k = false := by
    rw [Nat.testBit_and, testBit_compl (U_pow hk), Nat.testBit_two_pow]
    simp
  have hor : (s &&& (18446744073709551615 - 2 ^ k)) ||| 2 ^ k = s := by
    apply Nat.eq_of_testBit_eq
    intro i
    rw [Nat.testBit_or, Nat.testBit_and, testBit_compl (U_pow hk), Nat.testBit_two_pow]
    by_cases hi : k = i
    · subst hi; simp [h]
    · cases hb : s.testBit i
      · simp [hi]
      · have := testBit_lt hs hb
        simp [hi, this]
  have := or_add hU hk hno
  rw [hor] at this
  omega
theorem without_no {s k : Nat} (hs : U s) (hk : k < 64) (h : s.testBit k = false) : s &&& (18446744073709551615 - 2 ^ k) = s := by
  apply Nat.eq_of_testBit_eq
  intro i
  rw [Nat.testBit_and, testBit_compl (U_pow hk), Nat.testBit_two_pow]
  by_cases hi : k = i
  · subst hi; simp [h]
  · cases hb : s.testBit i
    · rfl
    · have := testBit_lt hs hb
      simp [hi, this]

def ListEnd (n : Nat) (xs : List Int) (w : World) (e : Ending) (w' : World) : Prop := ∃ A cap, e = .returned (.slice A n cap) ∧ Ints w' A n xs ∧ Below w.heap.size w w'
theorem Rl.end_ {s : Nat} {w wr : World} {v : Value} (h : Rl s w wr v 64) : ListEnd (bitsTo s 64).length (intsOf (bitsTo s 64)) w (.returned v) wr := by
  obtain ⟨A, cap, rfl, hi⟩ := h.ints (Nat.le_refl _)
  exact ⟨A, cap, rfl, hi, h.2⟩

set_option maxHeartbeats 2000000 in
theorem tells_out_neg (s : Nat) (c : Int) (n : Nat) (xs : List Int) (hc : c < 0)
    (hcount : Hid (∀ w, Calls Tryd.prog 13 #[.int .u64 s] w fun e w' => e = .returned (.int .i64 (n : Nat)) ∧ w = w'))
    (hlist : Hid (∀ w, Calls Tryd.prog 11 #[.int .u64 s] w (ListEnd n xs w)))
    (hrlist : Hid (∀ w, Calls Tryd.prog 12 #[.int .u64 s] w (ListEnd n xs w))) (w : World) :
    Calls Tryd.prog 3 #[.int .u64 s, .int .i64 c] w fun e w' => e = .returned (.bool true) ∧ Below w.heap.size w w' := by
  have HM := Lib.hid (mayB_neg hc)
  go_enter Tryd.func3, Tryd.ntmps3
  go_wp2_with fail
  refine (with_out s c HM.out _).mono ?_
  rintro e w1 ⟨rfl, rfl⟩
  go_wp2_with fail
  refine (has_out s c HM.out _).mono ?_
  rintro e w1 ⟨rfl, rfl⟩
  go_wp2_with fail
  refine (bit_out s c HM.out _).mono ?_
  rintro e w1 ⟨rfl, rfl⟩
  go_wp2_with fail
  refine (hlist.out _).mono ?_
  rintro e w1 ⟨A, c1, rfl, i1, b1⟩
  go_wp2_with fail
  refine (hrlist.out _).mono ?_
  rintro e w2 ⟨B, c2, rfl, i2, b2⟩
  have i1' := i1.keep b2
  have b12 := b1.trans (b2.mono b1.size)
  clear i1 b1 b2
  go_wp2_with fail
  refine (same_c A B n n c1 c2 xs xs _ i1' i2).mono ?_
  rintro e w3 ⟨rfl, hd⟩
  have b13 := b12.trans (hd.below.mono b12.size)
  clear hd b12 i1' i2
  rw [show decide (xs = xs) = true from by simp]
  go_wp2_with fail
  refine (hcount.out _).mono ?_
  rintro e w4 ⟨rfl, rfl⟩
  go_wp2_with fail
  refine (hrlist.out _).mono ?_
  rintro e w4 ⟨B2, c3, rfl, i3, b4⟩
  have b14 := b13.trans (b4.mono b13.size)
  clear i3 b4 b13
  go_wp2_with fail
  refine (without_out s c HM.out _).mono ?_
  rintro e w5 ⟨rfl, rfl⟩
  go_wp2_with fail
  refine (alive_c _).mono ?_
  rintro e w6 ⟨rfl, b6⟩
  go_wp2
  go_ret
  exact ⟨rfl, b14.trans (b6.mono b14.size)⟩

set_option maxHeartbeats 2000000 in
theorem tells_out_big (s : Nat) (c : Int) (n : Nat) (xs : List Int) (hc : 64 ≤ c)
    (hcount : Hid (∀ w, Calls Tryd.prog 13 #[.int .u64 s] w fun e w' => e = .returned (.int .i64 (n : Nat)) ∧ w = w'))
    (hlist : Hid (∀ w, Calls Tryd.prog 11 #[.int .u64 s] w (ListEnd n xs w)))
    (hrlist : Hid (∀ w, Calls Tryd.prog 12 #[.int .u64 s] w (ListEnd n xs w))) (w : World) :
    Calls Tryd.prog 3 #[.int .u64 s, .int .i64 c] w fun e w' => e = .returned (.bool true) ∧ Below w.heap.size w w' := by
  have HM := Lib.hid (mayB_big hc)
  have hd0 : decide (c ≤ 63) = false := by simp; omega
  have hd1 : decide (0 ≤ c) = true := by simp; omega
  go_enter Tryd.func3, Tryd.ntmps3
  go_wp2_with fail
  refine (with_out s c HM.out _).mono ?_
  rintro e w1 ⟨rfl, rfl⟩
  go_wp2_with fail
  refine (has_out s c HM.out _).mono ?_
  rintro e w1 ⟨rfl, rfl⟩
  go_wp2_with fail
  refine (bit_out s c HM.out _).mono ?_
  rintro e w1 ⟨rfl, rfl⟩
  go_wp2_with fail
  refine (hlist.out _).mono ?_
  rintro e w1 ⟨A, c1, rfl, i1, b1⟩
  go_wp2_with fail
  refine (hrlist.out _).mono ?_
  rintro e w2 ⟨B, c2, rfl, i2, b2⟩
  have i1' := i1.keep b2
  have b12 := b1.trans (b2.mono b1.size)
  clear i1 b1 b2
  go_wp2_with fail
  refine (same_c A B n n c1 c2 xs xs _ i1' i2).mono ?_
  rintro e w3 ⟨rfl, hd⟩
  have b13 := b12.trans (hd.below.mono b12.size)
  clear hd b12 i1' i2
  rw [show decide (xs = xs) = true from by simp]
  go_wp2_with fail
  refine (hcount.out _).mono ?_
  rintro e w4 ⟨rfl, rfl⟩
  go_wp2_with fail
  refine (hrlist.out _).mono ?_
  rintro e w4 ⟨B2, c3, rfl, i3, b4⟩
  have b14 := b13.trans (b4.mono b13.size)
  clear i3 b4 b13
  go_wp2_with fail
  refine (without_out s c HM.out _).mono ?_
  rintro e w5 ⟨rfl, rfl⟩
  go_wp2_with fail
  refine (alive_c _).mono ?_
  rintro e w6 ⟨rfl, b6⟩
  go_wp2
  go_ret
  exact ⟨rfl, b14.trans (b6.mono b14.size)⟩

set_option maxHeartbeats 2000000 in
theorem tells_in_yes (s k n J L : Nat) (xs : List Int) (hk : k < 64)
    (hcount : Hid (∀ w, Calls Tryd.prog 13 #[.int .u64 s] w fun e w' => e = .returned (.int .i64 (n : Nat)) ∧ w = w'))
    (hlist : Hid (∀ w, Calls Tryd.prog 11 #[.int .u64 s] w (ListEnd n xs w)))
    (hrlist : Hid (∀ w, Calls Tryd.prog 12 #[.int .u64 s] w (ListEnd n xs w)))
    (hhas : Hid (∀ w, Calls Tryd.prog 8 #[.int .u64 s, .int .i64 k] w fun e w' => e = .returned (.bool true) ∧ w = w'))
    (hbit : Hid (∀ w, Calls Tryd.prog 9 #[.int .u64 s, .int .i64 k] w fun e w' => e = .returned (.bool true) ∧ w = w'))
    (hwith : Hid (∀ w, Calls Tryd.prog 7 #[.int .u64 s, .int .i64 k] w fun e w' => e = .returned (.tuple #[.int .u64 (J : Nat), .bool true]) ∧ w = w'))
    (hone : Hid (∀ w, Calls Tryd.prog 16 #[.int .i64 k] w fun e w' => e = .returned (.int .u64 (2 ^ k : Nat)) ∧ w = w'))
    (hjoin : Hid (∀ w, Calls Tryd.prog 17 #[.int .u64 s, .int .u64 (2 ^ k : Nat)] w fun e w' => e = .returned (.int .u64 (J : Nat)) ∧ w = w'))
    (hwo : Hid (∀ w, Calls Tryd.prog 14 #[.int .u64 s, .int .i64 k] w fun e w' => e = .returned (.int .u64 (L : Nat)) ∧ w = w')) (hsub : IntKind.u64.wrap ((s : Int) - 2 ^ k) = (L : Int)) (w : World) :
    Calls Tryd.prog 3 #[.int .u64 s, .int .i64 k] w fun e w' => e = .returned (.bool true) ∧ Below w.heap.size w w' := by
  go_enter Tryd.func3, Tryd.ntmps3
  go_wp2_with fail
  refine (hwith.out _).mono ?_
  rintro e w1 ⟨rfl, rfl⟩
  go_wp2_with fail
  refine (hhas.out _).mono ?_
  rintro e w1 ⟨rfl, rfl⟩
  go_wp2_with fail
  refine (hbit.out _).mono ?_
  rintro e w1 ⟨rfl, rfl⟩
  go_wp2_with fail
  refine (hlist.out _).mono ?_
  rintro e w1 ⟨A, c1, rfl, i1, b1⟩
  go_wp2_with fail
  refine (hrlist.out _).mono ?_
  rintro e w2 ⟨B, c2, rfl, i2, b2⟩
  have i1' := i1.keep b2
  have b12 := b1.trans (b2.mono b1.size)
  clear i1 b1 b2
  go_wp2_with fail
  refine (same_c A B n n c1 c2 xs xs _ i1' i2).mono ?_
  rintro e w3 ⟨rfl, hd⟩
  have b13 := b12.trans (hd.below.mono b12.size)
  clear hd b12 i1' i2
  rw [show decide (xs = xs) = true from by simp]
  go_wp2_with fail
  refine (hcount.out _).mono ?_
  rintro e w4 ⟨rfl, rfl⟩
  go_wp2_with fail
  refine (hrlist.out _).mono ?_
  rintro e w4 ⟨B2, c3, rfl, i3, b4⟩
  have b14 := b13.trans (b4.mono b13.size)
  clear i3 b4 b13
  go_wp2_with fail
  refine (hbit.out _).mono ?_
  rintro e w1 ⟨rfl, rfl⟩
  go_wp2_with fail
  refine (hone.out _).mono ?_
  rintro e w1 ⟨rfl, rfl⟩
  go_wp2_with fail
  refine (hone.out _).mono ?_
  rintro e w1 ⟨rfl, rfl⟩
  go_wp2_with fail
  refine (hjoin.out _).mono ?_
  rintro e w1 ⟨rfl, rfl⟩
  go_wp2_with fail
  refine (hwo.out _).mono ?_
  rintro e w1 ⟨rfl, rfl⟩
  go_wp2_with fail
  refine (alive_c _).mono ?_
  rintro e w6 ⟨rfl, b6⟩
  go_wp2
  go_ret
  exact ⟨rfl, b14.trans (b6.mono b14.size)⟩

set_option maxHeartbeats 2000000 in
theorem tells_in_no (s k n J : Nat) (xs : List Int) (hk : k < 64)
    (hcount : Hid (∀ w, Calls Tryd.prog 13 #[.int .u64 s] w fun e w' => e = .returned (.int .i64 (n : Nat)) ∧ w = w'))
    (hlist : Hid (∀ w, Calls Tryd.prog 11 #[.int .u64 s] w (ListEnd n xs w)))
    (hrlist : Hid (∀ w, Calls Tryd.prog 12 #[.int .u64 s] w (ListEnd n xs w)))
    (hhas : Hid (∀ w, Calls Tryd.prog 8 #[.int .u64 s, .int .i64 k] w fun e w' => e = .returned (.bool false) ∧ w = w'))
    (hbit : Hid (∀ w, Calls Tryd.prog 9 #[.int .u64 s, .int .i64 k] w fun e w' => e = .returned (.bool false) ∧ w = w'))
    (hwith : Hid (∀ w, Calls Tryd.prog 7 #[.int .u64 s, .int .i64 k] w fun e w' => e = .returned (.tuple #[.int .u64 (J : Nat), .bool true]) ∧ w = w'))
    (hone : Hid (∀ w, Calls Tryd.prog 16 #[.int .i64 k] w fun e w' => e = .returned (.int .u64 (2 ^ k : Nat)) ∧ w = w'))
    (hjoin : Hid (∀ w, Calls Tryd.prog 17 #[.int .u64 s, .int .u64 (2 ^ k : Nat)] w fun e w' => e = .returned (.int .u64 (J : Nat)) ∧ w = w'))
    (hwo : Hid (∀ w, Calls Tryd.prog 14 #[.int .u64 s, .int .i64 k] w fun e w' => e = .returned (.int .u64 (s : Nat)) ∧ w = w')) (w : World) :
    Calls Tryd.prog 3 #[.int .u64 s, .int .i64 k] w fun e w' => e = .returned (.bool true) ∧ Below w.heap.size w w' := by
  go_enter Tryd.func3, Tryd.ntmps3
  go_wp2_with fail
  refine (hwith.out _).mono ?_
  rintro e w1 ⟨rfl, rfl⟩
  go_wp2_with fail
  refine (hhas.out _).mono ?_
  rintro e w1 ⟨rfl, rfl⟩
  go_wp2_with fail
  refine (hbit.out _).mono ?_
  rintro e w1 ⟨rfl, rfl⟩
  go_wp2_with fail
  refine (hlist.out _).mono ?_
  rintro e w1 ⟨A, c1, rfl, i1, b1⟩
  go_wp2_with fail
  refine (hrlist.out _).mono ?_
  rintro e w2 ⟨B, c2, rfl, i2, b2⟩
  have i1' := i1.keep b2
  have b12 := b1.trans (b2.mono b1.size)
  clear i1 b1 b2
  go_wp2_with fail
  refine (same_c A B n n c1 c2 xs xs _ i1' i2).mono ?_
  rintro e w3 ⟨rfl, hd⟩
  have b13 := b12.trans (hd.below.mono b12.size)
  clear hd b12 i1' i2
  rw [show decide (xs = xs) = true from by simp]
  go_wp2_with fail
  refine (hcount.out _).mono ?_
  rintro e w4 ⟨rfl, rfl⟩
  go_wp2_with fail
  refine (hrlist.out _).mono ?_
  rintro e w4 ⟨B2, c3, rfl, i3, b4⟩
  have b14 := b13.trans (b4.mono b13.size)
  clear i3 b4 b13
  go_wp2_with fail
  refine (hbit.out _).mono ?_
  rintro e w1 ⟨rfl, rfl⟩
  go_wp2_with fail
  refine (hone.out _).mono ?_
  rintro e w1 ⟨rfl, rfl⟩
  go_wp2_with fail
  refine (hjoin.out _).mono ?_
  rintro e w1 ⟨rfl, rfl⟩
  go_wp2_with fail
  refine (hwo.out _).mono ?_
  rintro e w1 ⟨rfl, rfl⟩
  go_wp2_with fail
  refine (alive_c _).mono ?_
  rintro e w6 ⟨rfl, b6⟩
  go_wp2
  go_ret
  exact ⟨rfl, b14.trans (b6.mono b14.size)⟩

theorem tells_law (s : Nat) (c : Int) (hs : U s) (_hc1 : -9223372036854775808 ≤ c) (_hc2 : c ≤ 9223372036854775807) (w : World) :
    Calls Tryd.prog 3 #[.int .u64 s, .int .i64 c] w fun e w' => e = .returned (.bool true) ∧ Below w.heap.size w w' := by
  have hcount : Hid (∀ w, Calls Tryd.prog 13 #[.int .u64 s] w fun e w' => e = .returned (.int .i64 ((bitsTo s 64).length : Nat)) ∧ w = w') := Lib.hid fun w => count_c s hs w
  have hlist : Hid (∀ w, Calls Tryd.prog 11 #[.int .u64 s] w (ListEnd (bitsTo s 64).length (intsOf (bitsTo s 64)) w)) := Lib.hid fun w => (list_c s hs w).mono fun e w' ⟨v, he, hr⟩ => by rw [he]; exact hr.end_
  have hrlist : Hid (∀ w, Calls Tryd.prog 12 #[.int .u64 s] w (ListEnd (bitsTo s 64).length (intsOf (bitsTo s 64)) w)) := Lib.hid fun w => (rlist_c s hs w).mono fun e w' ⟨v, he, hr⟩ => by rw [he]; exact hr.end_
  by_cases h0 : c < 0
  · exact tells_out_neg s c _ _ h0 hcount hlist hrlist w
  · by_cases h64 : 64 ≤ c
    · exact tells_out_big s c _ _ h64 hcount hlist hrlist w
    · obtain ⟨k, rfl⟩ := Int.eq_ofNat_of_zero_le (show 0 ≤ c by omega)
      have hk : k < 64 := by omega
      have hone := Lib.hid (fun w1 => one_c k hk w1)
      have hjoin := Lib.hid (fun w1 => join_c s (2 ^ k) hs (U_pow hk) w1)
      have hwith := Lib.hid (fun w1 => with_in s k hs hk w1)
      cases hb : s.testBit k
      · refine tells_in_no s k _ (s ||| 2 ^ k) _ hk hcount hlist hrlist (Lib.hid fun w1 => has_c s (k : Int) _ hs (by rw [hasB_nat hk, hb]) w1) (Lib.hid fun w1 => bit_c s (k : Int) _ hs (by rw [hasB_nat hk, hb]) w1) hwith hone hjoin (Lib.hid fun w1 => ?_) w
        have h := without_in s k hs hk w1
        rw [without_no hs hk hb] at h
        exact h
      · refine tells_in_yes s k _ (s ||| 2 ^ k) (s - 2 ^ k) _ hk hcount hlist hrlist (Lib.hid fun w1 => has_c s (k : Int) _ hs (by rw [hasB_nat hk, hb]) w1) (Lib.hid fun w1 => bit_c s (k : Int) _ hs (by rw [hasB_nat hk, hb]) w1) hwith hone hjoin (Lib.hid fun w1 => ?_) ?_ w
        · have h := without_in s k hs hk w1
          rw [(without_yes hs hk hb).1] at h
          exact h
        · have h2 := (without_yes hs hk hb).2
          rw [pow_cast, show (s : Int) - ((2 ^ k : Nat) : Int) = ((s - 2 ^ k : Nat) : Int) from by omega]
          exact wrap_small (Nat.lt_of_le_of_lt (Nat.sub_le _ _) hs)
end Go.Proofs.YtdnnnkeadgcknaaDoor.Cats

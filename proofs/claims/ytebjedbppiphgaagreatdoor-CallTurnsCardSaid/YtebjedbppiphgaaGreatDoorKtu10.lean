/- What package dec's ratio, Scaled, Mul, Div, Of answer: for every number of 64 bits. -/
import Derived.Test.YtebjedbppiphgaaGreatDoorKtu07
namespace Go.Proofs.YtebjedbppiphgaaGreatDoor.Dec
open Go.RowKit Kit
def ratioD (n c : Nat) : Int × Bool := if roundN n c ≤ 9223372036854775807 then ((roundN n c : Int), true) else (0, false)
theorem ratioD_in {n c k : Nat} (h : roundN n c = k) (hk : k ≤ 9223372036854775807) : ratioD n c = ((k : Int), true) := by rw [ratioD, if_pos (by omega), h]
theorem ratioD_out {n c : Nat} (h : 9223372036854775807 < roundN n c) : ratioD n c = (0, false) := by rw [ratioD, if_neg (by omega)]
theorem roundN_ge (n c : Nat) : n / c ≤ roundN n c := by unfold roundN; split <;> omega
theorem roundN_up {n c q r : Nat} (hq : n / c = q) (hr : n % c = r) (h : c - r ≤ r) : roundN n c = q + 1 := by rw [roundN, hr, hq, if_pos h]
theorem roundN_down {n c q r : Nat} (hq : n / c = q) (hr : n % c = r) (h : r < c - r) : roundN n c = q := by rw [roundN, hr, hq, if_neg (by omega)]
theorem roundN_zero {c : Nat} (hc : 0 < c) : roundN 0 c = 0 := by rw [roundN, Nat.zero_mod, Nat.zero_div, if_neg (by omega)]
/-- two results, in a world that may have drawn -/
def TwoD (n : Int) (b : Bool) (w : World) : Ending → World → Prop := fun e w' => e = .returned (.tuple #[.int .i64 n, .bool b]) ∧ Drawn w w'
theorem far_out {n c : Nat} (hc : 0 < c) (h : c ≤ n / 18446744073709551616) : 9223372036854775807 < roundN n c := by
  refine Nat.lt_of_lt_of_le ?_ (roundN_ge n c)
  have h1 := Nat.div_mul_le_self n 18446744073709551616
  have h2 : c * 18446744073709551616 ≤ n := Nat.le_trans (Nat.mul_le_mul_right _ h) h1
  have h3 : 18446744073709551616 ≤ n / c := by rw [Nat.le_div_iff_mul_le hc, Nat.mul_comm]; exact h2
  omega

set_option maxRecDepth 100000 in
set_option maxHeartbeats 400000 in
theorem ratio_far (a b c : Nat) (ha : a ≤ 9223372036854775807) (hb : b ≤ 9223372036854775807) (h : c ≤ a * b / 18446744073709551616) (w : World) :
    Calls Tryz.prog 263 #[.int .u64 a, .int .u64 b, .int .u64 c] w (Two 0 false w) := by
  obtain ⟨H, hH⟩ : ∃ H, a * b / 18446744073709551616 = H := ⟨_, rfl⟩
  obtain ⟨L, hL⟩ : ∃ L, a * b % 18446744073709551616 = L := ⟨_, rfl⟩
  have M := Lib.hid (fun w1 => Tryz.bits_Mul64 a b (by omega) (by omega) w1)
  rw [hH, hL] at M
  rw [hH] at h
  have t1 : decide (c ≤ H) = true := decide_eq_true (by omega)
  clear hH hL h
  go_enter Tryz.func263, Tryz.ntmps263
  go_wp2_with (go_at_call 305; refine (M.out _).mono ?_; rintro e w' ⟨rfl, rfl⟩)
  go_ret2
  exact ⟨rfl, rfl⟩
/-- what is at hand behind Div64 -/
theorem ratio_near (a b c : Nat) (ha : a ≤ 9223372036854775807) (hb : b ≤ 9223372036854775807) (hc : c ≤ 9223372036854775807) (hc0 : 0 < c) (H L q r : Nat) (hH : a * b / 18446744073709551616 = H) (hL : a * b % 18446744073709551616 = L)
    (h : H < c) (hq : a * b / c = q) (hr : a * b % c = r) :
    Hid (∀ w1, Calls Tryz.prog 305 #[.int .u64 a, .int .u64 b] w1 fun e w' => e = .returned (.tuple #[.int .u64 (H : Int), .int .u64 (L : Int)]) ∧ w' = w1) ∧
    Hid (∀ w1, Calls Tryz.prog 306 #[.int .u64 H, .int .u64 L, .int .u64 c] w1 fun e w' => e = .returned (.tuple #[.int .u64 (q : Int), .int .u64 (r : Int)]) ∧ Drawn w1 w') ∧ r < c ∧ q < 18446744073709551616 := by
  have M := Lib.hid (fun w1 => Tryz.bits_Mul64 a b (by omega) (by omega) w1)
  rw [hH, hL] at M
  have e : H * 18446744073709551616 + L = a * b := by rw [← hH, ← hL]; exact Nat.div_add_mod' _ _
  have hLl : L < 18446744073709551616 := by rw [← hL]; exact Nat.mod_lt _ (by omega)
  refine ⟨M, Lib.hid (fun w1 => div64_all H L c h (by omega) hLl q r (by rw [e, hq]) (by rw [e, hr]) w1), by rw [← hr]; exact Nat.mod_lt _ hc0, ?_⟩
  rw [← hq, Nat.div_lt_iff_lt_mul hc0, ← e]
  have := Nat.mul_le_mul_right 18446744073709551616 (show H + 1 ≤ c from h)
  rw [Nat.mul_comm 18446744073709551616 c]
  omega
set_option maxRecDepth 100000 in
set_option maxHeartbeats 400000 in
theorem ratio_c (a b c : Nat) (ha : a ≤ 9223372036854775807) (hb : b ≤ 9223372036854775807) (hc : c ≤ 9223372036854775807) (hc0 : 0 < c) (n : Int) (k : Bool) (hn : ratioD (a * b) c = (n, k)) (w : World) :
    Calls Tryz.prog 263 #[.int .u64 a, .int .u64 b, .int .u64 c] w (TwoD n k w) := by
  by_cases hfar : c ≤ a * b / 18446744073709551616
  · obtain ⟨rfl, rfl⟩ := Prod.mk.inj ((ratioD_out (far_out hc0 hfar)).symm.trans hn)
    exact (ratio_far a b c ha hb hfar w).mono fun e w' ⟨he, hw⟩ => ⟨he, hw ▸ Drawn.refl w⟩
  obtain ⟨H, hH⟩ : ∃ H, a * b / 18446744073709551616 = H := ⟨_, rfl⟩
  obtain ⟨L, hL⟩ : ∃ L, a * b % 18446744073709551616 = L := ⟨_, rfl⟩
  obtain ⟨q, hq⟩ : ∃ q, a * b / c = q := ⟨_, rfl⟩
  obtain ⟨r, hr⟩ : ∃ r, a * b % c = r := ⟨_, rfl⟩
  rw [hH] at hfar
  obtain ⟨M, D, hrc, hqu⟩ := ratio_near a b c ha hb hc hc0 H L q r hH hL (by omega) hq hr
  have t1 : decide (c ≤ H) = false := decide_eq_false (by omega)
  by_cases hqb : 9223372036854775807 < q
  · obtain ⟨rfl, rfl⟩ := Prod.mk.inj ((ratioD_out (by have := roundN_ge (a * b) c; omega)).symm.trans hn)
    have t2 : decide ((9223372036854775807 : Int) < (q : Int)) = true := decide_eq_true (by omega)
    clear hH hL hq hr hfar hqb hn
    go_enter Tryz.func263, Tryz.ntmps263
    go_wp2_with (first | (go_at_call 305; refine (M.out _).mono ?_; rintro e w' ⟨rfl, rfl⟩) | (go_at_call 306; refine (D.out _).mono ?_; rintro e w' ⟨rfl, x, rfl⟩))
    go_ret2
    exact ⟨rfl, _, rfl⟩
  have t2 : decide ((9223372036854775807 : Int) < (q : Int)) = false := decide_eq_false (by omega)
  by_cases hup : c - r ≤ r
  · have t3 : decide ((c : Int) - (r : Int) ≤ (r : Int)) = true := decide_eq_true (by omega)
    have e := roundN_up hq hr hup
    by_cases hov : q = 9223372036854775807
    · obtain ⟨rfl, rfl⟩ := Prod.mk.inj ((ratioD_out (by omega)).symm.trans hn)
      subst hov
      clear hH hL hq hr hfar hqb hn e hup
      go_enter Tryz.func263, Tryz.ntmps263
      go_wp2_with (first | (go_at_call 305; refine (M.out _).mono ?_; rintro e w' ⟨rfl, rfl⟩) | (go_at_call 306; refine (D.out _).mono ?_; rintro e w' ⟨rfl, x, rfl⟩))
      go_ret2
      exact ⟨rfl, _, rfl⟩
    · obtain ⟨rfl, rfl⟩ := Prod.mk.inj ((ratioD_in e (by omega)).symm.trans hn)
      have t4 : decide ((9223372036854775807 : Int) < (q : Int) + 1) = false := decide_eq_false (by omega)
      have t5 : (q : Int) + 1 ≤ 9223372036854775807 := by omega
      have t6 : ((q + 1 : Nat) : Int) = (q : Int) + 1 := by omega
      rw [t6]
      clear hH hL hq hr hfar hqb hn e hup hov t6
      go_enter Tryz.func263, Tryz.ntmps263
      go_wp2_with (first | (go_at_call 305; refine (M.out _).mono ?_; rintro e w' ⟨rfl, rfl⟩) | (go_at_call 306; refine (D.out _).mono ?_; rintro e w' ⟨rfl, x, rfl⟩))
      go_ret2
      exact ⟨rfl, _, rfl⟩
  · have t3 : decide ((c : Int) - (r : Int) ≤ (r : Int)) = false := decide_eq_false (by omega)
    have e := roundN_down hq hr (by omega)
    obtain ⟨rfl, rfl⟩ := Prod.mk.inj ((ratioD_in e (by omega)).symm.trans hn)
    have t5 : (q : Int) ≤ 9223372036854775807 := by omega
    clear hH hL hq hr hfar hqb hn e hup
    go_enter Tryz.func263, Tryz.ntmps263
    go_wp2_with (first | (go_at_call 305; refine (M.out _).mono ?_; rintro e w' ⟨rfl, rfl⟩) | (go_at_call 306; refine (D.out _).mono ?_; rintro e w' ⟨rfl, x, rfl⟩))
    go_ret2
    exact ⟨rfl, _, rfl⟩

theorem scaledD_none {a b c : Int} (h : a < -9223372036854775807 ∨ b < -9223372036854775807 ∨ c < -9223372036854775807 ∨ c = 0) : scaledD a b c = (0, false) := by
  refine giveD_out (.inl ?_)
  rcases h with h | h | h | h
  · rw [mayD_no h]; simp
  · rw [mayD_no h]; simp
  · rw [mayD_no h]; simp
  · subst h; simp
theorem scaledD_may {a b c : Int} (h1 : -9223372036854775807 ≤ a) (h2 : -9223372036854775807 ≤ b) (h3 : -9223372036854775807 ≤ c) (h4 : c ≠ 0) : scaledD a b c = giveD true (signed (negs a b c) (roundN (a.natAbs * b.natAbs) c.natAbs)) := by
  rw [scaledD, mayD_yes h1, mayD_yes h2, mayD_yes h3, decide_eq_true h4]; rfl
theorem scaledD_out {a b c : Int} (h : 9223372036854775807 < roundN (a.natAbs * b.natAbs) c.natAbs) : scaledD a b c = (0, false) := by
  refine giveD_out (.inr ?_)
  unfold signed
  split <;> omega
theorem scaledD_in {a b c : Int} (h1 : -9223372036854775807 ≤ a) (h2 : -9223372036854775807 ≤ b) (h3 : -9223372036854775807 ≤ c) (h4 : c ≠ 0) {k : Nat} (hk : roundN (a.natAbs * b.natAbs) c.natAbs = k) (hl : k ≤ 9223372036854775807) :
    scaledD a b c = (signed (negs a b c) k, true) := by
  rw [scaledD_may h1 h2 h3 h4, hk]
  unfold signed
  split
  · exact giveD_in (by omega) (by omega)
  · exact giveD_in (by omega) (by omega)
/-- the signs, multiplied -/
theorem signs {a b c : Int} (h1 : -9223372036854775807 ≤ a) (h2 : -9223372036854775807 ≤ b) (h3 : -9223372036854775807 ≤ c) (h4 : c ≠ 0) {k : Nat} (hk : roundN (a.natAbs * b.natAbs) c.natAbs = k) :
    (k : Int) * (signD a * signD b * signD c) = signed (negs a b c) k := by
  have ez : ∀ x : Int, ¬ x < -9223372036854775807 → signD x = if x < 0 then -1 else if x = 0 then 0 else 1 := fun x hx => by rw [signD, if_neg hx]
  rw [ez a (by omega), ez b (by omega), ez c (by omega), if_neg h4]
  by_cases ha : a = 0
  · subst ha
    have : k = 0 := by rw [← hk]; simp only [Int.natAbs_zero, Nat.zero_mul]; exact roundN_zero (by omega)
    subst this
    simp [signed]
  by_cases hb : b = 0
  · subst hb
    have : k = 0 := by rw [← hk]; simp only [Int.natAbs_zero, Nat.mul_zero]; exact roundN_zero (by omega)
    subst this
    simp [signed]
  rw [if_neg ha, if_neg hb]
  unfold signed negs
  by_cases h5 : a < 0 <;> by_cases h6 : b < 0 <;> by_cases h7 : c < 0 <;> simp [h5, h6, h7]
theorem sign_room (a b c : Int) : (-1 ≤ signD a ∧ signD a ≤ 1) ∧ (-1 ≤ signD a * signD b ∧ signD a * signD b ≤ 1) ∧ (-1 ≤ signD a * signD b * signD c ∧ signD a * signD b * signD c ≤ 1) := by
  have ez : ∀ x : Int, signD x = -1 ∨ signD x = 0 ∨ signD x = 1 := fun x => by
    unfold signD
    split
    · simp
    · split
      · simp
      · split <;> simp
  rcases ez a with h | h | h <;> rcases ez b with h2 | h2 | h2 <;> rcases ez c with h3 | h3 | h3 <;> rw [h, h2, h3] <;> decide

set_option maxRecDepth 100000 in
set_option maxHeartbeats 400000 in
theorem scaled_none (a b c : Int) (h : a < -9223372036854775807 ∨ b < -9223372036854775807 ∨ c < -9223372036854775807 ∨ c = 0) (w : World) :
    Calls Tryz.prog 186 #[.int .i64 a, .int .i64 b, .int .i64 c] w (TwoD 0 false w) := by
  by_cases h1 : a < -9223372036854775807
  · have M := Lib.hid (fun w1 => may_c a false (mayD_no h1) w1)
    clear h
    go_enter Tryz.func186, Tryz.ntmps186
    go_wp2_with (go_at_call 75; refine (M.out _).mono ?_; rintro e w' ⟨rfl, rfl⟩)
    go_ret2
    exact ⟨rfl, 0, rfl⟩
  by_cases h2 : b < -9223372036854775807
  · have M := Lib.hid (fun w1 => may_c a true (mayD_yes (by omega)) w1)
    have M2 := Lib.hid (fun w1 => may_c b false (mayD_no h2) w1)
    clear h
    go_enter Tryz.func186, Tryz.ntmps186
    go_wp2_with (go_at_call 75; first | ((with_reducible refine (M.out _).mono ?_); rintro e w' ⟨rfl, rfl⟩) | ((with_reducible refine (M2.out _).mono ?_); rintro e w' ⟨rfl, rfl⟩))
    go_ret2
    exact ⟨rfl, 0, rfl⟩
  have M := Lib.hid (fun w1 => may_c a true (mayD_yes (by omega)) w1)
  have M2 := Lib.hid (fun w1 => may_c b true (mayD_yes (by omega)) w1)
  by_cases h3 : c < -9223372036854775807
  · have M3 := Lib.hid (fun w1 => may_c c false (mayD_no h3) w1)
    clear h
    go_enter Tryz.func186, Tryz.ntmps186
    go_wp2_with (go_at_call 75; first | ((with_reducible refine (M.out _).mono ?_); rintro e w' ⟨rfl, rfl⟩) | ((with_reducible refine (M2.out _).mono ?_); rintro e w' ⟨rfl, rfl⟩) | ((with_reducible refine (M3.out _).mono ?_); rintro e w' ⟨rfl, rfl⟩))
    go_ret2
    exact ⟨rfl, 0, rfl⟩
  have M3 := Lib.hid (fun w1 => may_c c true (mayD_yes (by omega)) w1)
  obtain rfl : c = 0 := by omega
  clear h
  go_enter Tryz.func186, Tryz.ntmps186
  go_wp2_with (go_at_call 75; first | ((with_reducible refine (M.out _).mono ?_); rintro e w' ⟨rfl, rfl⟩) | ((with_reducible refine (M2.out _).mono ?_); rintro e w' ⟨rfl, rfl⟩) | ((with_reducible refine (M3.out _).mono ?_); rintro e w' ⟨rfl, rfl⟩))
  go_ret2
  exact ⟨rfl, 0, rfl⟩
set_option maxRecDepth 100000 in
set_option maxHeartbeats 400000 in
theorem scaled_may (a b c : Int) (a1 : -9223372036854775807 ≤ a) (a2 : a ≤ 9223372036854775807) (b1 : -9223372036854775807 ≤ b) (b2 : b ≤ 9223372036854775807) (c1 : -9223372036854775807 ≤ c) (c2 : c ≤ 9223372036854775807) (c0 : c ≠ 0)
    (n : Int) (k : Bool) (hn : scaledD a b c = (n, k)) (w : World) :
    Calls Tryz.prog 186 #[.int .i64 a, .int .i64 b, .int .i64 c] w (TwoD n k w) := by
  have M := Lib.hid (fun w1 => may_c a true (mayD_yes a1) w1)
  have M2 := Lib.hid (fun w1 => may_c b true (mayD_yes b1) w1)
  have M3 := Lib.hid (fun w1 => may_c c true (mayD_yes c1) w1)
  obtain ⟨x, hx⟩ : ∃ x, a.natAbs = x := ⟨_, rfl⟩
  obtain ⟨y, hy⟩ : ∃ y, b.natAbs = y := ⟨_, rfl⟩
  obtain ⟨z, hz⟩ : ∃ z, c.natAbs = z := ⟨_, rfl⟩
  have S := Lib.hid (fun w1 => size_c a a1 a2 w1)
  have S2 := Lib.hid (fun w1 => size_c b b1 b2 w1)
  have S3 := Lib.hid (fun w1 => size_c c c1 c2 w1)
  rw [hx] at S; rw [hy] at S2; rw [hz] at S3
  have hc0 : (c == 0) = false := by simpa using c0
  by_cases hov : 9223372036854775807 < roundN (a.natAbs * b.natAbs) c.natAbs
  · obtain ⟨rfl, rfl⟩ := Prod.mk.inj ((scaledD_out hov).symm.trans hn)
    rw [hx, hy, hz] at hov
    have R := Lib.hid (fun w1 => ratio_c x y z (by omega) (by omega) (by omega) (by omega) 0 false (ratioD_out hov) w1)
    clear hov hn hx hy hz c0
    go_enter Tryz.func186, Tryz.ntmps186
    go_wp2_with (first
      | (go_at_call 75; first | ((with_reducible refine (M.out _).mono ?_); rintro e w' ⟨rfl, rfl⟩) | ((with_reducible refine (M2.out _).mono ?_); rintro e w' ⟨rfl, rfl⟩) | ((with_reducible refine (M3.out _).mono ?_); rintro e w' ⟨rfl, rfl⟩))
      | (go_at_call 264; first | ((with_reducible refine (S.out _).mono ?_); rintro e w' ⟨rfl, rfl⟩) | ((with_reducible refine (S2.out _).mono ?_); rintro e w' ⟨rfl, rfl⟩) | ((with_reducible refine (S3.out _).mono ?_); rintro e w' ⟨rfl, rfl⟩))
      | (go_at_call 263; refine (R.out _).mono ?_; rintro e w' ⟨rfl, q, rfl⟩))
    go_ret2
    exact ⟨rfl, _, rfl⟩
  obtain ⟨m, hm⟩ : ∃ m, roundN (a.natAbs * b.natAbs) c.natAbs = m := ⟨_, rfl⟩
  rw [hm] at hov
  obtain ⟨rfl, rfl⟩ := Prod.mk.inj ((scaledD_in a1 b1 c1 c0 hm (by omega)).symm.trans hn)
  have hs := signs a1 b1 c1 c0 hm
  obtain ⟨r1, r2, r3⟩ := sign_room a b c
  rw [hx, hy, hz] at hm
  have R := Lib.hid (fun w1 => ratio_c x y z (by omega) (by omega) (by omega) (by omega) (m : Int) true (ratioD_in hm (by omega)) w1)
  have G := Lib.hid (fun w1 => sign_c a _ rfl w1)
  have G2 := Lib.hid (fun w1 => sign_c b _ rfl w1)
  have G3 := Lib.hid (fun w1 => sign_c c _ rfl w1)
  have hml : (m : Int) ≤ 9223372036854775807 := by omega
  obtain ⟨s, hs1⟩ : ∃ s, signD a = s := ⟨_, rfl⟩
  obtain ⟨s2, hs2⟩ : ∃ s, signD b = s := ⟨_, rfl⟩
  obtain ⟨s3, hs3⟩ : ∃ s, signD c = s := ⟨_, rfl⟩
  rw [hs1, hs2] at r2
  rw [hs1, hs2, hs3] at r3 hs
  rw [hs1] at G r1; rw [hs2] at G2; rw [hs3] at G3
  obtain ⟨p, hp⟩ : ∃ p, s * s2 = p := ⟨_, rfl⟩
  rw [hp] at r2 r3 hs
  obtain ⟨p2, hp2⟩ : ∃ p2, p * s3 = p2 := ⟨_, rfl⟩
  rw [hp2] at r3 hs
  obtain ⟨n, hn2⟩ : ∃ n, signed (negs a b c) m = n := ⟨_, rfl⟩
  have hnl : -9223372036854775807 ≤ n ∧ n ≤ 9223372036854775807 := by rw [← hn2]; unfold signed; split <;> omega
  rw [hn2] at hs ⊢
  obtain ⟨n1, n2⟩ := hnl
  obtain ⟨r21, r22⟩ := r2
  obtain ⟨r31, r32⟩ := r3
  clear hn hx hy hz c0 hm hn2 hov hs1 hs2 hs3 r1
  go_enter Tryz.func186, Tryz.ntmps186
  go_wp2_with (first
      | (go_at_call 75; first | ((with_reducible refine (M.out _).mono ?_); rintro e w' ⟨rfl, rfl⟩) | ((with_reducible refine (M2.out _).mono ?_); rintro e w' ⟨rfl, rfl⟩) | ((with_reducible refine (M3.out _).mono ?_); rintro e w' ⟨rfl, rfl⟩))
      | (go_at_call 264; first | ((with_reducible refine (S.out _).mono ?_); rintro e w' ⟨rfl, rfl⟩) | ((with_reducible refine (S2.out _).mono ?_); rintro e w' ⟨rfl, rfl⟩) | ((with_reducible refine (S3.out _).mono ?_); rintro e w' ⟨rfl, rfl⟩))
      | (go_at_call 201; first | ((with_reducible refine (G.out _).mono ?_); rintro e w' ⟨rfl, rfl⟩) | ((with_reducible refine (G2.out _).mono ?_); rintro e w' ⟨rfl, rfl⟩) | ((with_reducible refine (G3.out _).mono ?_); rintro e w' ⟨rfl, rfl⟩))
      | (go_at_call 263; refine (R.out _).mono ?_; rintro e w' ⟨rfl, q, rfl⟩))
  go_ret2
  exact ⟨rfl, _, rfl⟩
theorem scaled_c (a b c : Int) (a2 : a ≤ 9223372036854775807) (b2 : b ≤ 9223372036854775807) (c2 : c ≤ 9223372036854775807) (n : Int) (k : Bool) (hn : scaledD a b c = (n, k)) (w : World) :
    Calls Tryz.prog 186 #[.int .i64 a, .int .i64 b, .int .i64 c] w (TwoD n k w) := by
  by_cases h : a < -9223372036854775807 ∨ b < -9223372036854775807 ∨ c < -9223372036854775807 ∨ c = 0
  · obtain ⟨rfl, rfl⟩ := Prod.mk.inj ((scaledD_none h).symm.trans hn)
    exact scaled_none a b c h w
  · exact scaled_may a b c (by omega) a2 (by omega) b2 (by omega) c2 (by omega) n k hn w
set_option maxRecDepth 100000 in
set_option maxHeartbeats 400000 in
theorem mul_c (a b : Int) (a2 : a ≤ 9223372036854775807) (b2 : b ≤ 9223372036854775807) (n : Int) (k : Bool) (hn : scaledD a b 10000 = (n, k)) (w : World) :
    Calls Tryz.prog 80 #[.int .i64 a, .int .i64 b] w (TwoD n k w) := by
  have S := Lib.hid (fun w1 => scaled_c a b 10000 a2 b2 (by omega) n k hn w1)
  clear hn
  go_enter Tryz.func80, Tryz.ntmps80
  go_wp2_with (go_at_call 186; refine (S.out _).mono ?_; rintro e w' ⟨rfl, q, rfl⟩)
  go_ret2
  exact ⟨rfl, _, rfl⟩
set_option maxRecDepth 100000 in
set_option maxHeartbeats 400000 in
theorem div_c (a b : Int) (a2 : a ≤ 9223372036854775807) (b2 : b ≤ 9223372036854775807) (n : Int) (k : Bool) (hn : scaledD a 10000 b = (n, k)) (w : World) :
    Calls Tryz.prog 82 #[.int .i64 a, .int .i64 b] w (TwoD n k w) := by
  have S := Lib.hid (fun w1 => scaled_c a 10000 b a2 (by omega) b2 n k hn w1)
  clear hn
  go_enter Tryz.func82, Tryz.ntmps82
  go_wp2_with (go_at_call 186; refine (S.out _).mono ?_; rintro e w' ⟨rfl, q, rfl⟩)
  go_ret2
  exact ⟨rfl, _, rfl⟩
set_option maxRecDepth 100000 in
set_option maxHeartbeats 400000 in
theorem of_c (a : Int) (a2 : a ≤ 9223372036854775807) (n : Int) (k : Bool) (hn : scaledD a 10000 1 = (n, k)) (w : World) :
    Calls Tryz.prog 72 #[.int .i64 a] w (TwoD n k w) := by
  have S := Lib.hid (fun w1 => scaled_c a 10000 1 a2 (by omega) (by omega) n k hn w1)
  clear hn
  go_enter Tryz.func72, Tryz.ntmps72
  go_wp2_with (go_at_call 186; refine (S.out _).mono ?_; rintro e w' ⟨rfl, q, rfl⟩)
  go_ret2
  exact ⟨rfl, _, rfl⟩
end Go.Proofs.YtebjedbppiphgaaGreatDoor.Dec

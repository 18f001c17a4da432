/- DecNear, walked: products and quotients are as near as can be, and signs are as they should be. -/
import Derived.Test.YtplaacmieonimaaDecLawA
import Derived.Test.YtplaacmieonimaaDecApart
import Derived.Test.YtplaacmieonimaaDecTimes
import Derived.BigQuiet
import Derived.Deep.QuietTactic
import Derived.Lib.QuietBelow
namespace Go.Proofs.Ytplaacmieonimaa.Dec
open Go.RowKit Kit Reg

/-- what is rounded misses by no more than half -/
theorem round_near (n c : Nat) (hc : 0 < c) : dist n (roundN n c * c) ≤ c ∧ dist n (roundN n c * c) ≤ c - dist n (roundN n c * c) := by
  have h := Nat.div_add_mod' n c
  have hr := Nat.mod_lt n hc
  unfold dist roundN
  split
  · rw [Nat.add_mul, Nat.one_mul]
    generalize n / c * c = Q at *
    omega
  · generalize n / c * c = Q at *
    omega
/-- what is at hand of a product or a quotient that is there -/
structure Near (a b c m : Int) : Prop where
  a1 : -9223372036854775807 ≤ a
  b1 : -9223372036854775807 ≤ b
  c1 : -9223372036854775807 ≤ c
  c0 : c ≠ 0
  eq : m = signed (negs a b c) (roundN (a.natAbs * b.natAbs) c.natAbs)
  le : roundN (a.natAbs * b.natAbs) c.natAbs ≤ 9223372036854775807
theorem near_of {a b c m : Int} (h : scaledD a b c = (m, true)) : Near a b c m := by
  by_cases h1 : a < -9223372036854775807 ∨ b < -9223372036854775807 ∨ c < -9223372036854775807 ∨ c = 0
  · rw [scaledD_none h1] at h; exact absurd (congrArg Prod.snd h) (by simp)
  by_cases h2 : 9223372036854775807 < roundN (a.natAbs * b.natAbs) c.natAbs
  · rw [scaledD_out h2] at h; exact absurd (congrArg Prod.snd h) (by simp)
  rw [scaledD_in (by omega) (by omega) (by omega) (by omega) rfl (by omega)] at h
  exact ⟨by omega, by omega, by omega, by omega, (congrArg Prod.fst h).symm, by omega⟩
theorem Near.abs {a b c m : Int} (h : Near a b c m) : m.natAbs = roundN (a.natAbs * b.natAbs) c.natAbs ∧ -9223372036854775807 ≤ m ∧ m ≤ 9223372036854775807 := by
  have he := h.eq
  have hl := h.le
  generalize roundN (a.natAbs * b.natAbs) c.natAbs = k at *
  rw [he]
  unfold signed
  split <;> omega
theorem Near.sign {a b c m : Int} (h : Near a b c m) (hm : m ≠ 0) : decide (m < 0) = negs a b c := by
  have he := h.eq
  generalize roundN (a.natAbs * b.natAbs) c.natAbs = k at *
  rw [he] at hm ⊢
  unfold signed at *
  split
  · rename_i hn; rw [hn]; rw [if_pos hn] at hm; exact decide_eq_true (by omega)
  · rename_i hn
    rw [if_neg hn] at hm
    have : negs a b c = false := by simpa using hn
    rw [this]
    exact decide_eq_false (by omega)
theorem negs_mul (a b : Int) : negs a b 10000 = (!(decide (a < 0) == decide (b < 0))) := by
  unfold negs
  cases decide (a < 0) <;> cases decide (b < 0) <;> rfl
theorem negs_div (a b : Int) : negs a 10000 b = (!(decide (a < 0) == decide (b < 0))) := by
  unfold negs
  cases decide (a < 0) <;> cases decide (b < 0) <;> rfl
/-- the words of a product of two numbers below 2^63 -/
theorem words (x y : Nat) (hx : x ≤ 9223372036854775807) (hy : y ≤ 9223372036854775807) : ∃ H L : Nat, x * y / 18446744073709551616 = H ∧ x * y % 18446744073709551616 = L ∧ H * 18446744073709551616 + L = x * y ∧ H < 18446744073709551616 ∧ L < 18446744073709551616 := by
  refine ⟨_, _, rfl, rfl, Nat.div_add_mod' _ _, ?_, Nat.mod_lt _ (by omega)⟩
  rw [Nat.div_lt_iff_lt_mul (by omega)]
  exact Nat.mul_lt_mul'' (by omega) (by omega)

set_option maxRecDepth 100000 in
set_option maxHeartbeats 1000000 in
theorem near_law (a b : Int) (a2 : a ≤ 9223372036854775807) (b2 : b ≤ 9223372036854775807) (w : World) :
    Calls Try.prog 5 #[.int .i64 a, .int .i64 b] w (LawEnd w) := by
  obtain ⟨m, k, hm⟩ : ∃ x k, scaledD a b 10000 = (x, k) := ⟨_, _, rfl⟩
  obtain ⟨d, j, hd⟩ : ∃ x k, scaledD a 10000 b = (x, k) := ⟨_, _, rfl⟩
  have C1 := Lib.hid (fun w1 => mul_c a b a2 b2 m k hm w1)
  have C2 := Lib.hid (fun w1 => div_c a b a2 b2 d j hd w1)
  obtain ⟨v, hv⟩ : ∃ v, (!(decide (a < 0) == decide (b < 0))) = v := ⟨_, rfl⟩
  go_enter Try.func5, Try.ntmps5
  go_upto_if 17 with (go_at_call 16; refine (C1.out _).mono ?_; rintro e w' ⟨rfl, q1, rfl⟩)
  go_cut [5, 6, 7] from 11 to 48 (fun x5 x6 x7 wx => Hid (Below w.heap.size w wx))
  case first =>
    cases k
    · go_wp2_with fail
      go_meet
      exact Lib.hid (drew_below rfl)
    · have N := near_of hm
      obtain ⟨n1, n2, n3⟩ := N.abs
      have g := round_near (a.natAbs * b.natAbs) (Int.natAbs 10000) (by decide)
      rw [← n1] at g
      have nb1 := N.b1
      have na1 := N.a1
      have S1 := Lib.hid (fun w1 => rabs_c a na1 a2 w1)
      have S2 := Lib.hid (fun w1 => rabs_c b nb1 b2 w1)
      have S3 := Lib.hid (fun w1 => rabs_c m n2 n3 w1)
      obtain ⟨x, hx⟩ : ∃ x, a.natAbs = x := ⟨_, rfl⟩
      obtain ⟨y, hy⟩ : ∃ y, b.natAbs = y := ⟨_, rfl⟩
      obtain ⟨z, hz⟩ : ∃ z, m.natAbs = z := ⟨_, rfl⟩
      rw [hx] at S1; rw [hy] at S2; rw [hz] at S3
      rw [hx, hy, hz] at g
      obtain ⟨H, L, e1, e2, e3, e4, e5⟩ := words x y (by omega) (by omega)
      obtain ⟨H2, L2, i1, i2, i3, i4, i5⟩ := words z 10000 (by omega) (by omega)
      have T1 := Lib.hid (fun w1 => rtimes_c x y H L (by omega) (by omega) e1 e2 w1)
      have T2 := Lib.hid (fun w1 => rtimes_c z 10000 H2 L2 (by omega) (by omega) i1 i2 w1)
      obtain ⟨D, hD⟩ : ∃ D, dist (x * y) (z * 10000) = D := ⟨_, rfl⟩
      rw [show Int.natAbs 10000 = 10000 from rfl, hD] at g
      have P := Lib.hid (fun w1 => apart_c H L H2 L2 D e4 e5 i4 i5 (by rw [e3, i3]; exact hD) (by omega) w1)
      have t1 : decide ((5000 : Int) < (D : Int)) = false := decide_eq_false (by omega)
      have hs := Lib.hid N.sign
      clear g hD e1 e2 e3 e4 e5 i1 i2 i3 i4 i5 hx hy hz n1 N hm
      go_wp2_with (go_at_call 23; first | ((with_reducible refine (S1.out _).mono ?_); rintro e w' ⟨rfl, rfl⟩) | ((with_reducible refine (S2.out _).mono ?_); rintro e w' ⟨rfl, rfl⟩) | ((with_reducible refine (S3.out _).mono ?_); rintro e w' ⟨rfl, rfl⟩))
      refine (T1.out _).mono ?_
      rintro e w1 ⟨rfl, hb1⟩
      have hw1 := Lib.hid (on (drew_below rfl) hb1)
      clear hb1
      go_wp2_with (go_at_call 23; first | ((with_reducible refine (S1.out _).mono ?_); rintro e w' ⟨rfl, rfl⟩) | ((with_reducible refine (S2.out _).mono ?_); rintro e w' ⟨rfl, rfl⟩) | ((with_reducible refine (S3.out _).mono ?_); rintro e w' ⟨rfl, rfl⟩))
      refine (T2.out _).mono ?_
      rintro e w2 ⟨rfl, hb2⟩
      have hw2 := Lib.hid (on hw1.out hb2)
      clear hb2 hw1
      go_wp2_with fail
      refine (P.out _).mono ?_
      rintro e w3 ⟨rfl, hb3⟩
      have hw3 := Lib.hid (on hw2.out hb3)
      clear hb3 hw2
      by_cases hm0 : m = 0
      · subst hm0
        go_wp2_with fail
        go_meet
        exact Lib.hid (on_alloc hw3.out _)
      · have hm1 : (m == 0) = false := by simpa using hm0
        have hs2 := hs.out hm0
        rw [negs_mul, hv] at hs2
        cases v
        · go_wp2_with fail
          go_meet
          exact Lib.hid (on_alloc hw3.out _)
        · go_wp2_with fail
          go_meet
          exact Lib.hid (on_alloc hw3.out _)
  case rest =>
    clear hm C1
    go_upto_if 55 with (go_at_call 18; refine (C2.out _).mono ?_; rintro e w' ⟨rfl, q2, rfl⟩)
    go_cut [8, 9, 10] from 49 to 98 (fun x8 x9 x10 wx => x9 = .bool j ∧ Hid (Below w.heap.size w wx))
    case first =>
      cases j
      · go_wp2_with fail
        go_meet
        exact ⟨rfl, Lib.hid (end_drew hcut.out rfl)⟩
      · have N := near_of hd
        obtain ⟨n1, n2, n3⟩ := N.abs
        have hb0 : Int.natAbs b ≠ 0 := by have := N.c0; omega
        have g := round_near (a.natAbs * Int.natAbs 10000) b.natAbs (by omega)
        rw [← n1] at g
        have nb1 := N.c1
        have na1 := N.a1
        have S1 := Lib.hid (fun w1 => rabs_c a na1 a2 w1)
        have S2 := Lib.hid (fun w1 => rabs_c b nb1 b2 w1)
        have S3 := Lib.hid (fun w1 => rabs_c d n2 n3 w1)
        obtain ⟨x, hx⟩ : ∃ x, a.natAbs = x := ⟨_, rfl⟩
        obtain ⟨y, hy⟩ : ∃ y, b.natAbs = y := ⟨_, rfl⟩
        obtain ⟨z, hz⟩ : ∃ z, d.natAbs = z := ⟨_, rfl⟩
        rw [hx] at S1; rw [hy] at S2; rw [hz] at S3
        rw [hx, hy, hz] at g
        obtain ⟨H, L, e1, e2, e3, e4, e5⟩ := words x 10000 (by omega) (by omega)
        obtain ⟨H2, L2, i1, i2, i3, i4, i5⟩ := words z y (by omega) (by omega)
        have T1 := Lib.hid (fun w1 => rtimes_c x 10000 H L (by omega) (by omega) e1 e2 w1)
        have T2 := Lib.hid (fun w1 => rtimes_c z y H2 L2 (by omega) (by omega) i1 i2 w1)
        obtain ⟨D, hD⟩ : ∃ D, dist (x * 10000) (z * y) = D := ⟨_, rfl⟩
        rw [show Int.natAbs 10000 = 10000 from rfl, hD] at g
        have P := Lib.hid (fun w1 => apart_c H L H2 L2 D e4 e5 i4 i5 (by rw [e3, i3]; exact hD) (by omega) w1)
        have t1 : decide (y < D) = false := decide_eq_false (by omega)
        have t2 : decide ((y : Int) - (D : Int) < (D : Int)) = false := decide_eq_false (by omega)
        have t3 : D ≤ y := g.1
        have t4 : y ≤ 9223372036854775807 := by omega
        have hs := Lib.hid N.sign
        clear g hD e1 e2 e3 e4 e5 i1 i2 i3 i4 i5 hx hy hz n1 N hd hb0
        go_wp2_with (go_at_call 23; first | ((with_reducible refine (S1.out _).mono ?_); rintro e w' ⟨rfl, rfl⟩) | ((with_reducible refine (S2.out _).mono ?_); rintro e w' ⟨rfl, rfl⟩) | ((with_reducible refine (S3.out _).mono ?_); rintro e w' ⟨rfl, rfl⟩))
        refine (T1.out _).mono ?_
        rintro e w1 ⟨rfl, hb1⟩
        have hw1 := Lib.hid (on (end_drew hcut.out rfl) hb1)
        clear hb1
        go_wp2_with (go_at_call 23; first | ((with_reducible refine (S1.out _).mono ?_); rintro e w' ⟨rfl, rfl⟩) | ((with_reducible refine (S2.out _).mono ?_); rintro e w' ⟨rfl, rfl⟩) | ((with_reducible refine (S3.out _).mono ?_); rintro e w' ⟨rfl, rfl⟩))
        refine (T2.out _).mono ?_
        rintro e w2 ⟨rfl, hb2⟩
        have hw2 := Lib.hid (on hw1.out hb2)
        clear hb2 hw1
        go_wp2_with fail
        refine (P.out _).mono ?_
        rintro e w3 ⟨rfl, hb3⟩
        have hw3 := Lib.hid (on hw2.out hb3)
        clear hb3 hw2
        have S4 : Hid (∀ w1 : World, Calls Try.prog 23 #[.int .i64 b] w1 fun e w' => e = .returned (.int .u64 (y : Int)) ∧ Below w1.heap.size w1 w') := Lib.hid (fun w1 => (S2.out w1).mono fun e w' ⟨he, hw⟩ => ⟨he, hw ▸ Below.refl _ _⟩)
        have hw5 := Lib.hid (on_alloc hw3.out (.cells #[.int .u64 0, .int .u64 D] 36))
        have c0 : (w3.alloc (.cells #[.int .u64 0, .int .u64 D] 36)).cell? ⟨w3.heap.size, 0, none⟩ = some (.int .u64 0) := by rw [World.cell?_alloc_at _ _ _ _ rfl]; rfl
        have c1 : (w3.alloc (.cells #[.int .u64 0, .int .u64 D] 36)).cell? ⟨w3.heap.size, 1, none⟩ = some (.int .u64 D) := by rw [World.cell?_alloc_at _ _ _ _ rfl]; rfl
        clear hw3
        by_cases hm0 : d = 0
        · subst hm0
          go_wp2_with fail
          generalize w3.heap.size = B at *
          generalize w3.alloc (.cells #[.int .u64 0, .int .u64 D] 36) = W at *
          have C0 := fun d os => cell_regrown c0 d os
          have C1 := fun d os => cell_regrown c1 d os
          clear c0 c1
          refine wp_region_quiet_below (by kernel_rfl) (by kernel_rfl) ?_
          repeat (go_big_quiet_step ((go_at_call 23; with_reducible exact Calls.regrown_of (S4.out _))))
          refine wpQuiet_nil ?_
          intro _ hw'
          obtain ⟨⟨dq, osq⟩, hw''⟩ := hw'
          subst hw''
          go_wp2_with fail
          go_meet
          exact ⟨rfl, Lib.hid (on hw5.out (below_regrown W dq osq))⟩
        · have hm1 : (d == 0) = false := by simpa using hm0
          have hm2 : (d != 0) = true := by simpa using hm0
          have hm3 : decide (d = 0) = false := decide_eq_false hm0
          have hs2 := hs.out hm0
          rw [negs_div, hv] at hs2
          have hv3 : (decide (a < 0) != decide (b < 0)) = v := by rw [← hv]; rfl
          cases v
          · go_wp2_with fail
            generalize w3.heap.size = B at *
            generalize w3.alloc (.cells #[.int .u64 0, .int .u64 D] 36) = W at *
            have C0 := fun d os => cell_regrown c0 d os
            have C1 := fun d os => cell_regrown c1 d os
            clear c0 c1
            refine wp_region_quiet_below (by kernel_rfl) (by kernel_rfl) ?_
            repeat (go_big_quiet_step ((go_at_call 23; with_reducible exact Calls.regrown_of (S4.out _))))
            refine wpQuiet_nil ?_
            intro _ hw'
            obtain ⟨⟨dq, osq⟩, hw''⟩ := hw'
            subst hw''
            go_wp2_with fail
            go_meet
            exact ⟨rfl, Lib.hid (on hw5.out (below_regrown W dq osq))⟩
          · go_wp2_with fail
            generalize w3.heap.size = B at *
            generalize w3.alloc (.cells #[.int .u64 0, .int .u64 D] 36) = W at *
            have C0 := fun d os => cell_regrown c0 d os
            have C1 := fun d os => cell_regrown c1 d os
            clear c0 c1
            refine wp_region_quiet_below (by kernel_rfl) (by kernel_rfl) ?_
            repeat (go_big_quiet_step ((go_at_call 23; with_reducible exact Calls.regrown_of (S4.out _))))
            refine wpQuiet_nil ?_
            intro _ hw'
            obtain ⟨⟨dq, osq⟩, hw''⟩ := hw'
            subst hw''
            go_wp2_with fail
            go_meet
            exact ⟨rfl, Lib.hid (on hw5.out (below_regrown W dq osq))⟩
    case rest =>
      obtain ⟨rfl, hcut2⟩ := hcut
      clear C2 hv
      cases j
      · clear hd
        by_cases hb0 : b = 0
        · subst hb0
          go_wp2_with (go_at_call 13; refine (alive_c _).mono ?_; rintro e w' ⟨rfl, q, rfl⟩)
          go_ret
          exact ⟨rfl, end_drew hcut2.out rfl⟩
        · have hb1 : (b == 0) = false := by simpa using hb0
          go_wp2_with (go_at_call 13; refine (alive_c _).mono ?_; rintro e w' ⟨rfl, q, rfl⟩)
          go_ret
          exact ⟨rfl, end_drew hcut2.out rfl⟩
      · have hb0 : b ≠ 0 := (near_of hd).c0
        have hb1 : (b == 0) = false := by simpa using hb0
        clear hd
        go_wp2_with (go_at_call 13; refine (alive_c _).mono ?_; rintro e w' ⟨rfl, q, rfl⟩)
        go_ret
        exact ⟨rfl, end_drew hcut2.out rfl⟩
end Go.Proofs.Ytplaacmieonimaa.Dec

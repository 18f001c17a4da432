/- PowerDivides, walked: the greatest divisor and the least multiple are the document's; multiplied they are the numbers, multiplied. -/
import Derived.Test.YtdinbokbooikbaaPowLawT
namespace Go.Proofs.Ytdinbokbooikbaa.Pow
open Go.RowKit Kit Dec Reg

/-- the ways through the law -/
theorem divides_ways {a b g l : Int} {k j : Bool} (a2 : a ≤ 9223372036854775807) (b2 : b ≤ 9223372036854775807) (hg : gcdD a b = (g, k)) (hl : lcmD a b = (l, j)) :
    (k = false) ∨ (k = true ∧ g = 0) ∨ (k = true ∧ ∃ p q m : Nat, a = p ∧ b = q ∧ g = m ∧ 0 < m ∧ m ≤ 9223372036854775807 ∧ m ∣ p ∧ m ∣ q ∧ (j = false ∨ (j = true ∧ l = 0) ∨ (j = true ∧ ∃ n : Nat, l = n ∧ 0 < n ∧ n ≤ 9223372036854775807 ∧ 0 < p ∧ 0 < q ∧ p ∣ n ∧ q ∣ n ∧ m * n = p * q))) := by
  cases k with
  | false => exact .inl rfl
  | true =>
    by_cases hz : g = 0
    · exact .inr (.inl ⟨rfl, hz⟩)
    refine .inr (.inr ⟨rfl, ?_⟩)
    have hab : cntD a = true ∧ cntD b = true := by
      unfold gcdD at hg
      split at hg
      · rename_i h; rwa [Bool.and_eq_true] at h
      · cases hg
    obtain ⟨p, rfl, _⟩ := cntD_yes hab.1
    obtain ⟨q, rfl, _⟩ := cntD_yes hab.2
    obtain ⟨g1, g2⟩ := gcdD_room a2 b2 hg
    unfold lcmD at hl
    rw [hg, if_pos rfl, if_neg hz] at hl
    rw [gcdD_some hab.1 hab.2] at hg
    obtain ⟨hg, _⟩ := Prod.mk.inj hg
    obtain ⟨m, rfl⟩ : ∃ m : Nat, g = m := ⟨g.toNat, by omega⟩
    have hgm : Nat.gcd p q = m := by omega
    obtain ⟨s1, _⟩ := lcm_same hgm (by omega) (by omega) (by omega)
    dsimp only at hl
    rw [s1] at hl
    obtain ⟨d1, d2, d3, d4, d5⟩ := gcd_lcm hgm rfl
    refine ⟨p, q, m, rfl, rfl, rfl, by omega, by omega, d1, d2, ?_⟩
    cases j with
    | false => exact .inl rfl
    | true =>
      obtain ⟨e, e1, e2⟩ := giveD_yes hl
      by_cases hl0 : l = 0
      · exact .inr (.inl ⟨rfl, hl0⟩)
      · generalize p / m * q = n at *
        have hn : 0 < n := by omega
        have hp : 0 < p := Nat.pos_of_ne_zero fun h => by subst h; have := Nat.eq_zero_of_zero_dvd d3; omega
        have hq : 0 < q := Nat.pos_of_ne_zero fun h => by subst h; have := Nat.eq_zero_of_zero_dvd d4; omega
        exact .inr (.inr ⟨rfl, n, e, hn, by omega, hp, hq, d3, d4, d5⟩)
/-- two new blocks -/
theorem two_blocks (wr : World) (p : Int) (a : Bool) (q : Int) (c : Bool) (W : World)
    (hW : W = (wr.alloc (.cells #[.int .i64 p, .bool a] 25)).alloc (.cells #[.int .i64 q, .bool c] 25)) :
    CellsAt W wr.heap.size [.int .i64 p, .bool a] ∧ CellsAt W (wr.heap.size + 1) [.int .i64 q, .bool c] ∧ Below wr.heap.size wr W := by
  subst hW
  refine ⟨(CellsAt.new wr [.int .i64 p, .bool a] _).on_alloc _, ?_, below2 _ _ _⟩
  have h := CellsAt.new (wr.alloc (.cells #[.int .i64 p, .bool a] 25)) [.int .i64 q, .bool c] 25
  rw [show (wr.alloc (.cells #[.int .i64 p, .bool a] 25)).heap.size = wr.heap.size + 1 by simp] at h
  exact h
theorem rest_none {a b : Nat} (h : b ∣ a) : (a : Int).tmod (b : Int) = 0 := by
  rw [Int.tmod_eq_emod_of_nonneg (by omega)]
  have := Nat.mod_eq_zero_of_dvd h
  omega
set_option maxRecDepth 100000 in
set_option maxHeartbeats 2000000 in
theorem divides_law (a b : Int) (a2 : a ≤ 9223372036854775807) (b2 : b ≤ 9223372036854775807) (w : World) :
    Calls Try.prog 5 #[.int .i64 a, .int .i64 b] w (LawEnd w) := by
  obtain ⟨⟨g, k⟩, hg⟩ : ∃ r, gcdD a b = r := ⟨_, rfl⟩
  obtain ⟨⟨l, j⟩, hl⟩ : ∃ r, lcmD a b = r := ⟨_, rfl⟩
  have C1 := Lib.hid (fun w1 => gcd_c a b a2 b2 g k hg w1)
  have R1 := Lib.hid (fun w1 => rgcd_c a b a2 b2 g k hg w1)
  have C2 := Lib.hid (fun w1 => lcm_c a b a2 b2 l j hl w1)
  have R2 := Lib.hid (fun w1 => rlcm_c a b a2 b2 l j hl w1)
  have hways := Lib.hid (divides_ways a2 b2 hg hl)
  clear hg hl
  go_enter Try.func5, Try.ntmps5
  go_wp2_with fail
  refine (C1.out _).mono ?_
  rintro e w0 ⟨rfl, hd0⟩
  have hw0 := drawn_below hd0
  clear hd0
  go_wp2_with fail
  refine (C2.out _).mono ?_
  rintro e w1 ⟨rfl, hd1⟩
  have hw1 := on hw0 (drawn_below hd1)
  clear hd1 hw0
  go_wp2_with fail
  refine (R1.out _).mono ?_
  rintro e w2 ⟨rfl, hb2⟩
  have hw2 := on hw1 hb2
  clear hb2 hw1
  go_wp2_with fail
  refine (R2.out _).mono ?_
  rintro e w3 ⟨rfl, hb3⟩
  have hw3 := on hw2 hb3
  clear hb3 hw2 C1 C2 R1 R2
  go_upto_region 4 with fail
  obtain ⟨W, hW⟩ : ∃ W, W = (w3.alloc (.cells #[.int .i64 g, .bool k] 25)).alloc (.cells #[.int .i64 l, .bool j] 25) := ⟨_, rfl⟩
  obtain ⟨hA, hB, hbW⟩ := two_blocks w3 g k l j W hW
  rw [← hW]
  have hw := Lib.hid (on hw3 hbW)
  obtain ⟨a0, a1, _, _⟩ := hA.two
  obtain ⟨b0, b1, _, _⟩ := hB.two
  have lA := hA.1
  have lB := hB.1
  clear hW hA hB hbW hw3
  rcases hways.out with rfl | ⟨rfl, rfl⟩ | ⟨rfl, p, q, m, rfl, rfl, rfl, m0, m2, d1, d2, hrest⟩
  · clear hways
    go_wp2_with fail
    refine (alive_c _).mono ?_
    rintro e w5 ⟨rfl, hd5⟩
    have hw5 := Lib.hid (on hw.out (drawn_below hd5))
    clear hd5 hw
    go_wp2_with fail
    go_ret
    exact ⟨rfl, hw5.out⟩
  · clear hways
    go_wp2_with fail
    refine (alive_c _).mono ?_
    rintro e w5 ⟨rfl, hd5⟩
    have hw5 := Lib.hid (on hw.out (drawn_below hd5))
    clear hd5 hw
    go_wp2_with fail
    go_ret
    exact ⟨rfl, hw5.out⟩
  · have e1 := rest_none d1
    have e2 := rest_none d2
    have z1 : ((m : Int) == 0) = false := by simp; omega
    have z2 : (m == 0) = false := by simp; omega
    have z3 : ¬ m = 0 := by omega
    clear d1 d2 hways
    rcases hrest with rfl | ⟨rfl, rfl⟩ | ⟨rfl, n, rfl, n0, n2, p0, q0, f1, f2, f3⟩
    · go_wp2_with fail
      refine (alive_c _).mono ?_
      rintro e w5 ⟨rfl, hd5⟩
      have hw5 := Lib.hid (on hw.out (drawn_below hd5))
      clear hd5 hw
      go_wp2_with fail
      go_ret
      exact ⟨rfl, hw5.out⟩
    · go_wp2_with fail
      refine (alive_c _).mono ?_
      rintro e w5 ⟨rfl, hd5⟩
      have hw5 := Lib.hid (on hw.out (drawn_below hd5))
      clear hd5 hw
      go_wp2_with fail
      go_ret
      exact ⟨rfl, hw5.out⟩
    · have e3 := rest_none f1
      have e4 := rest_none f2
      have y1 : ((n : Int) == 0) = false := by simp; omega
      have y2 : (n == 0) = false := by simp; omega
      have y3 : ¬ n = 0 := by omega
      have x1 : ((p : Int) == 0) = false := by simp; omega
      have x2 : (p == 0) = false := by simp; omega
      have x3 : ¬ p = 0 := by omega
      have v1 : ((q : Int) == 0) = false := by simp; omega
      have v2 : (q == 0) = false := by simp; omega
      have v3 : ¬ q = 0 := by omega
      have T1 := Lib.hid (fun w1 => rtimes_c m n _ _ (by omega) (by omega) (by rw [f3]) (by rw [f3]) w1)
      have T2 := Lib.hid (fun w1 => rtimes_c p q _ _ (by omega) (by omega) rfl rfl w1)
      generalize p * q / 18446744073709551616 = H at *
      generalize p * q % 18446744073709551616 = L at *
      clear f1 f2 f3
      go_wp2_with fail
      refine (T1.out _).mono ?_
      rintro e w5 ⟨rfl, hb5⟩
      have hw5 := on hw.out hb5
      clear hb5 hw T1
      go_wp2_with fail
      refine (T2.out _).mono ?_
      rintro e w6 ⟨rfl, hb6⟩
      have hw6 := on hw5 hb6
      clear hb6 hw5 T2
      go_wp2_with fail
      refine (alive_c _).mono ?_
      rintro e w7 ⟨rfl, hd7⟩
      have hw7 := Lib.hid (on hw6 (drawn_below hd7))
      clear hd7 hw6
      go_wp2_with fail
      go_ret
      exact ⟨rfl, hw7.out⟩
end Go.Proofs.Ytdinbokbooikbaa.Pow

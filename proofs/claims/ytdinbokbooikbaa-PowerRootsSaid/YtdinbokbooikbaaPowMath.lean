/- Powers, roots, divisors, and in how many ways some are chosen, in integers alone. No function of the program is named here. -/
import Derived.Test.YtdinbokbooikbaaDecScale
namespace Go.Proofs.Ytdinbokbooikbaa.Pow
open Dec

theorem giveD_room (b : Bool) (x : Int) : -9223372036854775807 ≤ (giveD b x).1 ∧ (giveD b x).1 ≤ 9223372036854775807 := by
  unfold giveD
  split
  · rename_i h
    simp only [Bool.and_eq_true, okD, decide_eq_true_eq] at h
    exact h.2
  · exact ⟨by simp, by simp⟩
theorem giveD_no {b : Bool} {x n : Int} (h : giveD b x = (n, false)) : n = 0 := by
  unfold giveD at h
  split at h
  · cases h
  · cases h; rfl
theorem giveD_yes {b : Bool} {x n : Int} (h : giveD b x = (n, true)) : n = x ∧ -9223372036854775807 ≤ x ∧ x ≤ 9223372036854775807 := by
  unfold giveD at h
  split at h
  · rename_i hh
    simp only [Bool.and_eq_true, okD, decide_eq_true_eq] at hh
    cases h
    exact ⟨rfl, hh.2⟩
  · cases h

/-- a whole number from one on to another one -/
def wholeIn (x f t : Int) : Bool := wholeD x && (decide (f ≤ unitsD x) && decide (unitsD x ≤ t))
theorem whole_units {x : Int} (h : wholeD x = true) : x = unitsD x * 10000 ∧ -9223372036854775807 ≤ x := by
  unfold wholeD at h
  simp only [Bool.and_eq_true, mayD, decide_eq_true_eq] at h
  obtain ⟨h1, h2⟩ := h
  rw [unitsD, if_neg (by omega)]
  by_cases hx : 0 ≤ x
  · obtain ⟨e1, e2⟩ := cut_pos hx
    rw [e2] at h2
    rw [e1]
    exact ⟨by omega, h1⟩
  · obtain ⟨e1, e2⟩ := cut_neg (x := x) (by omega)
    rw [e2] at h2
    rw [e1]
    exact ⟨by omega, h1⟩
theorem wholeIn_yes {x f t : Int} (h : wholeIn x f t = true) : x = unitsD x * 10000 ∧ f ≤ unitsD x ∧ unitsD x ≤ t ∧ wholeD x = true := by
  unfold wholeIn at h
  simp only [Bool.and_eq_true, decide_eq_true_eq] at h
  exact ⟨(whole_units h.1).1, h.2.1, h.2.2, h.1⟩
theorem units_of {m : Int} (h1 : -922337203685477 ≤ m) (_ : m ≤ 922337203685477) : unitsD (m * 10000) = m ∧ wholeD (m * 10000) = true := by
  have hm : mayD (m * 10000) = true := mayD_yes (by omega)
  rw [unitsD, if_neg (by omega), wholeD, hm]
  by_cases h0 : 0 ≤ m * 10000
  · obtain ⟨e1, e2⟩ := cut_pos h0
    rw [e1, e2]
    exact ⟨by omega, by simp⟩
  · obtain ⟨e1, e2⟩ := cut_neg (x := m * 10000) (by omega)
    rw [e1, e2]
    exact ⟨by omega, by simp⟩

/-- one, so many times multiplied, each time rounded -/
def mulsD (x : Int) : Nat → Int × Bool
  | 0 => (10000, true)
  | k + 1 => if (mulsD x k).2 then scaledD (mulsD x k).1 x 10000 else (0, false)
theorem mulsD_room (x : Int) (k : Nat) : -9223372036854775807 ≤ (mulsD x k).1 ∧ (mulsD x k).1 ≤ 9223372036854775807 := by
  cases k with
  | zero => simp [mulsD]
  | succ k =>
    unfold mulsD
    split
    · exact giveD_room _ _
    · simp
theorem mulsD_next {x p n : Int} {k : Nat} {b : Bool} (h : mulsD x k = (p, true)) (hn : scaledD p x 10000 = (n, b)) : mulsD x (k + 1) = (n, b) := by
  rw [mulsD, h]; exact hn
theorem mulsD_no {x p : Int} {k : Nat} (h : mulsD x k = (p, false)) : p = 0 := by
  cases k with
  | zero => simp [mulsD] at h
  | succ k =>
    unfold mulsD at h
    split at h
    · exact giveD_no h
    · cases h; rfl
theorem mulsD_stop {x p : Int} {k t : Nat} (hk : k ≤ t) (h : mulsD x k = (p, false)) : mulsD x t = (0, false) := by
  obtain ⟨d, rfl⟩ : ∃ d, t = k + d := ⟨t - k, by omega⟩
  clear hk
  induction d with
  | zero =>
    have := mulsD_no h
    subst this
    exact h
  | succ d ih =>
    rw [← Nat.add_assoc, mulsD, ih]; rfl
/-- a power -/
def powerD (x n : Int) : Int × Bool :=
  if mayD x && wholeIn n (-1000) 1000 then
    (if 0 ≤ n then mulsD x (unitsD n).natAbs else if (mulsD x (unitsD n).natAbs).2 then scaledD 10000 10000 (mulsD x (unitsD n).natAbs).1 else (0, false))
  else (0, false)
theorem powerD_none {x n : Int} (h : mayD x = false ∨ wholeIn n (-1000) 1000 = false) : powerD x n = (0, false) := by
  unfold powerD
  rw [if_neg]
  rcases h with h | h
  · rw [h]; simp
  · rw [h]; simp
theorem powerD_up {x n : Int} (h : mayD x = true) (h2 : wholeIn n (-1000) 1000 = true) (h3 : 0 ≤ n) : powerD x n = mulsD x (unitsD n).natAbs := by
  rw [powerD, h, h2, Bool.and_self, if_pos rfl, if_pos h3]
theorem powerD_down {x n : Int} (h : mayD x = true) (h2 : wholeIn n (-1000) 1000 = true) (h3 : n < 0) :
    powerD x n = if (mulsD x (unitsD n).natAbs).2 then scaledD 10000 10000 (mulsD x (unitsD n).natAbs).1 else (0, false) := by
  rw [powerD, h, h2, Bool.and_self, if_pos rfl, if_neg (by omega)]

/-- the greatest number whose square is not above another one -/
def RootOf (r N : Nat) : Prop := r * r ≤ N ∧ N < (r + 1) * (r + 1)
theorem root_some (N : Nat) : ∃ r, RootOf r N := by
  induction N with
  | zero => exact ⟨0, by simp [RootOf]⟩
  | succ N ih =>
    obtain ⟨r, h1, h2⟩ := ih
    by_cases h : (r + 1) * (r + 1) ≤ N + 1
    · refine ⟨r + 1, h, ?_⟩
      have e : (r + 1 + 1) * (r + 1 + 1) = (r + 1) * (r + 1) + 2 * (r + 1) + 1 := by
        rw [Nat.add_mul (r + 1) 1, Nat.mul_add, Nat.mul_one, Nat.one_mul]; omega
      omega
    · exact ⟨r, by omega, by omega⟩
theorem sq_mono {a b : Nat} (h : a * a < b * b) : a < b := by
  rcases Nat.lt_or_ge a b with h1 | h1
  · exact h1
  · have := Nat.mul_le_mul h1 h1
    omega
theorem root_one {r s N : Nat} (h1 : RootOf r N) (h2 : RootOf s N) : r = s := by
  have a := sq_mono (Nat.lt_of_le_of_lt h1.1 h2.2)
  have b := sq_mono (Nat.lt_of_le_of_lt h2.1 h1.2)
  omega
/-- a root, behind so many bits -/
def SqAt (N k a : Nat) : Prop := a * a ≤ N ∧ N < (a + 2 ^ (39 - k)) * (a + 2 ^ (39 - k)) ∧ a + 2 ^ (39 - k) ≤ 549755813888
theorem SqAt.start {N : Nat} (h : N < 302231454903657293676544) : SqAt N 0 0 := by
  refine ⟨Nat.zero_le _, ?_, by decide⟩
  have e : (0 + 2 ^ (39 - 0)) * (0 + 2 ^ (39 - 0)) = 302231454903657293676544 := by decide
  rw [e]; exact h
theorem SqAt.done {N a : Nat} (h : SqAt N 39 a) : RootOf a N := ⟨h.1, h.2.1⟩
theorem bit_next {k : Nat} (hk : k < 39) : 2 ^ (39 - k) = 2 ^ (38 - k) + 2 ^ (38 - k) ∧ 39 - (k + 1) = 38 - k := by
  refine ⟨?_, by omega⟩
  rw [show 39 - k = (38 - k) + 1 by omega, Nat.pow_succ]; omega
theorem SqAt.take {N k a : Nat} (h : SqAt N k a) (hk : k < 39) (h2 : (a + 2 ^ (38 - k)) * (a + 2 ^ (38 - k)) ≤ N) : SqAt N (k + 1) (a + 2 ^ (38 - k)) := by
  obtain ⟨e1, e2⟩ := bit_next hk
  obtain ⟨h1, h3, h4⟩ := h
  unfold SqAt
  rw [e2]
  rw [e1, ← Nat.add_assoc] at h3 h4
  exact ⟨h2, h3, h4⟩
theorem SqAt.leave {N k a : Nat} (h : SqAt N k a) (hk : k < 39) (h2 : N < (a + 2 ^ (38 - k)) * (a + 2 ^ (38 - k))) : SqAt N (k + 1) a := by
  obtain ⟨e1, e2⟩ := bit_next hk
  obtain ⟨h1, h3, h4⟩ := h
  unfold SqAt
  rw [e2]
  rw [e1] at h4
  exact ⟨h1, h2, Nat.le_trans (by rw [← Nat.add_assoc]; exact Nat.le_add_right _ _) h4⟩

/-- a whole number from 0 on -/
def cntD (x : Int) : Bool := decide (0 ≤ x) && wholeD x
theorem cntD_yes {x : Int} (h : cntD x = true) : ∃ m : Nat, x = m ∧ m % 10000 = 0 ∧ unitsD x = (m / 10000 : Nat) := by
  unfold cntD at h
  simp only [Bool.and_eq_true, decide_eq_true_eq] at h
  obtain ⟨h1, h2⟩ := h
  have e := (whole_units h2).1
  refine ⟨x.toNat, by omega, by omega, by omega⟩
theorem cntD_in (x : Int) : wholeIn x 0 9223372036854775807 = cntD x ∨ 9223372036854775807 < x := by
  by_cases hx : 9223372036854775807 < x
  · exact .inr hx
  refine .inl ?_
  unfold wholeIn cntD
  cases hw : wholeD x with
  | false => simp
  | true =>
    have e := (whole_units hw).1
    rw [Bool.true_and, Bool.and_true, decide_eq_true (p := unitsD x ≤ 9223372036854775807) (by omega), Bool.and_true]
    exact decide_eq_decide.2 (by omega)
/-- the greatest number that divides both -/
def gcdD (a b : Int) : Int × Bool := if cntD a && cntD b then (((Nat.gcd a.toNat b.toNat : Nat) : Int), true) else (0, false)
theorem gcdD_none {a b : Int} (h : cntD a = false ∨ cntD b = false) : gcdD a b = (0, false) := by
  unfold gcdD
  rcases h with h | h
  · rw [h]; simp
  · rw [h]; simp
theorem gcdD_some {a b : Nat} (h : cntD a = true) (h2 : cntD b = true) : gcdD a b = (((Nat.gcd a b : Nat) : Int), true) := by
  rw [gcdD, h, h2]; simp
theorem gcd_step {p q : Nat} : Nat.gcd q (p % q) = Nat.gcd p q := by
  rw [Nat.gcd_comm p q, Nat.gcd_rec q p, Nat.gcd_comm]
theorem gcd_room {a b : Nat} (ha : a ≤ 9223372036854775807) (hb : b ≤ 9223372036854775807) : Nat.gcd a b ≤ 9223372036854775807 := by
  rcases Nat.eq_zero_or_pos a with h | h
  · subst h; rw [Nat.gcd_zero_left]; exact hb
  · exact Nat.le_trans (Nat.gcd_le_left b h) ha
/-- the least number that both divide -/
def lcmD (a b : Int) : Int × Bool := if (gcdD a b).2 then (if (gcdD a b).1 = 0 then (0, true) else scaledD a b (gcdD a b).1) else (0, false)
theorem roundN_all {k c : Nat} (hc : 0 < c) : roundN (k * c) c = k := by
  rw [roundN, Nat.mul_mod_left, Nat.mul_div_cancel _ hc, if_neg (by omega)]
theorem roundN_one (n : Nat) : roundN n 1 = n := by have := roundN_all (k := n) (c := 1) (by omega); rw [Nat.mul_one] at this; exact this
/-- a product of numbers from 0 on, over one that divides it -/
theorem scaledD_all {a b c k : Nat} (ha : a ≤ 9223372036854775807) (hb : b ≤ 9223372036854775807) (hc : 0 < c) (hc2 : c ≤ 9223372036854775807) (h : a * b = k * c) : scaledD a b c = giveD true (k : Int) := by
  rw [scaledD_may (by omega) (by omega) (by omega) (by omega)]
  rw [Int.natAbs_natCast, Int.natAbs_natCast, Int.natAbs_natCast, h, roundN_all hc]
  congr 1
theorem lcm_same {a b g : Nat} (hg : Nat.gcd a b = g) (h0 : 0 < g) (ha : a ≤ 9223372036854775807) (hb : b ≤ 9223372036854775807) :
    scaledD a b g = giveD true ((a / g * b : Nat) : Int) ∧ scaledD ((a / g : Nat) : Int) b 1 = giveD true ((a / g * b : Nat) : Int) := by
  have hd : g ∣ a := hg ▸ Nat.gcd_dvd_left a b
  have hgr : g ≤ 9223372036854775807 := hg ▸ gcd_room ha hb
  have hq : a / g ≤ 9223372036854775807 := Nat.le_trans (Nat.div_le_self a g) ha
  refine ⟨scaledD_all ha hb h0 hgr ?_, scaledD_all (c := 1) hq hb (by decide) (by decide) (Nat.mul_one _).symm⟩
  rw [Nat.mul_right_comm, Nat.div_mul_cancel hd]
/-- what the greatest divisor and the least multiple have -/
theorem gcd_lcm {a b g l : Nat} (hg : Nat.gcd a b = g) (hl : a / g * b = l) : g ∣ a ∧ g ∣ b ∧ a ∣ l ∧ b ∣ l ∧ g * l = a * b := by
  have hd : g ∣ a := hg ▸ Nat.gcd_dvd_left a b
  have hd2 : g ∣ b := hg ▸ Nat.gcd_dvd_right a b
  subst hl
  refine ⟨hd, hd2, ?_, Nat.dvd_mul_left b _, ?_⟩
  · refine ⟨b / g, ?_⟩
    obtain ⟨u, rfl⟩ := hd
    obtain ⟨v, rfl⟩ := hd2
    rcases Nat.eq_zero_or_pos g with h | h
    · subst h; simp
    · rw [Nat.mul_div_cancel_left _ h, Nat.mul_div_cancel_left _ h, Nat.mul_comm g v, ← Nat.mul_assoc, Nat.mul_comm (u * v) g, Nat.mul_assoc]
  · rw [← Nat.mul_assoc, Nat.mul_div_cancel' hd]

/-- the product of all up to a number -/
def factsD : Nat → Int × Bool
  | 0 => (10000, true)
  | k + 1 => if (factsD k).2 then scaledD (factsD k).1 ((k + 1 : Nat) : Int) 1 else (0, false)
def factD (n : Int) : Int × Bool := if wholeIn n 0 1000 then factsD (unitsD n).toNat else (0, false)
theorem factsD_room (k : Nat) : -9223372036854775807 ≤ (factsD k).1 ∧ (factsD k).1 ≤ 9223372036854775807 := by
  cases k with
  | zero => simp [factsD]
  | succ k =>
    unfold factsD
    split
    · exact giveD_room _ _
    · simp
theorem factsD_next {p n : Int} {k : Nat} {b : Bool} (h : factsD k = (p, true)) (hn : scaledD p ((k + 1 : Nat) : Int) 1 = (n, b)) : factsD (k + 1) = (n, b) := by
  rw [factsD, h]; exact hn
theorem factsD_no {p : Int} {k : Nat} (h : factsD k = (p, false)) : p = 0 := by
  cases k with
  | zero => simp [factsD] at h
  | succ k =>
    unfold factsD at h
    split at h
    · exact giveD_no h
    · cases h; rfl
theorem factsD_stop {p : Int} {k t : Nat} (hk : k ≤ t) (h : factsD k = (p, false)) : factsD t = (0, false) := by
  obtain ⟨d, rfl⟩ : ∃ d, t = k + d := ⟨t - k, by omega⟩
  clear hk
  induction d with
  | zero =>
    have := factsD_no h
    subst this
    exact h
  | succ d ih =>
    rw [← Nat.add_assoc, factsD, ih]; rfl

/-- in how many ways k of n are chosen -/
def chs : Nat → Nat → Nat
  | _, 0 => 1
  | 0, _ + 1 => 0
  | n + 1, k + 1 => chs n k + chs n (k + 1)
theorem chs_zero (n : Nat) : chs n 0 = 1 := by unfold chs; rfl
theorem chs_over : ∀ {n k : Nat}, n < k → chs n k = 0
  | 0, k + 1, _ => rfl
  | n + 1, k + 1, h => by rw [chs, chs_over (n := n) (by omega), chs_over (n := n) (by omega)]
theorem chs_step : ∀ n k : Nat, (k + 1) * chs (n + 1) (k + 1) = (n + 1) * chs n k
  | 0, 0 => rfl
  | 0, k + 1 => by rw [chs_over (n := 0 + 1) (by omega), chs_over (n := 0) (by omega)]; simp
  | n + 1, 0 => by
    have ih := chs_step n 0
    have e : chs (n + 1 + 1) (0 + 1) = chs (n + 1) 0 + chs (n + 1) (0 + 1) := rfl
    rw [e, chs_zero]
    rw [chs_zero] at ih
    omega
  | n + 1, k + 1 => by
    have i1 := chs_step n k
    have i2 := chs_step n (k + 1)
    rw [chs, Nat.mul_add, i2]
    have e : (k + 1 + 1) * chs (n + 1) (k + 1) = (k + 1) * chs (n + 1) (k + 1) + chs (n + 1) (k + 1) := Nat.succ_mul _ _
    rw [e, i1]
    have e2 : (n + 1 + 1) * chs (n + 1) (k + 1) = (n + 1) * chs (n + 1) (k + 1) + chs (n + 1) (k + 1) := Nat.succ_mul _ _
    have e3 : (n + 1) * chs (n + 1) (k + 1) = (n + 1) * chs n k + (n + 1) * chs n (k + 1) := by
      rw [← Nat.mul_add]; rfl
    rw [e2, e3]
    omega
theorem chs_more (r i d : Nat) : chs (r + i) i ≤ chs (r + (i + d)) (i + d) := by
  induction d with
  | zero => exact Nat.le_refl _
  | succ d ih =>
    refine Nat.le_trans ih ?_
    rw [show r + (i + (d + 1)) = (r + (i + d)) + 1 by omega, show i + (d + 1) = (i + d) + 1 by omega, chs]
    exact Nat.le_add_right _ _
/-- as a decimal, if there is room -/
def waysD (n k : Nat) : Int × Bool := giveD true ((10000 * chs n k : Nat) : Int)
theorem waysD_none (n k : Nat) (h : n < k) : waysD n k = (0, true) := by
  rw [waysD, chs_over h]; exact giveD_in (by omega) (by omega)
theorem waysD_next {r i : Nat} {p n : Int} {b : Bool} (h : waysD (r + i) i = (p, true)) (hr : r + i < 1000) (hn : scaledD p ((r + i + 1 : Nat) : Int) ((i + 1 : Nat) : Int) = (n, b)) : waysD (r + (i + 1)) (i + 1) = (n, b) := by
  obtain ⟨e, h1, h2⟩ := giveD_yes h
  subst e
  rw [scaledD_all (k := 10000 * chs (r + (i + 1)) (i + 1)) (by omega) (by omega) (by omega) (by omega)] at hn
  · exact hn
  · rw [Nat.mul_assoc, Nat.mul_assoc, Nat.mul_comm _ (i + 1), show r + (i + 1) = (r + i) + 1 by omega, chs_step, Nat.mul_comm (chs _ _)]
theorem waysD_stop {r i d : Nat} {p : Int} (h : waysD (r + i) i = (p, false)) : waysD (r + (i + d)) (i + d) = (0, false) := by
  have hm := chs_more r i d
  refine giveD_out (.inr (.inr ?_))
  rcases Nat.lt_or_ge 9223372036854775807 (10000 * chs (r + i) i) with h1 | h1
  · have := Nat.mul_le_mul_left 10000 hm
    omega
  · rw [waysD, giveD_in (by omega) (by omega)] at h
    cases h
/-- the triangle: each number is the sum of the two above it -/
def leftD (n : Nat) : Nat → Int × Bool
  | 0 => (0, true)
  | j + 1 => waysD n j
theorem ways_add {n j : Nat} {p q s : Int} {a b c : Bool} (ha : leftD n j = (p, a)) (hb : waysD n j = (q, b)) (hs : (if a && b then addD p q else (0, false)) = (s, c)) : waysD (n + 1) j = (s, c) := by
  cases j with
  | zero =>
    cases ha
    rw [waysD, chs_zero, giveD_in (by omega) (by omega)] at hb
    cases hb
    rw [← hs, waysD, chs_zero]
    decide
  | succ j =>
    rw [waysD, chs]
    have ha : waysD n j = (p, a) := ha
    rcases Nat.lt_or_ge 9223372036854775807 (10000 * chs n j) with h1 | h1
    · rw [waysD, giveD_out (.inr (.inr (by omega)))] at ha
      cases ha
      rw [giveD_out (.inr (.inr (by omega))), ← hs]; rfl
    rcases Nat.lt_or_ge 9223372036854775807 (10000 * chs n (j + 1)) with h2 | h2
    · rw [waysD, giveD_out (.inr (.inr (by omega)))] at hb
      cases hb
      rw [giveD_out (.inr (.inr (by omega))), ← hs, Bool.and_false]; rfl
    rw [waysD, giveD_in (by omega) (by omega)] at ha hb
    cases ha
    cases hb
    rw [← hs, Bool.and_self, if_pos rfl, addD, mayD_yes (by omega), mayD_yes (by omega), Nat.mul_add, Int.natCast_add]
    rfl
end Go.Proofs.Ytdinbokbooikbaa.Pow

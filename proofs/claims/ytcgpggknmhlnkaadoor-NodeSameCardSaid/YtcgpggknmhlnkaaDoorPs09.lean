/- The count of a number's bits by sums of neighbouring fields, as plain arithmetic: for every number below 2^64. No program is named here. -/
import Derived.Test.YtcgpggknmhlnkaaDoorPs08
namespace Go.Proofs.YtcgpggknmhlnkaaDoor.Cats
theorem and_byte (y r m t : Nat) (hr : r < 256) (ht : t < 256) : (256 * y + r) &&& (256 * m + t) = 256 * (y &&& m) + (r &&& t) := by
  have hd := Nat.and_div_two_pow (a := 256 * y + r) (b := 256 * m + t) (n := 8)
  have hm := Nat.and_mod_two_pow (a := 256 * y + r) (b := 256 * m + t) (n := 8)
  have e1 : (256 * y + r) / 2 ^ 8 = y := by omega
  have e2 : (256 * m + t) / 2 ^ 8 = m := by omega
  have e3 : (256 * y + r) % 2 ^ 8 = r := by omega
  have e4 : (256 * m + t) % 2 ^ 8 = t := by omega
  rw [e1, e2] at hd
  rw [e3, e4] at hm
  omega

/-- a number of n bytes, each the same -/
def mk : Nat → Nat → Nat
  | 0, _ => 0
  | n + 1, t => 256 * mk n t + t

theorem mk_succ (n t : Nat) : mk (n + 1) t = 256 * mk n t + t := rfl
def g1 (n s : Nat) : Nat := (s / 2 &&& mk n 85) + (s &&& mk n 85)
def g2 (n s : Nat) : Nat := (g1 n s / 4 &&& mk n 51) + (g1 n s &&& mk n 51)
def g3 (n s : Nat) : Nat := (g2 n s / 16 + g2 n s) &&& mk n 15
def b1 (r : Nat) : Nat := (r / 2 &&& 85) + (r &&& 85)
def b2 (r : Nat) : Nat := (b1 r / 4 &&& 51) + (b1 r &&& 51)
def pop8 (r : Nat) : Nat := ((List.range 8).filter r.testBit).length

theorem byte_facts : ∀ r, r < 256 → b1 r < 256 ∧ b2 r ≤ 68 ∧ b2 r % 16 ≤ 4 ∧ (b2 r / 16 + b2 r) % 16 = pop8 r ∧ pop8 r ≤ 8 := by decide +kernel
theorem low55 : ∀ b, b < 2 → ∀ q, q < 128 → (128 * b + q) &&& 85 = q &&& 85 := by decide +kernel
theorem low33 : ∀ b, b < 4 → ∀ q, q < 64 → (64 * b + q) &&& 51 = q &&& 51 := by decide +kernel

theorem g1_step (n y r : Nat) (hr : r < 256) : g1 (n + 1) (256 * y + r) = 256 * g1 n y + b1 r := by
  have e : (256 * y + r) / 2 = 256 * (y / 2) + (128 * (y % 2) + r / 2) := by omega
  unfold g1 b1
  rw [mk_succ, e, and_byte _ _ _ _ (by omega) (by omega), and_byte _ _ _ _ hr (by omega), low55 _ (by omega) _ (by omega)]
  omega
theorem g2_step (n y r : Nat) (hr : r < 256) : g2 (n + 1) (256 * y + r) = 256 * g2 n y + b2 r := by
  have hb := (byte_facts r hr).1
  have e : (256 * g1 n y + b1 r) / 4 = 256 * (g1 n y / 4) + (64 * (g1 n y % 4) + b1 r / 4) := by omega
  unfold g2 b2
  rw [g1_step n y r hr, mk_succ, e, and_byte _ _ _ _ (by omega) (by omega), and_byte _ _ _ _ hb (by omega), low33 _ (by omega) _ (by omega)]
  omega
theorem and15 (x : Nat) : x &&& 15 = x % 16 := Nat.and_two_pow_sub_one_eq_mod x 4
theorem g3_step (n y r : Nat) (hr : r < 256) (hy : g2 n y % 16 ≤ 4) : g3 (n + 1) (256 * y + r) = 256 * g3 n y + pop8 r := by
  obtain ⟨_, hb2, _, hp, _⟩ := byte_facts r hr
  have e : (256 * g2 n y + b2 r) / 16 + (256 * g2 n y + b2 r) = 256 * (g2 n y / 16 + g2 n y) + (16 * (g2 n y % 16) + (b2 r / 16 + b2 r)) := by omega
  unfold g3
  rw [g2_step n y r hr, mk_succ, e, and_byte _ _ _ _ (by omega) (by omega), and15]
  omega

def pops (n s : Nat) : Nat := ((List.range (8 * n)).filter s.testBit).length
theorem pops_step (n y r : Nat) (hr : r < 256) : pops (n + 1) (256 * y + r) = pop8 r + pops n y := by
  have e : 8 * (n + 1) = 8 + 8 * n := by omega
  have hlo : ∀ i ∈ List.range 8, (256 * y + r).testBit i = r.testBit i := by
    intro i hi
    have hi : i < 8 := by simpa using hi
    have hm := Nat.testBit_mod_two_pow (256 * y + r) 8 i
    have e3 : (256 * y + r) % 2 ^ 8 = r := by omega
    rw [e3] at hm
    simp [hm, hi]
  have hhi : ∀ i, (256 * y + r).testBit (8 + i) = y.testBit i := by
    intro i
    have hm := Nat.testBit_div_two_pow (n := 8) (256 * y + r) i
    have e1 : (256 * y + r) / 2 ^ 8 = y := by omega
    rw [e1] at hm
    rw [hm, Nat.add_comm i 8]
  unfold pops pop8
  rw [e, List.range_add, List.filter_append, List.length_append, List.filter_congr hlo, List.filter_map, List.length_map]
  congr 2
  exact List.filter_congr fun i _ => hhi i

theorem g2_low (n s : Nat) : g2 n s % 16 ≤ 4 := by
  cases n with
  | zero => simp [g2, g1, mk]
  | succ n =>
    have hs : s = 256 * (s / 256) + s % 256 := by omega
    have hr : s % 256 < 256 := by omega
    rw [hs, g2_step n _ _ hr]
    have := (byte_facts _ hr).2.2.1
    omega

/-- the sum of a number's lowest n bytes -/
def sums : Nat → Nat → Nat
  | 0, _ => 0
  | n + 1, x => x % 256 + sums n (x / 256)
theorem sums_g3 (n s : Nat) : sums n (g3 n s) = pops n s ∧ g3 n s < 256 ^ n := by
  induction n generalizing s with
  | zero => simp [sums, pops, g3, mk]
  | succ n ih =>
    have hs : s = 256 * (s / 256) + s % 256 := by omega
    have hr : s % 256 < 256 := by omega
    obtain ⟨i1, i2⟩ := ih (s / 256)
    obtain ⟨_, _, _, _, h8⟩ := byte_facts _ hr
    have hg := g3_step n (s / 256) (s % 256) hr (g2_low n _)
    rw [← hs] at hg
    have hp := pops_step n (s / 256) (s % 256) hr
    rw [← hs] at hp
    rw [hg, hp, ← i1]
    refine ⟨?_, ?_⟩
    · have e1 : (256 * g3 n (s / 256) + pop8 (s % 256)) % 256 = pop8 (s % 256) := by omega
      have e2 : (256 * g3 n (s / 256) + pop8 (s % 256)) / 256 = g3 n (s / 256) := by omega
      show (256 * g3 n (s / 256) + pop8 (s % 256)) % 256 + sums n ((256 * g3 n (s / 256) + pop8 (s % 256)) / 256) = _
      rw [e1, e2]
    · rw [Nat.pow_succ]
      omega
/-- each byte of the sums is at most 8 -/
theorem g3_bytes (n s i : Nat) : g3 n s / 256 ^ i % 256 ≤ 8 := by
  induction n generalizing s i with
  | zero => simp [g3, mk]
  | succ n ih =>
    have hs : s = 256 * (s / 256) + s % 256 := by omega
    have hr : s % 256 < 256 := by omega
    obtain ⟨_, _, _, _, h8⟩ := byte_facts _ hr
    rw [hs, g3_step n _ _ hr (g2_low n _)]
    cases i with
    | zero => simp; omega
    | succ i =>
      have e2 : (256 * g3 n (s / 256) + pop8 (s % 256)) / 256 = g3 n (s / 256) := by omega
      rw [Nat.pow_succ, Nat.mul_comm (256 ^ i), ← Nat.div_div_eq_div_mul, e2]
      exact ih _ i

def fin1 (x : Nat) : Nat := x + x / 256
def fin2 (x : Nat) : Nat := x + x / 65536
def fin3 (x : Nat) : Nat := x + x / 4294967296
theorem dv1 (a q : Nat) (ha : a < 256) : (a + 256 * q) / 256 = q := by omega
theorem dv2 (a b q : Nat) (ha : a < 256) (hb : b < 256) : (a + 256 * (b + 256 * q)) / 65536 = q := by omega
theorem dv4 (a b c d q : Nat) (ha : a < 256) (hb : b < 256) (hc : c < 256) (hd : d < 256) : (a + 256 * (b + 256 * (c + 256 * (d + 256 * q)))) / 4294967296 = q := by omega
theorem fin1_digit (a q : Nat) (ha : a < 256) : fin1 (a + 256 * q) = a + 256 * q + q := by unfold fin1; rw [dv1 _ _ ha]
theorem fin2_digit (a b q : Nat) (ha : a < 256) (hb : b < 256) : fin2 (a + 256 * (b + 256 * q)) = a + 256 * (b + 256 * q) + q := by unfold fin2; rw [dv2 _ _ _ ha hb]
theorem fin3_digit (a b c d q : Nat) (ha : a < 256) (hb : b < 256) (hc : c < 256) (hd : d < 256) : fin3 (a + 256 * (b + 256 * (c + 256 * (d + 256 * q)))) = a + 256 * (b + 256 * (c + 256 * (d + 256 * q))) + q := by unfold fin3; rw [dv4 _ _ _ _ _ ha hb hc hd]
theorem lin1 (x0 x1 x2 x3 x4 x5 x6 x7 : Nat) : x0 + 256 * (x1 + 256 * (x2 + 256 * (x3 + 256 * (x4 + 256 * (x5 + 256 * (x6 + 256 * x7)))))) + (x1 + 256 * (x2 + 256 * (x3 + 256 * (x4 + 256 * (x5 + 256 * (x6 + 256 * x7)))))) = (x0 + x1) + 256 * ((x1 + x2) + 256 * ((x2 + x3) + 256 * ((x3 + x4) + 256 * ((x4 + x5) + 256 * ((x5 + x6) + 256 * ((x6 + x7) + 256 * x7)))))) := by
  simp only [Nat.mul_add, Nat.add_assoc, ← Nat.mul_assoc, Nat.reduceMul]
  omega
theorem lin2 (x0 x1 x2 x3 x4 x5 x6 x7 : Nat) : x0 + 256 * (x1 + 256 * (x2 + 256 * (x3 + 256 * (x4 + 256 * (x5 + 256 * (x6 + 256 * x7)))))) + (x2 + 256 * (x3 + 256 * (x4 + 256 * (x5 + 256 * (x6 + 256 * x7))))) = (x0 + x2) + 256 * ((x1 + x3) + 256 * ((x2 + x4) + 256 * ((x3 + x5) + 256 * ((x4 + x6) + 256 * ((x5 + x7) + 256 * (x6 + 256 * x7)))))) := by
  simp only [Nat.mul_add, Nat.add_assoc, ← Nat.mul_assoc, Nat.reduceMul]
  omega
theorem fin_digits (x0 x1 x2 x3 x4 x5 x6 x7 : Nat) (h0 : x0 ≤ 8) (h1 : x1 ≤ 8) (h2 : x2 ≤ 8) (h3 : x3 ≤ 8) (h4 : x4 ≤ 8) (h5 : x5 ≤ 8) (h6 : x6 ≤ 8) (h7 : x7 ≤ 8) :
    fin3 (fin2 (fin1 (x0 + 256 * (x1 + 256 * (x2 + 256 * (x3 + 256 * (x4 + 256 * (x5 + 256 * (x6 + 256 * x7))))))))) % 128 = x0 + (x1 + (x2 + (x3 + (x4 + (x5 + (x6 + (x7 + 0))))))) := by
  rw [fin1_digit _ _ (by omega), lin1, fin2_digit _ _ _ (by omega) (by omega), lin2, fin3_digit _ _ _ _ _ (by omega) (by omega) (by omega) (by omega)]
  generalize x1 + x2 + (x3 + x4) + 256 * (x2 + x3 + (x4 + x5) + 256 * (x3 + x4 + (x5 + x6) + 256 * (x4 + x5 + (x6 + x7) + 256 * (x5 + x6 + x7 + 256 * (x6 + x7 + 256 * x7))))) = z
  generalize hq : x4 + x5 + (x6 + x7) + 256 * (x5 + x6 + x7 + 256 * (x6 + x7 + 256 * x7)) = q
  have e : q = x4 + x5 + (x6 + x7) + 256 * (x5 + x6 + x7 + 256 * (x6 + x7 + 256 * x7)) := hq.symm
  clear hq
  generalize x5 + x6 + x7 + 256 * (x6 + x7 + 256 * x7) = y at e
  omega
set_option maxRecDepth 100000 in
set_option maxHeartbeats 1600000 in
theorem ones_math (s : Nat) : fin3 (fin2 (fin1 (g3 8 s))) % 128 = pop s ∧ g3 8 s ≤ 578721382704613384 := by
  have h0 := g3_bytes 8 s 0
  have h1 := g3_bytes 8 s 1
  have h2 := g3_bytes 8 s 2
  have h3 := g3_bytes 8 s 3
  have h4 := g3_bytes 8 s 4
  have h5 := g3_bytes 8 s 5
  have h6 := g3_bytes 8 s 6
  have h7 := g3_bytes 8 s 7
  obtain ⟨hs, hl⟩ := sums_g3 8 s
  have hp : pops 8 s = pop s := rfl
  rw [hp] at hs
  rw [← hs]
  clear hs hp
  generalize g3 8 s = x at *
  obtain ⟨x0, y0, e0, l0⟩ : ∃ x0 y0, x = x0 + 256 * y0 ∧ x0 < 256 := ⟨x % 256, x / 256, by omega, by omega⟩
  obtain ⟨x1, y1, e1, l1⟩ : ∃ p q, y0 = p + 256 * q ∧ p < 256 := ⟨y0 % 256, y0 / 256, by omega, by omega⟩
  obtain ⟨x2, y2, e2, l2⟩ : ∃ p q, y1 = p + 256 * q ∧ p < 256 := ⟨y1 % 256, y1 / 256, by omega, by omega⟩
  obtain ⟨x3, y3, e3, l3⟩ : ∃ p q, y2 = p + 256 * q ∧ p < 256 := ⟨y2 % 256, y2 / 256, by omega, by omega⟩
  obtain ⟨x4, y4, e4, l4⟩ : ∃ p q, y3 = p + 256 * q ∧ p < 256 := ⟨y3 % 256, y3 / 256, by omega, by omega⟩
  obtain ⟨x5, y5, e5, l5⟩ : ∃ p q, y4 = p + 256 * q ∧ p < 256 := ⟨y4 % 256, y4 / 256, by omega, by omega⟩
  obtain ⟨x6, y6, e6, l6⟩ : ∃ p q, y5 = p + 256 * q ∧ p < 256 := ⟨y5 % 256, y5 / 256, by omega, by omega⟩
  simp only [Nat.reducePow, Nat.div_one] at h0 h1 h2 h3 h4 h5 h6 h7 hl
  have d1 : x / 256 = y0 := by omega
  have d2 : x / 65536 = y1 := by omega
  have d3 : x / 16777216 = y2 := by omega
  have d4 : x / 4294967296 = y3 := by omega
  have d5 : x / 1099511627776 = y4 := by omega
  have d6 : x / 281474976710656 = y5 := by omega
  have d7 : x / 72057594037927936 = y6 := by omega
  rw [d1] at h1; rw [d2] at h2; rw [d3] at h3; rw [d4] at h4; rw [d5] at h5; rw [d6] at h6; rw [d7] at h7
  have hy : y6 < 256 := by omega
  simp only [sums]
  have q1 : y0 / 256 = y1 := by omega
  have q2 : y1 / 256 = y2 := by omega
  have q3 : y2 / 256 = y3 := by omega
  have q4 : y3 / 256 = y4 := by omega
  have q5 : y4 / 256 = y5 := by omega
  have q6 : y5 / 256 = y6 := by omega
  rw [d1, q1, q2, q3, q4, q5, q6]
  have m0 : x % 256 = x0 := by omega
  have m1 : y0 % 256 = x1 := by omega
  have m2 : y1 % 256 = x2 := by omega
  have m3 : y2 % 256 = x3 := by omega
  have m4 : y3 % 256 = x4 := by omega
  have m5 : y4 % 256 = x5 := by omega
  have m6 : y5 % 256 = x6 := by omega
  have m7 : y6 % 256 = y6 := by omega
  rw [m0, m1, m2, m3, m4, m5, m6, m7]
  rw [m0] at h0; rw [m1] at h1; rw [m2] at h2; rw [m3] at h3; rw [m4] at h4; rw [m5] at h5; rw [m6] at h6; rw [m7] at h7
  clear d1 d2 d3 d4 d5 d6 d7 q1 q2 q3 q4 q5 q6 m0 m1 m2 m3 m4 m5 m6 m7 l0 l1 l2 l3 l4 l5 l6 hy hl
  subst e6 e5 e4 e3 e2 e1 e0
  refine ⟨?_, by omega⟩
  exact fin_digits x0 x1 x2 x3 x4 x5 x6 y6 h0 h1 h2 h3 h4 h5 h6 h7
/-- the categories of a set below k, rising -/
def bitsTo (s k : Nat) : List Nat := (List.range k).filter s.testBit
theorem bitsTo_yes {s k : Nat} (h : s.testBit k = true) : bitsTo s (k + 1) = bitsTo s k ++ [k] := by simp [bitsTo, List.range_succ, List.filter_append, h]
theorem bitsTo_no {s k : Nat} (h : s.testBit k = false) : bitsTo s (k + 1) = bitsTo s k := by simp [bitsTo, List.range_succ, List.filter_append, h]
theorem bitsTo_le (s k : Nat) : (bitsTo s k).length ≤ k := by
  have := List.length_filter_le s.testBit (List.range k)
  simpa [bitsTo] using this
end Go.Proofs.YtcgpggknmhlnkaaDoor.Cats

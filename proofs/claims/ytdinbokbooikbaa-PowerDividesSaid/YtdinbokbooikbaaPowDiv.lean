/- What package power's Gcd, Lcm answer: for every two numbers of 64 bits. -/
import Derived.Test.YtdinbokbooikbaaPowRoot
namespace Go.Proofs.Ytdinbokbooikbaa.Pow
open Go.RowKit Kit Dec

set_option maxRecDepth 100000 in
set_option maxHeartbeats 400000 in
theorem gcd_none (a b : Int) (a2 : a ≤ 9223372036854775807) (b2 : b ≤ 9223372036854775807) (h : cntD a = false ∨ cntD b = false) (w : World) :
    Calls Try.prog 12 #[.int .i64 a, .int .i64 b] w (TwoD 0 false w) := by
  cases ha : cntD a
  · have C := Lib.hid (fun w1 => counts_c a a2 false ha w1)
    clear h
    go_enter Try.func12, Try.ntmps12
    go_wp2_with (go_at_call 32; (with_reducible refine (C.out _).mono ?_); rintro e w' ⟨rfl, rfl⟩)
    go_ret2
    exact ⟨rfl, 0, rfl⟩
  · have C := Lib.hid (fun w1 => counts_c a a2 true ha w1)
    have C2 := Lib.hid (fun w1 => counts_c b b2 false (by rw [ha] at h; simpa using h) w1)
    clear h
    go_enter Try.func12, Try.ntmps12
    go_wp2_with (go_at_call 32; first | ((with_reducible refine (C.out _).mono ?_); rintro e w' ⟨rfl, rfl⟩) | ((with_reducible refine (C2.out _).mono ?_); rintro e w' ⟨rfl, rfl⟩))
    go_ret2
    exact ⟨rfl, 0, rfl⟩
set_option maxRecDepth 100000 in
set_option maxHeartbeats 1000000 in
theorem gcd_some (a b g : Nat) (a2 : a ≤ 9223372036854775807) (b2 : b ≤ 9223372036854775807) (ha : cntD a = true) (hb : cntD b = true) (hg : Nat.gcd a b = g) (w : World) :
    Calls Try.prog 12 #[.int .i64 a, .int .i64 b] w (TwoD g true w) := by
  have C := Lib.hid (fun w1 => counts_c a (by omega) true ha w1)
  have C2 := Lib.hid (fun w1 => counts_c b (by omega) true hb w1)
  have HG := Lib.hid hg
  clear hg ha hb
  go_enter Try.func12, Try.ntmps12
  go_wp2_with (go_at_call 32; first | ((with_reducible refine (C.out _).mono ?_); rintro e w' ⟨rfl, rfl⟩) | ((with_reducible refine (C2.out _).mono ?_); rintro e w' ⟨rfl, rfl⟩))
  go_loopw [0, 1] (fun p q wr => ∃ m n : Nat, p = .int .i64 m ∧ q = .int .i64 n ∧ m ≤ 9223372036854775807 ∧ n ≤ 9223372036854775807 ∧ Hid (Nat.gcd m n = g) ∧ Drawn w wr) (fun _ q _ => (intOf q).toNat)
  case atStart => exact ⟨a, b, rfl, rfl, a2, b2, HG, Drawn.refl w⟩
  case round =>
    clear HG C C2
    obtain ⟨m, n, rfl, rfl, hm, hn, hG, hd⟩ := hrel
    by_cases hz : n = 0
    · subst hz
      have hg := hG.out
      rw [Nat.gcd_zero_right] at hg
      subst hg
      clear hG
      go_wp2
      go_ret2
      exact ⟨rfl, hd⟩
    · have hz2 : (n == 0) = false := by simpa using hz
      have hlt : m % n < n := Nat.mod_lt _ (by omega)
      have hr : (m : Int).tmod (n : Int) = ((m % n : Nat) : Int) := by rw [Int.tmod_eq_emod_of_nonneg (by omega)]; simp
      have hG2 : Hid (Nat.gcd n (m % n) = g) := Lib.hid (by rw [gcd_step]; exact hG.out)
      generalize m % n = l at *
      have hzi : ((n : Int) == 0) = false := by simpa using hz
      clear hG
      go_wp2
      go_region
      all_goals go_wp2
      all_goals (exact ⟨⟨n, l, rfl, rfl, hn, by omega, hG2, drawn_more hd _⟩, by simp [intOf]; omega⟩)
theorem gcd_c (a b : Int) (a2 : a ≤ 9223372036854775807) (b2 : b ≤ 9223372036854775807) (n : Int) (k : Bool) (hn : gcdD a b = (n, k)) (w : World) :
    Calls Try.prog 12 #[.int .i64 a, .int .i64 b] w (TwoD n k w) := by
  cases ha : cntD a
  · obtain ⟨rfl, rfl⟩ := Prod.mk.inj (hn.symm.trans (gcdD_none (.inl ha)))
    exact gcd_none a b a2 b2 (.inl ha) w
  cases hb : cntD b
  · obtain ⟨rfl, rfl⟩ := Prod.mk.inj (hn.symm.trans (gcdD_none (.inr hb)))
    exact gcd_none a b a2 b2 (.inr hb) w
  obtain ⟨p, rfl, _⟩ := cntD_yes ha
  obtain ⟨q, rfl, _⟩ := cntD_yes hb
  obtain ⟨rfl, rfl⟩ := Prod.mk.inj (hn.symm.trans (gcdD_some ha hb))
  exact gcd_some p q _ (by omega) (by omega) ha hb rfl w
theorem gcdD_room {a b n : Int} {k : Bool} (a2 : a ≤ 9223372036854775807) (b2 : b ≤ 9223372036854775807) (hn : gcdD a b = (n, k)) : 0 ≤ n ∧ n ≤ 9223372036854775807 := by
  unfold gcdD at hn
  split at hn
  · rename_i h
    rw [Bool.and_eq_true] at h
    obtain ⟨p, rfl, _⟩ := cntD_yes h.1
    obtain ⟨q, rfl, _⟩ := cntD_yes h.2
    have := gcd_room (a := p) (b := q) (by omega) (by omega)
    obtain ⟨rfl, rfl⟩ := Prod.mk.inj hn
    rw [Int.toNat_natCast, Int.toNat_natCast]
    omega
  · obtain ⟨rfl, rfl⟩ := Prod.mk.inj hn
    omega
set_option maxRecDepth 100000 in
set_option maxHeartbeats 400000 in
theorem lcm_c (a b : Int) (a2 : a ≤ 9223372036854775807) (b2 : b ≤ 9223372036854775807) (n : Int) (k : Bool) (hn : lcmD a b = (n, k)) (w : World) :
    Calls Try.prog 13 #[.int .i64 a, .int .i64 b] w (TwoD n k w) := by
  unfold lcmD at hn
  obtain ⟨⟨g, j⟩, hg⟩ : ∃ r, gcdD a b = r := ⟨_, rfl⟩
  obtain ⟨g1, g2⟩ := gcdD_room a2 b2 hg
  have G := Lib.hid (fun w1 => gcd_c a b a2 b2 g j hg w1)
  rw [hg] at hn
  dsimp only at hn
  clear hg
  cases j
  · obtain ⟨rfl, rfl⟩ := Prod.mk.inj hn
    clear hn
    go_enter Try.func13, Try.ntmps13
    go_wp2_with (go_at_call 12; (with_reducible refine (G.out _).mono ?_); rintro e w' ⟨rfl, q, rfl⟩)
    go_ret2
    exact ⟨rfl, _, rfl⟩
  · rw [if_pos rfl] at hn
    by_cases hz : g = 0
    · subst hz
      obtain ⟨rfl, rfl⟩ := Prod.mk.inj hn
      clear hn
      go_enter Try.func13, Try.ntmps13
      go_wp2_with (go_at_call 12; (with_reducible refine (G.out _).mono ?_); rintro e w' ⟨rfl, q, rfl⟩)
      go_ret2
      exact ⟨rfl, _, rfl⟩
    · rw [if_neg hz] at hn
      have hz2 : (g == 0) = false := by simpa using hz
      have S := Lib.hid (fun w1 => scaled_c a b g a2 b2 g2 n k hn w1)
      clear hn
      go_enter Try.func13, Try.ntmps13
      go_wp2_with (first
        | (go_at_call 12; (with_reducible refine (G.out _).mono ?_); rintro e w' ⟨rfl, q, rfl⟩)
        | (go_at_call 33; (with_reducible refine (S.out _).mono ?_); rintro e w' ⟨rfl, q2, rfl⟩))
      go_ret2
      exact ⟨rfl, _, rfl⟩
end Go.Proofs.Ytdinbokbooikbaa.Pow

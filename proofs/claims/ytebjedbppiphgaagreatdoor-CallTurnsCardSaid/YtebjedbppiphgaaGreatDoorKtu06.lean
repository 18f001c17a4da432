/- What math/bits.Div64 answers where the quotient has 64 bits: two digits of 32 bits, each estimated and mended. -/
import Derived.Test.YtebjedbppiphgaaGreatDoorKtu04
import Derived.Test.YtebjedbppiphgaaGreatDoorKtu05
import Derived.Deep.CutBlock
import Derived.Deep.DeepCutAuto
namespace Go.Proofs.YtebjedbppiphgaaGreatDoor.Dec
open Go.RowKit Kit
/-- the world has drawn some orders, and is else as it was -/
def Drawn (w wr : World) : Prop := ∃ q, wr = w.drewN q
theorem Drawn.refl (w : World) : Drawn w w := ⟨0, rfl⟩
theorem mask32 (a : Nat) (ha : a < 18446744073709551616) : bits .and .u64 (a : Int) 4294967295 = ((a % 4294967296 : Nat) : Int) := Mul64.maskN a ha
theorem wrapU {a : Nat} (ha : a < 18446744073709551616) : IntKind.u64.wrap (a : Int) = (a : Int) := Mul64.wrapN a ha
/-- what stands in the lower s bits is joined -/
theorem joined (a b s : Nat) (hs : s ≤ 64) (h : a * 2 ^ s < 18446744073709551616) (hb : b < 2 ^ s) : bits .or .u64 ((a * 2 ^ s : Nat) : Int) (b : Int) = ((a * 2 ^ s + b : Nat) : Int) := by
  have hp : 2 ^ s ≤ 18446744073709551616 := Nat.pow_le_pow_right (n := 2) (by omega) hs
  rw [bits_or_u64_nat _ _ h (Nat.lt_of_lt_of_le hb hp), ← Nat.shiftLeft_eq, Nat.shiftLeft_add_eq_or_of_lt hb]
/-- the words of an estimate -/
theorem est_words {u y1 y0 d : Nat} (hu : u < y1 * 4294967296 + y0) (h0 : y0 < 4294967296) (h1 : 2147483648 ≤ y1) (h2 : y1 < 4294967296) (hd : d < 4294967296) :
    ∃ q r : Nat, Est u y1 y0 d q r ∧ r < 4294967296 ∧ IntKind.u64.wrap ((u : Int) / (y1 : Int)) = (q : Int) ∧ IntKind.u64.wrap ((u : Int) - IntKind.u64.wrap ((q : Int) * (y1 : Int))) = (r : Int) := by
  have hS := Est.start hu h0 h1 hd
  have hr : u % y1 < y1 := Nat.mod_lt u (by omega)
  have e : (u : Int) / (y1 : Int) = ((u / y1 : Nat) : Int) := by rw [Int.natCast_ediv]
  generalize u / y1 = q at *
  generalize u % y1 = r at *
  obtain ⟨s1, s2, s3⟩ := hS
  refine ⟨q, r, ⟨s1, s2, s3⟩, by omega, by rw [e]; exact wrapU (by omega), ?_⟩
  rw [← Int.natCast_mul]
  generalize q * y1 = m at *
  rw [wrapU (by omega), show (u : Int) - (m : Int) = (r : Int) by omega]
  exact wrapU (by omega)
theorem off_words {u d q y r : Nat} (h : u * 4294967296 + d = q * y + r) (hr : r < 18446744073709551616) :
    IntKind.u64.wrap (IntKind.u64.wrap (IntKind.u64.wrap ((u : Int) * 4294967296) + (d : Int)) - IntKind.u64.wrap ((q : Int) * (y : Int))) = (r : Int) := by
  rw [IntKind.wrap_u64, IntKind.wrap_u64, IntKind.wrap_u64, IntKind.wrap_u64]
  exact take_off h hr
/-- how the loop's test stands, a number too great by one or more -/
theorem Est.test {u y1 y0 Y d Q k m : Nat} (h : Est u y1 y0 d k m) (hY : y1 * 4294967296 + y0 = Y) (h1 : 2147483648 ≤ y1) (hQ : (u * 4294967296 + d) / Y = Q) :
    Q ≤ k ∧ k ≤ 4294967297 ∧ (Q < k ↔ m * 4294967296 + d < k * y0) := by
  subst hY hQ
  exact ⟨h.ge, h.le, est_cond (by omega) h.sum⟩
theorem Est.less {u y1 y0 Y d Q k m : Nat} (h : Est u y1 y0 d (k + 1) m) (hY : y1 * 4294967296 + y0 = Y) (h1 : 2147483648 ≤ y1) (h0 : y0 < 4294967296) (hQ : (u * 4294967296 + d) / Y = Q) (hlt : Q < k + 1) :
    Est u y1 y0 d k (m + y1) ∧ (4294967296 ≤ m + y1 → k = Q) := by
  subst hY hQ
  have hn := h.next hlt
  refine ⟨hn, fun hg => ?_⟩
  have h2 := est_stop (d := d) (by omega) hn.sum h0 (by have := h.le; simp only [Nat.add_sub_cancel]; omega) hg
  simp only [Nat.add_sub_cancel] at h2
  omega
/-- two digits, together -/
theorem two_digits {hi lo y s U X Y x1 x0 : Nat} (hp : 0 < 2 ^ s) (hY : y * 2 ^ s = Y) (hm : U * 18446744073709551616 + X = (hi * 18446744073709551616 + lo) * 2 ^ s) (hX : x1 * 4294967296 + x0 = X) :
    (U * 4294967296 + x1) / Y * 4294967296 + ((U * 4294967296 + x1) % Y * 4294967296 + x0) / Y = (hi * 18446744073709551616 + lo) / y ∧
    ((U * 4294967296 + x1) % Y * 4294967296 + x0) % Y / 2 ^ s = (hi * 18446744073709551616 + lo) % y := by
  obtain ⟨d1, d2⟩ := @digit (U * 4294967296 + x1) Y x0
  have e : (U * 4294967296 + x1) * 4294967296 + x0 = U * 18446744073709551616 + X := by clear hm hY d1 d2; subst hX; omega
  rw [← d1, ← d2, e, hm, ← hY, Nat.mul_div_mul_right _ _ hp, Nat.mul_mod_mul_right, Nat.mul_div_cancel _ hp]
  exact ⟨rfl, rfl⟩

set_option maxRecDepth 100000 in
set_option maxHeartbeats 1000000 in
theorem div64_c (hi lo y : Nat) (h0 : 0 < hi) (hy : hi < y) (hU : y < 18446744073709551616) (hl : lo < 18446744073709551616) (w : World) :
    Calls Tryz.prog 306 #[.int .u64 hi, .int .u64 lo, .int .u64 y] w fun e w' => e = .returned (.tuple #[.int .u64 (((hi * 18446744073709551616 + lo) / y : Nat) : Int), .int .u64 (((hi * 18446744073709551616 + lo) % y : Nat) : Int)]) ∧ w = w' := by
  obtain ⟨b1, b2, b3, b4⟩ := lead (by omega) hU
  obtain ⟨s, hs⟩ : ∃ s, 64 - Lib.bitLen y = s := ⟨_, rfl⟩
  have hs2 : 64 - ((Lib.bitLen y : Nat) : Int) = (s : Int) := by omega
  have hs3 : (s : Int) ≤ 63 := by omega
  rw [hs] at b3 b4
  have L : Hid (∀ w1 : World, Calls Tryz.prog 333 #[.int .u64 (y : Int)] w1 fun e w' => e = .returned (.int .i64 (s : Int)) ∧ w1 = w') := Lib.hid (fun w1 => by
    refine (Tryz.bits_LeadingZeros64 (y : Int) w1 (by omega) (by omega)).mono ?_
    rintro e w' ⟨rfl, rfl⟩
    rw [Int.toNat_natCast, hs2]
    exact ⟨rfl, rfl⟩)
  clear hs hs2 b1 b2
  have hp : 0 < 2 ^ s := Nat.pow_pos (by omega)
  have hp2 : 2 ^ (64 - s) * 2 ^ s = 18446744073709551616 := by rw [← Nat.pow_add, show 64 - s + s = 64 by omega]
  have hlo : lo / 2 ^ (64 - s) < 2 ^ s := by rw [Nat.div_lt_iff_lt_mul (Nat.pow_pos (by omega)), Nat.mul_comm, hp2]; exact hl
  have hmv := moved (hi := hi) (lo := lo) (s := s) (by omega)
  have hhi : (hi + 1) * 2 ^ s ≤ y * 2 ^ s := Nat.mul_le_mul_right _ hy
  rw [Nat.add_mul, Nat.one_mul] at hhi
  have E1 : IntKind.u64.wrap ((y : Int) * 2 ^ s) = ((y * 2 ^ s : Nat) : Int) := by
    rw [← wrapU b3]; congr 1
  have E2 : IntKind.u64.wrap ((hi : Int) * 2 ^ s) = ((hi * 2 ^ s : Nat) : Int) := by
    rw [← wrapU (a := hi * 2 ^ s) (by omega)]; congr 1
  have E3 : IntKind.u64.wrap ((lo : Int) * 2 ^ s) = ((lo * 2 ^ s % 18446744073709551616 : Nat) : Int) := by
    rw [IntKind.wrap_u64]; simp
  have E4 : bits .or .u64 ((hi * 2 ^ s : Nat) : Int) ((lo : Int) / 2 ^ (64 - s)) = ((hi * 2 ^ s + lo / 2 ^ (64 - s) : Nat) : Int) := by
    rw [← joined hi _ s (by omega) (by omega) hlo]; simp
  obtain ⟨Y, hY⟩ : ∃ Y, y * 2 ^ s = Y := ⟨_, rfl⟩
  obtain ⟨H, hH⟩ : ∃ H, hi * 2 ^ s = H := ⟨_, rfl⟩
  obtain ⟨U, hU2⟩ : ∃ U, hi * 2 ^ s + lo / 2 ^ (64 - s) = U := ⟨_, rfl⟩
  obtain ⟨X, hX⟩ : ∃ X, lo * 2 ^ s % 18446744073709551616 = X := ⟨_, rfl⟩
  have hUY : U < Y := by omega
  have hXl : X < 18446744073709551616 := by omega
  rw [hU2] at E4
  rw [hX] at E3
  rw [hY] at E1 b3 b4
  rw [hU2, hX] at hmv
  replace hmv := Lib.hid hmv
  rw [hH] at E2 E4
  have F1 : (Y : Int) / 4294967296 = ((Y / 4294967296 : Nat) : Int) := by simp
  have F2 := mask32 Y b3
  have F3 : (X : Int) / 4294967296 = ((X / 4294967296 : Nat) : Int) := by simp
  have F4 := mask32 X hXl
  obtain ⟨y1, hy1⟩ : ∃ y1, Y / 4294967296 = y1 := ⟨_, rfl⟩
  obtain ⟨y0, hy0⟩ : ∃ y0, Y % 4294967296 = y0 := ⟨_, rfl⟩
  obtain ⟨x1, hx1⟩ : ∃ x1, X / 4294967296 = x1 := ⟨_, rfl⟩
  obtain ⟨x0, hx0⟩ : ∃ x0, X % 4294967296 = x0 := ⟨_, rfl⟩
  rw [hy1] at F1
  rw [hy0] at F2
  rw [hx1] at F3
  rw [hx0] at F4
  replace hX := Lib.hid hX
  have hYe : y1 * 4294967296 + y0 = Y := by rw [← hy1, ← hy0]; exact Nat.div_add_mod' Y _
  have hXe : x1 * 4294967296 + x0 = X := by rw [← hx1, ← hx0]; exact Nat.div_add_mod' X _
  have hy1n : ¬ (y1 : Int) = 0 := by omega
  have hT := Lib.hid (two_digits hp hY hmv.out hXe)
  have j1 : y1 < 4294967296 := by omega
  have j0 : y0 < 4294967296 := by omega
  have k1 : x1 < 4294967296 := by omega
  have k0 : x0 < 4294967296 := by omega
  have i1 : 2147483648 ≤ y1 := by omega
  clear hmv hhi hlo hp2 hU2 hX hy1 hy0 hx1 hx0
  -- the first digit
  obtain ⟨q, r, hS, hr, G1, G2⟩ := est_words (u := U) (d := x1) (by omega) j0 i1 j1 k1
  obtain ⟨Q, hQ⟩ : ∃ Q, (U * 4294967296 + x1) / Y = Q := ⟨_, rfl⟩
  obtain ⟨R, hR⟩ : ∃ R, (U * 4294967296 + x1) % Y = R := ⟨_, rfl⟩
  have hQl : Q < 4294967296 := by rw [← hQ]; exact est_lt hUY k1
  have hRY : R < Y := by rw [← hR]; exact Nat.mod_lt _ (by omega)
  have T1 := off_words (u := U) (d := x1) (q := Q) (y := Y) (r := R) (by rw [← hQ, ← hR, Nat.mul_comm _ Y]; exact (Nat.div_add_mod _ _).symm) (by omega)
  -- the second digit
  obtain ⟨q2, r2, hS2, hr2, G3, G4⟩ := est_words (u := R) (d := x0) (by omega) j0 i1 j1 k0
  obtain ⟨Q2, hQ2⟩ : ∃ Q2, (R * 4294967296 + x0) / Y = Q2 := ⟨_, rfl⟩
  obtain ⟨R2, hR2⟩ : ∃ R2, (R * 4294967296 + x0) % Y = R2 := ⟨_, rfl⟩
  have hQl2 : Q2 < 4294967296 := by rw [← hQ2]; exact est_lt hRY k0
  have hRY2 : R2 < Y := by rw [← hR2]; exact Nat.mod_lt _ (by omega)
  have T2 := off_words (u := R) (d := x0) (q := Q2) (y := Y) (r := R2) (by rw [← hQ2, ← hR2, Nat.mul_comm _ Y]; exact (Nat.div_add_mod _ _).symm) (by omega)
  have hT2 := hT.out
  rw [hQ, hR, hQ2, hR2] at hT2
  obtain ⟨f1, f2⟩ := hT2
  rw [← f1, ← f2]
  clear f1 f2 hT
  replace hS := Lib.hid hS
  replace hS2 := Lib.hid hS2
  replace hQ := Lib.hid hQ
  replace hQ2 := Lib.hid hQ2
  replace hR := Lib.hid hR
  replace hR2 := Lib.hid hR2
  replace hY := Lib.hid hY
  replace hYe := Lib.hid hYe
  clear hXe
  replace hH := Lib.hid hH
  go_enter Tryz.func306, Tryz.ntmps306
  go_upto_block 0 with (go_at_call 333; refine (L.out _).mono ?_; rintro e w' ⟨rfl, rfl⟩)
  go_cut [15, 16] from 67 to 85 (fun a b wx => ∃ m : Nat, a = .int .u64 Q ∧ b = .int .u64 m ∧ w = wx)
  case first =>
    go_wp2_with fail
    go_loopw [15, 16] (fun a b wr => ∃ k m : Nat, a = .int .u64 k ∧ b = .int .u64 m ∧ m < 4294967296 ∧ Hid (Est U y1 y0 x1 k m) ∧ wr = w) (fun a _ _ => (intOf a).toNat)
    case atStart => exact ⟨q, r, rfl, rfl, hr, hS, rfl⟩
    case round =>
      obtain ⟨k, m, rfl, rfl, hm, hE, rfl⟩ := hrel
      obtain ⟨t1, t2, t3⟩ := hE.out.test hYe.out i1 hQ.out
      clear E1 E2 E3 E4 F1 F2 F3 F4 T1 T2 G1 G2 G3 G4 hS hS2 b3 b4 hUY hXl hRY hRY2 hr hr2 hy h0 hl hp hs3
      by_cases hlt : Q < k
      · have t4 := t3.1 hlt
        obtain ⟨j, hj⟩ : ∃ j, k = j + 1 := ⟨k - 1, by omega⟩
        obtain ⟨m2, hm2⟩ : ∃ m2, m + y1 = m2 := ⟨_, rfl⟩
        have hL := Lib.hid (show Est U y1 y0 x1 j m2 ∧ (4294967296 ≤ m2 → j = Q) by
          subst hj hm2; exact hE.out.less hYe.out i1 j0 hQ.out hlt)
        have hj2 : (k : Int) - 1 = (j : Int) := by omega
        have hm3 : (m : Int) + (y1 : Int) = (m2 : Int) := by omega
        have hm4 : (m2 : Int) < 8589934592 := by omega
        obtain ⟨P, hP⟩ : ∃ P, k * y0 = P := ⟨_, rfl⟩
        have hP2 : (k : Int) * (y0 : Int) = (P : Int) := by rw [← hP, Int.natCast_mul]
        have t5 : 4294967296 * (m : Int) + (x1 : Int) < (P : Int) := by omega
        by_cases hB : 4294967296 ≤ k
        · have hB2 : decide ((4294967296 : Int) ≤ (k : Int)) = true := decide_eq_true (by omega)
          clear t3 hE hj hm2 hP t4 hB t5 hP2
          by_cases hst : 4294967296 ≤ m2
          · obtain rfl := hL.out.2 hst
            have hst2 : decide ((4294967296 : Int) ≤ (m2 : Int)) = true := decide_eq_true (by omega)
            clear hst
            go_wp2_with fail
            go_meet
            exact ⟨m2, rfl, rfl, rfl⟩
          · have hst2 : decide ((4294967296 : Int) ≤ (m2 : Int)) = false := decide_eq_false (by omega)
            clear hst
            go_wp2_with fail
            have hst := of_decide_eq_false hst2
            exact ⟨⟨j, m2, rfl, rfl, by omega, Lib.hid hL.out.1, trivial⟩, show (j : Int).toNat < (k : Int).toNat by omega⟩
        · have hB2 : decide ((4294967296 : Int) ≤ (k : Int)) = false := decide_eq_false (by omega)
          have hB3 : decide (4294967296 * (m : Int) + (x1 : Int) < (P : Int)) = true := decide_eq_true (by omega)
          have hP4 : (P : Int) < 18446744073709551616 := by have := prod_lt (q := k) (y := y0) (by omega) j0; omega
          clear t3 hE hj hm2 hP t4 hB
          by_cases hst : 4294967296 ≤ m2
          · obtain rfl := hL.out.2 hst
            have hst2 : decide ((4294967296 : Int) ≤ (m2 : Int)) = true := decide_eq_true (by omega)
            clear hst
            go_wp2_with fail
            go_meet
            exact ⟨m2, rfl, rfl, rfl⟩
          · have hst2 : decide ((4294967296 : Int) ≤ (m2 : Int)) = false := decide_eq_false (by omega)
            clear hst
            go_wp2_with fail
            have hst := of_decide_eq_false hst2
            exact ⟨⟨j, m2, rfl, rfl, by omega, Lib.hid hL.out.1, trivial⟩, show (j : Int).toNat < (k : Int).toNat by omega⟩
      · obtain rfl : k = Q := by omega
        obtain ⟨P, hP⟩ : ∃ P, k * y0 = P := ⟨_, rfl⟩
        have hP2 : (k : Int) * (y0 : Int) = (P : Int) := by rw [← hP, Int.natCast_mul]
        have t5 : (P : Int) ≤ 4294967296 * (m : Int) + (x1 : Int) := by omega
        have hP4 : (P : Int) < 18446744073709551616 := by have := prod_lt (q := k) (y := y0) (by omega) j0; omega
        have hB2 : decide ((4294967296 : Int) ≤ (k : Int)) = false := decide_eq_false (by omega)
        have hB3 : decide (4294967296 * (m : Int) + (x1 : Int) < (P : Int)) = false := decide_eq_false (by omega)
        clear t3 hE hlt hP
        go_wp2_with fail
        go_meet
        exact ⟨m, rfl, rfl, rfl⟩
  case rest =>
    obtain ⟨m1, rfl, rfl, rfl⟩ := hcut
    clear E1 E2 E3 E4 F1 F2 F3 F4 G1 G2 hS
    go_upto_block 2 with fail
    go_cut [18, 16] from 102 to 120 (fun a b wx => ∃ m : Nat, a = .int .u64 Q2 ∧ b = .int .u64 m ∧ w = wx)
    case first =>
      go_wp2_with fail
      go_loopw [18, 16] (fun a b wr => ∃ k m : Nat, a = .int .u64 k ∧ b = .int .u64 m ∧ m < 4294967296 ∧ Hid (Est R y1 y0 x0 k m) ∧ wr = w) (fun a _ _ => (intOf a).toNat)
      case atStart => exact ⟨q2, r2, rfl, rfl, hr2, hS2, rfl⟩
      case round =>
        obtain ⟨k, m, rfl, rfl, hm, hE, rfl⟩ := hrel
        obtain ⟨t1, t2, t3⟩ := hE.out.test hYe.out i1 hQ2.out
        clear T2 G3 G4 hS2 b3 b4 hXl hRY hRY2 hr2 hy h0 hl hp hs3
        by_cases hlt : Q2 < k
        · have t4 := t3.1 hlt
          obtain ⟨j, hj⟩ : ∃ j, k = j + 1 := ⟨k - 1, by omega⟩
          obtain ⟨m2, hm2⟩ : ∃ m2, m + y1 = m2 := ⟨_, rfl⟩
          have hL := Lib.hid (show Est R y1 y0 x0 j m2 ∧ (4294967296 ≤ m2 → j = Q2) by
            subst hj hm2; exact hE.out.less hYe.out i1 j0 hQ2.out hlt)
          have hj2 : (k : Int) - 1 = (j : Int) := by omega
          have hm3 : (m : Int) + (y1 : Int) = (m2 : Int) := by omega
          have hm4 : (m2 : Int) < 8589934592 := by omega
          obtain ⟨P, hP⟩ : ∃ P, k * y0 = P := ⟨_, rfl⟩
          have hP2 : (k : Int) * (y0 : Int) = (P : Int) := by rw [← hP, Int.natCast_mul]
          have t5 : 4294967296 * (m : Int) + (x0 : Int) < (P : Int) := by omega
          by_cases hB : 4294967296 ≤ k
          · have hB2 : decide ((4294967296 : Int) ≤ (k : Int)) = true := decide_eq_true (by omega)
            clear t3 hE hj hm2 hP t4 hB t5 hP2
            by_cases hst : 4294967296 ≤ m2
            · obtain rfl := hL.out.2 hst
              have hst2 : decide ((4294967296 : Int) ≤ (m2 : Int)) = true := decide_eq_true (by omega)
              clear hst
              go_wp2_with fail
              go_meet
              exact ⟨m2, rfl, rfl, rfl⟩
            · have hst2 : decide ((4294967296 : Int) ≤ (m2 : Int)) = false := decide_eq_false (by omega)
              clear hst
              go_wp2_with fail
              have hst := of_decide_eq_false hst2
              exact ⟨⟨j, m2, rfl, rfl, by omega, Lib.hid hL.out.1, trivial⟩, show (j : Int).toNat < (k : Int).toNat by omega⟩
          · have hB2 : decide ((4294967296 : Int) ≤ (k : Int)) = false := decide_eq_false (by omega)
            have hB3 : decide (4294967296 * (m : Int) + (x0 : Int) < (P : Int)) = true := decide_eq_true (by omega)
            have hP4 : (P : Int) < 18446744073709551616 := by have := prod_lt (q := k) (y := y0) (by omega) j0; omega
            clear t3 hE hj hm2 hP t4 hB
            by_cases hst : 4294967296 ≤ m2
            · obtain rfl := hL.out.2 hst
              have hst2 : decide ((4294967296 : Int) ≤ (m2 : Int)) = true := decide_eq_true (by omega)
              clear hst
              go_wp2_with fail
              go_meet
              exact ⟨m2, rfl, rfl, rfl⟩
            · have hst2 : decide ((4294967296 : Int) ≤ (m2 : Int)) = false := decide_eq_false (by omega)
              clear hst
              go_wp2_with fail
              have hst := of_decide_eq_false hst2
              exact ⟨⟨j, m2, rfl, rfl, by omega, Lib.hid hL.out.1, trivial⟩, show (j : Int).toNat < (k : Int).toNat by omega⟩
        · obtain rfl : k = Q2 := by omega
          obtain ⟨P, hP⟩ : ∃ P, k * y0 = P := ⟨_, rfl⟩
          have hP2 : (k : Int) * (y0 : Int) = (P : Int) := by rw [← hP, Int.natCast_mul]
          have t5 : (P : Int) ≤ 4294967296 * (m : Int) + (x0 : Int) := by omega
          have hP4 : (P : Int) < 18446744073709551616 := by have := prod_lt (q := k) (y := y0) (by omega) j0; omega
          have hB2 : decide ((4294967296 : Int) ≤ (k : Int)) = false := decide_eq_false (by omega)
          have hB3 : decide (4294967296 * (m : Int) + (x0 : Int) < (P : Int)) = false := decide_eq_false (by omega)
          clear t3 hE hlt hP
          go_wp2_with fail
          go_meet
          exact ⟨m, rfl, rfl, rfl⟩
    case rest =>
      obtain ⟨m1, rfl, rfl, rfl⟩ := hcut
      clear hS2 G3 G4
      go_wp2_with fail
      go_ret2
      refine ⟨?_, rfl⟩
      rw [show ((Q * 4294967296 + Q2 : Nat) : Int) = (Q : Int) * 4294967296 + (Q2 : Int) by omega, show ((R2 / 2 ^ s : Nat) : Int) = (R2 : Int) / 2 ^ s by simp]
      rfl
set_option maxRecDepth 100000 in
set_option maxHeartbeats 1000000 in
theorem div64_low (lo y : Nat) (h0 : 0 < y) (hU : y < 18446744073709551616) (hl : lo < 18446744073709551616) (w : World) :
    Calls Tryz.prog 306 #[.int .u64 0, .int .u64 lo, .int .u64 y] w fun e w' => e = .returned (.tuple #[.int .u64 ((lo / y : Nat) : Int), .int .u64 ((lo % y : Nat) : Int)]) ∧ Drawn w w' := by
  have hn : ¬ (y : Int) = 0 := by omega
  have hle : lo / y ≤ lo := Nat.div_le_self _ _
  have hml : lo % y < y := Nat.mod_lt _ h0
  have g1 : IntKind.u64.wrap ((lo : Int) / (y : Int)) = ((lo / y : Nat) : Int) := by rw [← Int.natCast_ediv]; exact wrapU (by omega)
  have g2 : IntKind.u64.wrap ((lo : Int) % (y : Int)) = ((lo % y : Nat) : Int) := by rw [← Int.natCast_emod]; exact wrapU (by omega)
  go_enter Tryz.func306, Tryz.ntmps306
  go_wp2_with fail
  go_region
  all_goals (try go_wp2)
  all_goals go_ret2
  all_goals exact ⟨rfl, 1, rfl⟩
/-- Div64, in one -/
theorem div64_all (hi lo y : Nat) (hy : hi < y) (hU : y < 18446744073709551616) (hl : lo < 18446744073709551616) (q r : Nat) (hq : (hi * 18446744073709551616 + lo) / y = q) (hr : (hi * 18446744073709551616 + lo) % y = r) (w : World) :
    Calls Tryz.prog 306 #[.int .u64 hi, .int .u64 lo, .int .u64 y] w fun e w' => e = .returned (.tuple #[.int .u64 (q : Int), .int .u64 (r : Int)]) ∧ Drawn w w' := by
  subst hq hr
  by_cases h0 : hi = 0
  · subst h0
    have h := div64_low lo y hy hU hl w
    simp only [Nat.zero_mul, Nat.zero_add]
    exact h
  · exact (div64_c hi lo y (by omega) hy hU hl w).mono fun e w' ⟨he, hw⟩ => ⟨he, hw ▸ Drawn.refl w⟩
end Go.Proofs.YtebjedbppiphgaaGreatDoor.Dec

/- What the reference's Bit, One, Meet and Within on sets answer: XCatsRef without what needs the program's package cats (never lay both in one seat). -/
import Derived.Test.YteolenhgaekihaaCatsMath
import Derived.Test.YteolenhgaekihaaKit
import Derived.Deep.RegionWith
namespace Go.Proofs.Yteolenhgaekihaa.Cats
open Go.RowKit Kit

theorem U.half {q : Nat} (h : U q) : U (q / 2) := Nat.lt_of_le_of_lt (Nat.div_le_self _ _) h
theorem half_u64 (q : Nat) (h : U q) : IntKind.u64.wrap ((q : Int) / 2) = ((q / 2 : Nat) : Int) := by
  rw [show (q : Int) / 2 = ((q / 2 : Nat) : Int) from rfl]
  exact wrap_small h.half
theorem odd_u64 (q : Nat) : ((q : Int) % 2 == 1) = (q % 2 == 1) := by
  rw [show (q : Int) % 2 = ((q % 2 : Nat) : Int) from rfl]
  exact cast_beq _ 1
theorem dbl_u64 (q : Nat) (h : U (q * 2)) : IntKind.u64.wrap ((q : Int) * 2) = ((q * 2 : Nat) : Int) := by
  rw [show (q : Int) * 2 = ((q * 2 : Nat) : Int) from rfl]
  exact wrap_small h

set_option maxRecDepth 100000 in
set_option maxHeartbeats 400000 in
theorem bit_out (s c : Int) (h : mayB c = false) (w : World) : Calls Try.prog 42 #[.int .u64 s, .int .i64 c] w fun e w' => e = .returned (.bool false) ∧ w = w' := by
  have h2 := not_mayB h
  clear h
  rcases h2 with h | h
  · go_enter Try.func42, Try.ntmps42
    go_wp2
    go_ret
    exact ⟨rfl, rfl⟩
  · go_enter Try.func42, Try.ntmps42
    go_wp2
    go_ret
    exact ⟨rfl, rfl⟩

def HalfAt (s k q : Nat) : Prop := q = s / 2 ^ k ∧ U q
theorem HalfAt.next {s k q : Nat} (h : HalfAt s k q) : HalfAt s (k + 1) (q / 2) := ⟨by rw [h.1, Nat.pow_succ, ← Nat.div_div_eq_div_mul], h.2.half⟩
set_option maxRecDepth 100000 in
set_option maxHeartbeats 400000 in
theorem bit_in (s c : Nat) (hs : U s) (hc : c < 64) (w : World) : Calls Try.prog 42 #[.int .u64 s, .int .i64 c] w fun e w' => e = .returned (.bool (s.testBit c)) ∧ w = w' := by
  have HS : HalfAt s 0 s := ⟨by simp, hs⟩
  clear hs
  go_enter Try.func42, Try.ntmps42
  go_wp2
  go_loop [0, 5] (fun x i => ∃ k q : Nat, k ≤ c ∧ i = .int .i64 k ∧ HalfAt s k q ∧ x = .int .u64 q) (fun _ i => c - (intOf i).toNat)
  case atStart => exact ⟨0, s, Nat.zero_le _, rfl, HS, rfl⟩
  case round =>
    obtain ⟨k, q, hk, rfl, hq, rfl⟩ := hrel
    by_cases hlt : k < c
    · go_wp2
      go_round
      case rel => exact ⟨k + 1, q / 2, by omega, by go_num, hq.next, by rw [half_u64 q hq.2]⟩
      case measure => simp [intOf]; omega
    · obtain rfl : k = c := by omega
      go_wp2
      go_ret
      exact ⟨ret_bool (by rw [Nat.testBit_eq_decide_div_mod_eq, ← hq.1]; exact odd_u64 q), rfl⟩
/-- Bit, in one -/
theorem bit_c (s : Nat) (c : Int) (b : Bool) (hs : U s) (hb : hasB s c = b) (w : World) : Calls Try.prog 42 #[.int .u64 s, .int .i64 c] w fun e w' => e = .returned (.bool b) ∧ w = w' := by
  subst hb
  cases hm : mayB c
  · have e : hasB s c = false := by simp [hasB, hm]
    rw [e]
    exact bit_out s c hm w
  · obtain ⟨h0, h1⟩ := of_mayB hm
    obtain ⟨k, rfl⟩ := Int.eq_ofNat_of_zero_le h0
    have e : hasB s (k : Int) = s.testBit k := by simp [hasB, hm]
    rw [e]
    exact bit_in s k hs (by omega) w

def PowAt (k q : Nat) : Prop := q = 2 ^ k
theorem PowAt.next {k q : Nat} (h : PowAt k q) : PowAt (k + 1) (q * 2) := by unfold PowAt at *; rw [h, Nat.pow_succ]
theorem PowAt.U {k q : Nat} (h : PowAt k q) (hk : k < 64) : U q := by rw [h]; exact U_pow hk
set_option maxRecDepth 100000 in
set_option maxHeartbeats 400000 in
theorem one_c (c : Nat) (hc : c < 64) (w : World) : Calls Try.prog 43 #[.int .i64 c] w fun e w' => e = .returned (.int .u64 (2 ^ c : Nat)) ∧ w = w' := by
  go_enter Try.func43, Try.ntmps43
  go_wp2
  go_loop [3, 4] (fun x i => ∃ k q : Nat, k ≤ c ∧ i = .int .i64 k ∧ PowAt k q ∧ x = .int .u64 q) (fun _ i => c - (intOf i).toNat)
  case atStart => exact ⟨0, 1, Nat.zero_le _, rfl, rfl, rfl⟩
  case round =>
    obtain ⟨k, q, hk, rfl, hq, rfl⟩ := hrel
    by_cases hlt : k < c
    · go_wp2
      go_round
      case rel => exact ⟨k + 1, q * 2, by omega, by go_num, hq.next, by rw [dbl_u64 q (hq.next.U (by omega))]⟩
      case measure => simp [intOf]; omega
    · obtain rfl : k = c := by omega
      go_wp2
      go_ret
      exact ⟨ret_u64 (congrArg _ hq), rfl⟩

/-- what Join has put together of the lowest k categories -/
def upto (k s : Nat) : Nat := s % 2 ^ k
theorem upto_zero (s : Nat) : upto 0 s = 0 := by simp [upto, Nat.mod_one]
theorem upto_all {s : Nat} (hs : U s) : upto 64 s = s := Nat.mod_eq_of_lt hs
theorem upto_yes {s k : Nat} (h : s.testBit k = true) : upto (k + 1) s = upto k s + 2 ^ k := by
  unfold upto
  rw [Nat.testBit_eq_decide_div_mod_eq, decide_eq_true_eq] at h
  rw [Nat.pow_succ, Nat.mod_mul, h, Nat.mul_one]
theorem upto_no {s k : Nat} (h : s.testBit k = false) : upto (k + 1) s = upto k s := by
  unfold upto
  rw [Nat.testBit_eq_decide_div_mod_eq, decide_eq_false_iff_not] at h
  rw [Nat.pow_succ, Nat.mod_mul, show s / 2 ^ k % 2 = 0 by omega, Nat.mul_zero, Nat.add_zero]
theorem upto_lt (k s : Nat) : upto k s < 2 ^ k := Nat.mod_lt _ (Nat.two_pow_pos k)
theorem U_add {k q : Nat} (h : q < 2 ^ k) (hk : k < 64) : U (q + 2 ^ k) := by
  have : 2 ^ (k + 1) ≤ 2 ^ 64 := Nat.pow_le_pow_right (by decide) (by omega)
  rw [Nat.pow_succ] at this
  exact U.of (by omega)
theorem add_u64 (a b : Nat) (h : U (a + b)) : IntKind.u64.wrap ((a : Int) + (b : Int)) = ((a + b : Nat) : Int) := by
  rw [show (a : Int) + b = ((a + b : Nat) : Int) from rfl]
  exact wrap_small h
def SumAt (s k q : Nat) : Prop := q = upto k s
theorem SumAt.next_yes {s k q : Nat} (h : SumAt s k q) (hb : s.testBit k = true) : SumAt s (k + 1) (q + 2 ^ k) := by unfold SumAt at *; rw [h, upto_yes hb]
theorem SumAt.next_no {s k q : Nat} (h : SumAt s k q) (hb : s.testBit k = false) : SumAt s (k + 1) q := by unfold SumAt at *; rw [h, upto_no hb]
theorem SumAt.room {s k q : Nat} (h : SumAt s k q) (hk : k < 64) : U (q + 2 ^ k) := U_add (by rw [h]; exact upto_lt k s) hk
theorem hasB_nat {s k : Nat} (hk : k < 64) : hasB s (k : Int) = s.testBit k := by simp [hasB, mayB_yes (c := (k : Int)) (by omega) (by omega)]
theorem pow_slot (q k : Nat) (h : U (q + 2 ^ k)) : Value.int .u64 (IntKind.u64.wrap ((q : Int) + 2 ^ k)) = .int .u64 ((q + 2 ^ k : Nat) : Int) := by
  rw [pow_cast, add_u64 q (2 ^ k) h]
set_option maxRecDepth 100000 in
set_option maxHeartbeats 2000000 in
theorem meet_c (a b : Nat) (ha : U a) (hb : U b) (w : World) : Calls Try.prog 41 #[.int .u64 a, .int .u64 b] w fun e w' => e = .returned (.int .u64 (a &&& b : Nat)) ∧ w = w' := by
  have HA := Lib.hid ha
  have HB := Lib.hid hb
  clear ha hb
  go_enter Try.func41, Try.ntmps41
  go_wp2
  go_loop [5, 6] (fun x i => ∃ k q : Nat, k ≤ 64 ∧ i = .int .i64 k ∧ SumAt (a &&& b) k q ∧ x = .int .u64 q) (fun _ i => 64 - (intOf i).toNat)
  case atStart => exact ⟨0, 0, by omega, rfl, (upto_zero _).symm, rfl⟩
  case round =>
    obtain ⟨k, q, hk, rfl, hq, rfl⟩ := hrel
    by_cases hlt : k < 64
    · cases h1 : a.testBit k
      · cases h2 : b.testBit k
        · have h3 := hq.next_no (by simp [h1, h2])
          have H1 := Lib.hid ((hasB_nat hlt).trans h1)
          have H2 := Lib.hid ((hasB_nat hlt).trans h2)
          clear h1 h2
          go_wp2_with (first | (go_at_call_of 42 (Value.int .u64 a); refine (bit_c a _ false HA.out H1.out _).mono ?_; rintro e w' ⟨rfl, rfl⟩) | (go_at_call 42; refine (bit_c b _ false HB.out H2.out _).mono ?_; rintro e w' ⟨rfl, rfl⟩) | (go_at_call 43; refine (one_c k hlt _).mono ?_; rintro e w' ⟨rfl, rfl⟩))
          go_round
          case rel => exact ⟨k + 1, q, by omega, by go_num, h3, rfl⟩
          case measure => simp [intOf]; omega
        · have h3 := hq.next_no (by simp [h1, h2])
          have H1 := Lib.hid ((hasB_nat hlt).trans h1)
          have H2 := Lib.hid ((hasB_nat hlt).trans h2)
          clear h1 h2
          go_wp2_with (first | (go_at_call_of 42 (Value.int .u64 a); refine (bit_c a _ false HA.out H1.out _).mono ?_; rintro e w' ⟨rfl, rfl⟩) | (go_at_call 42; refine (bit_c b _ true HB.out H2.out _).mono ?_; rintro e w' ⟨rfl, rfl⟩) | (go_at_call 43; refine (one_c k hlt _).mono ?_; rintro e w' ⟨rfl, rfl⟩))
          go_round
          case rel => exact ⟨k + 1, q, by omega, by go_num, h3, rfl⟩
          case measure => simp [intOf]; omega
      · cases h2 : b.testBit k
        · have h3 := hq.next_no (by simp [h1, h2])
          have H1 := Lib.hid ((hasB_nat hlt).trans h1)
          have H2 := Lib.hid ((hasB_nat hlt).trans h2)
          clear h1 h2
          go_wp2_with (first | (go_at_call_of 42 (Value.int .u64 a); refine (bit_c a _ true HA.out H1.out _).mono ?_; rintro e w' ⟨rfl, rfl⟩) | (go_at_call 42; refine (bit_c b _ false HB.out H2.out _).mono ?_; rintro e w' ⟨rfl, rfl⟩) | (go_at_call 43; refine (one_c k hlt _).mono ?_; rintro e w' ⟨rfl, rfl⟩))
          go_round
          case rel => exact ⟨k + 1, q, by omega, by go_num, h3, rfl⟩
          case measure => simp [intOf]; omega
        · have h3 := hq.next_yes (by simp [h1, h2])
          have hr := hq.room hlt
          have H1 := Lib.hid ((hasB_nat hlt).trans h1)
          have H2 := Lib.hid ((hasB_nat hlt).trans h2)
          clear h1 h2
          go_wp2_with (first | (go_at_call_of 42 (Value.int .u64 a); refine (bit_c a _ true HA.out H1.out _).mono ?_; rintro e w' ⟨rfl, rfl⟩) | (go_at_call 42; refine (bit_c b _ true HB.out H2.out _).mono ?_; rintro e w' ⟨rfl, rfl⟩) | (go_at_call 43; refine (one_c k hlt _).mono ?_; rintro e w' ⟨rfl, rfl⟩))
          go_round
          case rel => exact ⟨k + 1, q + 2 ^ k, by omega, by go_num, h3, pow_slot q k hr⟩
          case measure => simp [intOf]; omega
    · obtain rfl : k = 64 := by omega
      go_wp2
      go_ret
      exact ⟨ret_u64 (by rw [show q = _ from hq, upto_all (U_and b HA.out)]), rfl⟩

theorem andNot_iff (a b : Nat) (ha : U a) (hb : U b) : (a &&& b == a) = withinB a b := by
  unfold withinB
  rw [Bool.eq_iff_iff, beq_iff_eq, beq_iff_eq]
  constructor
  · intro h
    apply Nat.eq_of_testBit_eq
    intro i
    rw [Nat.testBit_and, testBit_compl hb, Nat.zero_testBit]
    have h2 : (a &&& b).testBit i = a.testBit i := by rw [h]
    rw [Nat.testBit_and] at h2
    cases h3 : a.testBit i <;> cases h4 : b.testBit i <;> simp [h3, h4] at h2 ⊢
  · intro h
    apply Nat.eq_of_testBit_eq
    intro i
    rw [Nat.testBit_and]
    have h2 : (a &&& (18446744073709551615 - b)).testBit i = false := by rw [h, Nat.zero_testBit]
    rw [Nat.testBit_and, testBit_compl hb] at h2
    cases h3 : a.testBit i
    · rfl
    · have h4 := testBit_lt ha h3
      simp [h3, h4] at h2
      simp [h2]
set_option maxRecDepth 100000 in
set_option maxHeartbeats 400000 in
theorem rwithin_c (a b : Nat) (r : Bool) (ha : U a) (hb : U b) (hr : withinB a b = r) (w : World) : Calls Try.prog 39 #[.int .u64 a, .int .u64 b] w fun e w' => e = .returned (.bool r) ∧ w = w' := by
  have HR := Lib.hid ((andNot_iff a b ha hb).trans hr)
  have HA := Lib.hid ha
  have HB := Lib.hid hb
  clear hr ha hb
  go_enter Try.func39, Try.ntmps39
  go_wp2_with (go_at_call 41; refine (meet_c a b HA.out HB.out _).mono ?_; rintro e w' ⟨rfl, rfl⟩)
  go_ret
  exact ⟨ret_bool ((cast_beq _ _).trans HR.out), rfl⟩
end Go.Proofs.Yteolenhgaekihaa.Cats

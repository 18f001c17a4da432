/- Plain facts on sets of categories as numbers below 2^64. No condition; no program is named here. -/
import Derived.Laws.BitsAllLaws
namespace Go.Proofs.Yteolenhgaekihaa.Cats

/-- a set: a number below 2^64 -/
def U (s : Nat) : Prop := s < 18446744073709551616
theorem U.lt {s : Nat} (h : U s) : s < 2 ^ 64 := h
theorem U.of {s : Nat} (h : s < 2 ^ 64) : U s := h

/-- may a number be a category? -/
def mayB (c : Int) : Bool := decide (0 ≤ c) && decide (c < 64)
theorem mayB_yes {c : Int} (h0 : 0 ≤ c) (h1 : c < 64) : mayB c = true := by simp [mayB, h0, h1]
theorem mayB_neg {c : Int} (h : c < 0) : mayB c = false := by simp [mayB]; omega
theorem mayB_big {c : Int} (h : 64 ≤ c) : mayB c = false := by simp [mayB]; omega
theorem of_mayB {c : Int} (h : mayB c = true) : 0 ≤ c ∧ c < 64 := by simpa [mayB] using h
theorem not_mayB {c : Int} (h : mayB c = false) : c < 0 ∨ 64 ≤ c := by
  by_cases h0 : 0 ≤ c
  · right
    by_cases h1 : c < 64
    · rw [mayB_yes h0 h1] at h; cases h
    · omega
  · left; omega

def hasB (s : Nat) (c : Int) : Bool := mayB c && s.testBit c.toNat
def withN (s : Nat) (c : Int) : Nat := if mayB c then s ||| 2 ^ c.toNat else 0
def withoutN (s : Nat) (c : Int) : Nat := if mayB c then s &&& (18446744073709551615 - 2 ^ c.toNat) else s
def withinB (a b : Nat) : Bool := (a &&& (18446744073709551615 - b)) == 0

theorem pow_lt {k : Nat} (hk : k < 64) : 2 ^ k < 2 ^ 64 := Nat.pow_lt_pow_of_lt (by decide) hk
theorem U_pow {k : Nat} (hk : k < 64) : U (2 ^ k) := pow_lt hk
theorem U_or {a b : Nat} (ha : U a) (hb : U b) : U (a ||| b) := U.of (Nat.or_lt_two_pow ha.lt hb.lt)
theorem U_and {a : Nat} (b : Nat) (ha : U a) : U (a &&& b) := Nat.lt_of_le_of_lt Nat.and_le_left ha
theorem U_zero : U 0 := by unfold U; omega
theorem U_with {s : Nat} {c : Int} (hs : U s) : U (withN s c) := by
  unfold withN
  split
  · rename_i h
    obtain ⟨h0, h1⟩ := of_mayB h
    exact U_or hs (U_pow (by omega))
  · exact U_zero

/-- the complement of a number below 2^64 -/
theorem testBit_compl {b : Nat} (hb : U b) (i : Nat) : (18446744073709551615 - b).testBit i = (decide (i < 64) && !b.testBit i) := by
  have h : 18446744073709551615 - b = 2 ^ 64 - (b + 1) := by unfold U at hb; omega
  rw [h, Nat.testBit_two_pow_sub_succ hb]

theorem testBit_lt {s i : Nat} (hs : U s) (h : s.testBit i = true) : i < 64 := by
  by_cases hi : i < 64
  · exact hi
  · rw [Nat.testBit_lt_two_pow (Nat.lt_of_lt_of_le hs.lt (Nat.pow_le_pow_right (by decide) (by omega)))] at h; cases h

theorem shr_and_one (s k : Nat) (_hk : k < 64) : (((s / 2 ^ k % 2 : Nat)) == 1) = s.testBit k := by
  rw [Nat.testBit_eq_decide_div_mod_eq]
  rfl

theorem cast_beq (a b : Nat) : ((a : Int) == (b : Int)) = (a == b) := by rw [Bool.eq_iff_iff]; simp [Int.ofNat_inj]
theorem cast_beq_zero (a : Nat) : ((a : Int) == 0) = (a == 0) := cast_beq a 0
theorem shr_and_one_int (s k : Nat) (hs : U s) : (bits .and .u64 ((s : Int) / 2 ^ k) 1 == 1) = s.testBit k := by
  have e : ((s : Int) / 2 ^ k) = ((s / 2 ^ k : Nat) : Int) := by simp
  have hd : s / 2 ^ k < 18446744073709551616 := Nat.lt_of_le_of_lt (Nat.div_le_self _ _) hs
  have h := u64_and_nat (s / 2 ^ k) 1 hd (by decide)
  rw [e]
  simp only [Int.natCast_one] at h
  rw [h, Nat.and_one_is_mod, Nat.testBit_eq_decide_div_mod_eq]
  by_cases hb : s / 2 ^ k % 2 = 1
  · rw [hb]; rfl
  · simp [hb]; omega
theorem pow_cast (k : Nat) : (2 : Int) ^ k = ((2 ^ k : Nat) : Int) := by simp
theorem wrap_small {n : Nat} (h : n < 18446744073709551616) : IntKind.u64.wrap (n : Int) = n := by
  rw [IntKind.wrap_u64]; omega
theorem wrap_pow (k : Nat) (hk : k < 64) : IntKind.u64.wrap (2 ^ k) = 2 ^ k := by
  rw [pow_cast]
  exact wrap_small (pow_lt hk)
theorem or_pow_int (s k : Nat) (hs : U s) (hk : k < 64) : bits .or .u64 (s : Int) (IntKind.u64.wrap (2 ^ k)) = ((s ||| 2 ^ k : Nat) : Int) := by
  rw [wrap_pow k hk, pow_cast]
  exact u64_or_nat s (2 ^ k) hs (pow_lt hk)
theorem andNot_pow_int (s k : Nat) (hs : U s) (hk : k < 64) : bits .andNot .u64 (s : Int) (IntKind.u64.wrap (2 ^ k)) = ((s &&& (18446744073709551615 - 2 ^ k) : Nat) : Int) := by
  rw [wrap_pow k hk, pow_cast]
  exact u64_andNot_nat s (2 ^ k) hs (pow_lt hk)
theorem andNot_zero_int (a b : Nat) (ha : U a) (hb : U b) : (bits .andNot .u64 (a : Int) (b : Int) == 0) = withinB a b := by
  rw [u64_andNot_nat a b ha hb, withinB]
  exact cast_beq_zero _
/-- how many are in a set -/
def pop (s : Nat) : Nat := ((List.range 64).filter s.testBit).length

end Go.Proofs.Yteolenhgaekihaa.Cats

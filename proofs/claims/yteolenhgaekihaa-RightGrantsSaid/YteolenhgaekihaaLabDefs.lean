/- Labels: how two stand, and their join, in plain numbers. No function of the program is named here. -/
import Derived.Test.YteolenhgaekihaaCatsMath
namespace Go.Proofs.Yteolenhgaekihaa.Lab
open Go.Proofs.Yteolenhgaekihaa.Cats (U U_or withinB testBit_compl testBit_lt)

def mayL (l : Int) : Bool := decide (0 ≤ l) && decide (l ≤ 15)
def belowL (l1 : Int) (s1 : Nat) (l2 : Int) (s2 : Nat) : Bool := decide (l1 ≤ l2) && withinB s1 s2
def joinI (a b : Int) : Int := if a < b then b else a
theorem joinI_max (a b : Int) : max a b = joinI a b := by unfold joinI; split <;> omega
theorem andNot_iff (a b : Nat) (ha : U a) (hb : U b) : (a &&& b == a) = withinB a b := by
  unfold withinB
  rw [Bool.eq_iff_iff, beq_iff_eq, beq_iff_eq]
  constructor
  · intro h
    apply Nat.eq_of_testBit_eq
    intro i
    rw [Nat.testBit_and, testBit_compl hb, Nat.zero_testBit]
    have h2 : (a &&& b).testBit i = a.testBit i := by rw [h]
    rw [Nat.testBit_and] at h2
    cases h3 : a.testBit i <;> cases h4 : b.testBit i <;> simp [h3, h4] at h2 ⊢
  · intro h
    apply Nat.eq_of_testBit_eq
    intro i
    rw [Nat.testBit_and]
    have h2 : (a &&& (18446744073709551615 - b)).testBit i = false := by rw [h, Nat.zero_testBit]
    rw [Nat.testBit_and, testBit_compl hb] at h2
    cases h3 : a.testBit i
    · rfl
    · have h4 := testBit_lt ha h3
      simp [h3, h4] at h2
      simp [h2]
theorem withinB_iff {a b : Nat} (ha : U a) (hb : U b) : withinB a b = true ↔ ∀ i, a.testBit i = true → b.testBit i = true := by
  rw [← andNot_iff a b ha hb, beq_iff_eq]
  constructor
  · intro h i hi
    have h2 : (a &&& b).testBit i = a.testBit i := by rw [h]
    rw [Nat.testBit_and, hi] at h2
    simpa using h2
  · intro h
    apply Nat.eq_of_testBit_eq
    intro i
    rw [Nat.testBit_and]
    cases hi : a.testBit i
    · rfl
    · rw [h i hi]; rfl
theorem belowL_iff {l1 l2 : Int} {s1 s2 : Nat} (h1 : U s1) (h2 : U s2) : belowL l1 s1 l2 s2 = true ↔ l1 ≤ l2 ∧ ∀ i, s1.testBit i = true → s2.testBit i = true := by
  unfold belowL
  rw [Bool.and_eq_true, decide_eq_true_eq, withinB_iff h1 h2]
theorem below_refl {l : Int} {s : Nat} (h : U s) : belowL l s l s = true := (belowL_iff h h).2 ⟨Int.le_refl _, fun _ h => h⟩
theorem below_trans {l1 l2 l3 : Int} {s1 s2 s3 : Nat} (h1 : U s1) (h2 : U s2) (h3 : U s3) (h : belowL l1 s1 l2 s2 = true) (k : belowL l2 s2 l3 s3 = true) : belowL l1 s1 l3 s3 = true := by
  rw [belowL_iff h1 h2] at h
  rw [belowL_iff h2 h3] at k
  exact (belowL_iff h1 h3).2 ⟨Int.le_trans h.1 k.1, fun i hi => k.2 i (h.2 i hi)⟩
theorem joinI_ge (a b : Int) : a ≤ joinI a b ∧ b ≤ joinI a b := by unfold joinI; split <;> omega
theorem below_join_l {la lb : Int} {sa sb : Nat} (ha : U sa) (hb : U sb) : belowL la sa (joinI la lb) (sa ||| sb) = true :=
  (belowL_iff ha (U_or ha hb)).2 ⟨(joinI_ge la lb).1, fun i h => by rw [Nat.testBit_or, h]; rfl⟩
theorem below_join_r {la lb : Int} {sa sb : Nat} (ha : U sa) (hb : U sb) : belowL lb sb (joinI la lb) (sa ||| sb) = true :=
  (belowL_iff hb (U_or ha hb)).2 ⟨(joinI_ge la lb).2, fun i h => by rw [Nat.testBit_or, h, Bool.or_true]⟩
end Go.Proofs.Yteolenhgaekihaa.Lab

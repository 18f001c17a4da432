/- Labels are a lattice: plain facts on levels and sets. No condition but that sets are below 2^64; no program is walked here. -/
import Derived.Test.YtobjmldfnnhofaaDoorLabLat
namespace Go.Proofs.YtobjmldfnnhofaaDoor.Cats

theorem withinB_iff {a b : Nat} (ha : U a) (hb : U b) : withinB a b = true ↔ ∀ i, a.testBit i = true → b.testBit i = true := by
  rw [← andNot_iff a b ha hb, beq_iff_eq]
  constructor
  · intro h i hi
    have h2 : (a &&& b).testBit i = a.testBit i := by rw [h]
    rw [Nat.testBit_and, hi] at h2
    simpa using h2
  · intro h
    apply Nat.eq_of_testBit_eq
    intro i
    rw [Nat.testBit_and]
    cases hi : a.testBit i
    · rfl
    · rw [h i hi]; rfl
theorem withinB_refl {a : Nat} (ha : U a) : withinB a a = true := (withinB_iff ha ha).2 fun _ h => h
theorem withinB_antisymm {a b : Nat} (ha : U a) (hb : U b) (h1 : withinB a b = true) (h2 : withinB b a = true) : a = b := by
  apply Nat.eq_of_testBit_eq
  intro i
  rw [Bool.eq_iff_iff]
  exact ⟨(withinB_iff ha hb).1 h1 i, (withinB_iff hb ha).1 h2 i⟩
theorem withinB_trans {a b c : Nat} (ha : U a) (hb : U b) (hc : U c) (h1 : withinB a b = true) (h2 : withinB b c = true) : withinB a c = true :=
  (withinB_iff ha hc).2 fun i hi => (withinB_iff hb hc).1 h2 i ((withinB_iff ha hb).1 h1 i hi)
theorem belowL_iff {l1 l2 : Int} {s1 s2 : Nat} (h1 : U s1) (h2 : U s2) : belowL l1 s1 l2 s2 = true ↔ l1 ≤ l2 ∧ ∀ i, s1.testBit i = true → s2.testBit i = true := by
  unfold belowL
  rw [Bool.and_eq_true, decide_eq_true_eq, withinB_iff h1 h2]
theorem joinI_ge (a b : Int) : a ≤ joinI a b ∧ b ≤ joinI a b := by unfold joinI; split <;> omega
theorem meetI_le (a b : Int) : meetI a b ≤ a ∧ meetI a b ≤ b := by unfold meetI; split <;> omega
theorem joinI_le {a b c : Int} : joinI a b ≤ c ↔ a ≤ c ∧ b ≤ c := by unfold joinI; split <;> omega
theorem le_meetI {a b c : Int} : c ≤ meetI a b ↔ c ≤ a ∧ c ≤ b := by unfold meetI; split <;> omega
theorem joinI_comm (a b : Int) : joinI a b = joinI b a := by unfold joinI; split <;> split <;> omega
theorem meetI_comm (a b : Int) : meetI a b = meetI b a := by unfold meetI; split <;> split <;> omega
theorem joinI_assoc (a b c : Int) : joinI (joinI a b) c = joinI a (joinI b c) := by unfold joinI; repeat' split <;> omega
theorem meetI_assoc (a b c : Int) : meetI (meetI a b) c = meetI a (meetI b c) := by unfold meetI; repeat' split <;> omega
theorem joinI_meet (a b : Int) : joinI a (meetI a b) = a := by unfold joinI meetI; repeat' split <;> omega
theorem meetI_join (a b : Int) : meetI a (joinI a b) = a := by unfold joinI meetI; repeat' split <;> omega
theorem or_meet (a b : Nat) : a ||| (a &&& b) = a := by
  apply Nat.eq_of_testBit_eq
  intro i
  rw [Nat.testBit_or, Nat.testBit_and]
  cases a.testBit i <;> simp
theorem and_join (a b : Nat) : a &&& (a ||| b) = a := by
  apply Nat.eq_of_testBit_eq
  intro i
  rw [Nat.testBit_and, Nat.testBit_or]
  cases a.testBit i <;> simp
theorem below_join_l {la lb : Int} {sa sb : Nat} (ha : U sa) (hb : U sb) : belowL la sa (joinI la lb) (sa ||| sb) = true :=
  (belowL_iff ha (U_or ha hb)).2 ⟨(joinI_ge la lb).1, fun i h => by rw [Nat.testBit_or, h]; rfl⟩
theorem below_join_r {la lb : Int} {sa sb : Nat} (ha : U sa) (hb : U sb) : belowL lb sb (joinI la lb) (sa ||| sb) = true :=
  (belowL_iff hb (U_or ha hb)).2 ⟨(joinI_ge la lb).2, fun i h => by rw [Nat.testBit_or, h, Bool.or_true]⟩
theorem meet_below_l {la lb : Int} {sa sb : Nat} (ha : U sa) : belowL (meetI la lb) (sa &&& sb) la sa = true :=
  (belowL_iff (U_and sb ha) ha).2 ⟨(meetI_le la lb).1, fun i h => by rw [Nat.testBit_and, Bool.and_eq_true] at h; exact h.1⟩
theorem meet_below_r {la lb : Int} {sa sb : Nat} (ha : U sa) (hb : U sb) : belowL (meetI la lb) (sa &&& sb) lb sb = true :=
  (belowL_iff (U_and sb ha) hb).2 ⟨(meetI_le la lb).2, fun i h => by rw [Nat.testBit_and, Bool.and_eq_true] at h; exact h.2⟩
theorem join_least {la lb lc : Int} {sa sb sc : Nat} (ha : U sa) (hb : U sb) (hc : U sc) (h : belowL la sa lc sc = true) : belowL (joinI la lb) (sa ||| sb) lc sc = belowL lb sb lc sc := by
  rw [belowL_iff ha hc] at h
  rw [Bool.eq_iff_iff, belowL_iff (U_or ha hb) hc, belowL_iff hb hc, joinI_le]
  refine ⟨fun ⟨h1, h2⟩ => ⟨h1.2, fun i hi => h2 i (by rw [Nat.testBit_or, hi, Bool.or_true])⟩, fun ⟨h1, h2⟩ => ⟨⟨h.1, h1⟩, fun i hi => ?_⟩⟩
  rw [Nat.testBit_or, Bool.or_eq_true] at hi
  rcases hi with hi | hi
  · exact h.2 i hi
  · exact h2 i hi
theorem meet_greatest {la lb lc : Int} {sa sb sc : Nat} (ha : U sa) (hb : U sb) (hc : U sc) (h : belowL lc sc la sa = true) : belowL lc sc (meetI la lb) (sa &&& sb) = belowL lc sc lb sb := by
  rw [belowL_iff hc ha] at h
  rw [Bool.eq_iff_iff, belowL_iff hc (U_and sb ha), belowL_iff hc hb, le_meetI]
  refine ⟨fun ⟨h1, h2⟩ => ⟨h1.2, fun i hi => ?_⟩, fun ⟨h1, h2⟩ => ⟨⟨h.1, h1⟩, fun i hi => ?_⟩⟩
  · have := h2 i hi
    rw [Nat.testBit_and, Bool.and_eq_true] at this
    exact this.2
  · rw [Nat.testBit_and, h.2 i hi, h2 i hi]; rfl
theorem below_is_join {la lb : Int} {sa sb : Nat} (ha : U sa) (hb : U sb) : belowL la sa lb sb = ((joinI la lb == lb) && (((sa ||| sb : Nat) : Int) == (sb : Int))) := by
  rw [Bool.eq_iff_iff, belowL_iff ha hb, Bool.and_eq_true, beq_iff_eq, cast_beq, beq_iff_eq]
  refine ⟨fun ⟨h1, h2⟩ => ⟨?_, ?_⟩, fun ⟨h1, h2⟩ => ⟨?_, fun i hi => ?_⟩⟩
  · unfold joinI; split <;> omega
  · apply Nat.eq_of_testBit_eq
    intro i
    rw [Nat.testBit_or]
    cases h : sa.testBit i
    · simp
    · simp [h2 i h]
  · have := (joinI_ge la lb).1; omega
  · rw [← h2, Nat.testBit_or, hi]; rfl
theorem may_join {a b : Int} (h : mayL a = true) (k : mayL b = true) : mayL (joinI a b) = true ∧ mayL (meetI a b) = true := by
  simp only [mayL, Bool.and_eq_true, decide_eq_true_eq] at *
  unfold joinI meetI
  refine ⟨?_, ?_⟩ <;> split <;> omega
end Go.Proofs.YtobjmldfnnhofaaDoor.Cats

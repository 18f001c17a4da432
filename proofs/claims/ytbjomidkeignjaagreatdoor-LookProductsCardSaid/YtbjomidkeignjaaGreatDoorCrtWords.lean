/- What is looked for, told out of a text: with which operator it begins, and what is behind it means; whether an operator holds. No function of the program is named here. -/
import Derived.Test.YtbjomidkeignjaaGreatDoorG14
import Derived.Test.YtbjomidkeignjaaGreatDoorG11
namespace Go.Proofs.YtbjomidkeignjaaGreatDoor.Crt
open Go.RowKit Kit Dec Dig Val

/-- a text begins with the j-th operator -/
def hasJ (l : List UInt8) : Nat → Bool
  | 0 => Lib.hasPrefix l [60, 62]
  | 1 => Lib.hasPrefix l [60, 61]
  | 2 => Lib.hasPrefix l [62, 61]
  | 3 => Lib.hasPrefix l [60]
  | 4 => Lib.hasPrefix l [62]
  | _ => Lib.hasPrefix l [61]
/-- the operator with which a text begins, and of how many bytes it is -/
def splitL (l : List UInt8) : Int × Nat :=
  if hasJ l 0 then (8, 2) else if hasJ l 1 then (10, 2) else if hasJ l 2 then (12, 2) else if hasJ l 3 then (9, 1) else if hasJ l 4 then (11, 1) else if hasJ l 5 then (7, 1) else (7, 0)
theorem split_op (l : List UInt8) : 7 ≤ (splitL l).1 ∧ (splitL l).1 ≤ 12 := by unfold splitL; repeat' split
                                                                               all_goals exact ⟨by decide, by decide⟩
theorem pre_len {l p : List UInt8} (h : Lib.hasPrefix l p = true) : p.length ≤ l.length := by
  rw [← Lib.hasPrefix_of_take, Bool.and_eq_true] at h
  exact of_decide_eq_true h.1
/-- what is behind a number of bytes -/
theorem ext_all (t : ByteArray) : t.extract 0 t.size = t := bytes_eq (by rw [ext_drop, List.drop_zero])
/-- what a text means -/
def meantV (t : ByteArray) : Int × Int × ByteArray :=
  if (readD t.data.toList).2 then (1, (readD t.data.toList).1, ⟨#[]⟩) else if t = yesT then (3, 1, ⟨#[]⟩) else if t = noT then (3, 0, ⟨#[]⟩) else (2, 0, t)
theorem meant_ways {t : ByteArray} {k n : Int} {s : ByteArray} (h : meantV t = (k, n, s)) :
    (∃ x, readD t.data.toList = (x, true) ∧ k = 1 ∧ n = x ∧ s = ⟨#[]⟩) ∨ ∃ x, readD t.data.toList = (x, false) ∧
      ((t = yesT ∧ k = 3 ∧ n = 1 ∧ s = ⟨#[]⟩) ∨ (t = noT ∧ k = 3 ∧ n = 0 ∧ s = ⟨#[]⟩) ∨ (t ≠ yesT ∧ t ≠ noT ∧ k = 2 ∧ n = 0 ∧ s = t)) := by
  obtain ⟨⟨x, b⟩, hr⟩ : ∃ r, readD t.data.toList = r := ⟨_, rfl⟩
  unfold meantV at h
  rw [hr] at h
  cases b
  · refine .inr ⟨x, hr, ?_⟩
    rw [if_neg (by simp)] at h
    by_cases h1 : t = yesT
    · rw [if_pos h1] at h
      simp only [Prod.mk.injEq] at h
      exact .inl ⟨h1, h.1.symm, h.2.1.symm, h.2.2.symm⟩
    · rw [if_neg h1] at h
      by_cases h2 : t = noT
      · rw [if_pos h2] at h
        simp only [Prod.mk.injEq] at h
        exact .inr (.inl ⟨h2, h.1.symm, h.2.1.symm, h.2.2.symm⟩)
      · rw [if_neg h2] at h
        simp only [Prod.mk.injEq] at h
        exact .inr (.inr ⟨h1, h2, h.1.symm, h.2.1.symm, h.2.2.symm⟩)
  · rw [if_pos rfl] at h
    simp only [Prod.mk.injEq] at h
    exact .inl ⟨x, hr, h.1.symm, h.2.1.symm, h.2.2.symm⟩
/-- what is meant may be -/
theorem meant_may {t : ByteArray} (ht : t.size ≤ 256) {k n : Int} {s : ByteArray} (h : meantV t = (k, n, s)) : mayV k n s = true ∧ (k = 1 ∨ k = 2 ∨ k = 3) := by
  rcases meant_ways h with ⟨x, hr, rfl, rfl, rfl⟩ | ⟨x, hr, ⟨_, rfl, rfl, rfl⟩ | ⟨_, rfl, rfl, rfl⟩ | ⟨_, _, rfl, rfl, rfl⟩⟩
  · exact ⟨may_num (num_in (mayD_yes (readD_room hr).1.1)), .inl rfl⟩
  · exact ⟨rfl, .inr (.inr rfl)⟩
  · exact ⟨rfl, .inr (.inr rfl)⟩
  · exact ⟨may_str (str_in ht), .inr (.inl rfl)⟩
/-- an operator holds of two that are alike so, and stand so to one another -/
def holdsD (op : Int) (like : Bool) (way : Int) : Bool :=
  if op = 7 then like else if op = 8 then !like else if op = 9 then decide (way < 0) else if op = 10 then decide (way ≤ 0) else if op = 11 then decide (0 < way) else decide (0 ≤ way)
end Go.Proofs.YtbjomidkeignjaaGreatDoor.Crt

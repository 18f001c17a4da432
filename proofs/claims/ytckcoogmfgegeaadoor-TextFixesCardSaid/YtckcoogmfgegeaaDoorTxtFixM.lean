/- A decimal with just so many digits behind the point: rounded, told, and read again. In lists and integers alone. -/
import Derived.Test.YtckcoogmfgegeaaDoorDigText
import Derived.Test.YtckcoogmfgegeaaDoorRndPlaces
namespace Go.Proofs.YtckcoogmfgegeaaDoor.Txt
open Dec Dig Rnd

theorem round_mult {x s m : Int} : roundI x s m % s = 0 := by
  have h : s * (x / s) + x % s = x := Int.mul_ediv_add_emod x s
  have e : x - x % s = s * (x / s) := by omega
  unfold roundI
  split
  · assumption
  · split
    · rw [e, show s * (x / s) + s = s * (x / s + 1) by rw [Int.mul_add, Int.mul_one]]
      exact Int.mul_emod_right _ _
    · rw [e]; exact Int.mul_emod_right _ _
theorem step_facts {x s r : Int} (hs : 0 < s) (h : stepD x s 1 = (r, true)) : mayD r = true ∧ r ≤ 9223372036854775807 ∧ r % s = 0 ∧ stepD r s 1 = (r, true) := by
  have h0 := h
  unfold stepD giveD at h
  split at h
  · rename_i hb
    obtain ⟨e, _⟩ := Prod.mk.inj h
    simp only [Bool.and_eq_true, okD, decide_eq_true_eq] at hb
    have hm : r % s = 0 := by rw [← e]; exact round_mult
    have hr : mayD r = true := mayD_yes (by rw [← e]; exact hb.2.1)
    refine ⟨hr, by rw [← e]; exact hb.2.2, hm, ?_⟩
    rw [stepD_may (by rw [← e]; exact hb.2.1) hs (by omega) (by omega)]
    have : roundI r s 1 = r := by unfold roundI; rw [if_pos hm]
    rw [this]
    exact giveD_in (by rw [← e]; exact hb.2.1) (by rw [← e]; exact hb.2.2)
  · cases (Prod.mk.inj h).2
def placeS (p : Nat) : Nat := 10 ^ (4 - p)
theorem places_at {x : Int} {p : Nat} (hp : p ≤ 4) : placesD x p 1 = stepD x (placeS p : Nat) 1 := by
  unfold placesD placeS
  rw [if_neg (by omega), show (4 - (p : Int)).toNat = 4 - p by omega]
theorem placeS_pos (p : Nat) : (0 : Int) < (placeS p : Nat) := by
  have : 0 < placeS p := Nat.pow_pos (by omega)
  omega
theorem pl_small {r : Int} {p : Nat} (hp : p ≤ 4) (h : r % (placeS p : Nat) = 0) : pl (r.natAbs % 10000) ≤ p := by
  unfold placeS at h
  unfold pl
  obtain rfl | rfl | rfl | rfl | rfl : p = 0 ∨ p = 1 ∨ p = 2 ∨ p = 3 ∨ p = 4 := by omega
  all_goals simp only [Nat.reduceSub, Nat.reducePow] at h
  all_goals (repeat' split)
  all_goals omega
/-- its digits ahead of the point -/
def wholeT (r : Int) : List UInt8 := sgnL (decide (r < 0)) ++ Lib.decDigits (r.natAbs / 10000)
def fixL (r : Int) (p : Nat) : List UInt8 := wholeT r ++ (if p = 0 then [] else 46 :: (partT (r.natAbs % 10000) ++ List.replicate (p - pl (r.natAbs % 10000)) 48))
def fixD (x p : Int) : List UInt8 × Bool := if p < 0 ∨ 4 < p then ([], false) else if (placesD x p 1).2 = true then (fixL (placesD x p 1).1 p.toNat, true) else ([], false)
theorem fix_out {x p : Int} (h : p < 0 ∨ 4 < p) : fixD x p = ([], false) := if_pos h
theorem fix_no {x r : Int} {p : Nat} (hp : p ≤ 4) (h : placesD x p 1 = (r, false)) : fixD x p = ([], false) := by
  unfold fixD
  rw [if_neg (by omega), h]; rfl
theorem fix_yes {x r : Int} {p : Nat} (hp : p ≤ 4) (h : placesD x p 1 = (r, true)) : fixD x p = (fixL r p, true) := by
  unfold fixD
  rw [if_neg (by omega), h]; rfl
theorem text_parts {r : Int} (h : mayD r = true) : textD r = wholeT r ++ fracL (r.natAbs % 10000) := by
  rw [textD_may h, wholeT, List.append_assoc]
theorem sgn_point (b : Bool) : (46 : UInt8) ∉ sgnL b := by cases b <;> decide
theorem all_point {l : List UInt8} (h : AllD l) : (46 : UInt8) ∉ l := fun e => by
  have := h 46 e
  cases this
theorem whole_point (r : Int) : (46 : UInt8) ∉ wholeT r := by
  unfold wholeT
  rw [List.mem_append, not_or]
  exact ⟨sgn_point _, all_point (dd_facts _).1⟩
theorem whole_len {r : Int} (h1 : mayD r = true) (h2 : r ≤ 9223372036854775807) : (wholeT r).length ≤ 16 ∧ 1 ≤ (wholeT r).length := by
  have h3 : -9223372036854775807 ≤ r := by unfold mayD at h1; simpa using h1
  obtain ⟨a, b, c⟩ := natAbs_lt (show -9223372036854775808 ≤ r by omega) h2
  have dl := dd_len15 a
  have d3 := List.length_pos_iff.2 (dd_facts (r.natAbs / 10000)).2.2
  unfold wholeT
  rw [List.length_append]
  have : (sgnL (decide (r < 0))).length ≤ 1 := by cases decide (r < 0) <;> simp [sgnL]
  omega
theorem part_nil : partT 0 = [] := by
  unfold partT
  rw [show pl 0 = 0 by decide]; rfl
theorem fix_len {r : Int} {p : Nat} (hp : p ≤ 4) (h1 : mayD r = true) (h2 : r ≤ 9223372036854775807) (h : pl (r.natAbs % 10000) ≤ p) : (fixL r p).length ≤ 21 := by
  have := whole_len h1 h2
  unfold fixL
  rw [List.length_append]
  split
  · simp; omega
  · rw [List.length_cons, List.length_append, part_len, List.length_replicate]; omega
/-- read again it is the rounded one -/
theorem read_fix {r : Int} {p : Nat} (hp : p ≤ 4) (h : mayD r = true) (h2 : r ≤ 9223372036854775807) (hpl : pl (r.natAbs % 10000) ≤ p) : readD (fixL r p) = (r, true) := by
  by_cases h0 : p = 0
  · subst h0
    have hr : r.natAbs % 10000 = 0 := by
      rcases Nat.eq_zero_or_pos (r.natAbs % 10000) with e | e
      · exact e
      · have := pl_pos (show r.natAbs % 10000 ≠ 0 by omega)
        omega
    have e : fixL r 0 = textD r := by
      rw [text_parts h, hr]
      unfold fixL fracL
      rw [if_pos rfl, if_pos rfl]
    rw [e]
    exact read_text h h2
  · have h1 : -9223372036854775807 ≤ r := by unfold mayD at h; simpa using h
    obtain ⟨a, b, c⟩ := natAbs_lt (show -9223372036854775808 ≤ r by omega) h2
    obtain ⟨d1, d2, d3⟩ := dd_facts (r.natAbs / 10000)
    have dl := dd_len15 a
    obtain ⟨q, hq⟩ : ∃ q, partT (r.natAbs % 10000) ++ List.replicate (p - pl (r.natAbs % 10000)) 48 = q := ⟨_, rfl⟩
    have hql : q.length = p := by rw [← hq, List.length_append, part_len, List.length_replicate]; omega
    have hqa : AllD q := by rw [← hq]; exact (partT_all b).app (AllD.noughts _)
    have hqv : ∀ v, valF v (q ++ List.replicate (4 - q.length) 48) = v * 10000 + r.natAbs % 10000 := fun v => by
      rw [← part_val v _ b, hql, ← hq, List.append_assoc, List.replicate_append_replicate, show p - pl (r.natAbs % 10000) + (4 - p) = 4 - pl (r.natAbs % 10000) by omega]
    have hB : ∀ neg, readB neg (Lib.decDigits (r.natAbs / 10000) ++ 46 :: q) = giveD true (Dec.signed neg r.natAbs) := fun neg => by
      rw [readB_point neg d1 hqa (by rw [List.length_append, List.length_cons]; omega), if_pos (by omega)]
      unfold meantD
      rw [if_neg d3, List.append_assoc, valF_app, d2, hqv, c]
    unfold fixL wholeT
    rw [if_neg h0, hq, List.append_assoc]
    by_cases hx : r < 0
    · rw [decide_eq_true hx]
      show readD (45 :: (Lib.decDigits (r.natAbs / 10000) ++ 46 :: q)) = _
      rw [readD_neg (by rw [List.length_append, List.length_cons]; omega), hB]
      show giveD true (-(r.natAbs : Int)) = _
      rw [show -(r.natAbs : Int) = r by omega]
      exact giveD_in h1 h2
    · rw [decide_eq_false hx]
      show readD (Lib.decDigits _ ++ _) = _
      rw [readD_plain d1 d3 (by rw [List.length_append, List.length_cons]; omega), hB]
      show giveD true (r.natAbs : Int) = _
      rw [show (r.natAbs : Int) = r by omega]
      exact giveD_in h1 h2
/-- all about what is told -/
theorem fix_facts {x r : Int} {p : Nat} (hp : p ≤ 4) (h : placesD x p 1 = (r, true)) : mayD r = true ∧ r ≤ 9223372036854775807 ∧ pl (r.natAbs % 10000) ≤ p ∧ readD (fixL r p) = (r, true) ∧ fixD r p = (fixL r p, true) ∧ (fixL r p).length ≤ 21 := by
  rw [places_at hp] at h
  obtain ⟨h1, h2, h3, h4⟩ := step_facts (placeS_pos p) h
  have h5 := pl_small hp h3
  exact ⟨h1, h2, h5, read_fix hp h1 h2 h5, fix_yes hp (by rw [places_at hp]; exact h4), fix_len hp h1 h2 h5⟩
end Go.Proofs.YtckcoogmfgegeaaDoor.Txt

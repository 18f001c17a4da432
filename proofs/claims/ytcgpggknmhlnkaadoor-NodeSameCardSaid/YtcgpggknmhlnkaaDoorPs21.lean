/- The text of a decimal, and that what is told is read back; noughts ahead and behind. In lists and integers alone. -/
import Derived.Test.YtcgpggknmhlnkaaDoorPs20
namespace Go.Proofs.YtcgpggknmhlnkaaDoor.Dig
open Dec
/- a whole number's digits -/
theorem dd_small {u : Nat} (h : u < 10) : Lib.decDigits u = [dg u] := Lib.decDigits_one h
theorem dd_big {u : Nat} (h : ¬ u < 10) : Lib.decDigits u = Lib.decDigits (u / 10) ++ [dg (u % 10)] := by rw [Lib.decDigits, dif_neg h]; rfl
theorem dd_facts (u : Nat) : AllD (Lib.decDigits u) ∧ valF 0 (Lib.decDigits u) = u ∧ Lib.decDigits u ≠ [] := by
  induction u using Nat.strongRecOn with
  | _ u ih =>
    by_cases h : u < 10
    · rw [dd_small h]
      refine ⟨AllD.cons (dg_isD h) AllD.nil, ?_, by simp⟩
      rw [valF_cons, valF_nil, dg_nat h]
      omega
    · obtain ⟨h1, h2, h3⟩ := ih (u / 10) (by omega)
      have hm : u % 10 < 10 := Nat.mod_lt _ (by omega)
      rw [dd_big h]
      refine ⟨h1.app (AllD.cons (dg_isD hm) AllD.nil), ?_, by simp⟩
      rw [valF_app, h2, valF_cons, valF_nil, dg_nat hm]
      omega
theorem dd_len (k : Nat) : ∀ u, u < 10 ^ (k + 1) → (Lib.decDigits u).length ≤ k + 1 := by
  induction k with
  | zero => intro u h; rw [dd_small (by simpa using h)]; simp
  | succ k ih =>
    intro u h
    by_cases h10 : u < 10
    · rw [dd_small h10]; simp
    · rw [dd_big h10, List.length_append, List.length_singleton]
      have := ih (u / 10) (by rw [Nat.pow_succ] at h; omega)
      omega
theorem dd_len15 {u : Nat} (h : u < 1000000000000000) : (Lib.decDigits u).length ≤ 15 := dd_len 14 u h

/- what stands behind the point -/
def ds4 (r : Nat) : List UInt8 := [dg (r / 1000), dg (r / 100 % 10), dg (r / 10 % 10), dg (r % 10)]
def pl (r : Nat) : Nat := if r % 10 ≠ 0 then 4 else if r % 100 ≠ 0 then 3 else if r % 1000 ≠ 0 then 2 else if r ≠ 0 then 1 else 0
def partT (r : Nat) : List UInt8 := (ds4 r).take (pl r)
def fracL (r : Nat) : List UInt8 := if r = 0 then [] else 46 :: partT r
theorem pl_le (r : Nat) : pl r ≤ 4 := by unfold pl; repeat' split
                                         all_goals omega
theorem pl_pos {r : Nat} (h : r ≠ 0) : 1 ≤ pl r := by
  unfold pl
  rw [if_pos h]
  repeat' split
  all_goals omega
theorem ds4_len (r : Nat) : (ds4 r).length = 4 := rfl
theorem part_len (r : Nat) : (partT r).length = pl r := by unfold partT; rw [List.length_take, ds4_len]; exact Nat.min_eq_left (pl_le r)
theorem ds4_all {r : Nat} (h : r < 10000) : AllD (ds4 r) := by
  unfold ds4
  exact AllD.cons (dg_isD (by omega)) (AllD.cons (dg_isD (by omega)) (AllD.cons (dg_isD (by omega)) (AllD.cons (dg_isD (by omega)) AllD.nil)))
theorem partT_all {r : Nat} (h : r < 10000) : AllD (partT r) := (ds4_all h).take _
theorem nought_nat : ((48 : UInt8).toNat - 48) = 0 := rfl
theorem part_val (a r : Nat) (h : r < 10000) : valF a (partT r ++ List.replicate (4 - pl r) 48) = a * 10000 + r := by
  have e1 : (dg (r / 1000)).toNat - 48 = r / 1000 := by rw [dg_nat (by omega)]; omega
  have e2 : (dg (r / 100 % 10)).toNat - 48 = r / 100 % 10 := by rw [dg_nat (by omega)]; omega
  have e3 : (dg (r / 10 % 10)).toNat - 48 = r / 10 % 10 := by rw [dg_nat (by omega)]; omega
  have e4 : (dg (r % 10)).toNat - 48 = r % 10 := by rw [dg_nat (by omega)]; omega
  unfold partT ds4
  generalize dg (r / 1000) = d1 at *
  generalize dg (r / 100 % 10) = d2 at *
  generalize dg (r / 10 % 10) = d3 at *
  generalize dg (r % 10) = d4 at *
  by_cases h1 : r % 10 ≠ 0
  · rw [show pl r = 4 by unfold pl; rw [if_pos h1]]
    show valF a [d1, d2, d3, d4] = _
    rw [valF_cons, valF_cons, valF_cons, valF_cons, valF_nil, e1, e2, e3, e4]
    omega
  by_cases h2 : r % 100 ≠ 0
  · rw [show pl r = 3 by unfold pl; rw [if_neg h1, if_pos h2]]
    show valF a [d1, d2, d3, 48] = _
    rw [valF_cons, valF_cons, valF_cons, valF_cons, valF_nil, e1, e2, e3, nought_nat]
    omega
  by_cases h3 : r % 1000 ≠ 0
  · rw [show pl r = 2 by unfold pl; rw [if_neg h1, if_neg h2, if_pos h3]]
    show valF a [d1, d2, 48, 48] = _
    rw [valF_cons, valF_cons, valF_cons, valF_cons, valF_nil, e1, e2, nought_nat]
    omega
  by_cases h4 : r ≠ 0
  · rw [show pl r = 1 by unfold pl; rw [if_neg h1, if_neg h2, if_neg h3, if_pos h4]]
    show valF a [d1, 48, 48, 48] = _
    rw [valF_cons, valF_cons, valF_cons, valF_cons, valF_nil, e1, nought_nat]
    omega
  · rw [show pl r = 0 by unfold pl; rw [if_neg h1, if_neg h2, if_neg h3, if_neg h4]]
    show valF a [48, 48, 48, 48] = _
    rw [valF_cons, valF_cons, valF_cons, valF_cons, valF_nil, nought_nat]
    omega
/- a decimal's text -/
def textD (x : Int) : List UInt8 := if mayD x = true then sgnL (decide (x < 0)) ++ (Lib.decDigits (x.natAbs / 10000) ++ fracL (x.natAbs % 10000)) else []
def parseD (t : List UInt8) : Int × Bool := if (readD t).2 = true ∧ textD (readD t).1 = t then ((readD t).1, true) else (0, false)
theorem textD_may {x : Int} (h : mayD x = true) : textD x = sgnL (decide (x < 0)) ++ (Lib.decDigits (x.natAbs / 10000) ++ fracL (x.natAbs % 10000)) := by unfold textD; rw [if_pos h]
theorem textD_no {x : Int} (h : mayD x = false) : textD x = [] := by unfold textD; rw [if_neg (by rw [h]; simp)]
theorem frac_len (r : Nat) : (fracL r).length ≤ 5 := by
  unfold fracL
  split
  · simp
  · rw [List.length_cons, part_len]; have := pl_le r; omega
/-- what digits with a fraction behind them mean -/
theorem readB_num (neg : Bool) {w : List UInt8} {r : Nat} (hw : AllD w) (h0 : w ≠ []) (hl : w.length ≤ 35) (hr : r < 10000) : readB neg (w ++ fracL r) = giveD true (signed neg (valF 0 w * 10000 + r)) := by
  unfold fracL
  by_cases h : r = 0
  · subst h
    rw [if_pos rfl, List.append_nil, readB_all neg hw (by omega)]
    unfold meantD
    have hv : valF (valF 0 w) (List.replicate (4 - ([] : List UInt8).length) 48) = valF 0 w * 10000 + 0 := part_val (valF 0 w) 0 (by omega)
    rw [if_neg h0, List.append_nil, valF_app, hv]
  · rw [if_neg h, readB_point neg hw (partT_all hr) (by rw [List.length_append, List.length_cons, part_len]; have := pl_le r; omega), if_pos (by rw [part_len]; exact ⟨pl_pos h, pl_le r⟩)]
    unfold meantD
    rw [if_neg h0, List.append_assoc, valF_app, part_len, part_val _ _ hr]
theorem head_digit {w r : List UInt8} (hw : AllD w) (h0 : w ≠ []) : (w ++ r).head? ≠ some 45 := by
  obtain ⟨c, v, rfl⟩ := List.exists_cons_of_ne_nil h0
  intro e
  have hc := hw c (by simp)
  rw [List.cons_append, List.head?_cons] at e
  rw [Option.some.inj e] at hc
  cases hc
theorem readD_plain {w r : List UInt8} (hw : AllD w) (h0 : w ≠ []) (hl : (w ++ r).length ≤ 40) : readD (w ++ r) = readB false (w ++ r) := by
  unfold readD
  rw [if_neg (by omega), if_neg (head_digit hw h0)]
theorem readD_neg {l : List UInt8} (hl : l.length ≤ 39) : readD (45 :: l) = readB true l := by
  unfold readD
  rw [if_neg (by rw [List.length_cons]; omega), if_pos (List.head?_cons ..)]
  rfl
theorem natAbs_lt {x : Int} (h1 : -9223372036854775808 ≤ x) (h2 : x ≤ 9223372036854775807) : x.natAbs / 10000 < 1000000000000000 ∧ x.natAbs % 10000 < 10000 ∧ x.natAbs / 10000 * 10000 + x.natAbs % 10000 = x.natAbs := by omega
theorem read_text {x : Int} (h : mayD x = true) (h2 : x ≤ 9223372036854775807) : readD (textD x) = (x, true) := by
  have h1 : -9223372036854775807 ≤ x := by unfold mayD at h; simpa using h
  obtain ⟨a, b, c⟩ := natAbs_lt (show -9223372036854775808 ≤ x by omega) h2
  obtain ⟨d1, d2, d3⟩ := dd_facts (x.natAbs / 10000)
  have dl := dd_len15 a
  have fl := frac_len (x.natAbs % 10000)
  rw [textD_may h]
  by_cases hx : x < 0
  · rw [decide_eq_true hx]
    show readD (45 :: (Lib.decDigits (x.natAbs / 10000) ++ fracL (x.natAbs % 10000))) = _
    rw [readD_neg (by rw [List.length_append]; omega), readB_num true d1 d3 (by omega) b, d2, c]
    show giveD true (-(x.natAbs : Int)) = _
    rw [show -(x.natAbs : Int) = x by omega]
    exact giveD_in h1 h2
  · rw [decide_eq_false hx]
    show readD (Lib.decDigits _ ++ _) = _
    rw [readD_plain d1 d3 (by rw [List.length_append]; omega), readB_num false d1 d3 (by omega) b, d2, c]
    show giveD true (x.natAbs : Int) = _
    rw [show (x.natAbs : Int) = x by omega]
    exact giveD_in h1 h2
theorem parse_text {x : Int} (h2 : x ≤ 9223372036854775807) : parseD (textD x) = (if mayD x = true then x else 0, mayD x) ∧ readD (textD x) = (if mayD x = true then x else 0, mayD x) := by
  cases h : mayD x
  · rw [textD_no h]
    exact ⟨rfl, rfl⟩
  · have hr := read_text h h2
    refine ⟨?_, hr⟩
    unfold parseD
    rw [hr, if_pos ⟨rfl, rfl⟩]
    rfl
/-- a number that a reader gives is in bounds -/
theorem giveD_room {b : Bool} {x n : Int} {k : Bool} (h : giveD b x = (n, k)) : -9223372036854775807 ≤ n ∧ n ≤ 9223372036854775807 := by
  unfold giveD at h
  split at h
  · rename_i hb
    obtain ⟨rfl, rfl⟩ := Prod.mk.inj h
    simp only [Bool.and_eq_true, okD, decide_eq_true_eq] at hb
    exact hb.2
  · obtain ⟨rfl, rfl⟩ := Prod.mk.inj h
    omega
theorem giveD_none {b : Bool} {x n : Int} (h : giveD b x = (n, false)) : n = 0 := by
  unfold giveD at h
  split at h
  · cases (Prod.mk.inj h).2
  · exact (Prod.mk.inj h).1.symm
theorem meantD_room {neg : Bool} {w p : List UInt8} {n : Int} {k : Bool} (h : meantD neg w p = (n, k)) : (-9223372036854775807 ≤ n ∧ n ≤ 9223372036854775807) ∧ (k = false → n = 0) := by
  unfold meantD at h
  split at h
  · obtain ⟨rfl, rfl⟩ := Prod.mk.inj h
    exact ⟨by omega, fun _ => rfl⟩
  · exact ⟨giveD_room h, fun hk => giveD_none (hk ▸ h)⟩
end Go.Proofs.YtcgpggknmhlnkaaDoor.Dig

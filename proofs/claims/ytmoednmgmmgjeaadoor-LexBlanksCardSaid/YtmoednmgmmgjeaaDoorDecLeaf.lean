/- What package dec's small functions answer: May, size, Sign, Neg, Add, Sub, Units, Whole: for every number of 64 bits. -/
import Derived.Test.YtmoednmgmmgjeaaDoorDiv64
namespace Go.Proofs.YtmoednmgmmgjeaaDoor.Dec
open Go.RowKit Kit

theorem mayD_yes {x : Int} (h : -9223372036854775807 ≤ x) : mayD x = true := by simp [mayD, h]
theorem mayD_no {x : Int} (h : x < -9223372036854775807) : mayD x = false := by simp [mayD]; omega
theorem giveD_in {x : Int} (h1 : -9223372036854775807 ≤ x) (h2 : x ≤ 9223372036854775807) : giveD true x = (x, true) := by simp [giveD, okD, h1, h2]
theorem giveD_out {b : Bool} {x : Int} (h : b = false ∨ x < -9223372036854775807 ∨ 9223372036854775807 < x) : giveD b x = (0, false) := by
  unfold giveD
  rw [if_neg]
  rintro h2
  simp only [Bool.and_eq_true, okD, decide_eq_true_eq] at h2
  rcases h with h | h | h
  · rw [h] at h2; exact absurd h2.1 (by decide)
  · omega
  · omega
theorem addD_in {a b : Int} (h1 : -9223372036854775807 ≤ a) (h2 : -9223372036854775807 ≤ b) (h3 : -9223372036854775807 ≤ a + b) (h4 : a + b ≤ 9223372036854775807) : addD a b = (a + b, true) := by
  rw [addD, mayD_yes h1, mayD_yes h2]; exact giveD_in h3 h4
theorem addD_a {a b : Int} (h : a < -9223372036854775807) : addD a b = (0, false) := by rw [addD, mayD_no h]; exact giveD_out (.inl rfl)
theorem addD_b {a b : Int} (h : b < -9223372036854775807) : addD a b = (0, false) := by rw [addD, mayD_no h, Bool.and_false]; exact giveD_out (.inl rfl)
theorem addD_out {a b : Int} (h : a + b < -9223372036854775807 ∨ 9223372036854775807 < a + b) : addD a b = (0, false) := giveD_out (.inr h)
theorem negD_in {x : Int} (h1 : -9223372036854775807 ≤ x) (h2 : x ≤ 9223372036854775807) : negD x = (-x, true) := by rw [negD, mayD_yes h1]; exact giveD_in (by omega) (by omega)
theorem negD_out {x : Int} (h1 : x < -9223372036854775807) : negD x = (0, false) := by rw [negD, mayD_no h1]; exact giveD_out (.inl rfl)
theorem subD_in {a b : Int} (h1 : -9223372036854775807 ≤ b) (h2 : b ≤ 9223372036854775807) : subD a b = addD a (-b) := by
  unfold subD addD
  rw [mayD_yes h1, mayD_yes (x := -b) (by omega)]
  rfl
theorem subD_out {a b : Int} (h : b < -9223372036854775807) : subD a b = (0, false) := by rw [subD, mayD_no h, Bool.and_false]; exact giveD_out (.inl rfl)

/-- two results -/
def Two (n : Int) (b : Bool) (w : World) : Ending → World → Prop := fun e w' => e = .returned (.tuple #[.int .i64 n, .bool b]) ∧ w = w'
set_option maxRecDepth 100000 in
set_option maxHeartbeats 400000 in
theorem may_c (x : Int) (b : Bool) (hb : mayD x = b) (w : World) : Calls Tryd.prog 25 #[.int .i64 x] w fun e w' => e = .returned (.bool b) ∧ w = w' := by
  have HB := Lib.hid hb
  clear hb
  go_enter Tryd.func25, Tryd.ntmps25
  go_wp2
  go_ret
  exact ⟨ret_bool (by rw [← HB.out]; rfl), rfl⟩
def signD (x : Int) : Int := if x < -9223372036854775807 then 0 else if x < 0 then -1 else if x = 0 then 0 else 1
theorem cut_pos {x : Int} (h : 0 ≤ x) : x.tdiv 10000 = x / 10000 ∧ x.tmod 10000 = x % 10000 := ⟨Int.tdiv_eq_ediv_of_nonneg h, Int.tmod_eq_emod_of_nonneg h⟩
theorem cut_neg {x : Int} (h : x < 0) : x.tdiv 10000 = -((-x) / 10000) ∧ x.tmod 10000 = -((-x) % 10000) := by
  obtain ⟨h1, h2⟩ := cut_pos (x := -x) (by omega)
  rw [Int.neg_tdiv] at h1
  rw [Int.neg_tmod] at h2
  omega
theorem cut_room {x : Int} (h1 : -9223372036854775807 ≤ x) (h2 : x ≤ 9223372036854775807) : (-9223372036854775808 ≤ x.tdiv 10000 ∧ x.tdiv 10000 ≤ 9223372036854775807) ∧ (-9223372036854775808 ≤ x.tmod 10000 ∧ x.tmod 10000 ≤ 9223372036854775807) := by
  by_cases h : 0 ≤ x
  · obtain ⟨e1, e2⟩ := cut_pos h
    rw [e1, e2]; omega
  · obtain ⟨e1, e2⟩ := cut_neg (x := x) (by omega)
    rw [e1, e2]; omega
def unitsD (x : Int) : Int := if x < -9223372036854775807 then 0 else Int.tdiv x 10000
def wholeD (x : Int) : Bool := mayD x && decide (Int.tmod x 10000 = 0)
set_option maxRecDepth 100000 in
set_option maxHeartbeats 400000 in
theorem units_c (x : Int) (h2 : x ≤ 9223372036854775807) (n : Int) (hn : unitsD x = n) (w : World) : Calls Tryd.prog 27 #[.int .i64 x] w fun e w' => e = .returned (.int .i64 n) ∧ w = w' := by
  subst hn
  by_cases h0 : x < -9223372036854775807
  · have M := Lib.hid (fun w1 => may_c x false (mayD_no h0) w1)
    rw [unitsD, if_pos h0]
    go_enter Tryd.func27, Tryd.ntmps27
    go_wp2_with (go_at_call 25; refine (M.out _).mono ?_; rintro e w' ⟨rfl, rfl⟩)
    go_ret
    exact ⟨rfl, rfl⟩
  · have M := Lib.hid (fun w1 => may_c x true (mayD_yes (by omega)) w1)
    rw [unitsD, if_neg h0]
    obtain ⟨ht1, ht2⟩ := (cut_room (x := x) (by omega) h2).1
    go_enter Tryd.func27, Tryd.ntmps27
    go_wp2_with (go_at_call 25; refine (M.out _).mono ?_; rintro e w' ⟨rfl, rfl⟩)
    go_ret
    exact ⟨rfl, rfl⟩
end Go.Proofs.YtmoednmgmmgjeaaDoor.Dec

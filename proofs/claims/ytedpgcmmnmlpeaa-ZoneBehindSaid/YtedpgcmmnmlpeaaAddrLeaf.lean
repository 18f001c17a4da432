/- What the program's and the reference's small functions on cells answer: for every cell. -/
import Derived.Test.YtedpgcmmnmlpeaaKit
import Derived.Test.YtedpgcmmnmlpeaaAddrText
import Derived.Laws.Runes
namespace Go.Proofs.Ytedpgcmmnmlpeaa.Addr
open Go.RowKit Kit

set_option maxRecDepth 100000 in
set_option maxHeartbeats 1000000 in
theorem mayRow_c (r : Int) (b : Bool) (hb : decide (0 ≤ r ∧ r ≤ 998) = b) (w : World) : Calls Try.prog 42 #[.int .i64 r] w fun e w' => e = .returned (.bool b) ∧ w' = w := by
  have HB := Lib.hid hb
  clear hb
  by_cases h0 : 0 ≤ r
  · by_cases h1 : r < 999
    · go_enter Try.func42, Try.ntmps42
      go_wp2
      go_ret
      exact ⟨ret_bool (by rw [← HB.out]; simp; omega), rfl⟩
    · go_enter Try.func42, Try.ntmps42
      go_wp2
      go_ret
      exact ⟨ret_bool (by rw [← HB.out]; simp; omega), rfl⟩
  · have hd : decide (0 ≤ r) = false := by simpa using h0
    go_enter Try.func42, Try.ntmps42
    go_wp2
    go_ret
    exact ⟨ret_bool (by rw [← HB.out]; simp; omega), rfl⟩
set_option maxRecDepth 100000 in
set_option maxHeartbeats 1000000 in
theorem mayCol_c (r : Int) (b : Bool) (hb : decide (0 ≤ r ∧ r ≤ 701) = b) (w : World) : Calls Try.prog 43 #[.int .i64 r] w fun e w' => e = .returned (.bool b) ∧ w' = w := by
  have HB := Lib.hid hb
  clear hb
  by_cases h0 : 0 ≤ r
  · by_cases h1 : r < 702
    · go_enter Try.func43, Try.ntmps43
      go_wp2
      go_ret
      exact ⟨ret_bool (by rw [← HB.out]; simp; omega), rfl⟩
    · go_enter Try.func43, Try.ntmps43
      go_wp2
      go_ret
      exact ⟨ret_bool (by rw [← HB.out]; simp; omega), rfl⟩
  · have hd : decide (0 ≤ r) = false := by simpa using h0
    go_enter Try.func43, Try.ntmps43
    go_wp2
    go_ret
    exact ⟨ret_bool (by rw [← HB.out]; simp; omega), rfl⟩
theorem may_split (r c : Int) : mayB r c = (decide (0 ≤ r ∧ r ≤ 998) && decide (0 ≤ c ∧ c ≤ 701)) := by
  unfold mayB
  rw [← Bool.decide_and]
  exact decide_eq_decide.2 ⟨fun ⟨a, b, c, d⟩ => ⟨⟨a, b⟩, c, d⟩, fun ⟨⟨a, b⟩, c, d⟩ => ⟨a, b, c, d⟩⟩
set_option maxRecDepth 100000 in
set_option maxHeartbeats 1000000 in
theorem may_c (r c : Int) (b : Bool) (hb : mayB r c = b) (w : World) : Calls Try.prog 39 #[.agg #[.int .i64 r, .int .i64 c]] w fun e w' => e = .returned (.bool b) ∧ Below w.heap.size w w' := by
  rw [may_split] at hb
  cases h1 : decide (0 ≤ r ∧ r ≤ 998) with
  | false =>
    have H1 := Lib.hid (fun w1 => mayRow_c r false h1 w1)
    rw [h1] at hb
    subst hb
    clear h1
    go_enter Try.func39, Try.ntmps39
    go_wp2_with (go_at_call 42; refine (H1.out _).mono ?_; rintro e w' ⟨rfl, rfl⟩)
    go_ret
    exact ⟨rfl, below1 _ _⟩
  | true =>
    have H1 := Lib.hid (fun w1 => mayRow_c r true h1 w1)
    rw [h1, Bool.true_and] at hb
    have H2 := Lib.hid (fun w1 => mayCol_c c b hb w1)
    clear h1 hb
    go_enter Try.func39, Try.ntmps39
    go_wp2_with (first | (go_at_call 42; refine (H1.out _).mono ?_; rintro e w' ⟨rfl, rfl⟩) | (go_at_call 43; refine (H2.out _).mono ?_; rintro e w' ⟨rfl, rfl⟩))
    go_ret
    exact ⟨rfl, below1 _ _⟩
set_option maxRecDepth 100000 in
set_option maxHeartbeats 1000000 in
theorem rmay_c (r c : Int) (b : Bool) (hb : mayB r c = b) (w : World) : Calls Try.prog 29 #[.agg #[.int .i64 r, .int .i64 c]] w fun e w' => e = .returned (.bool b) ∧ Below w.heap.size w w' := by
  have HB := Lib.hid hb
  clear hb
  by_cases h0 : 0 ≤ r
  · by_cases h1 : r ≤ 998
    · by_cases h2 : 0 ≤ c
      · by_cases h3 : c ≤ 701
        · go_enter Try.func29, Try.ntmps29
          go_wp2
          go_ret
          exact ⟨ret_bool (by rw [← HB.out]; simp [mayB]; omega), below1 _ _⟩
        · go_enter Try.func29, Try.ntmps29
          go_wp2
          go_ret
          exact ⟨ret_bool (by rw [← HB.out]; simp [mayB]; omega), below1 _ _⟩
      · have hd : decide (0 ≤ c) = false := by simpa using h2
        go_enter Try.func29, Try.ntmps29
        go_wp2
        go_ret
        exact ⟨ret_bool (by rw [← HB.out]; simp [mayB]; omega), below1 _ _⟩
    · have hd : decide (r ≤ 998) = false := by simpa using h1
      go_enter Try.func29, Try.ntmps29
      go_wp2
      go_ret
      exact ⟨ret_bool (by rw [← HB.out]; simp [mayB]; omega), below1 _ _⟩
  · have hd : decide (0 ≤ r) = false := by simpa using h0
    go_enter Try.func29, Try.ntmps29
    go_wp2
    go_ret
    exact ⟨ret_bool (by rw [← HB.out]; simp [mayB]; omega), below1 _ _⟩
end Go.Proofs.Ytedpgcmmnmlpeaa.Addr

/- What the program's small functions on labels answer (May, Below, Join): for every label, whatever its level.
   What the program's Bottom answers.
   What the program's Of answers: the container of any cell, for any slice that reads as zones.
   What is wrong with a zone: what the program's why answers, and the ways in which it is decided. -/
import Derived.Test.YtmlmanlcomfhbaaGreatDoorGa
import Derived.Test.YtmlmanlcomfhbaaGreatDoorGg
namespace Go.Proofs.YtmlmanlcomfhbaaGreatDoor.Lab
open Go.RowKit Kit
open Go.Proofs.YtmlmanlcomfhbaaGreatDoor.Cats (U U_or withinB andNot_zero_int)

theorem mayL_yes {l : Int} (h0 : 0 ≤ l) (h1 : l ≤ 15) : mayL l = true := by simp [mayL, h0, h1]
theorem mayL_neg {l : Int} (h : l < 0) : mayL l = false := by simp [mayL]; omega
theorem mayL_big {l : Int} (h : 15 < l) : mayL l = false := by simp [mayL]; omega
set_option maxRecDepth 100000 in
set_option maxHeartbeats 1000000 in
theorem may_c (l : Int) (s : Nat) (b : Bool) (hb : mayL l = b) (w : World) : Calls Tryz.prog 48 #[.agg #[.int .i64 l, .int .u64 s]] w fun e w' => e = .returned (.bool b) ∧ Below w.heap.size w w' := by
  have HB := Lib.hid hb
  clear hb
  by_cases h0 : 0 ≤ l
  · by_cases h1 : l ≤ 15
    · go_enter Tryz.func48, Tryz.ntmps48
      go_wp2
      go_ret
      exact ⟨ret_bool (by rw [← HB.out, mayL_yes h0 h1]), below1 _ _⟩
    · go_enter Tryz.func48, Tryz.ntmps48
      go_wp2
      go_ret
      exact ⟨ret_bool (by rw [← HB.out, mayL_big (by omega)]), below1 _ _⟩
  · have hd : decide (0 ≤ l) = false := by simpa using h0
    go_enter Tryz.func48, Tryz.ntmps48
    go_wp2
    go_ret
    exact ⟨ret_bool (by rw [← HB.out, mayL_neg (by omega)]), below1 _ _⟩
theorem or_int (a b : Nat) (ha : U a) (hb : U b) : bits .or .u64 (a : Int) (b : Int) = ((a ||| b : Nat) : Int) := u64_or_nat a b ha hb
theorem ret_pair {a b c d : Int} (h : a = c) (k : b = d) : Ending.returned (.agg #[.int .i64 a, .int .u64 b]) = .returned (.agg #[.int .i64 c, .int .u64 d]) := by rw [h, k]
end Go.Proofs.YtmlmanlcomfhbaaGreatDoor.Lab
namespace Go.Proofs.YtmlmanlcomfhbaaGreatDoor.Lab
open Go.RowKit Kit

end Go.Proofs.YtmlmanlcomfhbaaGreatDoor.Lab
namespace Go.Proofs.YtmlmanlcomfhbaaGreatDoor.Zone
open Go.RowKit Kit Reg Go.Proofs.YtmlmanlcomfhbaaGreatDoor.Span Go.Proofs.YtmlmanlcomfhbaaGreatDoor.Lab
open Go.Proofs.YtmlmanlcomfhbaaGreatDoor.Cats (U U_or U_zero)

end Go.Proofs.YtmlmanlcomfhbaaGreatDoor.Zone
namespace Go.Proofs.YtmlmanlcomfhbaaGreatDoor.Zone
open Go.RowKit Kit Reg Go.Proofs.YtmlmanlcomfhbaaGreatDoor.Span Go.Proofs.YtmlmanlcomfhbaaGreatDoor.Lab
open Go.Proofs.YtmlmanlcomfhbaaGreatDoor.Cats (U U_or U_zero)

/-- the ways -/
theorem why_cases (k : Nat) (a b c d l : Int) (s : Nat) (rows cols : Int) :
    (31 < k ∧ whyI k ⟨a, b, c, d, l, s⟩ rows cols = 10) ∨
    (k ≤ 31 ∧ mayS a b c d = false ∧ whyI k ⟨a, b, c, d, l, s⟩ rows cols = 1) ∨
    (k ≤ 31 ∧ mayS a b c d = true ∧ c < a ∧ whyI k ⟨a, b, c, d, l, s⟩ rows cols = 1) ∨
    (k ≤ 31 ∧ mayS a b c d = true ∧ a ≤ c ∧ d < b ∧ whyI k ⟨a, b, c, d, l, s⟩ rows cols = 1) ∨
    (k ≤ 31 ∧ mayS a b c d = true ∧ a ≤ c ∧ b ≤ d ∧ rows ≤ c ∧ whyI k ⟨a, b, c, d, l, s⟩ rows cols = 2) ∨
    (k ≤ 31 ∧ mayS a b c d = true ∧ a ≤ c ∧ b ≤ d ∧ c < rows ∧ cols ≤ d ∧ whyI k ⟨a, b, c, d, l, s⟩ rows cols = 2) ∨
    (k ≤ 31 ∧ mayS a b c d = true ∧ a ≤ c ∧ b ≤ d ∧ c < rows ∧ d < cols ∧ l < 0 ∧ whyI k ⟨a, b, c, d, l, s⟩ rows cols = 7) ∨
    (k ≤ 31 ∧ mayS a b c d = true ∧ a ≤ c ∧ b ≤ d ∧ c < rows ∧ d < cols ∧ 0 ≤ l ∧ 15 < l ∧ whyI k ⟨a, b, c, d, l, s⟩ rows cols = 7) ∨
    (k ≤ 31 ∧ mayS a b c d = true ∧ a ≤ c ∧ b ≤ d ∧ c < rows ∧ d < cols ∧ 0 ≤ l ∧ l ≤ 15 ∧ whyI k ⟨a, b, c, d, l, s⟩ rows cols = 0) := by
  unfold whyI goodS
  by_cases h0 : 31 < k
  · left; exact ⟨h0, by simp [h0]⟩
  rw [if_neg h0]
  right
  cases hm : mayS a b c d with
  | false => left; exact ⟨by omega, rfl, by simp⟩
  | true =>
    right
    by_cases h1 : c < a
    · left; exact ⟨by omega, rfl, h1, by rw [if_pos]; simp; omega⟩
    right
    by_cases h2 : d < b
    · left; exact ⟨by omega, rfl, by omega, h2, by rw [if_pos]; simp; omega⟩
    right
    rw [if_neg (by simp; omega)]
    by_cases h3 : rows ≤ c
    · left; exact ⟨by omega, rfl, by omega, by omega, h3, by rw [if_pos (.inl h3)]⟩
    right
    by_cases h4 : cols ≤ d
    · left; exact ⟨by omega, rfl, by omega, by omega, by omega, h4, by rw [if_pos (.inr h4)]⟩
    right
    rw [if_neg (by simp; omega)]
    by_cases h5 : l < 0
    · left; exact ⟨by omega, rfl, by omega, by omega, by omega, by omega, h5, by rw [if_pos (by simp [mayL]; omega)]⟩
    right
    by_cases h6 : 15 < l
    · left; exact ⟨by omega, rfl, by omega, by omega, by omega, by omega, by omega, h6, by rw [if_pos (by simp [mayL]; omega)]⟩
    right
    exact ⟨by omega, rfl, by omega, by omega, by omega, by omega, by omega, by omega, by rw [if_neg (by simp [mayL]; omega)]⟩
theorem not_straight {a b c d : Int} (h : c < a ∨ d < b) : (lo true a c == a && lo true b d == b && hi true a c == c && hi true b d == d) = false := by
  rw [Bool.eq_false_iff]
  intro e
  simp only [Bool.and_eq_true, beq_iff_eq, lo, hi, if_true] at e
  obtain ⟨⟨⟨e1, e2⟩, _⟩, _⟩ := e
  split at e1 <;> split at e2 <;> omega
set_option maxRecDepth 100000 in
set_option maxHeartbeats 4000000 in
theorem why_big (k : Nat) (hk9 : k ≤ 140737488355328) (a b c d l : Int) (s : Nat) (rows cols : Int) (hk : 31 < k) (w : World) :
    Calls Tryz.prog 37 #[.int .i64 k, .agg #[.int .i64 a, .int .i64 b, .int .i64 c, .int .i64 d, .int .i64 l, .int .u64 s], .int .i64 rows, .int .i64 cols] w fun e w' => e = .returned (.int .i64 10) ∧ Below w.heap.size w w' := by
  have hd : decide (32 ≤ (k : Int)) = true := by simp; omega
  go_enter Tryz.func37, Tryz.ntmps37
  go_wp2
  go_ret
  exact ⟨rfl, below1 _ _⟩
set_option maxRecDepth 100000 in
set_option maxHeartbeats 4000000 in
theorem why_form (k : Nat) (hk9 : k ≤ 140737488355328) (a b c d l : Int) (s : Nat) (rows cols : Int) (hk : k ≤ 31) (hbad : mayS a b c d = false ∨ (mayS a b c d = true ∧ (c < a ∨ d < b))) (w : World) :
    Calls Tryz.prog 37 #[.int .i64 k, .agg #[.int .i64 a, .int .i64 b, .int .i64 c, .int .i64 d, .int .i64 l, .int .u64 s], .int .i64 rows, .int .i64 cols] w fun e w' => e = .returned (.int .i64 1) ∧ Below w.heap.size w w' := by
  have hd : decide (32 ≤ (k : Int)) = false := by simp; omega
  have hb0 := below1 w (.cells #[.int .i64 a, .int .i64 b, .int .i64 c, .int .i64 d, .int .i64 l, .int .u64 s] 72)
  have hv := CellsAt.new w [.int .i64 a, .int .i64 b, .int .i64 c, .int .i64 d, .int .i64 l, .int .u64 s] 72
  rcases hbad with hm | ⟨hm, hns⟩
  · have HM := Lib.hid (fun w1 => Span.may_c a b c d false hm w1)
    clear hm
    go_enter Tryz.func37, Tryz.ntmps37
    go_wp2_with fail
    generalize w.alloc (.cells #[.int .i64 a, .int .i64 b, .int .i64 c, .int .i64 d, .int .i64 l, .int .u64 s] 72) = W at *
    obtain ⟨c0, c1, c2, c3, _⟩ := six hv
    have C0 := fun d os => cell_regrown c0 d os
    have C1 := fun d os => cell_regrown c1 d os
    have C2 := fun d os => cell_regrown c2 d os
    have C3 := fun d os => cell_regrown c3 d os
    clear c0 c1 c2 c3
    refine wp_region_quiet_below (by kernel_rfl) (by kernel_rfl) ?_
    repeat (go_big_quiet_step (first | (go_at_call 46; with_reducible exact Calls.regrown_of (HM.out _))))
    refine wpQuiet_nil ?_
    intro _ hw'
    obtain ⟨⟨dq, osq⟩, hw''⟩ := hw'
    subst hw''
    go_wp2
    go_ret
    exact ⟨rfl, on hb0 (below_regrown W dq osq)⟩
  · have hns' := not_straight hns
    have hw4 := four_ways (lo true a c) (lo true b d) (hi true a c) (hi true b d) a b c d
    rw [hns'] at hw4
    have HM := Lib.hid (fun w1 => Span.may_c a b c d true hm w1)
    have HS := Lib.hid (fun w1 => straight_in a b c d _ _ _ _ hm rfl rfl rfl rfl w1)
    clear hm hns
    generalize lo true a c = x at *
    generalize lo true b d = y at *
    generalize hi true a c = z at *
    generalize hi true b d = u at *
    rcases hw4 with ⟨_, _, _, _, h0⟩ | ⟨h0, h1 | ⟨h1, h2⟩ | ⟨h1, h2, h3⟩ | ⟨h1, h2, h3, h4⟩⟩
    · cases h0
    all_goals
      go_enter Tryz.func37, Tryz.ntmps37
      go_wp2_with fail
      generalize w.alloc (.cells #[.int .i64 a, .int .i64 b, .int .i64 c, .int .i64 d, .int .i64 l, .int .u64 s] 72) = W at *
      obtain ⟨c0, c1, c2, c3, _⟩ := six hv
      have C0 := fun d os => cell_regrown c0 d os
      have C1 := fun d os => cell_regrown c1 d os
      have C2 := fun d os => cell_regrown c2 d os
      have C3 := fun d os => cell_regrown c3 d os
      clear c0 c1 c2 c3
      refine wp_region_quiet_below (by kernel_rfl) (by kernel_rfl) ?_
      repeat (go_big_quiet_step (first | (go_at_call 46; with_reducible exact Calls.regrown_of (HM.out _)) | (go_at_call 61; with_reducible exact Calls.regrown_of (HS.out _))))
      refine wpQuiet_nil ?_
      intro _ hw'
      obtain ⟨⟨dq, osq⟩, hw''⟩ := hw'
      subst hw''
      go_wp2
      go_ret
      exact ⟨rfl, on hb0 (below_regrown W dq osq)⟩
set_option maxRecDepth 100000 in
set_option maxHeartbeats 4000000 in
theorem why_good (k : Nat) (hk9 : k ≤ 140737488355328) (a b c d l : Int) (s : Nat) (rows cols e : Int) (hk : k ≤ 31) (hm : mayS a b c d = true) (h1 : a ≤ c) (h2 : b ≤ d)
    (hw : (rows ≤ c ∧ e = 2) ∨ (c < rows ∧ cols ≤ d ∧ e = 2) ∨ (c < rows ∧ d < cols ∧ mayL l = false ∧ e = 7) ∨ (c < rows ∧ d < cols ∧ mayL l = true ∧ e = 0)) (w : World) :
    Calls Tryz.prog 37 #[.int .i64 k, .agg #[.int .i64 a, .int .i64 b, .int .i64 c, .int .i64 d, .int .i64 l, .int .u64 s], .int .i64 rows, .int .i64 cols] w fun e' w' => e' = .returned (.int .i64 e) ∧ Below w.heap.size w w' := by
  have hd : decide (32 ≤ (k : Int)) = false := by simp; omega
  have hb0 := below1 w (.cells #[.int .i64 a, .int .i64 b, .int .i64 c, .int .i64 d, .int .i64 l, .int .u64 s] 72)
  have hv := CellsAt.new w [.int .i64 a, .int .i64 b, .int .i64 c, .int .i64 d, .int .i64 l, .int .u64 s] 72
  have HM := Lib.hid (fun w1 => Span.may_c a b c d true hm w1)
  have HS := Lib.hid (fun w1 => straight_in a b c d a b c d hm (lo_of_le h1) (lo_of_le h2) (hi_of_le h1) (hi_of_le h2) w1)
  have h0 : (a == a && b == b && c == c && d == d) = true := by simp
  have HL := Lib.hid (fun m hm w1 => Lab.may_c l s m hm w1)
  clear hm h1 h2
  go_enter Tryz.func37, Tryz.ntmps37
  go_wp2_with fail
  generalize w.alloc (.cells #[.int .i64 a, .int .i64 b, .int .i64 c, .int .i64 d, .int .i64 l, .int .u64 s] 72) = W at *
  obtain ⟨c0, c1, c2, c3, _⟩ := six hv
  have C0 := fun d os => cell_regrown c0 d os
  have C1 := fun d os => cell_regrown c1 d os
  have C2 := fun d os => cell_regrown c2 d os
  have C3 := fun d os => cell_regrown c3 d os
  clear c0 c1 c2 c3
  refine wp_region_quiet_below (by kernel_rfl) (by kernel_rfl) ?_
  repeat (go_big_quiet_step (first | (go_at_call 46; with_reducible exact Calls.regrown_of (HM.out _)) | (go_at_call 61; with_reducible exact Calls.regrown_of (HS.out _))))
  refine wpQuiet_nil ?_
  intro _ hw'
  obtain ⟨⟨dq, osq⟩, hw''⟩ := hw'
  subst hw''
  have hbr := below_regrown W dq osq
  replace hb0 := on hb0 hbr
  replace hv := hv.on hbr
  generalize Sort.grow (redrawn W dq) osq = V at *
  clear hbr C0 C1 C2 C3 HM HS
  obtain ⟨c0, c1, c2, c3, c4, c5⟩ := six hv
  have lv := hv.1
  clear hv
  rcases hw with ⟨h3, rfl⟩ | ⟨h3, h4, rfl⟩ | ⟨h3, h4, h5, rfl⟩ | ⟨h3, h4, h5, rfl⟩
  · have d3 : decide (rows ≤ c) = true := by simpa using h3
    go_wp2
    go_ret
    exact ⟨rfl, hb0⟩
  · have d3 : decide (rows ≤ c) = false := by simpa using h3
    have d4 : decide (cols ≤ d) = true := by simpa using h4
    go_wp2
    go_ret
    exact ⟨rfl, hb0⟩
  all_goals
    have d3 : decide (rows ≤ c) = false := by simpa using h3
    have d4 : decide (cols ≤ d) = false := by simpa using h4
    have HLm := Lib.hid (fun w1 => HL.out _ h5 w1)
    clear h3 h4 h5
    go_wp2_with fail
    refine (HLm.out _).mono ?_
    rintro e' w1 ⟨rfl, hb1⟩
    replace hb0 := on hb0 hb1
    clear c0 c1 c2 c3 c4 c5
    go_wp2
    go_ret
    exact ⟨rfl, hb0⟩
theorem why_c (k : Nat) (hk9 : k ≤ 140737488355328) (z : Zn) (rows cols e : Int) (he : whyI k z rows cols = e) (w : World) :
    Calls Tryz.prog 37 #[.int .i64 k, .agg #[.int .i64 z.a, .int .i64 z.b, .int .i64 z.c, .int .i64 z.d, .int .i64 z.l, .int .u64 z.s], .int .i64 rows, .int .i64 cols] w fun e' w' => e' = .returned (.int .i64 e) ∧ Below w.heap.size w w' := by
  obtain ⟨a, b, c, d, l, s⟩ := z
  subst he
  rcases why_cases k a b c d l s rows cols with ⟨h, e⟩ | ⟨h, hm, e⟩ | ⟨h, hm, h1, e⟩ | ⟨h, hm, h1, h2, e⟩ | ⟨h, hm, h1, h2, h3, e⟩ | ⟨h, hm, h1, h2, h3, h4, e⟩ | ⟨h, hm, h1, h2, h3, h4, h5, e⟩ | ⟨h, hm, h1, h2, h3, h4, h5, h6, e⟩ | ⟨h, hm, h1, h2, h3, h4, h5, h6, e⟩ <;> rw [e]
  · exact why_big k hk9 a b c d l s rows cols h w
  · exact why_form k hk9 a b c d l s rows cols h (.inl hm) w
  · exact why_form k hk9 a b c d l s rows cols h (.inr ⟨hm, .inl h1⟩) w
  · exact why_form k hk9 a b c d l s rows cols h (.inr ⟨hm, .inr h2⟩) w
  · exact why_good k hk9 a b c d l s rows cols 2 h hm h1 h2 (.inl ⟨h3, rfl⟩) w
  · exact why_good k hk9 a b c d l s rows cols 2 h hm h1 h2 (.inr (.inl ⟨h3, h4, rfl⟩)) w
  · exact why_good k hk9 a b c d l s rows cols 7 h hm h1 h2 (.inr (.inr (.inl ⟨h3, h4, mayL_neg h5, rfl⟩))) w
  · exact why_good k hk9 a b c d l s rows cols 7 h hm h1 h2 (.inr (.inr (.inl ⟨h3, h4, mayL_big h6, rfl⟩))) w
  · exact why_good k hk9 a b c d l s rows cols 0 h hm h1 h2 (.inr (.inr (.inr ⟨h3, h4, mayL_yes h5 h6, rfl⟩))) w
end Go.Proofs.YtmlmanlcomfhbaaGreatDoor.Zone

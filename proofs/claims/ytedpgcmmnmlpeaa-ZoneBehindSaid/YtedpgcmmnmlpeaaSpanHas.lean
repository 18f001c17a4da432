/- Whether a span is within another one, and whether a cell is in one, by the program: every span, every cell. -/
import Derived.Test.YtedpgcmmnmlpeaaSpanMeet
namespace Go.Proofs.Ytedpgcmmnmlpeaa.Span
open Go.RowKit Kit Reg Go.Proofs.Ytedpgcmmnmlpeaa.Addr

theorem meet_c (a b c d e f g h : Int) (x y z u : Int) (k : Bool) (hk : meetB a b c d e f g h = k)
    (hx : mlo k a c e g = x) (hy : mlo k b d f h = y) (hz : mhi k a c e g = z) (hu : mhi k b d f h = u) (w : World) :
    Calls Try.prog 38 #[.agg #[.int .i64 a, .int .i64 b, .int .i64 c, .int .i64 d], .agg #[.int .i64 e, .int .i64 f, .int .i64 g, .int .i64 h]] w (MeetEnd x y z u k w) := by
  cases h1 : mayS a b c d with
  | false =>
    have hk0 : k = false := by rw [← hk]; unfold meetB; rw [h1]; simp
    subst hk0 hx hy hz hu
    exact meet_none a b c d e f g h false h1 rfl w
  | true =>
    cases h2 : mayS e f g h with
    | false =>
      have hk0 : k = false := by rw [← hk]; unfold meetB; rw [h1, h2]; simp
      subst hk0 hx hy hz hu
      exact meet_none a b c d e f g h true h1 (by rw [h2]; rfl) w
    | true => exact meet_in a b c d e f g h h1 h2 x y z u k hk hx hy hz hu w
/-- how a span and another one compare, field by field -/
theorem four_ways (x y z u p q r s : Int) : (x = p ∧ y = q ∧ z = r ∧ u = s ∧ (x == p && y == q && z == r && u == s) = true) ∨
    ((x == p && y == q && z == r && u == s) = false ∧ ((x == p) = false ∨ ((x == p) = true ∧ (y == q) = false) ∨ ((x == p) = true ∧ (y == q) = true ∧ (z == r) = false) ∨ ((x == p) = true ∧ (y == q) = true ∧ (z == r) = true ∧ (u == s) = false))) := by
  by_cases h1 : x = p
  · by_cases h2 : y = q
    · by_cases h3 : z = r
      · by_cases h4 : u = s
        · left; exact ⟨h1, h2, h3, h4, by simp [h1, h2, h3, h4]⟩
        · right; simp [h1, h2, h3, h4]
      · right; simp [h1, h2, h3]
    · right; simp [h1, h2]
  · right; simp [h1]
set_option maxRecDepth 100000 in
set_option maxHeartbeats 2000000 in
theorem within_c (a b c d e f g h : Int) (k : Bool) (hk : withB a b c d e f g h = k) (w : World) :
    Calls Try.prog 31 #[.agg #[.int .i64 a, .int .i64 b, .int .i64 c, .int .i64 d], .agg #[.int .i64 e, .int .i64 f, .int .i64 g, .int .i64 h]] w fun e w' => e = .returned (.bool k) ∧ Below w.heap.size w w' := by
  have hb0 := below2 w (.cells #[.int .i64 a, .int .i64 b, .int .i64 c, .int .i64 d] 26) (.cells #[.int .i64 e, .int .i64 f, .int .i64 g, .int .i64 h] 26)
  have ha := (CellsAt.new w [.int .i64 a, .int .i64 b, .int .i64 c, .int .i64 d] 26).on_alloc (.cells #[.int .i64 e, .int .i64 f, .int .i64 g, .int .i64 h] 26)
  cases hm : meetB a b c d e f g h with
  | false =>
    have hk0 : k = false := by rw [← hk]; unfold withB; rw [hm]; rfl
    subst hk0
    have HM := Lib.hid (fun w1 => meet_c a b c d e f g h 0 0 0 0 false hm rfl rfl rfl rfl w1)
    clear hm hk
    go_enter Try.func31, Try.ntmps31
    go_wp2_with fail
    refine (HM.out _).mono ?_
    rintro e' w1 ⟨rfl, hb1⟩
    replace hb0 := on_alloc (on hb0 hb1) (.cells #[.int .i64 0, .int .i64 0, .int .i64 0, .int .i64 0] 26)
    clear ha hb1
    go_wp2_with fail
    refine wp_region_quiet_below (by kernel_rfl) (by kernel_rfl) ?_
    repeat (go_big_quiet_step (first | fail))
    refine wpQuiet_nil ?_
    intro _ hw'
    obtain ⟨⟨dq, osq⟩, hw''⟩ := hw'
    subst hw''
    go_wp2
    go_ret
    exact ⟨rfl, on hb0 (below_regrown _ dq osq)⟩
  | true =>
    have hw := four_ways (mlo true a c e g) (mlo true b d f h) (mhi true a c e g) (mhi true b d f h) (lo true a c) (lo true b d) (hi true a c) (hi true b d)
    have hk' : (mlo true a c e g == lo true a c && mlo true b d f h == lo true b d && mhi true a c e g == hi true a c && mhi true b d f h == hi true b d) = k := by
      rw [← hk]; unfold withB; rw [hm, Bool.true_and]
    rw [hk'] at hw
    have HM := Lib.hid (fun w1 => meet_c a b c d e f g h _ _ _ _ true hm rfl rfl rfl rfl w1)
    have HS := Lib.hid (fun w1 => straight_in a b c d _ _ _ _ (meetB_iff.1 hm).1 rfl rfl rfl rfl w1)
    clear hm hk hk'
    generalize mlo true a c e g = x at *
    generalize mlo true b d f h = y at *
    generalize mhi true a c e g = z at *
    generalize mhi true b d f h = u at *
    generalize lo true a c = p at *
    generalize lo true b d = q at *
    generalize hi true a c = r at *
    generalize hi true b d = s at *
    go_enter Try.func31, Try.ntmps31
    go_wp2_with fail
    refine (HM.out _).mono ?_
    rintro e' w1 ⟨rfl, hb1⟩
    replace ha := (ha.on hb1).on_alloc (.cells #[.int .i64 x, .int .i64 y, .int .i64 z, .int .i64 u] 26)
    have hv := CellsAt.new w1 [.int .i64 x, .int .i64 y, .int .i64 z, .int .i64 u] 26
    replace hb0 := on_alloc (on hb0 hb1) (.cells #[.int .i64 x, .int .i64 y, .int .i64 z, .int .i64 u] 26)
    obtain ⟨c0, c1, c2, c3, _⟩ := ha.four
    obtain ⟨d0, d1, d2, d3, _⟩ := hv.four
    clear ha hv hb1
    go_wp2_with fail
    generalize (w1.alloc (.cells [.int .i64 x, .int .i64 y, .int .i64 z, .int .i64 u].toArray 26)) = W at *
    have C0 := fun d os => cell_regrown c0 d os
    have C1 := fun d os => cell_regrown c1 d os
    have C2 := fun d os => cell_regrown c2 d os
    have C3 := fun d os => cell_regrown c3 d os
    have D0 := fun d os => cell_regrown d0 d os
    have D1 := fun d os => cell_regrown d1 d os
    have D2 := fun d os => cell_regrown d2 d os
    have D3 := fun d os => cell_regrown d3 d os
    clear c0 c1 c2 c3 d0 d1 d2 d3
    rcases hw with ⟨rfl, rfl, rfl, rfl, hk⟩ | ⟨hk, h1 | ⟨h1, h2⟩ | ⟨h1, h2, h3⟩ | ⟨h1, h2, h3, h4⟩⟩
    all_goals
      subst hk
      refine wp_region_quiet_below (by kernel_rfl) (by kernel_rfl) ?_
      repeat (go_big_quiet_step (first | (go_at_call 33; with_reducible exact Calls.regrown_of (HS.out _))))
      refine wpQuiet_nil ?_
      intro _ hw'
      obtain ⟨⟨dq, osq⟩, hw''⟩ := hw'
      subst hw''
      go_wp2
      go_ret
      exact ⟨rfl, on hb0 (below_regrown W dq osq)⟩
set_option maxRecDepth 100000 in
set_option maxHeartbeats 1000000 in
theorem has_c (a b c d x y : Int) (k : Bool) (hk : hasB a b c d x y = k) (w : World) :
    Calls Try.prog 25 #[.agg #[.int .i64 a, .int .i64 b, .int .i64 c, .int .i64 d], .agg #[.int .i64 x, .int .i64 y]] w fun e w' => e = .returned (.bool k) ∧ Below w.heap.size w w' := by
  rw [← with_cell] at hk
  have HW := Lib.hid (fun w1 => within_c x y x y a b c d k hk w1)
  have hb0 := below2 w (.cells #[.int .i64 a, .int .i64 b, .int .i64 c, .int .i64 d] 26) (.cells #[.int .i64 x, .int .i64 y] 24)
  clear hk
  go_enter Try.func25, Try.ntmps25
  go_wp2_with fail
  refine (HW.out _).mono ?_
  rintro e' w1 ⟨rfl, hb1⟩
  replace hb0 := on hb0 hb1
  go_wp2
  go_ret
  exact ⟨rfl, hb0⟩
end Go.Proofs.Ytedpgcmmnmlpeaa.Span

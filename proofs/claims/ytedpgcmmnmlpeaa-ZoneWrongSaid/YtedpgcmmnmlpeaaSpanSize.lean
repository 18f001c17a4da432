/- How many rows, columns and cells a span has, and the meeting of two, by the program: every span. -/
import Derived.Test.YtedpgcmmnmlpeaaSpanLeaf
namespace Go.Proofs.Ytedpgcmmnmlpeaa.Span
open Go.RowKit Kit Reg Go.Proofs.Ytedpgcmmnmlpeaa.Addr

theorem ext_true (a c : Int) : ext true a c = hi true a c - lo true a c + 1 := rfl
set_option maxRecDepth 100000 in
set_option maxHeartbeats 1000000 in
theorem rows_c (a b c d : Int) (m : Bool) (n : Int) (hm : mayS a b c d = m) (hn : ext m a c = n) (w : World) :
    Calls Try.prog 35 #[.agg #[.int .i64 a, .int .i64 b, .int .i64 c, .int .i64 d]] w fun e w' => e = .returned (.int .i64 n) ∧ Below w.heap.size w w' := by
  cases m with
  | false =>
    have Hm := Lib.hid (fun w1 => may_c a b c d false hm w1)
    subst hn
    clear hm
    go_enter Try.func35, Try.ntmps35
    go_wp2_with fail
    refine (Hm.out _).mono ?_
    rintro e w1 ⟨rfl, hb1⟩
    have hb0 := on (below1 w _) hb1
    go_wp2
    go_ret
    exact ⟨rfl, hb0⟩
  | true =>
    obtain ⟨r1, r2, r3, r4, r5, r6⟩ := lo_range hm
    have Hm := Lib.hid (fun w1 => may_c a b c d true hm w1)
    have Hs := Lib.hid (fun w1 => straight_in a b c d _ _ _ _ hm rfl rfl rfl rfl w1)
    rw [ext_true] at hn
    clear hm
    generalize lo true a c = p at *
    generalize lo true b d = q at *
    generalize hi true a c = r at *
    generalize hi true b d = s at *
    go_enter Try.func35, Try.ntmps35
    go_wp2_with fail
    have hb0 := below1 w (.cells #[.int .i64 a, .int .i64 b, .int .i64 c, .int .i64 d] 26)
    have hz := CellsAt.new w [.int .i64 a, .int .i64 b, .int .i64 c, .int .i64 d] 26
    refine (Hm.out _).mono ?_
    rintro e w1 ⟨rfl, hb1⟩
    replace hb0 := on hb0 hb1
    replace hz := hz.on hb1
    clear hb1
    obtain ⟨c0, c1, c2, c3, _⟩ := hz.four
    go_wp2_with fail
    refine (Hs.out _).mono ?_
    rintro e w2 ⟨rfl, hb2⟩
    replace hb0 := on hb0 hb2
    replace hz := hz.on hb2
    clear hb2 c0 c1 c2 c3
    obtain ⟨c0, c1, c2, c3, f0, f1, f2, f3⟩ := hz.four
    obtain ⟨e0, e1, e2, e3, _⟩ := (hz.put4 (.int .i64 p) (.int .i64 q) (.int .i64 r) (.int .i64 s)).four
    replace hb0 := put4_below hb0 (Nat.le_refl _) (.int .i64 p) (.int .i64 q) (.int .i64 r) (.int .i64 s)
    go_wp2
    go_ret
    exact ⟨rfl, hb0⟩
set_option maxRecDepth 100000 in
set_option maxHeartbeats 1000000 in
theorem cols_c (a b c d : Int) (m : Bool) (n : Int) (hm : mayS a b c d = m) (hn : ext m b d = n) (w : World) :
    Calls Try.prog 36 #[.agg #[.int .i64 a, .int .i64 b, .int .i64 c, .int .i64 d]] w fun e w' => e = .returned (.int .i64 n) ∧ Below w.heap.size w w' := by
  cases m with
  | false =>
    have Hm := Lib.hid (fun w1 => may_c a b c d false hm w1)
    subst hn
    clear hm
    go_enter Try.func36, Try.ntmps36
    go_wp2_with fail
    refine (Hm.out _).mono ?_
    rintro e w1 ⟨rfl, hb1⟩
    have hb0 := on (below1 w _) hb1
    go_wp2
    go_ret
    exact ⟨rfl, hb0⟩
  | true =>
    obtain ⟨r1, r2, r3, r4, r5, r6⟩ := lo_range hm
    have Hm := Lib.hid (fun w1 => may_c a b c d true hm w1)
    have Hs := Lib.hid (fun w1 => straight_in a b c d _ _ _ _ hm rfl rfl rfl rfl w1)
    rw [ext_true] at hn
    clear hm
    generalize lo true a c = p at *
    generalize lo true b d = q at *
    generalize hi true a c = r at *
    generalize hi true b d = s at *
    go_enter Try.func36, Try.ntmps36
    go_wp2_with fail
    have hb0 := below1 w (.cells #[.int .i64 a, .int .i64 b, .int .i64 c, .int .i64 d] 26)
    have hz := CellsAt.new w [.int .i64 a, .int .i64 b, .int .i64 c, .int .i64 d] 26
    refine (Hm.out _).mono ?_
    rintro e w1 ⟨rfl, hb1⟩
    replace hb0 := on hb0 hb1
    replace hz := hz.on hb1
    clear hb1
    obtain ⟨c0, c1, c2, c3, _⟩ := hz.four
    go_wp2_with fail
    refine (Hs.out _).mono ?_
    rintro e w2 ⟨rfl, hb2⟩
    replace hb0 := on hb0 hb2
    replace hz := hz.on hb2
    clear hb2 c0 c1 c2 c3
    obtain ⟨c0, c1, c2, c3, f0, f1, f2, f3⟩ := hz.four
    obtain ⟨e0, e1, e2, e3, _⟩ := (hz.put4 (.int .i64 p) (.int .i64 q) (.int .i64 r) (.int .i64 s)).four
    replace hb0 := put4_below hb0 (Nat.le_refl _) (.int .i64 p) (.int .i64 q) (.int .i64 r) (.int .i64 s)
    go_wp2
    go_ret
    exact ⟨rfl, hb0⟩
theorem ext_rows {a b c d : Int} {m : Bool} (hm : mayS a b c d = m) : 0 ≤ ext m a c ∧ ext m a c ≤ 999 := by
  cases m with
  | false => rw [ext_false]; decide
  | true => have h := lo_range hm; rw [ext_true]; omega
theorem ext_cols {a b c d : Int} {m : Bool} (hm : mayS a b c d = m) : 0 ≤ ext m b d ∧ ext m b d ≤ 702 := by
  cases m with
  | false => rw [ext_false]; decide
  | true => have h := lo_range hm; rw [ext_true]; omega
set_option maxRecDepth 100000 in
set_option maxHeartbeats 1000000 in
theorem size_c (a b c d : Int) (m : Bool) (n : Int) (hm : mayS a b c d = m) (hn : ext m a c * ext m b d = n) (w : World) :
    Calls Try.prog 27 #[.agg #[.int .i64 a, .int .i64 b, .int .i64 c, .int .i64 d]] w fun e w' => e = .returned (.int .i64 n) ∧ Below w.heap.size w w' := by
  have Hr := Lib.hid (fun w1 => rows_c a b c d m _ hm rfl w1)
  have Hc := Lib.hid (fun w1 => cols_c a b c d m _ hm rfl w1)
  obtain ⟨x0, x1⟩ : 0 ≤ ext m a c ∧ ext m a c ≤ 999 := ext_rows hm
  obtain ⟨y0, y1⟩ : 0 ≤ ext m b d ∧ ext m b d ≤ 702 := ext_cols hm
  have hmul : 0 ≤ ext m a c * ext m b d ∧ ext m a c * ext m b d ≤ 701298 := ⟨Int.mul_nonneg x0 y0, by
    have := Int.mul_le_mul x1 y1 y0 (by omega : (0 : Int) ≤ 999)
    omega⟩
  clear hm
  generalize ext m a c = x at *
  generalize ext m b d = y at *
  go_enter Try.func27, Try.ntmps27
  go_wp2_with fail
  have hb0 := below1 w (.cells #[.int .i64 a, .int .i64 b, .int .i64 c, .int .i64 d] 26)
  obtain ⟨c0, c1, c2, c3, _⟩ := (CellsAt.new w [.int .i64 a, .int .i64 b, .int .i64 c, .int .i64 d] 26).four
  generalize (w.alloc (.cells [.int .i64 a, .int .i64 b, .int .i64 c, .int .i64 d].toArray 26)) = W at *
  have C0 := fun d os => cell_regrown c0 d os
  have C1 := fun d os => cell_regrown c1 d os
  have C2 := fun d os => cell_regrown c2 d os
  have C3 := fun d os => cell_regrown c3 d os
  clear c0 c1 c2 c3
  refine wp_region_quiet_below (by kernel_rfl) (by kernel_rfl) ?_
  repeat (go_big_quiet_step (first | (go_at_call 35; with_reducible exact Calls.regrown_of (Hr.out _)) | (go_at_call 36; with_reducible exact Calls.regrown_of (Hc.out _))))
  refine wpQuiet_nil ?_
  intro _ hw'
  obtain ⟨⟨dq, osq⟩, hw''⟩ := hw'
  subst hw''
  go_wp2
  go_ret
  exact ⟨rfl, on hb0 (below_regrown W dq osq)⟩
end Go.Proofs.Ytedpgcmmnmlpeaa.Span

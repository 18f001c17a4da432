/- SpanTells: the law returns true for every span and every cell, and makes new memory alone. -/
import Derived.Test.YtkebapdbibdheaaDoorSpanAlive
import Derived.Test.YtkebapdbibdheaaDoorSpanHas
namespace Go.Proofs.YtkebapdbibdheaaDoor.Span
open Go.RowKit Kit Reg Go.Proofs.YtkebapdbibdheaaDoor.Addr Cats

set_option maxRecDepth 100000 in
set_option maxHeartbeats 4000000 in
theorem tells_c (a b c d x y : Int) (w : World) (hL : Libs w) : Calls Tryd.prog 3 #[.agg #[.int .i64 a, .int .i64 b, .int .i64 c, .int .i64 d], .agg #[.int .i64 x, .int .i64 y]] w fun e w' => e = .returned (.bool true) ∧ Below w.heap.size w w' := by
  have HA := Lib.hid (fun w1 h => alive_c w1 h)
  have HL := Lib.hid hL
  clear hL
  obtain ⟨m, hm⟩ : ∃ m, mayS a b c d = m := ⟨_, rfl⟩
  obtain ⟨e0, e1⟩ := ext_rows hm
  obtain ⟨e2, e3⟩ := ext_cols hm
  have hmul : 0 ≤ ext m a c * ext m b d ∧ ext m a c * ext m b d ≤ 701298 := ⟨Int.mul_nonneg e0 e2, by
    have := Int.mul_le_mul e1 e3 e2 (by omega : (0 : Int) ≤ 999)
    omega⟩
  have HM := Lib.hid (fun w1 => may_c a b c d m hm w1)
  have HRM := Lib.hid (fun w1 => rmay_c a b c d m hm w1)
  have HS := Lib.hid (fun w1 => straight_c a b c d m _ _ _ _ hm rfl rfl rfl rfl w1)
  have HRS := Lib.hid (fun w1 => rstraight_c a b c d m _ _ _ _ hm rfl rfl rfl rfl w1)
  have HH := Lib.hid (fun w1 => has_c a b c d x y _ rfl w1)
  have HRH := Lib.hid (fun w1 => rhas_c a b c d x y _ rfl w1)
  have HR := Lib.hid (fun w1 => rows_c a b c d m _ hm rfl w1)
  have HRR := Lib.hid (fun w1 => rrows_c a b c d m _ hm rfl w1)
  have HC := Lib.hid (fun w1 => cols_c a b c d m _ hm rfl w1)
  have HRC := Lib.hid (fun w1 => rcols_c a b c d m _ hm rfl w1)
  have HZ := Lib.hid (fun w1 => size_c a b c d m _ hm rfl w1)
  generalize hasB a b c d x y = h at *
  generalize lo m a c = p at *
  generalize lo m b d = q at *
  generalize hi m a c = r at *
  generalize hi m b d = s at *
  generalize ext m a c = X at *
  generalize ext m b d = Y at *
  clear hm
  go_enter Tryd.func3, Tryd.ntmps3
  go_wp2_with fail
  have hb0 := below2 w (.cells #[.int .i64 a, .int .i64 b, .int .i64 c, .int .i64 d] 25) (.cells #[.int .i64 x, .int .i64 y] 23)
  obtain ⟨c0, c1, c2, c3, _⟩ := ((CellsAt.new w [.int .i64 a, .int .i64 b, .int .i64 c, .int .i64 d] 25).on_alloc (.cells #[.int .i64 x, .int .i64 y] 23)).four
  obtain ⟨c4, c5, _, _⟩ := (CellsAt.new (w.alloc (.cells #[.int .i64 a, .int .i64 b, .int .i64 c, .int .i64 d] 25)) [.int .i64 x, .int .i64 y] 23).two
  rw [show (w.alloc (.cells #[.int .i64 a, .int .i64 b, .int .i64 c, .int .i64 d] 25)).heap.size = w.heap.size + 1 by simp] at c4 c5
  generalize (w.alloc (.cells #[.int .i64 a, .int .i64 b, .int .i64 c, .int .i64 d] 25)).alloc (.cells [.int .i64 x, .int .i64 y].toArray 23) = W at *
  have HLW := Lib.hid (HL.out.grown hb0)
  replace c0 := fun d os => cell_regrown c0 d os
  replace c1 := fun d os => cell_regrown c1 d os
  replace c2 := fun d os => cell_regrown c2 d os
  replace c3 := fun d os => cell_regrown c3 d os
  replace c4 := fun d os => cell_regrown c4 d os
  replace c5 := fun d os => cell_regrown c5 d os
  refine wp_region_quiet_below (by kernel_rfl) (by kernel_rfl) ?_
  repeat (go_big_quiet_step (first | (go_at_call 7; with_reducible exact Calls.regrown_of (HRR.out _)) | (go_at_call 8; with_reducible exact Calls.regrown_of (HRC.out _))))
  refine wpQuiet_nil ?_
  intro _ hw'
  obtain ⟨⟨dq, osq⟩, hw''⟩ := hw'
  subst hw''
  have hb1 := on hb0 (below_regrown W dq osq)
  have HLV := Lib.hid (HLW.out.regrown dq osq)
  replace c0 := c0 dq osq
  replace c1 := c1 dq osq
  replace c2 := c2 dq osq
  replace c3 := c3 dq osq
  replace c4 := c4 dq osq
  replace c5 := c5 dq osq
  generalize Sort.grow (redrawn W dq) osq = V at *
  replace c0 := fun d os => cell_regrown c0 d os
  replace c1 := fun d os => cell_regrown c1 d os
  replace c2 := fun d os => cell_regrown c2 d os
  replace c3 := fun d os => cell_regrown c3 d os
  replace c4 := fun d os => cell_regrown c4 d os
  replace c5 := fun d os => cell_regrown c5 d os
  clear HLW hb0
  go_wp2_with fail
  refine wp_region_quiet_below (by kernel_rfl) (by kernel_rfl) ?_
  repeat (go_big_quiet_step (first | (go_at_call 9; with_reducible exact Calls.regrown_of (HM.out _)) | (go_at_call 10; with_reducible exact Calls.regrown_of (HRM.out _)) | (go_at_call 11; with_reducible exact Calls.regrown_of (HS.out _)) | (go_at_call 12; with_reducible exact Calls.regrown_of (HRS.out _)) | (go_at_call 13; with_reducible exact Calls.regrown_of (HH.out _)) | (go_at_call 14; with_reducible exact Calls.regrown_of (HRH.out _)) | (go_at_call 15; with_reducible exact Calls.regrown_of (HR.out _)) | (go_at_call 7; with_reducible exact Calls.regrown_of (HRR.out _)) | (go_at_call 16; with_reducible exact Calls.regrown_of (HC.out _)) | (go_at_call 8; with_reducible exact Calls.regrown_of (HRC.out _)) | (go_at_call 17; with_reducible exact Calls.regrown_of (HZ.out _)) | (go_at_call 18; with_reducible exact Calls.regrown_of (HA.out _ (HLV.out.regrown _ _)))))
  refine wpQuiet_nil ?_
  intro _ hw'
  obtain ⟨⟨dr, osr⟩, hw''⟩ := hw'
  subst hw''
  go_wp2
  go_ret
  exact ⟨rfl, on hb1 (below_regrown V dr osr)⟩
end Go.Proofs.YtkebapdbibdheaaDoor.Span

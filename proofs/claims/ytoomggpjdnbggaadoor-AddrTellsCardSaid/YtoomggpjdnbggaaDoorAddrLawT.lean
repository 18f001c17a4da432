/- AddrTells: the law returns true for any two cells, and makes new memory alone. -/
import Derived.Test.YtoomggpjdnbggaaDoorAddrAlive
import Derived.Test.YtoomggpjdnbggaaDoorAddrRef
namespace Go.Proofs.YtoomggpjdnbggaaDoor.Addr
open Go.RowKit Kit Cats

theorem letters_cb (c : Int) (w : World) : Calls Tryd.prog 10 #[.int .i64 c] w fun e w' => e = .returned (.string ⟨(colT c).toArray⟩) ∧ Below w.heap.size w w' :=
  (letters_c c w).mono fun e w' ⟨h1, h2⟩ => ⟨h1, by rw [h2]; exact Below.refl _ _⟩
/-- two cells are one, or just one of them stands ahead -/
theorem less_three (a0 a1 b0 b1 : Int) : ((a0 == b0) = true ∧ (a1 == b1) = true ∧ lessB a0 a1 b0 b1 = false ∧ lessB b0 b1 a0 a1 = false) ∨
    (((a0 == b0) = false ∨ ((a0 == b0) = true ∧ (a1 == b1) = false)) ∧ ((lessB a0 a1 b0 b1 = true ∧ lessB b0 b1 a0 a1 = false) ∨ (lessB a0 a1 b0 b1 = false ∧ lessB b0 b1 a0 a1 = true))) := by
  by_cases h0 : a0 = b0
  · subst h0
    by_cases h1 : a1 = b1
    · subst h1
      left; simp [lessB]
    · right
      refine ⟨.inr ⟨by simp, by simpa using h1⟩, ?_⟩
      by_cases h2 : a1 < b1
      · left; simp [lessB, h2]; omega
      · right; simp [lessB, h2]; omega
  · right
    refine ⟨.inl (by simpa using h0), ?_⟩
    have h0' : ¬ b0 = a0 := fun e => h0 e.symm
    by_cases h2 : a0 < b0
    · left; simp [lessB, h0, h0', h2]; omega
    · right; simp [lessB, h0, h0', h2]; omega
set_option maxRecDepth 100000 in
set_option maxHeartbeats 4000000 in
theorem tells_c (a0 a1 b0 b1 : Int) (w : World) (hL : Libs w) : Calls Tryd.prog 3 #[.agg #[.int .i64 a0, .int .i64 a1], .agg #[.int .i64 b0, .int .i64 b1]] w fun e w' => e = .returned (.bool true) ∧ Below w.heap.size w w' := by
  have HA := Lib.hid (fun w1 h => alive_c w1 h)
  have HL := Lib.hid hL
  clear hL
  have H3 := less_three a0 a1 b0 b1
  have HM := Lib.hid (fun w1 => may_c a0 a1 _ rfl w1)
  have HRM := Lib.hid (fun w1 => rmay_c a0 a1 _ rfl w1)
  have HN := Lib.hid (fun w1 h => name_c a0 a1 w1 h)
  have HRN := Lib.hid (fun w1 => rname_c a0 a1 w1)
  have HC := Lib.hid (fun w1 => letters_cb a1 w1)
  have HRC := Lib.hid (fun w1 => rletters_c a1 w1)
  have HX := Lib.hid (fun w1 => less_c a0 a1 b0 b1 _ rfl w1)
  have HRX := Lib.hid (fun w1 => rless_c a0 a1 b0 b1 _ rfl w1)
  have HY := Lib.hid (fun w1 => less_c b0 b1 a0 a1 _ rfl w1)
  generalize mayB a0 a1 = m at *
  generalize nameI a0 a1 = S at *
  generalize colT a1 = T at *
  generalize lessB a0 a1 b0 b1 = x at *
  generalize lessB b0 b1 a0 a1 = y at *
  have H3' := Lib.hid H3
  clear H3
  go_enter Tryd.func3, Tryd.ntmps3
  go_wp2_with fail
  have hb0 := below2 w (.cells #[.int .i64 a0, .int .i64 a1] 23) (.cells #[.int .i64 b0, .int .i64 b1] 23)
  obtain ⟨c0, c1, _, _⟩ := ((CellsAt.new w [.int .i64 a0, .int .i64 a1] 23).on_alloc (.cells #[.int .i64 b0, .int .i64 b1] 23)).two
  obtain ⟨c2, c3, _, _⟩ := (CellsAt.new (w.alloc (.cells #[.int .i64 a0, .int .i64 a1] 23)) [.int .i64 b0, .int .i64 b1] 23).two
  rw [show (w.alloc (.cells #[.int .i64 a0, .int .i64 a1] 23)).heap.size = w.heap.size + 1 by simp] at c2 c3
  generalize (w.alloc (.cells #[.int .i64 a0, .int .i64 a1] 23)).alloc (.cells [.int .i64 b0, .int .i64 b1].toArray 23) = W at *
  have C0 := fun d os => cell_regrown c0 d os
  have C1 := fun d os => cell_regrown c1 d os
  have C2 := fun d os => cell_regrown c2 d os
  have C3 := fun d os => cell_regrown c3 d os
  have HLW := Lib.hid (HL.out.grown hb0)
  clear c0 c1 c2 c3
  refine wp_region_quiet_below (by kernel_rfl) (by kernel_rfl) ?_
  repeat (go_big_quiet_step (first | (go_at_call 6; with_reducible exact Calls.regrown_of (HM.out _)) | (go_at_call 7; with_reducible exact Calls.regrown_of (HRM.out _)) | (go_at_call 8; with_reducible exact Calls.regrown_of (HN.out _ (HLW.out.regrown _ _))) | (go_at_call 9; with_reducible exact Calls.regrown_of (HRN.out _)) | (go_at_call 10; with_reducible exact Calls.regrown_of (HC.out _)) | (go_at_call 11; with_reducible exact Calls.regrown_of (HRC.out _)) | (go_at_call 12; with_reducible exact Calls.regrown_of (HX.out _)) | (go_at_call 13; with_reducible exact Calls.regrown_of (HRX.out _))))
  refine wpQuiet_nil ?_
  intro _ hw'
  obtain ⟨⟨dq, osq⟩, hw''⟩ := hw'
  subst hw''
  have hb1 := on hb0 (below_regrown W dq osq)
  have HLV := Lib.hid (HLW.out.regrown dq osq)
  replace C0 := C0 dq osq
  replace C1 := C1 dq osq
  replace C2 := C2 dq osq
  replace C3 := C3 dq osq
  generalize Sort.grow (redrawn W dq) osq = V at *
  replace C0 := fun d os => cell_regrown C0 d os
  replace C1 := fun d os => cell_regrown C1 d os
  replace C2 := fun d os => cell_regrown C2 d os
  replace C3 := fun d os => cell_regrown C3 d os
  clear HM HRM HN HRN HC HRC HRX HLW
  rcases H3'.out with ⟨e0, e1, rfl, rfl⟩ | ⟨he, hxy⟩
  · clear H3'
    go_wp2_with fail
    refine wp_region_quiet_below (by kernel_rfl) (by kernel_rfl) ?_
    repeat (go_big_quiet_step (first | (go_at_call 12; with_reducible exact Calls.regrown_of (HX.out _)) | (go_at_call 12; with_reducible exact Calls.regrown_of (HY.out _)) | (go_at_call 14; with_reducible exact Calls.regrown_of (HA.out _ (HLV.out.regrown _ _)))))
    refine wpQuiet_nil ?_
    intro _ hw'
    obtain ⟨⟨dr, osr⟩, hw''⟩ := hw'
    subst hw''
    go_wp2
    go_ret
    exact ⟨rfl, on hb1 (below_regrown V dr osr)⟩
  · clear H3'
    rcases he with e0 | ⟨e0, e1⟩ <;> rcases hxy with ⟨rfl, rfl⟩ | ⟨rfl, rfl⟩
    all_goals
      go_wp2_with fail
      refine wp_region_quiet_below (by kernel_rfl) (by kernel_rfl) ?_
      repeat (go_big_quiet_step (first | (go_at_call 12; with_reducible exact Calls.regrown_of (HX.out _)) | (go_at_call 12; with_reducible exact Calls.regrown_of (HY.out _)) | (go_at_call 14; with_reducible exact Calls.regrown_of (HA.out _ (HLV.out.regrown _ _)))))
      refine wpQuiet_nil ?_
      intro _ hw'
      obtain ⟨⟨dr, osr⟩, hw''⟩ := hw'
      subst hw''
      go_wp2
      go_ret
      exact ⟨rfl, on hb1 (below_regrown V dr osr)⟩
end Go.Proofs.YtoomggpjdnbggaaDoor.Addr

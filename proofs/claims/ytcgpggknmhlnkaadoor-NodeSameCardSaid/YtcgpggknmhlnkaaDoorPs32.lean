/- What package value's May answers: for every value. Written by wip/genval1.py. -/
import Derived.Test.YtcgpggknmhlnkaaDoorPs31
import Derived.StillTail
import Derived.Lib.QuietBelow
import Derived.Deep.QuietTactic
import Derived.BigQuiet
namespace Go.Proofs.YtcgpggknmhlnkaaDoor.Val
open Go.RowKit Kit Dec Dig
theorem empty_or (t : ByteArray) : t = ⟨#[]⟩ ∨ (¬ t.toList = [] ∧ decide (t.size = 0) = false) := by
  by_cases h : t.size = 0
  · left
    apply ByteArray.ext
    exact Array.eq_empty_of_size_eq_zero h
  · right
    refine ⟨fun e => h ?_, decide_eq_false h⟩
    rw [Lib.toList_data] at e
    show t.data.size = 0
    rw [← Array.length_toList, e]
    rfl
/-- whether one may be, or not -/
def Bit (b : Bool) (w : World) : Ending → World → Prop := fun e w' => e = .returned (.bool b) ∧ Below w.heap.size w w'

set_option maxRecDepth 100000 in
set_option maxHeartbeats 4000000 in
theorem mayv_0 (n : Int) (t : ByteArray) (w : World) : Calls Tryd.prog 27 #[.agg #[.int .i64 0, .int .i64 n, .string t]] w (Bit (mayV 0 n t) w) := by
  by_cases hn : n = 0
  · subst hn
    rcases empty_or t with rfl | ⟨ht, hz⟩
    · skip
      go_enter Tryd.func27, Tryd.ntmps27
      go_wp2
      go_ret
      exact ⟨ret_bool (by first | rfl | (simp [mayV, *]; done) | (unfold mayV; rw [size_none]; simp [*]; done) | (unfold mayV; rw [hz]; simp; done)), below1 _ _⟩
    · skip
      go_enter Tryd.func27, Tryd.ntmps27
      go_wp2
      go_ret
      exact ⟨ret_bool (by first | rfl | (simp [mayV, *]; done) | (unfold mayV; rw [size_none]; simp [*]; done) | (unfold mayV; rw [hz]; simp; done)), below1 _ _⟩
  · skip
    rcases empty_or t with rfl | ⟨ht, hz⟩
    · skip
      go_enter Tryd.func27, Tryd.ntmps27
      go_wp2
      go_ret
      exact ⟨ret_bool (by first | rfl | (simp [mayV, *]; done) | (unfold mayV; rw [size_none]; simp [*]; done) | (unfold mayV; rw [hz]; simp; done)), below1 _ _⟩
    · skip
      go_enter Tryd.func27, Tryd.ntmps27
      go_wp2
      go_ret
      exact ⟨ret_bool (by first | rfl | (simp [mayV, *]; done) | (unfold mayV; rw [size_none]; simp [*]; done) | (unfold mayV; rw [hz]; simp; done)), below1 _ _⟩
set_option maxRecDepth 100000 in
set_option maxHeartbeats 4000000 in
theorem mayv_1 (n : Int) (t : ByteArray) (w : World) : Calls Tryd.prog 27 #[.agg #[.int .i64 1, .int .i64 n, .string t]] w (Bit (mayV 1 n t) w) := by
  cases hm : mayD n
  · have HN := Lib.hid (fun w1 => num_c n 4 4 (num_out hm) w1)
    rcases empty_or t with rfl | ⟨ht, hz⟩
    · skip
      go_enter Tryd.func27, Tryd.ntmps27
      go_wp2_with fail
      have hA := CellsAt.new w [.int .i64 1, .int .i64 n, .string ⟨#[]⟩] 23
      have hb0 := below1 w (.cells #[.int .i64 1, .int .i64 n, .string ⟨#[]⟩] 23)
      obtain ⟨p0, p1, p2, _, _, _⟩ := hA.three
      clear hA
      generalize w.alloc (.cells #[.int .i64 1, .int .i64 n, .string ⟨#[]⟩] 23) = W at *
      have C0 := fun d os => cell_regrown p0 d os
      have C1 := fun d os => cell_regrown p1 d os
      have C2 := fun d os => cell_regrown p2 d os
      clear p0 p1 p2
      refine wp_region_quiet_below (by kernel_rfl) (by kernel_rfl) ?_
      repeat (go_big_quiet_step (first | (go_at_call 34; with_reducible exact Calls.regrown_of (HN.out _))))
      refine wpQuiet_nil ?_
      intro _ hw'
      obtain ⟨⟨dq, osq⟩, hw''⟩ := hw'
      subst hw''
      go_wp2
      go_ret
      exact ⟨ret_bool (by first | rfl | (simp [mayV, *]; done) | (unfold mayV; rw [size_none]; simp [*]; done) | (unfold mayV; rw [hz]; simp; done)), hb0.trans ((below_regrown W dq osq).mono hb0.size)⟩
    · skip
      go_enter Tryd.func27, Tryd.ntmps27
      go_wp2_with fail
      have hA := CellsAt.new w [.int .i64 1, .int .i64 n, .string t] 23
      have hb0 := below1 w (.cells #[.int .i64 1, .int .i64 n, .string t] 23)
      obtain ⟨p0, p1, p2, _, _, _⟩ := hA.three
      clear hA
      generalize w.alloc (.cells #[.int .i64 1, .int .i64 n, .string t] 23) = W at *
      have C0 := fun d os => cell_regrown p0 d os
      have C1 := fun d os => cell_regrown p1 d os
      have C2 := fun d os => cell_regrown p2 d os
      clear p0 p1 p2
      refine wp_region_quiet_below (by kernel_rfl) (by kernel_rfl) ?_
      repeat (go_big_quiet_step (first | (go_at_call 34; with_reducible exact Calls.regrown_of (HN.out _))))
      refine wpQuiet_nil ?_
      intro _ hw'
      obtain ⟨⟨dq, osq⟩, hw''⟩ := hw'
      subst hw''
      go_wp2
      go_ret
      exact ⟨ret_bool (by first | rfl | (simp [mayV, *]; done) | (unfold mayV; rw [size_none]; simp [*]; done) | (unfold mayV; rw [hz]; simp; done)), hb0.trans ((below_regrown W dq osq).mono hb0.size)⟩
  · have HN := Lib.hid (fun w1 => num_c n 1 n (num_in hm) w1)
    rcases empty_or t with rfl | ⟨ht, hz⟩
    · skip
      go_enter Tryd.func27, Tryd.ntmps27
      go_wp2_with fail
      have hA := CellsAt.new w [.int .i64 1, .int .i64 n, .string ⟨#[]⟩] 23
      have hb0 := below1 w (.cells #[.int .i64 1, .int .i64 n, .string ⟨#[]⟩] 23)
      obtain ⟨p0, p1, p2, _, _, _⟩ := hA.three
      clear hA
      generalize w.alloc (.cells #[.int .i64 1, .int .i64 n, .string ⟨#[]⟩] 23) = W at *
      have C0 := fun d os => cell_regrown p0 d os
      have C1 := fun d os => cell_regrown p1 d os
      have C2 := fun d os => cell_regrown p2 d os
      clear p0 p1 p2
      refine wp_region_quiet_below (by kernel_rfl) (by kernel_rfl) ?_
      repeat (go_big_quiet_step (first | (go_at_call 34; with_reducible exact Calls.regrown_of (HN.out _))))
      refine wpQuiet_nil ?_
      intro _ hw'
      obtain ⟨⟨dq, osq⟩, hw''⟩ := hw'
      subst hw''
      go_wp2
      go_ret
      exact ⟨ret_bool (by first | rfl | (simp [mayV, *]; done) | (unfold mayV; rw [size_none]; simp [*]; done) | (unfold mayV; rw [hz]; simp; done)), hb0.trans ((below_regrown W dq osq).mono hb0.size)⟩
    · skip
      go_enter Tryd.func27, Tryd.ntmps27
      go_wp2_with fail
      have hA := CellsAt.new w [.int .i64 1, .int .i64 n, .string t] 23
      have hb0 := below1 w (.cells #[.int .i64 1, .int .i64 n, .string t] 23)
      obtain ⟨p0, p1, p2, _, _, _⟩ := hA.three
      clear hA
      generalize w.alloc (.cells #[.int .i64 1, .int .i64 n, .string t] 23) = W at *
      have C0 := fun d os => cell_regrown p0 d os
      have C1 := fun d os => cell_regrown p1 d os
      have C2 := fun d os => cell_regrown p2 d os
      clear p0 p1 p2
      refine wp_region_quiet_below (by kernel_rfl) (by kernel_rfl) ?_
      repeat (go_big_quiet_step (first | (go_at_call 34; with_reducible exact Calls.regrown_of (HN.out _))))
      refine wpQuiet_nil ?_
      intro _ hw'
      obtain ⟨⟨dq, osq⟩, hw''⟩ := hw'
      subst hw''
      go_wp2
      go_ret
      exact ⟨ret_bool (by first | rfl | (simp [mayV, *]; done) | (unfold mayV; rw [size_none]; simp [*]; done) | (unfold mayV; rw [hz]; simp; done)), hb0.trans ((below_regrown W dq osq).mono hb0.size)⟩
set_option maxRecDepth 100000 in
set_option maxHeartbeats 4000000 in
theorem mayv_2 (n : Int) (t : ByteArray) (w : World) : Calls Tryd.prog 27 #[.agg #[.int .i64 2, .int .i64 n, .string t]] w (Bit (mayV 2 n t) w) := by
  by_cases hs : t.size ≤ 256
  · have HN := Lib.hid (fun w1 => str_c t 2 0 t (str_in hs) w1)
    by_cases hn : n = 0
    · subst hn
      go_enter Tryd.func27, Tryd.ntmps27
      go_wp2_with fail
      have hA := CellsAt.new w [.int .i64 2, .int .i64 0, .string t] 23
      have hb0 := below1 w (.cells #[.int .i64 2, .int .i64 0, .string t] 23)
      obtain ⟨p0, p1, p2, _, _, _⟩ := hA.three
      clear hA
      generalize w.alloc (.cells #[.int .i64 2, .int .i64 0, .string t] 23) = W at *
      have C0 := fun d os => cell_regrown p0 d os
      have C1 := fun d os => cell_regrown p1 d os
      have C2 := fun d os => cell_regrown p2 d os
      clear p0 p1 p2
      refine wp_region_quiet_below (by kernel_rfl) (by kernel_rfl) ?_
      repeat (go_big_quiet_step (first | (go_at_call 35; with_reducible exact Calls.regrown_of (HN.out _))))
      refine wpQuiet_nil ?_
      intro _ hw'
      obtain ⟨⟨dq, osq⟩, hw''⟩ := hw'
      subst hw''
      go_wp2
      go_ret
      exact ⟨ret_bool (by first | rfl | (simp [mayV, *]; done) | (unfold mayV; rw [size_none]; simp [*]; done) | (unfold mayV; rw [hz]; simp; done)), hb0.trans ((below_regrown W dq osq).mono hb0.size)⟩
    · skip
      go_enter Tryd.func27, Tryd.ntmps27
      go_wp2_with fail
      have hA := CellsAt.new w [.int .i64 2, .int .i64 n, .string t] 23
      have hb0 := below1 w (.cells #[.int .i64 2, .int .i64 n, .string t] 23)
      obtain ⟨p0, p1, p2, _, _, _⟩ := hA.three
      clear hA
      generalize w.alloc (.cells #[.int .i64 2, .int .i64 n, .string t] 23) = W at *
      have C0 := fun d os => cell_regrown p0 d os
      have C1 := fun d os => cell_regrown p1 d os
      have C2 := fun d os => cell_regrown p2 d os
      clear p0 p1 p2
      refine wp_region_quiet_below (by kernel_rfl) (by kernel_rfl) ?_
      repeat (go_big_quiet_step (first | (go_at_call 35; with_reducible exact Calls.regrown_of (HN.out _))))
      refine wpQuiet_nil ?_
      intro _ hw'
      obtain ⟨⟨dq, osq⟩, hw''⟩ := hw'
      subst hw''
      go_wp2
      go_ret
      exact ⟨ret_bool (by first | rfl | (simp [mayV, *]; done) | (unfold mayV; rw [size_none]; simp [*]; done) | (unfold mayV; rw [hz]; simp; done)), hb0.trans ((below_regrown W dq osq).mono hb0.size)⟩
  · have HN := Lib.hid (fun w1 => str_c t 4 2 ⟨#[]⟩ (str_out (by omega)) w1)
    go_enter Tryd.func27, Tryd.ntmps27
    go_wp2_with fail
    have hA := CellsAt.new w [.int .i64 2, .int .i64 n, .string t] 23
    have hb0 := below1 w (.cells #[.int .i64 2, .int .i64 n, .string t] 23)
    obtain ⟨p0, p1, p2, _, _, _⟩ := hA.three
    clear hA
    generalize w.alloc (.cells #[.int .i64 2, .int .i64 n, .string t] 23) = W at *
    have C0 := fun d os => cell_regrown p0 d os
    have C1 := fun d os => cell_regrown p1 d os
    have C2 := fun d os => cell_regrown p2 d os
    clear p0 p1 p2
    refine wp_region_quiet_below (by kernel_rfl) (by kernel_rfl) ?_
    repeat (go_big_quiet_step (first | (go_at_call 35; with_reducible exact Calls.regrown_of (HN.out _))))
    refine wpQuiet_nil ?_
    intro _ hw'
    obtain ⟨⟨dq, osq⟩, hw''⟩ := hw'
    subst hw''
    go_wp2
    go_ret
    exact ⟨ret_bool (by first | rfl | (simp [mayV, *]; done) | (unfold mayV; rw [size_none]; simp [*]; done) | (unfold mayV; rw [hz]; simp; done)), hb0.trans ((below_regrown W dq osq).mono hb0.size)⟩
set_option maxRecDepth 100000 in
set_option maxHeartbeats 4000000 in
theorem mayv_3 (n : Int) (t : ByteArray) (w : World) : Calls Tryd.prog 27 #[.agg #[.int .i64 3, .int .i64 n, .string t]] w (Bit (mayV 3 n t) w) := by
  have H0 := Lib.hid (fun w1 => bool_c false w1)
  have H1 := Lib.hid (fun w1 => bool_c true w1)
  by_cases hn : n = 0
  · subst hn
    rcases empty_or t with rfl | ⟨ht, hz⟩
    · skip
      go_enter Tryd.func27, Tryd.ntmps27
      go_wp2_with fail
      have hA := CellsAt.new w [.int .i64 3, .int .i64 0, .string ⟨#[]⟩] 23
      have hb0 := below1 w (.cells #[.int .i64 3, .int .i64 0, .string ⟨#[]⟩] 23)
      obtain ⟨p0, p1, p2, _, _, _⟩ := hA.three
      clear hA
      generalize w.alloc (.cells #[.int .i64 3, .int .i64 0, .string ⟨#[]⟩] 23) = W at *
      have C0 := fun d os => cell_regrown p0 d os
      have C1 := fun d os => cell_regrown p1 d os
      have C2 := fun d os => cell_regrown p2 d os
      clear p0 p1 p2
      refine wp_region_quiet_below (by kernel_rfl) (by kernel_rfl) ?_
      repeat (go_big_quiet_step (first | (go_at_call 36; with_reducible exact Calls.regrown_of (H0.out _))))
      refine wpQuiet_nil ?_
      intro _ hw'
      obtain ⟨⟨dq, osq⟩, hw''⟩ := hw'
      subst hw''
      go_wp2
      go_ret
      exact ⟨ret_bool (by first | rfl | (simp [mayV, *]; done) | (unfold mayV; rw [size_none]; simp [*]; done) | (unfold mayV; rw [hz]; simp; done)), hb0.trans ((below_regrown W dq osq).mono hb0.size)⟩
    · skip
      go_enter Tryd.func27, Tryd.ntmps27
      go_wp2_with fail
      have hA := CellsAt.new w [.int .i64 3, .int .i64 0, .string t] 23
      have hb0 := below1 w (.cells #[.int .i64 3, .int .i64 0, .string t] 23)
      obtain ⟨p0, p1, p2, _, _, _⟩ := hA.three
      clear hA
      generalize w.alloc (.cells #[.int .i64 3, .int .i64 0, .string t] 23) = W at *
      have C0 := fun d os => cell_regrown p0 d os
      have C1 := fun d os => cell_regrown p1 d os
      have C2 := fun d os => cell_regrown p2 d os
      clear p0 p1 p2
      refine wp_region_quiet_below (by kernel_rfl) (by kernel_rfl) ?_
      repeat (go_big_quiet_step (first | (go_at_call 36; with_reducible exact Calls.regrown_of (H0.out _))))
      refine wpQuiet_nil ?_
      intro _ hw'
      obtain ⟨⟨dq, osq⟩, hw''⟩ := hw'
      subst hw''
      go_wp2
      go_ret
      exact ⟨ret_bool (by first | rfl | (simp [mayV, *]; done) | (unfold mayV; rw [size_none]; simp [*]; done) | (unfold mayV; rw [hz]; simp; done)), hb0.trans ((below_regrown W dq osq).mono hb0.size)⟩
  · by_cases hm : n = 1
    · subst hm
      rcases empty_or t with rfl | ⟨ht, hz⟩
      · skip
        go_enter Tryd.func27, Tryd.ntmps27
        go_wp2_with fail
        have hA := CellsAt.new w [.int .i64 3, .int .i64 1, .string ⟨#[]⟩] 23
        have hb0 := below1 w (.cells #[.int .i64 3, .int .i64 1, .string ⟨#[]⟩] 23)
        obtain ⟨p0, p1, p2, _, _, _⟩ := hA.three
        clear hA
        generalize w.alloc (.cells #[.int .i64 3, .int .i64 1, .string ⟨#[]⟩] 23) = W at *
        have C0 := fun d os => cell_regrown p0 d os
        have C1 := fun d os => cell_regrown p1 d os
        have C2 := fun d os => cell_regrown p2 d os
        clear p0 p1 p2
        refine wp_region_quiet_below (by kernel_rfl) (by kernel_rfl) ?_
        repeat (go_big_quiet_step (first | (go_at_call 36; with_reducible exact Calls.regrown_of (H1.out _))))
        refine wpQuiet_nil ?_
        intro _ hw'
        obtain ⟨⟨dq, osq⟩, hw''⟩ := hw'
        subst hw''
        go_wp2
        go_ret
        exact ⟨ret_bool (by first | rfl | (simp [mayV, *]; done) | (unfold mayV; rw [size_none]; simp [*]; done) | (unfold mayV; rw [hz]; simp; done)), hb0.trans ((below_regrown W dq osq).mono hb0.size)⟩
      · skip
        go_enter Tryd.func27, Tryd.ntmps27
        go_wp2_with fail
        have hA := CellsAt.new w [.int .i64 3, .int .i64 1, .string t] 23
        have hb0 := below1 w (.cells #[.int .i64 3, .int .i64 1, .string t] 23)
        obtain ⟨p0, p1, p2, _, _, _⟩ := hA.three
        clear hA
        generalize w.alloc (.cells #[.int .i64 3, .int .i64 1, .string t] 23) = W at *
        have C0 := fun d os => cell_regrown p0 d os
        have C1 := fun d os => cell_regrown p1 d os
        have C2 := fun d os => cell_regrown p2 d os
        clear p0 p1 p2
        refine wp_region_quiet_below (by kernel_rfl) (by kernel_rfl) ?_
        repeat (go_big_quiet_step (first | (go_at_call 36; with_reducible exact Calls.regrown_of (H1.out _))))
        refine wpQuiet_nil ?_
        intro _ hw'
        obtain ⟨⟨dq, osq⟩, hw''⟩ := hw'
        subst hw''
        go_wp2
        go_ret
        exact ⟨ret_bool (by first | rfl | (simp [mayV, *]; done) | (unfold mayV; rw [size_none]; simp [*]; done) | (unfold mayV; rw [hz]; simp; done)), hb0.trans ((below_regrown W dq osq).mono hb0.size)⟩
    · have hz1 : (n != 0) = true := by simpa using hn
      rcases empty_or t with rfl | ⟨ht, hz⟩
      · skip
        go_enter Tryd.func27, Tryd.ntmps27
        go_wp2_with fail
        have hA := CellsAt.new w [.int .i64 3, .int .i64 n, .string ⟨#[]⟩] 23
        have hb0 := below1 w (.cells #[.int .i64 3, .int .i64 n, .string ⟨#[]⟩] 23)
        obtain ⟨p0, p1, p2, _, _, _⟩ := hA.three
        clear hA
        generalize w.alloc (.cells #[.int .i64 3, .int .i64 n, .string ⟨#[]⟩] 23) = W at *
        have C0 := fun d os => cell_regrown p0 d os
        have C1 := fun d os => cell_regrown p1 d os
        have C2 := fun d os => cell_regrown p2 d os
        clear p0 p1 p2
        refine wp_region_quiet_below (by kernel_rfl) (by kernel_rfl) ?_
        repeat (go_big_quiet_step (first | (go_at_call 36; with_reducible exact Calls.regrown_of (H1.out _))))
        refine wpQuiet_nil ?_
        intro _ hw'
        obtain ⟨⟨dq, osq⟩, hw''⟩ := hw'
        subst hw''
        go_wp2
        go_ret
        exact ⟨ret_bool (by first | rfl | (simp [mayV, *]; done) | (unfold mayV; rw [size_none]; simp [*]; done) | (unfold mayV; rw [hz]; simp; done)), hb0.trans ((below_regrown W dq osq).mono hb0.size)⟩
      · skip
        go_enter Tryd.func27, Tryd.ntmps27
        go_wp2_with fail
        have hA := CellsAt.new w [.int .i64 3, .int .i64 n, .string t] 23
        have hb0 := below1 w (.cells #[.int .i64 3, .int .i64 n, .string t] 23)
        obtain ⟨p0, p1, p2, _, _, _⟩ := hA.three
        clear hA
        generalize w.alloc (.cells #[.int .i64 3, .int .i64 n, .string t] 23) = W at *
        have C0 := fun d os => cell_regrown p0 d os
        have C1 := fun d os => cell_regrown p1 d os
        have C2 := fun d os => cell_regrown p2 d os
        clear p0 p1 p2
        refine wp_region_quiet_below (by kernel_rfl) (by kernel_rfl) ?_
        repeat (go_big_quiet_step (first | (go_at_call 36; with_reducible exact Calls.regrown_of (H1.out _))))
        refine wpQuiet_nil ?_
        intro _ hw'
        obtain ⟨⟨dq, osq⟩, hw''⟩ := hw'
        subst hw''
        go_wp2
        go_ret
        exact ⟨ret_bool (by first | rfl | (simp [mayV, *]; done) | (unfold mayV; rw [size_none]; simp [*]; done) | (unfold mayV; rw [hz]; simp; done)), hb0.trans ((below_regrown W dq osq).mono hb0.size)⟩
set_option maxRecDepth 100000 in
set_option maxHeartbeats 4000000 in
theorem mayv_4 (n : Int) (t : ByteArray) (w : World) : Calls Tryd.prog 27 #[.agg #[.int .i64 4, .int .i64 n, .string t]] w (Bit (mayV 4 n t) w) := by
  have HN := Lib.hid (fun w1 => bad_c n w1)
  by_cases hn : 1 ≤ n ∧ n ≤ 7
  · obtain ⟨h1, h7⟩ := hn
    rw [bad_in h1 h7] at HN
    rcases empty_or t with rfl | ⟨ht, hz⟩
    · skip
      go_enter Tryd.func27, Tryd.ntmps27
      go_wp2_with fail
      have hA := CellsAt.new w [.int .i64 4, .int .i64 n, .string ⟨#[]⟩] 23
      have hb0 := below1 w (.cells #[.int .i64 4, .int .i64 n, .string ⟨#[]⟩] 23)
      obtain ⟨p0, p1, p2, _, _, _⟩ := hA.three
      clear hA
      generalize w.alloc (.cells #[.int .i64 4, .int .i64 n, .string ⟨#[]⟩] 23) = W at *
      have C0 := fun d os => cell_regrown p0 d os
      have C1 := fun d os => cell_regrown p1 d os
      have C2 := fun d os => cell_regrown p2 d os
      clear p0 p1 p2
      refine wp_region_quiet_below (by kernel_rfl) (by kernel_rfl) ?_
      repeat (go_big_quiet_step (first | (go_at_call 37; with_reducible exact Calls.regrown_of (HN.out _))))
      refine wpQuiet_nil ?_
      intro _ hw'
      obtain ⟨⟨dq, osq⟩, hw''⟩ := hw'
      subst hw''
      go_wp2
      go_ret
      exact ⟨ret_bool (by first | rfl | (simp [mayV, *]; done) | (unfold mayV; rw [size_none]; simp [*]; done) | (unfold mayV; rw [hz]; simp; done)), hb0.trans ((below_regrown W dq osq).mono hb0.size)⟩
    · skip
      go_enter Tryd.func27, Tryd.ntmps27
      go_wp2_with fail
      have hA := CellsAt.new w [.int .i64 4, .int .i64 n, .string t] 23
      have hb0 := below1 w (.cells #[.int .i64 4, .int .i64 n, .string t] 23)
      obtain ⟨p0, p1, p2, _, _, _⟩ := hA.three
      clear hA
      generalize w.alloc (.cells #[.int .i64 4, .int .i64 n, .string t] 23) = W at *
      have C0 := fun d os => cell_regrown p0 d os
      have C1 := fun d os => cell_regrown p1 d os
      have C2 := fun d os => cell_regrown p2 d os
      clear p0 p1 p2
      refine wp_region_quiet_below (by kernel_rfl) (by kernel_rfl) ?_
      repeat (go_big_quiet_step (first | (go_at_call 37; with_reducible exact Calls.regrown_of (HN.out _))))
      refine wpQuiet_nil ?_
      intro _ hw'
      obtain ⟨⟨dq, osq⟩, hw''⟩ := hw'
      subst hw''
      go_wp2
      go_ret
      exact ⟨ret_bool (by first | rfl | (simp [mayV, *]; done) | (unfold mayV; rw [size_none]; simp [*]; done) | (unfold mayV; rw [hz]; simp; done)), hb0.trans ((below_regrown W dq osq).mono hb0.size)⟩
  · rw [bad_out (by omega)] at HN
    have h2 : ¬ n = 2 := by omega
    have hf : (decide (1 ≤ n) && decide (n ≤ 7)) = false := by simpa using hn
    rcases empty_or t with rfl | ⟨ht, hz⟩
    · skip
      go_enter Tryd.func27, Tryd.ntmps27
      go_wp2_with fail
      have hA := CellsAt.new w [.int .i64 4, .int .i64 n, .string ⟨#[]⟩] 23
      have hb0 := below1 w (.cells #[.int .i64 4, .int .i64 n, .string ⟨#[]⟩] 23)
      obtain ⟨p0, p1, p2, _, _, _⟩ := hA.three
      clear hA
      generalize w.alloc (.cells #[.int .i64 4, .int .i64 n, .string ⟨#[]⟩] 23) = W at *
      have C0 := fun d os => cell_regrown p0 d os
      have C1 := fun d os => cell_regrown p1 d os
      have C2 := fun d os => cell_regrown p2 d os
      clear p0 p1 p2
      refine wp_region_quiet_below (by kernel_rfl) (by kernel_rfl) ?_
      repeat (go_big_quiet_step (first | (go_at_call 37; with_reducible exact Calls.regrown_of (HN.out _))))
      refine wpQuiet_nil ?_
      intro _ hw'
      obtain ⟨⟨dq, osq⟩, hw''⟩ := hw'
      subst hw''
      go_wp2
      go_ret
      exact ⟨ret_bool (by first | rfl | (simp [mayV, *]; done) | (unfold mayV; rw [size_none]; simp [*]; done) | (unfold mayV; rw [hz]; simp; done)), hb0.trans ((below_regrown W dq osq).mono hb0.size)⟩
    · skip
      go_enter Tryd.func27, Tryd.ntmps27
      go_wp2_with fail
      have hA := CellsAt.new w [.int .i64 4, .int .i64 n, .string t] 23
      have hb0 := below1 w (.cells #[.int .i64 4, .int .i64 n, .string t] 23)
      obtain ⟨p0, p1, p2, _, _, _⟩ := hA.three
      clear hA
      generalize w.alloc (.cells #[.int .i64 4, .int .i64 n, .string t] 23) = W at *
      have C0 := fun d os => cell_regrown p0 d os
      have C1 := fun d os => cell_regrown p1 d os
      have C2 := fun d os => cell_regrown p2 d os
      clear p0 p1 p2
      refine wp_region_quiet_below (by kernel_rfl) (by kernel_rfl) ?_
      repeat (go_big_quiet_step (first | (go_at_call 37; with_reducible exact Calls.regrown_of (HN.out _))))
      refine wpQuiet_nil ?_
      intro _ hw'
      obtain ⟨⟨dq, osq⟩, hw''⟩ := hw'
      subst hw''
      go_wp2
      go_ret
      exact ⟨ret_bool (by first | rfl | (simp [mayV, *]; done) | (unfold mayV; rw [size_none]; simp [*]; done) | (unfold mayV; rw [hz]; simp; done)), hb0.trans ((below_regrown W dq osq).mono hb0.size)⟩
set_option maxRecDepth 100000 in
set_option maxHeartbeats 4000000 in
theorem mayv_5 (k : Int) (h0 : ¬ k = 0) (h1 : ¬ k = 1) (h2 : ¬ k = 2) (h3 : ¬ k = 3) (h4 : ¬ k = 4) (n : Int) (t : ByteArray) (w : World) : Calls Tryd.prog 27 #[.agg #[.int .i64 k, .int .i64 n, .string t]] w (Bit (mayV k n t) w) := by
  have e0 : (k == 0) = false := by simpa using h0
  have e1 : (k == 1) = false := by simpa using h1
  have e2 : (k == 2) = false := by simpa using h2
  have e3 : (k == 3) = false := by simpa using h3
  have e4 : (k == 4) = false := by simpa using h4
  go_enter Tryd.func27, Tryd.ntmps27
  go_wp2
  go_ret
  exact ⟨ret_bool (by first | rfl | (simp [mayV, *]; done) | (unfold mayV; rw [size_none]; simp [*]; done) | (unfold mayV; rw [hz]; simp; done)), below1 _ _⟩
theorem mayv_c (k n : Int) (t : ByteArray) (b : Bool) (h : mayV k n t = b) (w : World) : Calls Tryd.prog 27 #[.agg #[.int .i64 k, .int .i64 n, .string t]] w (Bit b w) := by
  subst h
  by_cases h0 : k = 0
  · subst h0; exact mayv_0 n t w
  by_cases h1 : k = 1
  · subst h1; exact mayv_1 n t w
  by_cases h2 : k = 2
  · subst h2; exact mayv_2 n t w
  by_cases h3 : k = 3
  · subst h3; exact mayv_3 n t w
  by_cases h4 : k = 4
  · subst h4; exact mayv_4 n t w
  · exact mayv_5 k h0 h1 h2 h3 h4 n t w
end Go.Proofs.YtcgpggknmhlnkaaDoor.Val

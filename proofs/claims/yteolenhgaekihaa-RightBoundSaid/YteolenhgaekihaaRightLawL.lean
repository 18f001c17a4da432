/- RightLowers: the law returns true for every list of grants, every text and any two labels, and makes new memory alone. -/
import Derived.Test.YteolenhgaekihaaRightAlive
import Derived.Test.YteolenhgaekihaaRightRefLow
import Derived.Test.YteolenhgaekihaaRightRefHold
import Derived.Test.YteolenhgaekihaaRightRefSame
namespace Go.Proofs.Yteolenhgaekihaa.Right
open Go.RowKit Kit Reg Go.Proofs.Yteolenhgaekihaa.Lab
open Go.Proofs.Yteolenhgaekihaa.Cats (U U_or U_zero)

set_option maxRecDepth 100000 in
set_option maxHeartbeats 8000000 in
theorem lowers_law (S : Says) (A : Option Addr) (n cap : Nat) (gs : List Gr) (t : ByteArray) (l : Int) (s : Nat) (j : Int) (r : Nat) (hs : U s) (hr : U r) (w : World) (hz : n ≤ 60 → GrantsR w A n gs) :
    Calls Try.prog 4 #[.slice A n cap, .string t, .agg #[.int .i64 l, .int .u64 s, .int .i64 j, .int .u64 r]] w fun e w' => e = .returned (.bool true) ∧ Below w.heap.size w w' := by
  have HA := Lib.hid (fun w1 => alive_c S w1)
  have hb0 := below1 w (.cells #[.int .i64 l, .int .u64 s, .int .i64 j, .int .u64 r] 43)
  have kq := CellsAt.new w [.int .i64 l, .int .u64 s, .int .i64 j, .int .u64 r] 43
  by_cases hn : 60 < n
  · have hd : decide (60 < (n : Int)) = true := decide_eq_true (by omega)
    clear hz S
    go_enter Try.func4, Try.ntmps4
    go_wp2_with fail
    refine (HA.out _).mono ?_
    rintro e w1 ⟨rfl, hb1⟩
    go_wp2
    go_ret
    exact ⟨rfl, on hb0 hb1⟩
  have hd : decide (60 < (n : Int)) = false := decide_eq_false (by omega)
  replace hz := hz (by omega)
  have HZ := Lib.hid (hz.on hb0)
  obtain ⟨lb, hlb⟩ : ∃ lb, lowersB gs t l s j r = lb := ⟨_, rfl⟩
  obtain ⟨m, hm⟩ : ∃ m, (leakyF gs j r).length = m := ⟨_, rfl⟩
  obtain ⟨kb, hkb⟩ : ∃ kb, decide (0 < m) = kb := ⟨_, rfl⟩
  obtain ⟨H, hH⟩ : ∃ H, holdersF gs j r = H := ⟨_, rfl⟩
  have hHl : H.length ≤ 140737488355328 := by
    rw [← hH]
    have h1 := onceF_len ((leakyF gs j r).map Gr.name)
    have h2 : (leakyF gs j r).length ≤ gs.length := List.length_filter_le _ _
    have h3 := hz.1
    rw [List.length_map] at h1
    unfold holdersF
    omega
  have H1 : Hid (∀ w1, GrantsR w1 A n gs → Calls Try.prog 16 #[.slice A n cap, .string t, .agg #[.int .i64 l, .int .u64 s], .agg #[.int .i64 j, .int .u64 r]] w1 fun e w' => e = .returned (.bool lb) ∧ Below w1.heap.size w1 w') := Lib.hid (fun w1 h => by
    have := S.lowers A n cap gs t l s j r w1 hs hr h
    rwa [hlb] at this)
  have H2 : Hid (∀ w1, GrantsR w1 A n gs → Calls Try.prog 17 #[.slice A n cap, .string t, .agg #[.int .i64 l, .int .u64 s], .agg #[.int .i64 j, .int .u64 r]] w1 fun e w' => e = .returned (.bool lb) ∧ Below w1.heap.size w1 w') := Lib.hid (fun w1 h => by
    have := rlowers_c A n cap gs t l s j r hs hr w1 h
    rwa [hlb] at this)
  have H3 : Hid (∀ w1, GrantsR w1 A n gs → Calls Try.prog 18 #[.slice A n cap, .agg #[.int .i64 j, .int .u64 r]] w1 fun e w' => e = .returned (.bool kb) ∧ Below w1.heap.size w1 w') := Lib.hid (fun w1 h => by
    have := S.leaks A n cap gs j r w1 hr h
    rwa [leaksB_len, hm, hkb] at this)
  have H4 : Hid (∀ w1, GrantsR w1 A n gs → Calls Try.prog 19 #[.slice A n cap, .agg #[.int .i64 j, .int .u64 r]] w1 fun e w' => ∃ v, e = .returned v ∧ Below w1.heap.size w1 w' ∧ ∃ A' c', v = .slice A' m c') := Lib.hid (fun w1 h => (rleaky_c A n cap (by omega) gs j r hr w1 h).mono fun e w' ⟨v, he, hv, hb⟩ => by
    obtain ⟨A', c', hv', _⟩ := hv.grants hm (by have h2 : (leakyF gs j r).length ≤ gs.length := List.length_filter_le _ _; have h3 := hz.1; omega) (leakyF_U hz.2.2.1 j r)
    exact ⟨v, he, hb, A', c', hv'⟩)
  have H5 : Hid (∀ w1, GrantsR w1 A n gs → Calls Try.prog 21 #[.slice A n cap, .agg #[.int .i64 j, .int .u64 r]] w1 fun e w' => ∃ v, e = .returned v ∧ Below w1.heap.size w1 w' ∧ StrsR w' v H) := Lib.hid (fun w1 h => by
    rw [← hH]
    exact (S.holders A n cap gs j r w1 hr (by omega) h).mono fun e w' ⟨v, he, hv, hb⟩ => ⟨v, he, hb, hv⟩)
  have H6 : Hid (∀ w1, GrantsR w1 A n gs → Calls Try.prog 22 #[.slice A n cap, .agg #[.int .i64 j, .int .u64 r]] w1 fun e w' => ∃ v, e = .returned v ∧ Below w1.heap.size w1 w' ∧ StrsR w' v H) := Lib.hid (fun w1 h => by
    rw [← hH]
    exact (rholders_c A n cap (by omega) gs j r hr w1 h).mono fun e w' ⟨v, he, hv, hb⟩ => ⟨v, he, hb, hv.strs⟩)
  have H7 := Lib.hid (fun v v' w1 h h' => rsame_c v v' H hHl w1 h h')
  clear hz hs hr hlb hm hH S hHl
  go_enter Try.func4, Try.ntmps4
  go_wp2_with fail
  generalize w.alloc (.cells #[.int .i64 l, .int .u64 s, .int .i64 j, .int .u64 r] 43) = W at *
  have q0 := kq.four
  obtain ⟨q0, q1, q2, q3, _⟩ := q0
  have Q0 := fun d os => cell_regrown q0 d os
  have Q1 := fun d os => cell_regrown q1 d os
  have Q2 := fun d os => cell_regrown q2 d os
  have Q3 := fun d os => cell_regrown q3 d os
  clear q0 q1 q2 q3
  cases lb <;> cases kb
  · skip
    refine wp_region_mem 28 (fun d => match d with
      | 17 => some (Is (.bool false))
      | 24 => some (Is (.bool false))
      | 30 => some (Is (.bool false))
      | 34 => some (fun v _ => ∃ A' c', v = .slice A' m c')
      | _ => none) (by kernel_rfl) (by kernel_rfl) ?_
    simp only [List.take_succ_cons, List.take_zero, List.drop_succ_cons, List.drop_zero]
    repeat (first | ((with_reducible refine wpM_calm ?_ ?_ ?_ ?_); exact rfl; exact rfl; exact rfl; intro K hK; go_big_quiet_op; go_big_quiet_on) | ((with_reducible refine wpM_skip ?_ ?_); exact rfl; simp only [Act.put, List.setIfInBounds_toArray, List.set_cons_succ, List.set_cons_zero]))
    refine wpM_exact rfl rfl rfl Try.func16 (by kernel_rfl) (by kernel_rfl) (fun w1 hw1 _ => H1.out w1 (HZ.out.on hw1)) rfl (by simp only [Act.put, List.setIfInBounds_toArray, List.set_cons_succ, List.set_cons_zero]; rfl) ?_
    repeat (first | ((with_reducible refine wpM_calm ?_ ?_ ?_ ?_); exact rfl; exact rfl; exact rfl; intro K hK; go_big_quiet_op; go_big_quiet_on) | ((with_reducible refine wpM_skip ?_ ?_); exact rfl; simp only [Act.put, List.setIfInBounds_toArray, List.set_cons_succ, List.set_cons_zero]))
    refine wpM_exact rfl rfl rfl Try.func17 (by kernel_rfl) (by kernel_rfl) (fun w1 hw1 _ => H2.out w1 (HZ.out.on hw1)) rfl (by simp only [Act.put, List.setIfInBounds_toArray, List.set_cons_succ, List.set_cons_zero]; rfl) ?_
    repeat (first | ((with_reducible refine wpM_calm ?_ ?_ ?_ ?_); exact rfl; exact rfl; exact rfl; intro K hK; go_big_quiet_op; go_big_quiet_on) | ((with_reducible refine wpM_skip ?_ ?_); exact rfl; simp only [Act.put, List.setIfInBounds_toArray, List.set_cons_succ, List.set_cons_zero]))
    refine wpM_exact rfl rfl rfl Try.func18 (by kernel_rfl) (by kernel_rfl) (fun w1 hw1 _ => H3.out w1 (HZ.out.on hw1)) rfl (by simp only [Act.put, List.setIfInBounds_toArray, List.set_cons_succ, List.set_cons_zero]; rfl) ?_
    repeat (first | ((with_reducible refine wpM_calm ?_ ?_ ?_ ?_); exact rfl; exact rfl; exact rfl; intro K hK; go_big_quiet_op; go_big_quiet_on) | ((with_reducible refine wpM_skip ?_ ?_); exact rfl; simp only [Act.put, List.setIfInBounds_toArray, List.set_cons_succ, List.set_cons_zero]))
    refine wpM_call _ rfl rfl rfl Try.func19 (by kernel_rfl) (by kernel_rfl) (fun w1 hw1 _ => H4.out w1 (HZ.out.on hw1)) rfl ?_
    rintro v34 ⟨_, A34, c34, rfl⟩ a' ha'
    simp only [Act.put, List.setIfInBounds_toArray, List.set_cons_succ, List.set_cons_zero] at ha'
    subst ha'
    repeat (first | ((with_reducible refine wpM_calm ?_ ?_ ?_ ?_); exact rfl; exact rfl; exact rfl; intro K hK; go_big_quiet_op; go_big_quiet_on) | ((with_reducible refine wpM_skip ?_ ?_); exact rfl; simp only [Act.put, List.setIfInBounds_toArray, List.set_cons_succ, List.set_cons_zero]))
    refine wpM_nil ?_
    intro w4 hb4 _
    replace hb0 := on hb0 hb4
    replace kq := kq.on hb4
    replace HZ := Lib.hid (HZ.out.on hb4)
    clear hb4 Q0 Q1 Q2 Q3 H1 H2 H3 H4
    obtain ⟨_, _, q2, q3, _⟩ := kq.four
    have Q2 := fun d os => cell_regrown q2 d os
    have Q3 := fun d os => cell_regrown q3 d os
    clear q2 q3
    go_wp2_with fail
    refine wp_region_mem 13 (fun d => match d with
      | 42 => some (fun v w => StrsR w v H)
      | 46 => some (fun v w => StrsR w v H)
      | 47 => some (Is (.bool true))
      | 49 => some (Is (.bool true))
      | _ => none) (by kernel_rfl) (by kernel_rfl) ?_
    simp only [List.take_succ_cons, List.take_zero, List.drop_succ_cons, List.drop_zero]
    repeat (first | ((with_reducible refine wpM_calm ?_ ?_ ?_ ?_); exact rfl; exact rfl; exact rfl; intro K hK; go_big_quiet_op; go_big_quiet_on) | ((with_reducible refine wpM_skip ?_ ?_); exact rfl; simp only [Act.put, List.setIfInBounds_toArray, List.set_cons_succ, List.set_cons_zero]))
    refine wpM_call _ rfl rfl rfl Try.func21 (by kernel_rfl) (by kernel_rfl) (fun w1 hw1 _ => H5.out w1 (HZ.out.on hw1)) rfl ?_
    rintro v42 - a' ha'
    simp only [Act.put, List.setIfInBounds_toArray, List.set_cons_succ, List.set_cons_zero] at ha'
    subst ha'
    repeat (first | ((with_reducible refine wpM_calm ?_ ?_ ?_ ?_); exact rfl; exact rfl; exact rfl; intro K hK; go_big_quiet_op; go_big_quiet_on) | ((with_reducible refine wpM_skip ?_ ?_); exact rfl; simp only [Act.put, List.setIfInBounds_toArray, List.set_cons_succ, List.set_cons_zero]))
    refine wpM_call _ rfl rfl rfl Try.func22 (by kernel_rfl) (by kernel_rfl) (fun w1 hw1 _ => H6.out w1 (HZ.out.on hw1)) rfl ?_
    rintro v46 - a' ha'
    simp only [Act.put, List.setIfInBounds_toArray, List.set_cons_succ, List.set_cons_zero] at ha'
    subst ha'
    repeat (first | ((with_reducible refine wpM_calm ?_ ?_ ?_ ?_); exact rfl; exact rfl; exact rfl; intro K hK; go_big_quiet_op; go_big_quiet_on) | ((with_reducible refine wpM_skip ?_ ?_); exact rfl; simp only [Act.put, List.setIfInBounds_toArray, List.set_cons_succ, List.set_cons_zero]))
    refine wpM_exact rfl rfl rfl Try.func20 (by kernel_rfl) (by kernel_rfl) (fun w2 hw2 hl => H7.out _ _ w2 (by
      obtain ⟨w3, h3, h4⟩ := Fct.put_at (Fct.put_old (looks_at (k := 3) (d := 42) hl (by kernel_rfl) (by kernel_rfl)))
      exact h3.on h4) (by
      obtain ⟨w3, h3, h4⟩ := Fct.put_at (looks_at (k := 7) (d := 46) hl (by kernel_rfl) (by kernel_rfl))
      exact h3.on h4)) rfl (by simp only [Act.put, List.setIfInBounds_toArray, List.set_cons_succ, List.set_cons_zero]; rfl) ?_
    repeat (first | ((with_reducible refine wpM_calm ?_ ?_ ?_ ?_); exact rfl; exact rfl; exact rfl; intro K hK; go_big_quiet_op; go_big_quiet_on) | ((with_reducible refine wpM_skip ?_ ?_); exact rfl; simp only [Act.put, List.setIfInBounds_toArray, List.set_cons_succ, List.set_cons_zero]))
    refine wpM_exact rfl rfl rfl Try.func7 (by kernel_rfl) (by kernel_rfl) (fun w1 _ _ => HA.out w1) rfl (by simp only [Act.put, List.setIfInBounds_toArray, List.set_cons_succ, List.set_cons_zero]; rfl) ?_
    repeat (first | ((with_reducible refine wpM_calm ?_ ?_ ?_ ?_); exact rfl; exact rfl; exact rfl; intro K hK; go_big_quiet_op; go_big_quiet_on) | ((with_reducible refine wpM_skip ?_ ?_); exact rfl; simp only [Act.put, List.setIfInBounds_toArray, List.set_cons_succ, List.set_cons_zero]))
    refine wpM_nil ?_
    intro w5 hb5 _
    replace hb0 := on hb0 hb5
    go_wp2
    go_ret
    exact ⟨rfl, hb0⟩
  · skip
    refine wp_region_mem 28 (fun d => match d with
      | 17 => some (Is (.bool false))
      | 24 => some (Is (.bool false))
      | 30 => some (Is (.bool true))
      | 34 => some (fun v _ => ∃ A' c', v = .slice A' m c')
      | _ => none) (by kernel_rfl) (by kernel_rfl) ?_
    simp only [List.take_succ_cons, List.take_zero, List.drop_succ_cons, List.drop_zero]
    repeat (first | ((with_reducible refine wpM_calm ?_ ?_ ?_ ?_); exact rfl; exact rfl; exact rfl; intro K hK; go_big_quiet_op; go_big_quiet_on) | ((with_reducible refine wpM_skip ?_ ?_); exact rfl; simp only [Act.put, List.setIfInBounds_toArray, List.set_cons_succ, List.set_cons_zero]))
    refine wpM_exact rfl rfl rfl Try.func16 (by kernel_rfl) (by kernel_rfl) (fun w1 hw1 _ => H1.out w1 (HZ.out.on hw1)) rfl (by simp only [Act.put, List.setIfInBounds_toArray, List.set_cons_succ, List.set_cons_zero]; rfl) ?_
    repeat (first | ((with_reducible refine wpM_calm ?_ ?_ ?_ ?_); exact rfl; exact rfl; exact rfl; intro K hK; go_big_quiet_op; go_big_quiet_on) | ((with_reducible refine wpM_skip ?_ ?_); exact rfl; simp only [Act.put, List.setIfInBounds_toArray, List.set_cons_succ, List.set_cons_zero]))
    refine wpM_exact rfl rfl rfl Try.func17 (by kernel_rfl) (by kernel_rfl) (fun w1 hw1 _ => H2.out w1 (HZ.out.on hw1)) rfl (by simp only [Act.put, List.setIfInBounds_toArray, List.set_cons_succ, List.set_cons_zero]; rfl) ?_
    repeat (first | ((with_reducible refine wpM_calm ?_ ?_ ?_ ?_); exact rfl; exact rfl; exact rfl; intro K hK; go_big_quiet_op; go_big_quiet_on) | ((with_reducible refine wpM_skip ?_ ?_); exact rfl; simp only [Act.put, List.setIfInBounds_toArray, List.set_cons_succ, List.set_cons_zero]))
    refine wpM_exact rfl rfl rfl Try.func18 (by kernel_rfl) (by kernel_rfl) (fun w1 hw1 _ => H3.out w1 (HZ.out.on hw1)) rfl (by simp only [Act.put, List.setIfInBounds_toArray, List.set_cons_succ, List.set_cons_zero]; rfl) ?_
    repeat (first | ((with_reducible refine wpM_calm ?_ ?_ ?_ ?_); exact rfl; exact rfl; exact rfl; intro K hK; go_big_quiet_op; go_big_quiet_on) | ((with_reducible refine wpM_skip ?_ ?_); exact rfl; simp only [Act.put, List.setIfInBounds_toArray, List.set_cons_succ, List.set_cons_zero]))
    refine wpM_call _ rfl rfl rfl Try.func19 (by kernel_rfl) (by kernel_rfl) (fun w1 hw1 _ => H4.out w1 (HZ.out.on hw1)) rfl ?_
    rintro v34 ⟨_, A34, c34, rfl⟩ a' ha'
    simp only [Act.put, List.setIfInBounds_toArray, List.set_cons_succ, List.set_cons_zero] at ha'
    subst ha'
    repeat (first | ((with_reducible refine wpM_calm ?_ ?_ ?_ ?_); exact rfl; exact rfl; exact rfl; intro K hK; go_big_quiet_op; go_big_quiet_on) | ((with_reducible refine wpM_skip ?_ ?_); exact rfl; simp only [Act.put, List.setIfInBounds_toArray, List.set_cons_succ, List.set_cons_zero]))
    refine wpM_nil ?_
    intro w4 hb4 _
    replace hb0 := on hb0 hb4
    replace kq := kq.on hb4
    replace HZ := Lib.hid (HZ.out.on hb4)
    clear hb4 Q0 Q1 Q2 Q3 H1 H2 H3 H4
    obtain ⟨_, _, q2, q3, _⟩ := kq.four
    have Q2 := fun d os => cell_regrown q2 d os
    have Q3 := fun d os => cell_regrown q3 d os
    clear q2 q3
    go_wp2_with fail
    refine wp_region_mem 13 (fun d => match d with
      | 42 => some (fun v w => StrsR w v H)
      | 46 => some (fun v w => StrsR w v H)
      | 47 => some (Is (.bool true))
      | 49 => some (Is (.bool true))
      | _ => none) (by kernel_rfl) (by kernel_rfl) ?_
    simp only [List.take_succ_cons, List.take_zero, List.drop_succ_cons, List.drop_zero]
    repeat (first | ((with_reducible refine wpM_calm ?_ ?_ ?_ ?_); exact rfl; exact rfl; exact rfl; intro K hK; go_big_quiet_op; go_big_quiet_on) | ((with_reducible refine wpM_skip ?_ ?_); exact rfl; simp only [Act.put, List.setIfInBounds_toArray, List.set_cons_succ, List.set_cons_zero]))
    refine wpM_call _ rfl rfl rfl Try.func21 (by kernel_rfl) (by kernel_rfl) (fun w1 hw1 _ => H5.out w1 (HZ.out.on hw1)) rfl ?_
    rintro v42 - a' ha'
    simp only [Act.put, List.setIfInBounds_toArray, List.set_cons_succ, List.set_cons_zero] at ha'
    subst ha'
    repeat (first | ((with_reducible refine wpM_calm ?_ ?_ ?_ ?_); exact rfl; exact rfl; exact rfl; intro K hK; go_big_quiet_op; go_big_quiet_on) | ((with_reducible refine wpM_skip ?_ ?_); exact rfl; simp only [Act.put, List.setIfInBounds_toArray, List.set_cons_succ, List.set_cons_zero]))
    refine wpM_call _ rfl rfl rfl Try.func22 (by kernel_rfl) (by kernel_rfl) (fun w1 hw1 _ => H6.out w1 (HZ.out.on hw1)) rfl ?_
    rintro v46 - a' ha'
    simp only [Act.put, List.setIfInBounds_toArray, List.set_cons_succ, List.set_cons_zero] at ha'
    subst ha'
    repeat (first | ((with_reducible refine wpM_calm ?_ ?_ ?_ ?_); exact rfl; exact rfl; exact rfl; intro K hK; go_big_quiet_op; go_big_quiet_on) | ((with_reducible refine wpM_skip ?_ ?_); exact rfl; simp only [Act.put, List.setIfInBounds_toArray, List.set_cons_succ, List.set_cons_zero]))
    refine wpM_exact rfl rfl rfl Try.func20 (by kernel_rfl) (by kernel_rfl) (fun w2 hw2 hl => H7.out _ _ w2 (by
      obtain ⟨w3, h3, h4⟩ := Fct.put_at (Fct.put_old (looks_at (k := 3) (d := 42) hl (by kernel_rfl) (by kernel_rfl)))
      exact h3.on h4) (by
      obtain ⟨w3, h3, h4⟩ := Fct.put_at (looks_at (k := 7) (d := 46) hl (by kernel_rfl) (by kernel_rfl))
      exact h3.on h4)) rfl (by simp only [Act.put, List.setIfInBounds_toArray, List.set_cons_succ, List.set_cons_zero]; rfl) ?_
    repeat (first | ((with_reducible refine wpM_calm ?_ ?_ ?_ ?_); exact rfl; exact rfl; exact rfl; intro K hK; go_big_quiet_op; go_big_quiet_on) | ((with_reducible refine wpM_skip ?_ ?_); exact rfl; simp only [Act.put, List.setIfInBounds_toArray, List.set_cons_succ, List.set_cons_zero]))
    refine wpM_exact rfl rfl rfl Try.func7 (by kernel_rfl) (by kernel_rfl) (fun w1 _ _ => HA.out w1) rfl (by simp only [Act.put, List.setIfInBounds_toArray, List.set_cons_succ, List.set_cons_zero]; rfl) ?_
    repeat (first | ((with_reducible refine wpM_calm ?_ ?_ ?_ ?_); exact rfl; exact rfl; exact rfl; intro K hK; go_big_quiet_op; go_big_quiet_on) | ((with_reducible refine wpM_skip ?_ ?_); exact rfl; simp only [Act.put, List.setIfInBounds_toArray, List.set_cons_succ, List.set_cons_zero]))
    refine wpM_nil ?_
    intro w5 hb5 _
    replace hb0 := on hb0 hb5
    go_wp2
    go_ret
    exact ⟨rfl, hb0⟩
  · skip
    refine wp_region_mem 28 (fun d => match d with
      | 17 => some (Is (.bool true))
      | 24 => some (Is (.bool true))
      | 30 => some (Is (.bool false))
      | 34 => some (fun v _ => ∃ A' c', v = .slice A' m c')
      | _ => none) (by kernel_rfl) (by kernel_rfl) ?_
    simp only [List.take_succ_cons, List.take_zero, List.drop_succ_cons, List.drop_zero]
    repeat (first | ((with_reducible refine wpM_calm ?_ ?_ ?_ ?_); exact rfl; exact rfl; exact rfl; intro K hK; go_big_quiet_op; go_big_quiet_on) | ((with_reducible refine wpM_skip ?_ ?_); exact rfl; simp only [Act.put, List.setIfInBounds_toArray, List.set_cons_succ, List.set_cons_zero]))
    refine wpM_exact rfl rfl rfl Try.func16 (by kernel_rfl) (by kernel_rfl) (fun w1 hw1 _ => H1.out w1 (HZ.out.on hw1)) rfl (by simp only [Act.put, List.setIfInBounds_toArray, List.set_cons_succ, List.set_cons_zero]; rfl) ?_
    repeat (first | ((with_reducible refine wpM_calm ?_ ?_ ?_ ?_); exact rfl; exact rfl; exact rfl; intro K hK; go_big_quiet_op; go_big_quiet_on) | ((with_reducible refine wpM_skip ?_ ?_); exact rfl; simp only [Act.put, List.setIfInBounds_toArray, List.set_cons_succ, List.set_cons_zero]))
    refine wpM_exact rfl rfl rfl Try.func17 (by kernel_rfl) (by kernel_rfl) (fun w1 hw1 _ => H2.out w1 (HZ.out.on hw1)) rfl (by simp only [Act.put, List.setIfInBounds_toArray, List.set_cons_succ, List.set_cons_zero]; rfl) ?_
    repeat (first | ((with_reducible refine wpM_calm ?_ ?_ ?_ ?_); exact rfl; exact rfl; exact rfl; intro K hK; go_big_quiet_op; go_big_quiet_on) | ((with_reducible refine wpM_skip ?_ ?_); exact rfl; simp only [Act.put, List.setIfInBounds_toArray, List.set_cons_succ, List.set_cons_zero]))
    refine wpM_exact rfl rfl rfl Try.func18 (by kernel_rfl) (by kernel_rfl) (fun w1 hw1 _ => H3.out w1 (HZ.out.on hw1)) rfl (by simp only [Act.put, List.setIfInBounds_toArray, List.set_cons_succ, List.set_cons_zero]; rfl) ?_
    repeat (first | ((with_reducible refine wpM_calm ?_ ?_ ?_ ?_); exact rfl; exact rfl; exact rfl; intro K hK; go_big_quiet_op; go_big_quiet_on) | ((with_reducible refine wpM_skip ?_ ?_); exact rfl; simp only [Act.put, List.setIfInBounds_toArray, List.set_cons_succ, List.set_cons_zero]))
    refine wpM_call _ rfl rfl rfl Try.func19 (by kernel_rfl) (by kernel_rfl) (fun w1 hw1 _ => H4.out w1 (HZ.out.on hw1)) rfl ?_
    rintro v34 ⟨_, A34, c34, rfl⟩ a' ha'
    simp only [Act.put, List.setIfInBounds_toArray, List.set_cons_succ, List.set_cons_zero] at ha'
    subst ha'
    repeat (first | ((with_reducible refine wpM_calm ?_ ?_ ?_ ?_); exact rfl; exact rfl; exact rfl; intro K hK; go_big_quiet_op; go_big_quiet_on) | ((with_reducible refine wpM_skip ?_ ?_); exact rfl; simp only [Act.put, List.setIfInBounds_toArray, List.set_cons_succ, List.set_cons_zero]))
    refine wpM_nil ?_
    intro w4 hb4 _
    replace hb0 := on hb0 hb4
    replace kq := kq.on hb4
    replace HZ := Lib.hid (HZ.out.on hb4)
    clear hb4 Q0 Q1 Q2 Q3 H1 H2 H3 H4
    obtain ⟨_, _, q2, q3, _⟩ := kq.four
    have Q2 := fun d os => cell_regrown q2 d os
    have Q3 := fun d os => cell_regrown q3 d os
    clear q2 q3
    go_wp2_with fail
    refine wp_region_mem 13 (fun d => match d with
      | 42 => some (fun v w => StrsR w v H)
      | 46 => some (fun v w => StrsR w v H)
      | 47 => some (Is (.bool true))
      | 49 => some (Is (.bool true))
      | _ => none) (by kernel_rfl) (by kernel_rfl) ?_
    simp only [List.take_succ_cons, List.take_zero, List.drop_succ_cons, List.drop_zero]
    repeat (first | ((with_reducible refine wpM_calm ?_ ?_ ?_ ?_); exact rfl; exact rfl; exact rfl; intro K hK; go_big_quiet_op; go_big_quiet_on) | ((with_reducible refine wpM_skip ?_ ?_); exact rfl; simp only [Act.put, List.setIfInBounds_toArray, List.set_cons_succ, List.set_cons_zero]))
    refine wpM_call _ rfl rfl rfl Try.func21 (by kernel_rfl) (by kernel_rfl) (fun w1 hw1 _ => H5.out w1 (HZ.out.on hw1)) rfl ?_
    rintro v42 - a' ha'
    simp only [Act.put, List.setIfInBounds_toArray, List.set_cons_succ, List.set_cons_zero] at ha'
    subst ha'
    repeat (first | ((with_reducible refine wpM_calm ?_ ?_ ?_ ?_); exact rfl; exact rfl; exact rfl; intro K hK; go_big_quiet_op; go_big_quiet_on) | ((with_reducible refine wpM_skip ?_ ?_); exact rfl; simp only [Act.put, List.setIfInBounds_toArray, List.set_cons_succ, List.set_cons_zero]))
    refine wpM_call _ rfl rfl rfl Try.func22 (by kernel_rfl) (by kernel_rfl) (fun w1 hw1 _ => H6.out w1 (HZ.out.on hw1)) rfl ?_
    rintro v46 - a' ha'
    simp only [Act.put, List.setIfInBounds_toArray, List.set_cons_succ, List.set_cons_zero] at ha'
    subst ha'
    repeat (first | ((with_reducible refine wpM_calm ?_ ?_ ?_ ?_); exact rfl; exact rfl; exact rfl; intro K hK; go_big_quiet_op; go_big_quiet_on) | ((with_reducible refine wpM_skip ?_ ?_); exact rfl; simp only [Act.put, List.setIfInBounds_toArray, List.set_cons_succ, List.set_cons_zero]))
    refine wpM_exact rfl rfl rfl Try.func20 (by kernel_rfl) (by kernel_rfl) (fun w2 hw2 hl => H7.out _ _ w2 (by
      obtain ⟨w3, h3, h4⟩ := Fct.put_at (Fct.put_old (looks_at (k := 3) (d := 42) hl (by kernel_rfl) (by kernel_rfl)))
      exact h3.on h4) (by
      obtain ⟨w3, h3, h4⟩ := Fct.put_at (looks_at (k := 7) (d := 46) hl (by kernel_rfl) (by kernel_rfl))
      exact h3.on h4)) rfl (by simp only [Act.put, List.setIfInBounds_toArray, List.set_cons_succ, List.set_cons_zero]; rfl) ?_
    repeat (first | ((with_reducible refine wpM_calm ?_ ?_ ?_ ?_); exact rfl; exact rfl; exact rfl; intro K hK; go_big_quiet_op; go_big_quiet_on) | ((with_reducible refine wpM_skip ?_ ?_); exact rfl; simp only [Act.put, List.setIfInBounds_toArray, List.set_cons_succ, List.set_cons_zero]))
    refine wpM_exact rfl rfl rfl Try.func7 (by kernel_rfl) (by kernel_rfl) (fun w1 _ _ => HA.out w1) rfl (by simp only [Act.put, List.setIfInBounds_toArray, List.set_cons_succ, List.set_cons_zero]; rfl) ?_
    repeat (first | ((with_reducible refine wpM_calm ?_ ?_ ?_ ?_); exact rfl; exact rfl; exact rfl; intro K hK; go_big_quiet_op; go_big_quiet_on) | ((with_reducible refine wpM_skip ?_ ?_); exact rfl; simp only [Act.put, List.setIfInBounds_toArray, List.set_cons_succ, List.set_cons_zero]))
    refine wpM_nil ?_
    intro w5 hb5 _
    replace hb0 := on hb0 hb5
    go_wp2
    go_ret
    exact ⟨rfl, hb0⟩
  · skip
    refine wp_region_mem 28 (fun d => match d with
      | 17 => some (Is (.bool true))
      | 24 => some (Is (.bool true))
      | 30 => some (Is (.bool true))
      | 34 => some (fun v _ => ∃ A' c', v = .slice A' m c')
      | _ => none) (by kernel_rfl) (by kernel_rfl) ?_
    simp only [List.take_succ_cons, List.take_zero, List.drop_succ_cons, List.drop_zero]
    repeat (first | ((with_reducible refine wpM_calm ?_ ?_ ?_ ?_); exact rfl; exact rfl; exact rfl; intro K hK; go_big_quiet_op; go_big_quiet_on) | ((with_reducible refine wpM_skip ?_ ?_); exact rfl; simp only [Act.put, List.setIfInBounds_toArray, List.set_cons_succ, List.set_cons_zero]))
    refine wpM_exact rfl rfl rfl Try.func16 (by kernel_rfl) (by kernel_rfl) (fun w1 hw1 _ => H1.out w1 (HZ.out.on hw1)) rfl (by simp only [Act.put, List.setIfInBounds_toArray, List.set_cons_succ, List.set_cons_zero]; rfl) ?_
    repeat (first | ((with_reducible refine wpM_calm ?_ ?_ ?_ ?_); exact rfl; exact rfl; exact rfl; intro K hK; go_big_quiet_op; go_big_quiet_on) | ((with_reducible refine wpM_skip ?_ ?_); exact rfl; simp only [Act.put, List.setIfInBounds_toArray, List.set_cons_succ, List.set_cons_zero]))
    refine wpM_exact rfl rfl rfl Try.func17 (by kernel_rfl) (by kernel_rfl) (fun w1 hw1 _ => H2.out w1 (HZ.out.on hw1)) rfl (by simp only [Act.put, List.setIfInBounds_toArray, List.set_cons_succ, List.set_cons_zero]; rfl) ?_
    repeat (first | ((with_reducible refine wpM_calm ?_ ?_ ?_ ?_); exact rfl; exact rfl; exact rfl; intro K hK; go_big_quiet_op; go_big_quiet_on) | ((with_reducible refine wpM_skip ?_ ?_); exact rfl; simp only [Act.put, List.setIfInBounds_toArray, List.set_cons_succ, List.set_cons_zero]))
    refine wpM_exact rfl rfl rfl Try.func18 (by kernel_rfl) (by kernel_rfl) (fun w1 hw1 _ => H3.out w1 (HZ.out.on hw1)) rfl (by simp only [Act.put, List.setIfInBounds_toArray, List.set_cons_succ, List.set_cons_zero]; rfl) ?_
    repeat (first | ((with_reducible refine wpM_calm ?_ ?_ ?_ ?_); exact rfl; exact rfl; exact rfl; intro K hK; go_big_quiet_op; go_big_quiet_on) | ((with_reducible refine wpM_skip ?_ ?_); exact rfl; simp only [Act.put, List.setIfInBounds_toArray, List.set_cons_succ, List.set_cons_zero]))
    refine wpM_call _ rfl rfl rfl Try.func19 (by kernel_rfl) (by kernel_rfl) (fun w1 hw1 _ => H4.out w1 (HZ.out.on hw1)) rfl ?_
    rintro v34 ⟨_, A34, c34, rfl⟩ a' ha'
    simp only [Act.put, List.setIfInBounds_toArray, List.set_cons_succ, List.set_cons_zero] at ha'
    subst ha'
    repeat (first | ((with_reducible refine wpM_calm ?_ ?_ ?_ ?_); exact rfl; exact rfl; exact rfl; intro K hK; go_big_quiet_op; go_big_quiet_on) | ((with_reducible refine wpM_skip ?_ ?_); exact rfl; simp only [Act.put, List.setIfInBounds_toArray, List.set_cons_succ, List.set_cons_zero]))
    refine wpM_nil ?_
    intro w4 hb4 _
    replace hb0 := on hb0 hb4
    replace kq := kq.on hb4
    replace HZ := Lib.hid (HZ.out.on hb4)
    clear hb4 Q0 Q1 Q2 Q3 H1 H2 H3 H4
    obtain ⟨_, _, q2, q3, _⟩ := kq.four
    have Q2 := fun d os => cell_regrown q2 d os
    have Q3 := fun d os => cell_regrown q3 d os
    clear q2 q3
    go_wp2_with fail
    refine wp_region_mem 13 (fun d => match d with
      | 42 => some (fun v w => StrsR w v H)
      | 46 => some (fun v w => StrsR w v H)
      | 47 => some (Is (.bool true))
      | 49 => some (Is (.bool true))
      | _ => none) (by kernel_rfl) (by kernel_rfl) ?_
    simp only [List.take_succ_cons, List.take_zero, List.drop_succ_cons, List.drop_zero]
    repeat (first | ((with_reducible refine wpM_calm ?_ ?_ ?_ ?_); exact rfl; exact rfl; exact rfl; intro K hK; go_big_quiet_op; go_big_quiet_on) | ((with_reducible refine wpM_skip ?_ ?_); exact rfl; simp only [Act.put, List.setIfInBounds_toArray, List.set_cons_succ, List.set_cons_zero]))
    refine wpM_call _ rfl rfl rfl Try.func21 (by kernel_rfl) (by kernel_rfl) (fun w1 hw1 _ => H5.out w1 (HZ.out.on hw1)) rfl ?_
    rintro v42 - a' ha'
    simp only [Act.put, List.setIfInBounds_toArray, List.set_cons_succ, List.set_cons_zero] at ha'
    subst ha'
    repeat (first | ((with_reducible refine wpM_calm ?_ ?_ ?_ ?_); exact rfl; exact rfl; exact rfl; intro K hK; go_big_quiet_op; go_big_quiet_on) | ((with_reducible refine wpM_skip ?_ ?_); exact rfl; simp only [Act.put, List.setIfInBounds_toArray, List.set_cons_succ, List.set_cons_zero]))
    refine wpM_call _ rfl rfl rfl Try.func22 (by kernel_rfl) (by kernel_rfl) (fun w1 hw1 _ => H6.out w1 (HZ.out.on hw1)) rfl ?_
    rintro v46 - a' ha'
    simp only [Act.put, List.setIfInBounds_toArray, List.set_cons_succ, List.set_cons_zero] at ha'
    subst ha'
    repeat (first | ((with_reducible refine wpM_calm ?_ ?_ ?_ ?_); exact rfl; exact rfl; exact rfl; intro K hK; go_big_quiet_op; go_big_quiet_on) | ((with_reducible refine wpM_skip ?_ ?_); exact rfl; simp only [Act.put, List.setIfInBounds_toArray, List.set_cons_succ, List.set_cons_zero]))
    refine wpM_exact rfl rfl rfl Try.func20 (by kernel_rfl) (by kernel_rfl) (fun w2 hw2 hl => H7.out _ _ w2 (by
      obtain ⟨w3, h3, h4⟩ := Fct.put_at (Fct.put_old (looks_at (k := 3) (d := 42) hl (by kernel_rfl) (by kernel_rfl)))
      exact h3.on h4) (by
      obtain ⟨w3, h3, h4⟩ := Fct.put_at (looks_at (k := 7) (d := 46) hl (by kernel_rfl) (by kernel_rfl))
      exact h3.on h4)) rfl (by simp only [Act.put, List.setIfInBounds_toArray, List.set_cons_succ, List.set_cons_zero]; rfl) ?_
    repeat (first | ((with_reducible refine wpM_calm ?_ ?_ ?_ ?_); exact rfl; exact rfl; exact rfl; intro K hK; go_big_quiet_op; go_big_quiet_on) | ((with_reducible refine wpM_skip ?_ ?_); exact rfl; simp only [Act.put, List.setIfInBounds_toArray, List.set_cons_succ, List.set_cons_zero]))
    refine wpM_exact rfl rfl rfl Try.func7 (by kernel_rfl) (by kernel_rfl) (fun w1 _ _ => HA.out w1) rfl (by simp only [Act.put, List.setIfInBounds_toArray, List.set_cons_succ, List.set_cons_zero]; rfl) ?_
    repeat (first | ((with_reducible refine wpM_calm ?_ ?_ ?_ ?_); exact rfl; exact rfl; exact rfl; intro K hK; go_big_quiet_op; go_big_quiet_on) | ((with_reducible refine wpM_skip ?_ ?_); exact rfl; simp only [Act.put, List.setIfInBounds_toArray, List.set_cons_succ, List.set_cons_zero]))
    refine wpM_nil ?_
    intro w5 hb5 _
    replace hb0 := on hb0 hb5
    go_wp2
    go_ret
    exact ⟨rfl, hb0⟩
end Go.Proofs.Yteolenhgaekihaa.Right

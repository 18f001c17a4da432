/- RightActs: the law returns true for every list of users, every text and every label, and makes new memory alone. -/
import Derived.Test.YteolenhgaekihaaRightAlive
import Derived.Test.YteolenhgaekihaaRightRefActs
import Derived.Test.YteolenhgaekihaaRightRefUsers
namespace Go.Proofs.Yteolenhgaekihaa.Right
open Go.RowKit Kit Reg Go.Proofs.Yteolenhgaekihaa.Lab
open Go.Proofs.Yteolenhgaekihaa.Cats (U U_or U_zero)

set_option maxRecDepth 100000 in
set_option maxHeartbeats 8000000 in
theorem acts_law (S : Says) (A : Option Addr) (n cap : Nat) (us : List Us) (t : ByteArray) (l : Int) (s : Nat) (hs : U s) (w : World) (hz : n ≤ 40 → UsersR w A n us) (hcap : n ≤ cap) :
    Calls Try.prog 3 #[.slice A n cap, .string t, .agg #[.int .i64 l, .int .u64 s]] w fun e w' => e = .returned (.bool true) ∧ Below w.heap.size w w' := by
  have HA := Lib.hid (fun w1 => alive_c S w1)
  have hb0 := below1 w (.cells #[.int .i64 l, .int .u64 s] 25)
  have kq := CellsAt.new w [.int .i64 l, .int .u64 s] 25
  by_cases hn : 40 < n
  · have hd : decide (40 < (n : Int)) = true := decide_eq_true (by omega)
    clear hz S
    go_enter Try.func3, Try.ntmps3
    go_wp2_with fail
    refine (HA.out _).mono ?_
    rintro e w1 ⟨rfl, hb1⟩
    go_wp2
    go_ret
    exact ⟨rfl, on hb0 hb1⟩
  have hd : decide (40 < (n : Int)) = false := decide_eq_false (by omega)
  replace hz := hz (by omega)
  have HZ := Lib.hid (hz.on hb0)
  have hlen := hz.1
  obtain ⟨nb, hnb⟩ : ∃ nb, nameB t.data.toList = nb := ⟨_, rfl⟩
  obtain ⟨av, hav⟩ : ∃ av, actsI us t l s = av := ⟨_, rfl⟩
  obtain ⟨p, e, hpe⟩ : ∃ p e, wrongU us 0 us = (p, e) := ⟨_, _, rfl⟩
  have H1 := Lib.hid (fun w1 h => S.find A n cap us t w1 h)
  have H2 := Lib.hid (fun w1 h => rfind_c A n cap us t _ rfl w1 h)
  have H3 : Hid (∀ w1, Calls Try.prog 10 #[.string t] w1 fun e w' => e = .returned (.bool nb) ∧ Below w1.heap.size w1 w') := Lib.hid (fun w1 => by
    have := S.name t w1
    rwa [hnb] at this)
  have H4 : Hid (∀ w1, Calls Try.prog 11 #[.string t] w1 fun e w' => e = .returned (.bool nb) ∧ Below w1.heap.size w1 w') := Lib.hid (fun w1 => (rname_c t nb hnb w1).mono fun e w' ⟨h, h2⟩ => ⟨h, by rw [h2]; exact Below.refl _ _⟩)
  have H5 : Hid (∀ w1, UsersR w1 A n us → Calls Try.prog 12 #[.slice A n cap] w1 fun e' w' => e' = .returned (.tuple #[.int .i64 p, .int .i64 e]) ∧ Below w1.heap.size w1 w') := Lib.hid (fun w1 h => by
    have := S.users A n cap us w1 hcap h
    rwa [hpe] at this)
  have H6 := Lib.hid (fun w1 h => rusers_c A n cap us p e hpe w1 h)
  have H7 : Hid (∀ w1, UsersR w1 A n us → Calls Try.prog 14 #[.slice A n cap, .string t, .agg #[.int .i64 l, .int .u64 s]] w1 fun e w' => e = .returned (.int .i64 av) ∧ Below w1.heap.size w1 w') := Lib.hid (fun w1 h => by
    have := S.acts A n cap us t l s w1 hs h
    rwa [hav] at this)
  have H8 := Lib.hid (fun w1 h => racts_c A n cap us t l s hs av hav w1 h)
  have e1 : (av == av) = true := by simp
  have e2 : (p == p) = true := by simp
  have e3 : (e == e) = true := by simp
  have HW := Lib.hid (clear_find us t 0)
  clear hs hnb hav hpe S
  go_enter Try.func3, Try.ntmps3
  go_wp2_with fail
  generalize w.alloc (.cells #[.int .i64 l, .int .u64 s] 25) = W at *
  refine (H1.out _ HZ.out).mono ?_
  rintro e' w1 ⟨rfl, hb1⟩
  replace hb0 := on hb0 hb1
  replace kq := kq.on hb1
  replace HZ := Lib.hid (HZ.out.on hb1)
  have hsW := hb1.size
  clear hb1 H1
  rcases HW.out with ⟨hf, hc⟩ | ⟨i, u, hu, hf, hc⟩
  · -- nobody of that name
    simp only [hc]
    rw [hf] at H2
    have hbx := below1 w1 (.cells #[.int .i64 0, .int .u64 0] 25)
    have ku := CellsAt.new w1 [.int .i64 0, .int .u64 0] 25
    replace hb0 := on hb0 hbx
    replace kq := kq.on hbx
    replace HZ := Lib.hid (HZ.out.on hbx)
    clear hbx hc HW
    go_wp2_with fail
    generalize w1.alloc (.cells #[.int .i64 0, .int .u64 0] 25) = W1 at *
    refine (H2.out _ HZ.out).mono ?_
    rintro e' w2 ⟨rfl, hb2⟩
    replace hb0 := on hb0 hb2
    replace kq := kq.on hb2
    replace ku := ku.on hb2
    replace HZ := Lib.hid (HZ.out.on hb2)
    clear hb2 H2
    have hge : decide (0 ≤ (-1 : Int)) = false := by decide
    obtain ⟨u0, u1, _⟩ := ku.two
    have U0 := fun d os => cell_regrown u0 d os
    have U1 := fun d os => cell_regrown u1 d os
    clear u0 u1
    cases nb
    · skip
      go_wp2_with fail
      refine wp_region_mem 32 (fun d => match d with
        | 53 => some (Is (.bool false))
        | 55 => some (Is (.bool false))
        | _ => none) (by kernel_rfl) (by kernel_rfl) ?_
      simp only [List.take_succ_cons, List.take_zero, List.drop_succ_cons, List.drop_zero]
      repeat (first | ((with_reducible refine wpM_calm ?_ ?_ ?_ ?_); exact rfl; exact rfl; exact rfl; intro K hK; go_big_quiet_op; go_big_quiet_on) | ((with_reducible refine wpM_skip ?_ ?_); exact rfl; simp only [Act.put, List.setIfInBounds_toArray, List.set_cons_succ, List.set_cons_zero]))
      refine wpM_exact rfl rfl rfl Try.func10 (by kernel_rfl) (by kernel_rfl) (fun w1 _ _ => H3.out w1) rfl (by simp only [Act.put, List.setIfInBounds_toArray, List.set_cons_succ, List.set_cons_zero]; rfl) ?_
      repeat (first | ((with_reducible refine wpM_calm ?_ ?_ ?_ ?_); exact rfl; exact rfl; exact rfl; intro K hK; go_big_quiet_op; go_big_quiet_on) | ((with_reducible refine wpM_skip ?_ ?_); exact rfl; simp only [Act.put, List.setIfInBounds_toArray, List.set_cons_succ, List.set_cons_zero]))
      refine wpM_exact rfl rfl rfl Try.func11 (by kernel_rfl) (by kernel_rfl) (fun w1 _ _ => H4.out w1) rfl (by simp only [Act.put, List.setIfInBounds_toArray, List.set_cons_succ, List.set_cons_zero]; rfl) ?_
      repeat (first | ((with_reducible refine wpM_calm ?_ ?_ ?_ ?_); exact rfl; exact rfl; exact rfl; intro K hK; go_big_quiet_op; go_big_quiet_on) | ((with_reducible refine wpM_skip ?_ ?_); exact rfl; simp only [Act.put, List.setIfInBounds_toArray, List.set_cons_succ, List.set_cons_zero]))
      refine wpM_nil ?_
      intro w3 hb3 _
      replace hb0 := on hb0 hb3
      replace kq := kq.on hb3
      replace HZ := Lib.hid (HZ.out.on hb3)
      clear hb3 U0 U1 ku H3 H4
      go_wp2_with fail
      refine (H5.out _ HZ.out).mono ?_
      rintro e' w4 ⟨rfl, hb4⟩
      replace hb0 := on hb0 hb4
      replace kq := kq.on hb4
      replace HZ := Lib.hid (HZ.out.on hb4)
      clear hb4 H5
      go_wp2_with fail
      refine (H6.out _ HZ.out).mono ?_
      rintro e' w5 ⟨rfl, hb5⟩
      have hbx := below1 w5 (.cells #[.int .i64 p, .int .i64 e] 37)
      have kf := CellsAt.new w5 [.int .i64 p, .int .i64 e] 37
      replace hb0 := on (on hb0 hb5) hbx
      replace kq := (kq.on hb5).on hbx
      replace HZ := Lib.hid ((HZ.out.on hb5).on hbx)
      clear hb5 hbx H6
      go_wp2_with fail
      generalize w5.alloc (.cells #[.int .i64 p, .int .i64 e] 37) = W5 at *
      obtain ⟨q0, q1, _⟩ := kq.two
      obtain ⟨f0, f1, _⟩ := kf.two
      have Q0 := fun d os => cell_regrown q0 d os
      have Q1 := fun d os => cell_regrown q1 d os
      have F0 := fun d os => cell_regrown f0 d os
      have F1 := fun d os => cell_regrown f1 d os
      clear q0 q1 f0 f1
      refine wp_region_mem 25 (fun d => match d with
        | 68 => some (Is (.int .i64 av))
        | 72 => some (Is (.int .i64 av))
        | 87 => some (Is (.bool true))
        | _ => none) (by kernel_rfl) (by kernel_rfl) ?_
      simp only [List.take_succ_cons, List.take_zero, List.drop_succ_cons, List.drop_zero]
      repeat (first | ((with_reducible refine wpM_calm ?_ ?_ ?_ ?_); exact rfl; exact rfl; exact rfl; intro K hK; go_big_quiet_op; go_big_quiet_on) | ((with_reducible refine wpM_skip ?_ ?_); exact rfl; simp only [Act.put, List.setIfInBounds_toArray, List.set_cons_succ, List.set_cons_zero]))
      refine wpM_exact rfl rfl rfl Try.func14 (by kernel_rfl) (by kernel_rfl) (fun w1 hw1 _ => H7.out w1 (HZ.out.on hw1)) rfl (by simp only [Act.put, List.setIfInBounds_toArray, List.set_cons_succ, List.set_cons_zero]; rfl) ?_
      repeat (first | ((with_reducible refine wpM_calm ?_ ?_ ?_ ?_); exact rfl; exact rfl; exact rfl; intro K hK; go_big_quiet_op; go_big_quiet_on) | ((with_reducible refine wpM_skip ?_ ?_); exact rfl; simp only [Act.put, List.setIfInBounds_toArray, List.set_cons_succ, List.set_cons_zero]))
      refine wpM_exact rfl rfl rfl Try.func15 (by kernel_rfl) (by kernel_rfl) (fun w1 hw1 _ => H8.out w1 (HZ.out.on hw1)) rfl (by simp only [Act.put, List.setIfInBounds_toArray, List.set_cons_succ, List.set_cons_zero]; rfl) ?_
      repeat (first | ((with_reducible refine wpM_calm ?_ ?_ ?_ ?_); exact rfl; exact rfl; exact rfl; intro K hK; go_big_quiet_op; go_big_quiet_on) | ((with_reducible refine wpM_skip ?_ ?_); exact rfl; simp only [Act.put, List.setIfInBounds_toArray, List.set_cons_succ, List.set_cons_zero]))
      refine wpM_exact rfl rfl rfl Try.func7 (by kernel_rfl) (by kernel_rfl) (fun w1 _ _ => HA.out w1) rfl (by simp only [Act.put, List.setIfInBounds_toArray, List.set_cons_succ, List.set_cons_zero]; rfl) ?_
      repeat (first | ((with_reducible refine wpM_calm ?_ ?_ ?_ ?_); exact rfl; exact rfl; exact rfl; intro K hK; go_big_quiet_op; go_big_quiet_on) | ((with_reducible refine wpM_skip ?_ ?_); exact rfl; simp only [Act.put, List.setIfInBounds_toArray, List.set_cons_succ, List.set_cons_zero]))
      refine wpM_nil ?_
      intro w6 hb6 _
      replace hb0 := on hb0 hb6
      go_wp2
      go_ret
      exact ⟨rfl, hb0⟩
    · skip
      go_wp2_with fail
      refine wp_region_mem 32 (fun d => match d with
        | 53 => some (Is (.bool true))
        | 55 => some (Is (.bool true))
        | _ => none) (by kernel_rfl) (by kernel_rfl) ?_
      simp only [List.take_succ_cons, List.take_zero, List.drop_succ_cons, List.drop_zero]
      repeat (first | ((with_reducible refine wpM_calm ?_ ?_ ?_ ?_); exact rfl; exact rfl; exact rfl; intro K hK; go_big_quiet_op; go_big_quiet_on) | ((with_reducible refine wpM_skip ?_ ?_); exact rfl; simp only [Act.put, List.setIfInBounds_toArray, List.set_cons_succ, List.set_cons_zero]))
      refine wpM_exact rfl rfl rfl Try.func10 (by kernel_rfl) (by kernel_rfl) (fun w1 _ _ => H3.out w1) rfl (by simp only [Act.put, List.setIfInBounds_toArray, List.set_cons_succ, List.set_cons_zero]; rfl) ?_
      repeat (first | ((with_reducible refine wpM_calm ?_ ?_ ?_ ?_); exact rfl; exact rfl; exact rfl; intro K hK; go_big_quiet_op; go_big_quiet_on) | ((with_reducible refine wpM_skip ?_ ?_); exact rfl; simp only [Act.put, List.setIfInBounds_toArray, List.set_cons_succ, List.set_cons_zero]))
      refine wpM_exact rfl rfl rfl Try.func11 (by kernel_rfl) (by kernel_rfl) (fun w1 _ _ => H4.out w1) rfl (by simp only [Act.put, List.setIfInBounds_toArray, List.set_cons_succ, List.set_cons_zero]; rfl) ?_
      repeat (first | ((with_reducible refine wpM_calm ?_ ?_ ?_ ?_); exact rfl; exact rfl; exact rfl; intro K hK; go_big_quiet_op; go_big_quiet_on) | ((with_reducible refine wpM_skip ?_ ?_); exact rfl; simp only [Act.put, List.setIfInBounds_toArray, List.set_cons_succ, List.set_cons_zero]))
      refine wpM_nil ?_
      intro w3 hb3 _
      replace hb0 := on hb0 hb3
      replace kq := kq.on hb3
      replace HZ := Lib.hid (HZ.out.on hb3)
      clear hb3 U0 U1 ku H3 H4
      go_wp2_with fail
      refine (H5.out _ HZ.out).mono ?_
      rintro e' w4 ⟨rfl, hb4⟩
      replace hb0 := on hb0 hb4
      replace kq := kq.on hb4
      replace HZ := Lib.hid (HZ.out.on hb4)
      clear hb4 H5
      go_wp2_with fail
      refine (H6.out _ HZ.out).mono ?_
      rintro e' w5 ⟨rfl, hb5⟩
      have hbx := below1 w5 (.cells #[.int .i64 p, .int .i64 e] 37)
      have kf := CellsAt.new w5 [.int .i64 p, .int .i64 e] 37
      replace hb0 := on (on hb0 hb5) hbx
      replace kq := (kq.on hb5).on hbx
      replace HZ := Lib.hid ((HZ.out.on hb5).on hbx)
      clear hb5 hbx H6
      go_wp2_with fail
      generalize w5.alloc (.cells #[.int .i64 p, .int .i64 e] 37) = W5 at *
      obtain ⟨q0, q1, _⟩ := kq.two
      obtain ⟨f0, f1, _⟩ := kf.two
      have Q0 := fun d os => cell_regrown q0 d os
      have Q1 := fun d os => cell_regrown q1 d os
      have F0 := fun d os => cell_regrown f0 d os
      have F1 := fun d os => cell_regrown f1 d os
      clear q0 q1 f0 f1
      refine wp_region_mem 25 (fun d => match d with
        | 68 => some (Is (.int .i64 av))
        | 72 => some (Is (.int .i64 av))
        | 87 => some (Is (.bool true))
        | _ => none) (by kernel_rfl) (by kernel_rfl) ?_
      simp only [List.take_succ_cons, List.take_zero, List.drop_succ_cons, List.drop_zero]
      repeat (first | ((with_reducible refine wpM_calm ?_ ?_ ?_ ?_); exact rfl; exact rfl; exact rfl; intro K hK; go_big_quiet_op; go_big_quiet_on) | ((with_reducible refine wpM_skip ?_ ?_); exact rfl; simp only [Act.put, List.setIfInBounds_toArray, List.set_cons_succ, List.set_cons_zero]))
      refine wpM_exact rfl rfl rfl Try.func14 (by kernel_rfl) (by kernel_rfl) (fun w1 hw1 _ => H7.out w1 (HZ.out.on hw1)) rfl (by simp only [Act.put, List.setIfInBounds_toArray, List.set_cons_succ, List.set_cons_zero]; rfl) ?_
      repeat (first | ((with_reducible refine wpM_calm ?_ ?_ ?_ ?_); exact rfl; exact rfl; exact rfl; intro K hK; go_big_quiet_op; go_big_quiet_on) | ((with_reducible refine wpM_skip ?_ ?_); exact rfl; simp only [Act.put, List.setIfInBounds_toArray, List.set_cons_succ, List.set_cons_zero]))
      refine wpM_exact rfl rfl rfl Try.func15 (by kernel_rfl) (by kernel_rfl) (fun w1 hw1 _ => H8.out w1 (HZ.out.on hw1)) rfl (by simp only [Act.put, List.setIfInBounds_toArray, List.set_cons_succ, List.set_cons_zero]; rfl) ?_
      repeat (first | ((with_reducible refine wpM_calm ?_ ?_ ?_ ?_); exact rfl; exact rfl; exact rfl; intro K hK; go_big_quiet_op; go_big_quiet_on) | ((with_reducible refine wpM_skip ?_ ?_); exact rfl; simp only [Act.put, List.setIfInBounds_toArray, List.set_cons_succ, List.set_cons_zero]))
      refine wpM_exact rfl rfl rfl Try.func7 (by kernel_rfl) (by kernel_rfl) (fun w1 _ _ => HA.out w1) rfl (by simp only [Act.put, List.setIfInBounds_toArray, List.set_cons_succ, List.set_cons_zero]; rfl) ?_
      repeat (first | ((with_reducible refine wpM_calm ?_ ?_ ?_ ?_); exact rfl; exact rfl; exact rfl; intro K hK; go_big_quiet_op; go_big_quiet_on) | ((with_reducible refine wpM_skip ?_ ?_); exact rfl; simp only [Act.put, List.setIfInBounds_toArray, List.set_cons_succ, List.set_cons_zero]))
      refine wpM_nil ?_
      intro w6 hb6 _
      replace hb0 := on hb0 hb6
      go_wp2
      go_ret
      exact ⟨rfl, hb0⟩
  · -- the user u at the place i
    rw [Nat.zero_add] at hf
    have hi : i < n := by rw [← hlen]; exact (List.getElem?_eq_some_iff.1 hu).1
    simp only [hc]
    rw [hf] at H2
    have hbx := below1 w1 (.cells #[.int .i64 u.l, .int .u64 u.s] 25)
    have ku := CellsAt.new w1 [.int .i64 u.l, .int .u64 u.s] 25
    replace hb0 := on hb0 hbx
    replace kq := kq.on hbx
    replace HZ := Lib.hid (HZ.out.on hbx)
    clear hbx hc HW
    go_wp2_with fail
    generalize w1.alloc (.cells #[.int .i64 u.l, .int .u64 u.s] 25) = W1 at *
    refine (H2.out _ HZ.out).mono ?_
    rintro e' w2 ⟨rfl, hb2⟩
    replace hb0 := on hb0 hb2
    replace kq := kq.on hb2
    replace ku := ku.on hb2
    replace HZ := Lib.hid (HZ.out.on hb2)
    clear hb2 H2
    have hge : decide (0 ≤ (i : Int)) = true := by simp
    obtain ⟨_, _, _, h4⟩ := HZ.out
    obtain ⟨g, o, rfl, hgl, hcell⟩ := h4 (by omega)
    obtain ⟨_, c1, c2⟩ := user_cells (hcell i u hu)
    have C1 := fun d os => cell_regrown c1 d os
    have C2 := fun d os => cell_regrown c2 d os
    clear h4 hcell hu hf c1 c2
    obtain ⟨u0, u1, _⟩ := ku.two
    have U0 := fun d os => cell_regrown u0 d os
    have U1 := fun d os => cell_regrown u1 d os
    clear u0 u1
    cases nb
    · skip
      go_wp2_with fail
      refine wp_region_mem 32 (fun d => match d with
        | 53 => some (Is (.bool false))
        | 55 => some (Is (.bool false))
        | _ => none) (by kernel_rfl) (by kernel_rfl) ?_
      simp only [List.take_succ_cons, List.take_zero, List.drop_succ_cons, List.drop_zero]
      repeat (first | ((with_reducible refine wpM_calm ?_ ?_ ?_ ?_); exact rfl; exact rfl; exact rfl; intro K hK; go_big_quiet_op; go_big_quiet_on) | ((with_reducible refine wpM_skip ?_ ?_); exact rfl; simp only [Act.put, List.setIfInBounds_toArray, List.set_cons_succ, List.set_cons_zero]))
      refine wpM_exact rfl rfl rfl Try.func10 (by kernel_rfl) (by kernel_rfl) (fun w1 _ _ => H3.out w1) rfl (by simp only [Act.put, List.setIfInBounds_toArray, List.set_cons_succ, List.set_cons_zero]; rfl) ?_
      repeat (first | ((with_reducible refine wpM_calm ?_ ?_ ?_ ?_); exact rfl; exact rfl; exact rfl; intro K hK; go_big_quiet_op; go_big_quiet_on) | ((with_reducible refine wpM_skip ?_ ?_); exact rfl; simp only [Act.put, List.setIfInBounds_toArray, List.set_cons_succ, List.set_cons_zero]))
      refine wpM_exact rfl rfl rfl Try.func11 (by kernel_rfl) (by kernel_rfl) (fun w1 _ _ => H4.out w1) rfl (by simp only [Act.put, List.setIfInBounds_toArray, List.set_cons_succ, List.set_cons_zero]; rfl) ?_
      repeat (first | ((with_reducible refine wpM_calm ?_ ?_ ?_ ?_); exact rfl; exact rfl; exact rfl; intro K hK; go_big_quiet_op; go_big_quiet_on) | ((with_reducible refine wpM_skip ?_ ?_); exact rfl; simp only [Act.put, List.setIfInBounds_toArray, List.set_cons_succ, List.set_cons_zero]))
      refine wpM_nil ?_
      intro w3 hb3 _
      replace hb0 := on hb0 hb3
      replace kq := kq.on hb3
      replace HZ := Lib.hid (HZ.out.on hb3)
      clear hb3 U0 U1 ku H3 H4 C1 C2
      go_wp2_with fail
      refine (H5.out _ HZ.out).mono ?_
      rintro e' w4 ⟨rfl, hb4⟩
      replace hb0 := on hb0 hb4
      replace kq := kq.on hb4
      replace HZ := Lib.hid (HZ.out.on hb4)
      clear hb4 H5
      go_wp2_with fail
      refine (H6.out _ HZ.out).mono ?_
      rintro e' w5 ⟨rfl, hb5⟩
      have hbx := below1 w5 (.cells #[.int .i64 p, .int .i64 e] 37)
      have kf := CellsAt.new w5 [.int .i64 p, .int .i64 e] 37
      replace hb0 := on (on hb0 hb5) hbx
      replace kq := (kq.on hb5).on hbx
      replace HZ := Lib.hid ((HZ.out.on hb5).on hbx)
      clear hb5 hbx H6
      go_wp2_with fail
      generalize w5.alloc (.cells #[.int .i64 p, .int .i64 e] 37) = W5 at *
      obtain ⟨q0, q1, _⟩ := kq.two
      obtain ⟨f0, f1, _⟩ := kf.two
      have Q0 := fun d os => cell_regrown q0 d os
      have Q1 := fun d os => cell_regrown q1 d os
      have F0 := fun d os => cell_regrown f0 d os
      have F1 := fun d os => cell_regrown f1 d os
      clear q0 q1 f0 f1
      refine wp_region_mem 25 (fun d => match d with
        | 68 => some (Is (.int .i64 av))
        | 72 => some (Is (.int .i64 av))
        | 87 => some (Is (.bool true))
        | _ => none) (by kernel_rfl) (by kernel_rfl) ?_
      simp only [List.take_succ_cons, List.take_zero, List.drop_succ_cons, List.drop_zero]
      repeat (first | ((with_reducible refine wpM_calm ?_ ?_ ?_ ?_); exact rfl; exact rfl; exact rfl; intro K hK; go_big_quiet_op; go_big_quiet_on) | ((with_reducible refine wpM_skip ?_ ?_); exact rfl; simp only [Act.put, List.setIfInBounds_toArray, List.set_cons_succ, List.set_cons_zero]))
      refine wpM_exact rfl rfl rfl Try.func14 (by kernel_rfl) (by kernel_rfl) (fun w1 hw1 _ => H7.out w1 (HZ.out.on hw1)) rfl (by simp only [Act.put, List.setIfInBounds_toArray, List.set_cons_succ, List.set_cons_zero]; rfl) ?_
      repeat (first | ((with_reducible refine wpM_calm ?_ ?_ ?_ ?_); exact rfl; exact rfl; exact rfl; intro K hK; go_big_quiet_op; go_big_quiet_on) | ((with_reducible refine wpM_skip ?_ ?_); exact rfl; simp only [Act.put, List.setIfInBounds_toArray, List.set_cons_succ, List.set_cons_zero]))
      refine wpM_exact rfl rfl rfl Try.func15 (by kernel_rfl) (by kernel_rfl) (fun w1 hw1 _ => H8.out w1 (HZ.out.on hw1)) rfl (by simp only [Act.put, List.setIfInBounds_toArray, List.set_cons_succ, List.set_cons_zero]; rfl) ?_
      repeat (first | ((with_reducible refine wpM_calm ?_ ?_ ?_ ?_); exact rfl; exact rfl; exact rfl; intro K hK; go_big_quiet_op; go_big_quiet_on) | ((with_reducible refine wpM_skip ?_ ?_); exact rfl; simp only [Act.put, List.setIfInBounds_toArray, List.set_cons_succ, List.set_cons_zero]))
      refine wpM_exact rfl rfl rfl Try.func7 (by kernel_rfl) (by kernel_rfl) (fun w1 _ _ => HA.out w1) rfl (by simp only [Act.put, List.setIfInBounds_toArray, List.set_cons_succ, List.set_cons_zero]; rfl) ?_
      repeat (first | ((with_reducible refine wpM_calm ?_ ?_ ?_ ?_); exact rfl; exact rfl; exact rfl; intro K hK; go_big_quiet_op; go_big_quiet_on) | ((with_reducible refine wpM_skip ?_ ?_); exact rfl; simp only [Act.put, List.setIfInBounds_toArray, List.set_cons_succ, List.set_cons_zero]))
      refine wpM_nil ?_
      intro w6 hb6 _
      replace hb0 := on hb0 hb6
      go_wp2
      go_ret
      exact ⟨rfl, hb0⟩
    · skip
      go_wp2_with fail
      refine wp_region_mem 32 (fun d => match d with
        | 53 => some (Is (.bool true))
        | 55 => some (Is (.bool true))
        | _ => none) (by kernel_rfl) (by kernel_rfl) ?_
      simp only [List.take_succ_cons, List.take_zero, List.drop_succ_cons, List.drop_zero]
      repeat (first | ((with_reducible refine wpM_calm ?_ ?_ ?_ ?_); exact rfl; exact rfl; exact rfl; intro K hK; go_big_quiet_op; go_big_quiet_on) | ((with_reducible refine wpM_skip ?_ ?_); exact rfl; simp only [Act.put, List.setIfInBounds_toArray, List.set_cons_succ, List.set_cons_zero]))
      refine wpM_exact rfl rfl rfl Try.func10 (by kernel_rfl) (by kernel_rfl) (fun w1 _ _ => H3.out w1) rfl (by simp only [Act.put, List.setIfInBounds_toArray, List.set_cons_succ, List.set_cons_zero]; rfl) ?_
      repeat (first | ((with_reducible refine wpM_calm ?_ ?_ ?_ ?_); exact rfl; exact rfl; exact rfl; intro K hK; go_big_quiet_op; go_big_quiet_on) | ((with_reducible refine wpM_skip ?_ ?_); exact rfl; simp only [Act.put, List.setIfInBounds_toArray, List.set_cons_succ, List.set_cons_zero]))
      refine wpM_exact rfl rfl rfl Try.func11 (by kernel_rfl) (by kernel_rfl) (fun w1 _ _ => H4.out w1) rfl (by simp only [Act.put, List.setIfInBounds_toArray, List.set_cons_succ, List.set_cons_zero]; rfl) ?_
      repeat (first | ((with_reducible refine wpM_calm ?_ ?_ ?_ ?_); exact rfl; exact rfl; exact rfl; intro K hK; go_big_quiet_op; go_big_quiet_on) | ((with_reducible refine wpM_skip ?_ ?_); exact rfl; simp only [Act.put, List.setIfInBounds_toArray, List.set_cons_succ, List.set_cons_zero]))
      refine wpM_nil ?_
      intro w3 hb3 _
      replace hb0 := on hb0 hb3
      replace kq := kq.on hb3
      replace HZ := Lib.hid (HZ.out.on hb3)
      clear hb3 U0 U1 ku H3 H4 C1 C2
      go_wp2_with fail
      refine (H5.out _ HZ.out).mono ?_
      rintro e' w4 ⟨rfl, hb4⟩
      replace hb0 := on hb0 hb4
      replace kq := kq.on hb4
      replace HZ := Lib.hid (HZ.out.on hb4)
      clear hb4 H5
      go_wp2_with fail
      refine (H6.out _ HZ.out).mono ?_
      rintro e' w5 ⟨rfl, hb5⟩
      have hbx := below1 w5 (.cells #[.int .i64 p, .int .i64 e] 37)
      have kf := CellsAt.new w5 [.int .i64 p, .int .i64 e] 37
      replace hb0 := on (on hb0 hb5) hbx
      replace kq := (kq.on hb5).on hbx
      replace HZ := Lib.hid ((HZ.out.on hb5).on hbx)
      clear hb5 hbx H6
      go_wp2_with fail
      generalize w5.alloc (.cells #[.int .i64 p, .int .i64 e] 37) = W5 at *
      obtain ⟨q0, q1, _⟩ := kq.two
      obtain ⟨f0, f1, _⟩ := kf.two
      have Q0 := fun d os => cell_regrown q0 d os
      have Q1 := fun d os => cell_regrown q1 d os
      have F0 := fun d os => cell_regrown f0 d os
      have F1 := fun d os => cell_regrown f1 d os
      clear q0 q1 f0 f1
      refine wp_region_mem 25 (fun d => match d with
        | 68 => some (Is (.int .i64 av))
        | 72 => some (Is (.int .i64 av))
        | 87 => some (Is (.bool true))
        | _ => none) (by kernel_rfl) (by kernel_rfl) ?_
      simp only [List.take_succ_cons, List.take_zero, List.drop_succ_cons, List.drop_zero]
      repeat (first | ((with_reducible refine wpM_calm ?_ ?_ ?_ ?_); exact rfl; exact rfl; exact rfl; intro K hK; go_big_quiet_op; go_big_quiet_on) | ((with_reducible refine wpM_skip ?_ ?_); exact rfl; simp only [Act.put, List.setIfInBounds_toArray, List.set_cons_succ, List.set_cons_zero]))
      refine wpM_exact rfl rfl rfl Try.func14 (by kernel_rfl) (by kernel_rfl) (fun w1 hw1 _ => H7.out w1 (HZ.out.on hw1)) rfl (by simp only [Act.put, List.setIfInBounds_toArray, List.set_cons_succ, List.set_cons_zero]; rfl) ?_
      repeat (first | ((with_reducible refine wpM_calm ?_ ?_ ?_ ?_); exact rfl; exact rfl; exact rfl; intro K hK; go_big_quiet_op; go_big_quiet_on) | ((with_reducible refine wpM_skip ?_ ?_); exact rfl; simp only [Act.put, List.setIfInBounds_toArray, List.set_cons_succ, List.set_cons_zero]))
      refine wpM_exact rfl rfl rfl Try.func15 (by kernel_rfl) (by kernel_rfl) (fun w1 hw1 _ => H8.out w1 (HZ.out.on hw1)) rfl (by simp only [Act.put, List.setIfInBounds_toArray, List.set_cons_succ, List.set_cons_zero]; rfl) ?_
      repeat (first | ((with_reducible refine wpM_calm ?_ ?_ ?_ ?_); exact rfl; exact rfl; exact rfl; intro K hK; go_big_quiet_op; go_big_quiet_on) | ((with_reducible refine wpM_skip ?_ ?_); exact rfl; simp only [Act.put, List.setIfInBounds_toArray, List.set_cons_succ, List.set_cons_zero]))
      refine wpM_exact rfl rfl rfl Try.func7 (by kernel_rfl) (by kernel_rfl) (fun w1 _ _ => HA.out w1) rfl (by simp only [Act.put, List.setIfInBounds_toArray, List.set_cons_succ, List.set_cons_zero]; rfl) ?_
      repeat (first | ((with_reducible refine wpM_calm ?_ ?_ ?_ ?_); exact rfl; exact rfl; exact rfl; intro K hK; go_big_quiet_op; go_big_quiet_on) | ((with_reducible refine wpM_skip ?_ ?_); exact rfl; simp only [Act.put, List.setIfInBounds_toArray, List.set_cons_succ, List.set_cons_zero]))
      refine wpM_nil ?_
      intro w6 hb6 _
      replace hb0 := on hb0 hb6
      go_wp2
      go_ret
      exact ⟨rfl, hb0⟩
end Go.Proofs.Yteolenhgaekihaa.Right

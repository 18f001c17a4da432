/- ValueTurns, walked: a value as a number, a text, a truth, and as it is shown: kind by kind. Written by wip/genval6.py. -/
import Derived.Test.YtkegelhhajfipaaGreatDoorValLawM
namespace Go.Proofs.YtkegelhhajfipaaGreatDoor.Val
open Go.RowKit Kit Reg Dec Dig

set_option maxRecDepth 100000 in
set_option maxHeartbeats 4000000 in
theorem turns_not (k n : Int) (t : ByteArray) (hm : mayV k n t = false) (w : World) (hL : PLibs w) : Calls Tryz.prog 4 #[.agg #[.int .i64 k, .int .i64 n, .string t]] w (LawEnd w) := by
  have HM := Lib.hid (fun w1 => rmayv_c k n t false hm w1)
  have HA := Lib.hid (fun w1 hL => alive_c w1 hL)
  have HL := Lib.hid (hL.grown (below1 w (.cells #[.int .i64 k, .int .i64 n, .string t] 23)))
  clear hL hm
  go_enter Tryz.func4, Tryz.ntmps4
  go_wp2_with fail
  refine (HM.out _).mono ?_
  rintro e w1 ⟨rfl, hb1⟩
  have hb2 := on (below1 w _) hb1
  have HL1 := Lib.hid (HL.out.grown hb1)
  clear hb1
  go_wp2_with fail
  refine (HA.out _ HL1.out).mono ?_
  rintro e w2 ⟨rfl, hb3⟩
  replace hb2 := on hb2 hb3
  go_wp2
  go_ret
  exact ⟨rfl, hb2⟩
set_option maxRecDepth 100000 in
set_option maxHeartbeats 8000000 in
theorem turns_e  (q z : ByteArray)
    (HM : Yields 12 #[.agg #[.int .i64 0, .int .i64 0, .string ⟨#[]⟩]] (.bool true))
    (PN : YieldsL 20 #[.agg #[.int .i64 0, .int .i64 0, .string ⟨#[]⟩]] (.agg #[.int .i64 1, .int .i64 0, .string ⟨#[]⟩]))
    (RN : YieldsL 23 #[.agg #[.int .i64 0, .int .i64 0, .string ⟨#[]⟩]] (.agg #[.int .i64 1, .int .i64 0, .string ⟨#[]⟩]))
    (PT : YieldsL 21 #[.agg #[.int .i64 0, .int .i64 0, .string ⟨#[]⟩]] (.agg #[.int .i64 2, .int .i64 0, .string ⟨#[]⟩]))
    (RT : YieldsL 24 #[.agg #[.int .i64 0, .int .i64 0, .string ⟨#[]⟩]] (.agg #[.int .i64 2, .int .i64 0, .string ⟨#[]⟩]))
    (PB : YieldsL 22 #[.agg #[.int .i64 0, .int .i64 0, .string ⟨#[]⟩]] (.agg #[.int .i64 3, .int .i64 0, .string ⟨#[]⟩]))
    (RB : YieldsL 25 #[.agg #[.int .i64 0, .int .i64 0, .string ⟨#[]⟩]] (.agg #[.int .i64 3, .int .i64 0, .string ⟨#[]⟩]))
    (PS : YieldsL 26 #[.agg #[.int .i64 0, .int .i64 0, .string ⟨#[]⟩]] (.string q))
    (RS : YieldsL 27 #[.agg #[.int .i64 0, .int .i64 0, .string ⟨#[]⟩]] (.string q))
    (PQ : YieldsL 28 #[.string ⟨#[]⟩] (.string z))
    (RQ : YieldsL 29 #[.string ⟨#[]⟩] (.string z)) (w : World) (hL : PLibs w) :
    Calls Tryz.prog 4 #[.agg #[.int .i64 0, .int .i64 0, .string ⟨#[]⟩]] w (LawEnd w) := by
  have HA := Lib.hid (fun w1 hL => alive_c w1 hL)
  have HL := Lib.hid hL
  clear hL
  go_enter Tryz.func4, Tryz.ntmps4
  go_wp2_with fail
  have hv := CellsAt.new w [.int .i64 0, .int .i64 0, .string ⟨#[]⟩] 23
  have hb0 := below1 w (.cells #[.int .i64 0, .int .i64 0, .string ⟨#[]⟩] 23)
  have hsz : (w.alloc (.cells #[.int .i64 0, .int .i64 0, .string ⟨#[]⟩] 23)).heap.size = w.heap.size + 1 := by simp
  refine (HM.out _).mono ?_
  rintro e W ⟨rfl, hb1⟩
  replace hv := hv.on hb1
  replace hb0 := on hb0 hb1
  have hs1 := hb1.size
  rw [hsz] at hs1
  clear hb1 hsz
  obtain ⟨p0, p1, p2, _⟩ := hv.three
  have C0 := fun d os => cell_regrown p0 d os
  have C1 := fun d os => cell_regrown p1 d os
  have C2 := fun d os => cell_regrown p2 d os
  clear p0 p1 p2
  have HL1 := Lib.hid (HL.out.grown hb0)
  go_wp2_with fail
  refine wp_region_new 9 (fun d => match d with
    | 11 => some (Is (.agg #[.int .i64 1, .int .i64 0, .string ⟨#[]⟩]))
    | 13 => some (Is (.agg #[.int .i64 2, .int .i64 0, .string ⟨#[]⟩]))
    | 15 => some (Is (.agg #[.int .i64 3, .int .i64 0, .string ⟨#[]⟩]))
    | 3 => some (NewCells W.heap.size [.int .i64 0, .int .i64 0, .string ⟨#[]⟩])
    | 4 => some (NewCells W.heap.size [.int .i64 0, .int .i64 0, .string ⟨#[]⟩])
    | 5 => some (NewCells W.heap.size [.int .i64 0, .int .i64 0, .string ⟨#[]⟩])
    | _ => none) (fun d => d == 3 || d == 4 || d == 5) (by kernel_rfl) (by kernel_rfl) ?_
  simp only [List.take_succ_cons, List.take_zero, List.drop_succ_cons, List.drop_zero]
  repeat (first | ((with_reducible refine wpM_calm ?_ ?_ ?_ ?_); exact rfl; exact rfl; exact rfl; intro K hK; go_big_quiet_op; go_big_quiet_on) | ((with_reducible refine wpM_skip ?_ ?_); exact rfl; simp only [Act.put, List.setIfInBounds_toArray, List.set_cons_succ, List.set_cons_zero]))
  refine wpM_exact rfl rfl rfl Tryz.func20 (by kernel_rfl) (by kernel_rfl) (fun w1 hw1 _ => PN.out w1 (HL1.out.grown hw1)) rfl (by simp only [Act.put, List.setIfInBounds_toArray, List.set_cons_succ, List.set_cons_zero]; rfl) ?_
  repeat (first | ((with_reducible refine wpM_calm ?_ ?_ ?_ ?_); exact rfl; exact rfl; exact rfl; intro K hK; go_big_quiet_op; go_big_quiet_on) | ((with_reducible refine wpM_skip ?_ ?_); exact rfl; simp only [Act.put, List.setIfInBounds_toArray, List.set_cons_succ, List.set_cons_zero]))
  refine wpM_exact rfl rfl rfl Tryz.func21 (by kernel_rfl) (by kernel_rfl) (fun w1 hw1 _ => PT.out w1 (HL1.out.grown hw1)) rfl (by simp only [Act.put, List.setIfInBounds_toArray, List.set_cons_succ, List.set_cons_zero]; rfl) ?_
  repeat (first | ((with_reducible refine wpM_calm ?_ ?_ ?_ ?_); exact rfl; exact rfl; exact rfl; intro K hK; go_big_quiet_op; go_big_quiet_on) | ((with_reducible refine wpM_skip ?_ ?_); exact rfl; simp only [Act.put, List.setIfInBounds_toArray, List.set_cons_succ, List.set_cons_zero]))
  refine wpM_exact rfl rfl rfl Tryz.func22 (by kernel_rfl) (by kernel_rfl) (fun w1 hw1 _ => PB.out w1 (HL1.out.grown hw1)) rfl (by simp only [Act.put, List.setIfInBounds_toArray, List.set_cons_succ, List.set_cons_zero]; rfl) ?_
  refine wpM_alloc _ (.cells #[.int .i64 0, .int .i64 0, .string ⟨#[]⟩] 23) rfl rfl rfl (fun w1 => by simp [go_sem]) (fun w1 h1 => (NewCells.mk w1 _ _ h1.size).2) ?_ (by rintro v ⟨_, b, rfl, _⟩; exact ⟨b, rfl⟩)
  intro b3 a' ha'
  simp only [Act.put, List.setIfInBounds_toArray, List.set_cons_succ, List.set_cons_zero] at ha'
  subst ha'
  refine wpM_alloc _ (.cells #[.int .i64 0, .int .i64 0, .string ⟨#[]⟩] 23) rfl rfl rfl (fun w1 => by simp [go_sem]) (fun w1 h1 => (NewCells.mk w1 _ _ h1.size).2) ?_ (by rintro v ⟨_, b, rfl, _⟩; exact ⟨b, rfl⟩)
  intro b4 a' ha'
  simp only [Act.put, List.setIfInBounds_toArray, List.set_cons_succ, List.set_cons_zero] at ha'
  subst ha'
  refine wpM_alloc _ (.cells #[.int .i64 0, .int .i64 0, .string ⟨#[]⟩] 23) rfl rfl rfl (fun w1 => by simp [go_sem]) (fun w1 h1 => (NewCells.mk w1 _ _ h1.size).2) ?_ (by rintro v ⟨_, b, rfl, _⟩; exact ⟨b, rfl⟩)
  intro b5 a' ha'
  simp only [Act.put, List.setIfInBounds_toArray, List.set_cons_succ, List.set_cons_zero] at ha'
  subst ha'
  refine wpM_nil ?_
  intro w4 hb4 hG
  have ne01 : b3 ≠ b4 := hG.2.1 6 b3 7 b4 (.inl (.inl (.inr ⟨rfl, rfl⟩))) (.inl (.inr ⟨rfl, rfl⟩)) (by decide)
  have ne02 : b3 ≠ b5 := hG.2.1 6 b3 8 b5 (.inl (.inl (.inr ⟨rfl, rfl⟩))) (.inr ⟨rfl, rfl⟩) (by decide)
  have ne12 : b4 ≠ b5 := hG.2.1 7 b4 8 b5 (.inl (.inr ⟨rfl, rfl⟩)) (.inr ⟨rfl, rfl⟩) (by decide)
  obtain ⟨hB0, k0⟩ := NewCells.at (Fct.put_at (Fct.put_old (Fct.put_old (hG.2.2.1 6))))
  obtain ⟨hB1, k1⟩ := NewCells.at (Fct.put_at (Fct.put_old (hG.2.2.1 7)))
  obtain ⟨hB2, k2⟩ := NewCells.at (Fct.put_at (hG.2.2.1 8))
  clear hG C0 C1 C2
  replace hb0 := on hb0 hb4
  replace hv := hv.on hb4
  obtain ⟨x00, x01, x02, y00, y01, y02⟩ := (k0).three
  have q0 := (((k0).put3 (.int .i64 1) (.int .i64 0) (.string ⟨#[]⟩)).put3_far ne01.symm (.int .i64 2) (.int .i64 0) (.string ⟨#[]⟩)).put3_far ne02.symm (.int .i64 3) (.int .i64 0) (.string ⟨#[]⟩)
  obtain ⟨x10, x11, x12, y10, y11, y12⟩ := ((k1).put3_far ne01 (.int .i64 1) (.int .i64 0) (.string ⟨#[]⟩)).three
  have q1 := (((k1).put3_far ne01 (.int .i64 1) (.int .i64 0) (.string ⟨#[]⟩)).put3 (.int .i64 2) (.int .i64 0) (.string ⟨#[]⟩)).put3_far ne12.symm (.int .i64 3) (.int .i64 0) (.string ⟨#[]⟩)
  obtain ⟨x20, x21, x22, y20, y21, y22⟩ := (((k2).put3_far ne02 (.int .i64 1) (.int .i64 0) (.string ⟨#[]⟩)).put3_far ne12 (.int .i64 2) (.int .i64 0) (.string ⟨#[]⟩)).three
  have q2 := (((k2).put3_far ne02 (.int .i64 1) (.int .i64 0) (.string ⟨#[]⟩)).put3_far ne12 (.int .i64 2) (.int .i64 0) (.string ⟨#[]⟩)).put3 (.int .i64 3) (.int .i64 0) (.string ⟨#[]⟩)
  replace hv := (((hv).put3_far (c := b3) (by omega) (.int .i64 1) (.int .i64 0) (.string ⟨#[]⟩)).put3_far (c := b4) (by omega) (.int .i64 2) (.int .i64 0) (.string ⟨#[]⟩)).put3_far (c := b5) (by omega) (.int .i64 3) (.int .i64 0) (.string ⟨#[]⟩)
  replace hb0 := (set3 (set3 (set3 (hb0) (b := b3) (by omega) (.int .i64 1) (.int .i64 0) (.string ⟨#[]⟩)) (b := b4) (by omega) (.int .i64 2) (.int .i64 0) (.string ⟨#[]⟩)) (b := b5) (by omega) (.int .i64 3) (.int .i64 0) (.string ⟨#[]⟩))
  simp only [put3] at q0 q1 q2 hv
  clear k0 k1 k2
  go_wp2_with fail
  clear x00 x01 x02 y00 y01 y02 x10 x11 x12 y10 y11 y12 x20 x21 x22 y20 y21 y22
  generalize ((((((((w4.setCell ⟨b3, 0, none⟩ (.int .i64 1)).setCell ⟨b3, 1, none⟩ (.int .i64 0)).setCell ⟨b3, 2, none⟩ (.string ⟨#[]⟩)).setCell ⟨b4, 0, none⟩ (.int .i64 2)).setCell ⟨b4, 1, none⟩ (.int .i64 0)).setCell ⟨b4, 2, none⟩ (.string ⟨#[]⟩)).setCell ⟨b5, 0, none⟩ (.int .i64 3)).setCell ⟨b5, 1, none⟩ (.int .i64 0)).setCell ⟨b5, 2, none⟩ (.string ⟨#[]⟩) = W2 at *
  have HL2 := Lib.hid (HL.out.grown hb0)
  obtain ⟨p0, p1, p2, _⟩ := hv.three
  have C0 := fun d os => cell_regrown p0 d os
  have C1 := fun d os => cell_regrown p1 d os
  have C2 := fun d os => cell_regrown p2 d os
  obtain ⟨r0, r1, r2, _⟩ := q0.three
  have D00 := fun d os => cell_regrown r0 d os
  have D01 := fun d os => cell_regrown r1 d os
  have D02 := fun d os => cell_regrown r2 d os
  clear r0 r1 r2
  obtain ⟨r0, r1, r2, _⟩ := q1.three
  have D10 := fun d os => cell_regrown r0 d os
  have D11 := fun d os => cell_regrown r1 d os
  have D12 := fun d os => cell_regrown r2 d os
  clear r0 r1 r2
  obtain ⟨r0, r1, r2, _⟩ := q2.three
  have D20 := fun d os => cell_regrown r0 d os
  have D21 := fun d os => cell_regrown r1 d os
  have D22 := fun d os => cell_regrown r2 d os
  clear r0 r1 r2
  clear p0 p1 p2
  refine wp_region_mem 32 (fun d => match d with
    | 18 => some (Is (.agg #[.int .i64 1, .int .i64 0, .string ⟨#[]⟩]))
    | 23 => some (Is (.agg #[.int .i64 2, .int .i64 0, .string ⟨#[]⟩]))
    | 29 => some (Is (.agg #[.int .i64 3, .int .i64 0, .string ⟨#[]⟩]))
    | 34 => some (Is (.string q))
    | 36 => some (Is (.string q))
    | 42 => some (Is (.string z))
    | 45 => some (Is (.string z))
    | _ => none) (by kernel_rfl) (by kernel_rfl) ?_
  simp only [List.take_succ_cons, List.take_zero, List.drop_succ_cons, List.drop_zero]
  repeat (first | ((with_reducible refine wpM_calm ?_ ?_ ?_ ?_); exact rfl; exact rfl; exact rfl; intro K hK; go_big_quiet_op; go_big_quiet_on) | ((with_reducible refine wpM_skip ?_ ?_); exact rfl; simp only [Act.put, List.setIfInBounds_toArray, List.set_cons_succ, List.set_cons_zero]))
  refine wpM_exact rfl rfl rfl Tryz.func23 (by kernel_rfl) (by kernel_rfl) (fun w1 hw1 _ => RN.out w1 (HL2.out.grown hw1)) rfl (by simp only [Act.put, List.setIfInBounds_toArray, List.set_cons_succ, List.set_cons_zero]; rfl) ?_
  repeat (first | ((with_reducible refine wpM_calm ?_ ?_ ?_ ?_); exact rfl; exact rfl; exact rfl; intro K hK; go_big_quiet_op; go_big_quiet_on) | ((with_reducible refine wpM_skip ?_ ?_); exact rfl; simp only [Act.put, List.setIfInBounds_toArray, List.set_cons_succ, List.set_cons_zero]))
  refine wpM_exact rfl rfl rfl Tryz.func24 (by kernel_rfl) (by kernel_rfl) (fun w1 hw1 _ => RT.out w1 (HL2.out.grown hw1)) rfl (by simp only [Act.put, List.setIfInBounds_toArray, List.set_cons_succ, List.set_cons_zero]; rfl) ?_
  repeat (first | ((with_reducible refine wpM_calm ?_ ?_ ?_ ?_); exact rfl; exact rfl; exact rfl; intro K hK; go_big_quiet_op; go_big_quiet_on) | ((with_reducible refine wpM_skip ?_ ?_); exact rfl; simp only [Act.put, List.setIfInBounds_toArray, List.set_cons_succ, List.set_cons_zero]))
  refine wpM_exact rfl rfl rfl Tryz.func25 (by kernel_rfl) (by kernel_rfl) (fun w1 hw1 _ => RB.out w1 (HL2.out.grown hw1)) rfl (by simp only [Act.put, List.setIfInBounds_toArray, List.set_cons_succ, List.set_cons_zero]; rfl) ?_
  repeat (first | ((with_reducible refine wpM_calm ?_ ?_ ?_ ?_); exact rfl; exact rfl; exact rfl; intro K hK; go_big_quiet_op; go_big_quiet_on) | ((with_reducible refine wpM_skip ?_ ?_); exact rfl; simp only [Act.put, List.setIfInBounds_toArray, List.set_cons_succ, List.set_cons_zero]))
  refine wpM_exact rfl rfl rfl Tryz.func26 (by kernel_rfl) (by kernel_rfl) (fun w1 hw1 _ => PS.out w1 (HL2.out.grown hw1)) rfl (by simp only [Act.put, List.setIfInBounds_toArray, List.set_cons_succ, List.set_cons_zero]; rfl) ?_
  repeat (first | ((with_reducible refine wpM_calm ?_ ?_ ?_ ?_); exact rfl; exact rfl; exact rfl; intro K hK; go_big_quiet_op; go_big_quiet_on) | ((with_reducible refine wpM_skip ?_ ?_); exact rfl; simp only [Act.put, List.setIfInBounds_toArray, List.set_cons_succ, List.set_cons_zero]))
  refine wpM_exact rfl rfl rfl Tryz.func27 (by kernel_rfl) (by kernel_rfl) (fun w1 hw1 _ => RS.out w1 (HL2.out.grown hw1)) rfl (by simp only [Act.put, List.setIfInBounds_toArray, List.set_cons_succ, List.set_cons_zero]; rfl) ?_
  repeat (first | ((with_reducible refine wpM_calm ?_ ?_ ?_ ?_); exact rfl; exact rfl; exact rfl; intro K hK; go_big_quiet_op; go_big_quiet_on) | ((with_reducible refine wpM_skip ?_ ?_); exact rfl; simp only [Act.put, List.setIfInBounds_toArray, List.set_cons_succ, List.set_cons_zero]))
  refine wpM_exact rfl rfl rfl Tryz.func28 (by kernel_rfl) (by kernel_rfl) (fun w1 hw1 _ => PQ.out w1 (HL2.out.grown hw1)) rfl (by simp only [Act.put, List.setIfInBounds_toArray, List.set_cons_succ, List.set_cons_zero]; rfl) ?_
  repeat (first | ((with_reducible refine wpM_calm ?_ ?_ ?_ ?_); exact rfl; exact rfl; exact rfl; intro K hK; go_big_quiet_op; go_big_quiet_on) | ((with_reducible refine wpM_skip ?_ ?_); exact rfl; simp only [Act.put, List.setIfInBounds_toArray, List.set_cons_succ, List.set_cons_zero]))
  refine wpM_exact rfl rfl rfl Tryz.func29 (by kernel_rfl) (by kernel_rfl) (fun w1 hw1 _ => RQ.out w1 (HL2.out.grown hw1)) rfl (by simp only [Act.put, List.setIfInBounds_toArray, List.set_cons_succ, List.set_cons_zero]; rfl) ?_
  repeat (first | ((with_reducible refine wpM_calm ?_ ?_ ?_ ?_); exact rfl; exact rfl; exact rfl; intro K hK; go_big_quiet_op; go_big_quiet_on) | ((with_reducible refine wpM_skip ?_ ?_); exact rfl; simp only [Act.put, List.setIfInBounds_toArray, List.set_cons_succ, List.set_cons_zero]))
  refine wpM_nil ?_
  intro w5 hb5 _
  replace hb0 := on hb0 hb5
  replace hv := hv.on hb5
  have HL5 := Lib.hid (HL.out.grown hb0)
  replace q0 := q0.on hb5
  replace q1 := q1.on hb5
  replace q2 := q2.on hb5
  clear hb5 HL2 C0 C1 C2 D00 D01 D02 D10 D11 D12 D20 D21 D22
  obtain ⟨r00, r01, r02, _⟩ := q0.three
  obtain ⟨r10, r11, r12, _⟩ := q1.three
  obtain ⟨r20, r21, r22, _⟩ := q2.three
  obtain ⟨p0, p1, p2, _⟩ := hv.three
  go_wp2_with fail
  have C0 := fun d os => cell_regrown p0 d os
  have D00 := fun d os => cell_regrown r00 d os
  have D01 := fun d os => cell_regrown r01 d os
  have D02 := fun d os => cell_regrown r02 d os
  have C1 := fun d os => cell_regrown p1 d os
  have D10 := fun d os => cell_regrown r10 d os
  have D11 := fun d os => cell_regrown r11 d os
  have D12 := fun d os => cell_regrown r12 d os
  have C2 := fun d os => cell_regrown p2 d os
  have D20 := fun d os => cell_regrown r20 d os
  have D21 := fun d os => cell_regrown r21 d os
  have D22 := fun d os => cell_regrown r22 d os
  clear p0 p1 p2 r00 r01 r02 r10 r11 r12 r20 r21 r22
  refine wp_region_mem 44 (fun d => match d with
    | 117 => some (Is (.bool true))
    | _ => none) (by kernel_rfl) (by kernel_rfl) ?_
  simp only [List.take_succ_cons, List.take_zero, List.drop_succ_cons, List.drop_zero]
  repeat (first | ((with_reducible refine wpM_calm ?_ ?_ ?_ ?_); exact rfl; exact rfl; exact rfl; intro K hK; go_big_quiet_op; go_big_quiet_on) | ((with_reducible refine wpM_skip ?_ ?_); exact rfl; simp only [Act.put, List.setIfInBounds_toArray, List.set_cons_succ, List.set_cons_zero]))
  refine wpM_exact rfl rfl rfl Tryz.func5 (by kernel_rfl) (by kernel_rfl) (fun w1 hw1 _ => HA.out w1 (HL5.out.grown hw1)) rfl (by simp only [Act.put, List.setIfInBounds_toArray, List.set_cons_succ, List.set_cons_zero]; rfl) ?_
  repeat (first | ((with_reducible refine wpM_calm ?_ ?_ ?_ ?_); exact rfl; exact rfl; exact rfl; intro K hK; go_big_quiet_op; go_big_quiet_on) | ((with_reducible refine wpM_skip ?_ ?_); exact rfl; simp only [Act.put, List.setIfInBounds_toArray, List.set_cons_succ, List.set_cons_zero]))
  refine wpM_nil ?_
  intro w6 hb6 _
  go_wp2
  go_ret
  exact ⟨rfl, on hb0 hb6⟩
set_option maxRecDepth 100000 in
set_option maxHeartbeats 8000000 in
theorem turns_n (x nb : Int) (s : ByteArray) (q z : ByteArray)
    (HM : Yields 12 #[.agg #[.int .i64 1, .int .i64 x, .string ⟨#[]⟩]] (.bool true))
    (PN : YieldsL 20 #[.agg #[.int .i64 1, .int .i64 x, .string ⟨#[]⟩]] (.agg #[.int .i64 1, .int .i64 x, .string ⟨#[]⟩]))
    (RN : YieldsL 23 #[.agg #[.int .i64 1, .int .i64 x, .string ⟨#[]⟩]] (.agg #[.int .i64 1, .int .i64 x, .string ⟨#[]⟩]))
    (PT : YieldsL 21 #[.agg #[.int .i64 1, .int .i64 x, .string ⟨#[]⟩]] (.agg #[.int .i64 2, .int .i64 0, .string s]))
    (RT : YieldsL 24 #[.agg #[.int .i64 1, .int .i64 x, .string ⟨#[]⟩]] (.agg #[.int .i64 2, .int .i64 0, .string s]))
    (PB : YieldsL 22 #[.agg #[.int .i64 1, .int .i64 x, .string ⟨#[]⟩]] (.agg #[.int .i64 3, .int .i64 nb, .string ⟨#[]⟩]))
    (RB : YieldsL 25 #[.agg #[.int .i64 1, .int .i64 x, .string ⟨#[]⟩]] (.agg #[.int .i64 3, .int .i64 nb, .string ⟨#[]⟩]))
    (PS : YieldsL 26 #[.agg #[.int .i64 1, .int .i64 x, .string ⟨#[]⟩]] (.string q))
    (RS : YieldsL 27 #[.agg #[.int .i64 1, .int .i64 x, .string ⟨#[]⟩]] (.string q))
    (PQ : YieldsL 28 #[.string ⟨#[]⟩] (.string z))
    (RQ : YieldsL 29 #[.string ⟨#[]⟩] (.string z))
    (PX : YieldsL 20 #[.agg #[.int .i64 2, .int .i64 0, .string s]] (.agg #[.int .i64 1, .int .i64 x, .string ⟨#[]⟩])) (w : World) (hL : PLibs w) :
    Calls Tryz.prog 4 #[.agg #[.int .i64 1, .int .i64 x, .string ⟨#[]⟩]] w (LawEnd w) := by
  have HA := Lib.hid (fun w1 hL => alive_c w1 hL)
  have HL := Lib.hid hL
  clear hL
  go_enter Tryz.func4, Tryz.ntmps4
  go_wp2_with fail
  have hv := CellsAt.new w [.int .i64 1, .int .i64 x, .string ⟨#[]⟩] 23
  have hb0 := below1 w (.cells #[.int .i64 1, .int .i64 x, .string ⟨#[]⟩] 23)
  have hsz : (w.alloc (.cells #[.int .i64 1, .int .i64 x, .string ⟨#[]⟩] 23)).heap.size = w.heap.size + 1 := by simp
  refine (HM.out _).mono ?_
  rintro e W ⟨rfl, hb1⟩
  replace hv := hv.on hb1
  replace hb0 := on hb0 hb1
  have hs1 := hb1.size
  rw [hsz] at hs1
  clear hb1 hsz
  obtain ⟨p0, p1, p2, _⟩ := hv.three
  have C0 := fun d os => cell_regrown p0 d os
  have C1 := fun d os => cell_regrown p1 d os
  have C2 := fun d os => cell_regrown p2 d os
  clear p0 p1 p2
  have HL1 := Lib.hid (HL.out.grown hb0)
  go_wp2_with fail
  refine wp_region_new 9 (fun d => match d with
    | 11 => some (Is (.agg #[.int .i64 1, .int .i64 x, .string ⟨#[]⟩]))
    | 13 => some (Is (.agg #[.int .i64 2, .int .i64 0, .string s]))
    | 15 => some (Is (.agg #[.int .i64 3, .int .i64 nb, .string ⟨#[]⟩]))
    | 3 => some (NewCells W.heap.size [.int .i64 0, .int .i64 0, .string ⟨#[]⟩])
    | 4 => some (NewCells W.heap.size [.int .i64 0, .int .i64 0, .string ⟨#[]⟩])
    | 5 => some (NewCells W.heap.size [.int .i64 0, .int .i64 0, .string ⟨#[]⟩])
    | _ => none) (fun d => d == 3 || d == 4 || d == 5) (by kernel_rfl) (by kernel_rfl) ?_
  simp only [List.take_succ_cons, List.take_zero, List.drop_succ_cons, List.drop_zero]
  repeat (first | ((with_reducible refine wpM_calm ?_ ?_ ?_ ?_); exact rfl; exact rfl; exact rfl; intro K hK; go_big_quiet_op; go_big_quiet_on) | ((with_reducible refine wpM_skip ?_ ?_); exact rfl; simp only [Act.put, List.setIfInBounds_toArray, List.set_cons_succ, List.set_cons_zero]))
  refine wpM_exact rfl rfl rfl Tryz.func20 (by kernel_rfl) (by kernel_rfl) (fun w1 hw1 _ => PN.out w1 (HL1.out.grown hw1)) rfl (by simp only [Act.put, List.setIfInBounds_toArray, List.set_cons_succ, List.set_cons_zero]; rfl) ?_
  repeat (first | ((with_reducible refine wpM_calm ?_ ?_ ?_ ?_); exact rfl; exact rfl; exact rfl; intro K hK; go_big_quiet_op; go_big_quiet_on) | ((with_reducible refine wpM_skip ?_ ?_); exact rfl; simp only [Act.put, List.setIfInBounds_toArray, List.set_cons_succ, List.set_cons_zero]))
  refine wpM_exact rfl rfl rfl Tryz.func21 (by kernel_rfl) (by kernel_rfl) (fun w1 hw1 _ => PT.out w1 (HL1.out.grown hw1)) rfl (by simp only [Act.put, List.setIfInBounds_toArray, List.set_cons_succ, List.set_cons_zero]; rfl) ?_
  repeat (first | ((with_reducible refine wpM_calm ?_ ?_ ?_ ?_); exact rfl; exact rfl; exact rfl; intro K hK; go_big_quiet_op; go_big_quiet_on) | ((with_reducible refine wpM_skip ?_ ?_); exact rfl; simp only [Act.put, List.setIfInBounds_toArray, List.set_cons_succ, List.set_cons_zero]))
  refine wpM_exact rfl rfl rfl Tryz.func22 (by kernel_rfl) (by kernel_rfl) (fun w1 hw1 _ => PB.out w1 (HL1.out.grown hw1)) rfl (by simp only [Act.put, List.setIfInBounds_toArray, List.set_cons_succ, List.set_cons_zero]; rfl) ?_
  refine wpM_alloc _ (.cells #[.int .i64 0, .int .i64 0, .string ⟨#[]⟩] 23) rfl rfl rfl (fun w1 => by simp [go_sem]) (fun w1 h1 => (NewCells.mk w1 _ _ h1.size).2) ?_ (by rintro v ⟨_, b, rfl, _⟩; exact ⟨b, rfl⟩)
  intro b3 a' ha'
  simp only [Act.put, List.setIfInBounds_toArray, List.set_cons_succ, List.set_cons_zero] at ha'
  subst ha'
  refine wpM_alloc _ (.cells #[.int .i64 0, .int .i64 0, .string ⟨#[]⟩] 23) rfl rfl rfl (fun w1 => by simp [go_sem]) (fun w1 h1 => (NewCells.mk w1 _ _ h1.size).2) ?_ (by rintro v ⟨_, b, rfl, _⟩; exact ⟨b, rfl⟩)
  intro b4 a' ha'
  simp only [Act.put, List.setIfInBounds_toArray, List.set_cons_succ, List.set_cons_zero] at ha'
  subst ha'
  refine wpM_alloc _ (.cells #[.int .i64 0, .int .i64 0, .string ⟨#[]⟩] 23) rfl rfl rfl (fun w1 => by simp [go_sem]) (fun w1 h1 => (NewCells.mk w1 _ _ h1.size).2) ?_ (by rintro v ⟨_, b, rfl, _⟩; exact ⟨b, rfl⟩)
  intro b5 a' ha'
  simp only [Act.put, List.setIfInBounds_toArray, List.set_cons_succ, List.set_cons_zero] at ha'
  subst ha'
  refine wpM_nil ?_
  intro w4 hb4 hG
  have ne01 : b3 ≠ b4 := hG.2.1 6 b3 7 b4 (.inl (.inl (.inr ⟨rfl, rfl⟩))) (.inl (.inr ⟨rfl, rfl⟩)) (by decide)
  have ne02 : b3 ≠ b5 := hG.2.1 6 b3 8 b5 (.inl (.inl (.inr ⟨rfl, rfl⟩))) (.inr ⟨rfl, rfl⟩) (by decide)
  have ne12 : b4 ≠ b5 := hG.2.1 7 b4 8 b5 (.inl (.inr ⟨rfl, rfl⟩)) (.inr ⟨rfl, rfl⟩) (by decide)
  obtain ⟨hB0, k0⟩ := NewCells.at (Fct.put_at (Fct.put_old (Fct.put_old (hG.2.2.1 6))))
  obtain ⟨hB1, k1⟩ := NewCells.at (Fct.put_at (Fct.put_old (hG.2.2.1 7)))
  obtain ⟨hB2, k2⟩ := NewCells.at (Fct.put_at (hG.2.2.1 8))
  clear hG C0 C1 C2
  replace hb0 := on hb0 hb4
  replace hv := hv.on hb4
  obtain ⟨x00, x01, x02, y00, y01, y02⟩ := (k0).three
  have q0 := (((k0).put3 (.int .i64 1) (.int .i64 x) (.string ⟨#[]⟩)).put3_far ne01.symm (.int .i64 2) (.int .i64 0) (.string s)).put3_far ne02.symm (.int .i64 3) (.int .i64 nb) (.string ⟨#[]⟩)
  obtain ⟨x10, x11, x12, y10, y11, y12⟩ := ((k1).put3_far ne01 (.int .i64 1) (.int .i64 x) (.string ⟨#[]⟩)).three
  have q1 := (((k1).put3_far ne01 (.int .i64 1) (.int .i64 x) (.string ⟨#[]⟩)).put3 (.int .i64 2) (.int .i64 0) (.string s)).put3_far ne12.symm (.int .i64 3) (.int .i64 nb) (.string ⟨#[]⟩)
  obtain ⟨x20, x21, x22, y20, y21, y22⟩ := (((k2).put3_far ne02 (.int .i64 1) (.int .i64 x) (.string ⟨#[]⟩)).put3_far ne12 (.int .i64 2) (.int .i64 0) (.string s)).three
  have q2 := (((k2).put3_far ne02 (.int .i64 1) (.int .i64 x) (.string ⟨#[]⟩)).put3_far ne12 (.int .i64 2) (.int .i64 0) (.string s)).put3 (.int .i64 3) (.int .i64 nb) (.string ⟨#[]⟩)
  replace hv := (((hv).put3_far (c := b3) (by omega) (.int .i64 1) (.int .i64 x) (.string ⟨#[]⟩)).put3_far (c := b4) (by omega) (.int .i64 2) (.int .i64 0) (.string s)).put3_far (c := b5) (by omega) (.int .i64 3) (.int .i64 nb) (.string ⟨#[]⟩)
  replace hb0 := (set3 (set3 (set3 (hb0) (b := b3) (by omega) (.int .i64 1) (.int .i64 x) (.string ⟨#[]⟩)) (b := b4) (by omega) (.int .i64 2) (.int .i64 0) (.string s)) (b := b5) (by omega) (.int .i64 3) (.int .i64 nb) (.string ⟨#[]⟩))
  simp only [put3] at q0 q1 q2 hv
  clear k0 k1 k2
  go_wp2_with fail
  clear x00 x01 x02 y00 y01 y02 x10 x11 x12 y10 y11 y12 x20 x21 x22 y20 y21 y22
  generalize ((((((((w4.setCell ⟨b3, 0, none⟩ (.int .i64 1)).setCell ⟨b3, 1, none⟩ (.int .i64 x)).setCell ⟨b3, 2, none⟩ (.string ⟨#[]⟩)).setCell ⟨b4, 0, none⟩ (.int .i64 2)).setCell ⟨b4, 1, none⟩ (.int .i64 0)).setCell ⟨b4, 2, none⟩ (.string s)).setCell ⟨b5, 0, none⟩ (.int .i64 3)).setCell ⟨b5, 1, none⟩ (.int .i64 nb)).setCell ⟨b5, 2, none⟩ (.string ⟨#[]⟩) = W2 at *
  have HL2 := Lib.hid (HL.out.grown hb0)
  obtain ⟨p0, p1, p2, _⟩ := hv.three
  have C0 := fun d os => cell_regrown p0 d os
  have C1 := fun d os => cell_regrown p1 d os
  have C2 := fun d os => cell_regrown p2 d os
  obtain ⟨r0, r1, r2, _⟩ := q0.three
  have D00 := fun d os => cell_regrown r0 d os
  have D01 := fun d os => cell_regrown r1 d os
  have D02 := fun d os => cell_regrown r2 d os
  clear r0 r1 r2
  obtain ⟨r0, r1, r2, _⟩ := q1.three
  have D10 := fun d os => cell_regrown r0 d os
  have D11 := fun d os => cell_regrown r1 d os
  have D12 := fun d os => cell_regrown r2 d os
  clear r0 r1 r2
  obtain ⟨r0, r1, r2, _⟩ := q2.three
  have D20 := fun d os => cell_regrown r0 d os
  have D21 := fun d os => cell_regrown r1 d os
  have D22 := fun d os => cell_regrown r2 d os
  clear r0 r1 r2
  clear p0 p1 p2
  refine wp_region_mem 32 (fun d => match d with
    | 18 => some (Is (.agg #[.int .i64 1, .int .i64 x, .string ⟨#[]⟩]))
    | 23 => some (Is (.agg #[.int .i64 2, .int .i64 0, .string s]))
    | 29 => some (Is (.agg #[.int .i64 3, .int .i64 nb, .string ⟨#[]⟩]))
    | 34 => some (Is (.string q))
    | 36 => some (Is (.string q))
    | 42 => some (Is (.string z))
    | 45 => some (Is (.string z))
    | _ => none) (by kernel_rfl) (by kernel_rfl) ?_
  simp only [List.take_succ_cons, List.take_zero, List.drop_succ_cons, List.drop_zero]
  repeat (first | ((with_reducible refine wpM_calm ?_ ?_ ?_ ?_); exact rfl; exact rfl; exact rfl; intro K hK; go_big_quiet_op; go_big_quiet_on) | ((with_reducible refine wpM_skip ?_ ?_); exact rfl; simp only [Act.put, List.setIfInBounds_toArray, List.set_cons_succ, List.set_cons_zero]))
  refine wpM_exact rfl rfl rfl Tryz.func23 (by kernel_rfl) (by kernel_rfl) (fun w1 hw1 _ => RN.out w1 (HL2.out.grown hw1)) rfl (by simp only [Act.put, List.setIfInBounds_toArray, List.set_cons_succ, List.set_cons_zero]; rfl) ?_
  repeat (first | ((with_reducible refine wpM_calm ?_ ?_ ?_ ?_); exact rfl; exact rfl; exact rfl; intro K hK; go_big_quiet_op; go_big_quiet_on) | ((with_reducible refine wpM_skip ?_ ?_); exact rfl; simp only [Act.put, List.setIfInBounds_toArray, List.set_cons_succ, List.set_cons_zero]))
  refine wpM_exact rfl rfl rfl Tryz.func24 (by kernel_rfl) (by kernel_rfl) (fun w1 hw1 _ => RT.out w1 (HL2.out.grown hw1)) rfl (by simp only [Act.put, List.setIfInBounds_toArray, List.set_cons_succ, List.set_cons_zero]; rfl) ?_
  repeat (first | ((with_reducible refine wpM_calm ?_ ?_ ?_ ?_); exact rfl; exact rfl; exact rfl; intro K hK; go_big_quiet_op; go_big_quiet_on) | ((with_reducible refine wpM_skip ?_ ?_); exact rfl; simp only [Act.put, List.setIfInBounds_toArray, List.set_cons_succ, List.set_cons_zero]))
  refine wpM_exact rfl rfl rfl Tryz.func25 (by kernel_rfl) (by kernel_rfl) (fun w1 hw1 _ => RB.out w1 (HL2.out.grown hw1)) rfl (by simp only [Act.put, List.setIfInBounds_toArray, List.set_cons_succ, List.set_cons_zero]; rfl) ?_
  repeat (first | ((with_reducible refine wpM_calm ?_ ?_ ?_ ?_); exact rfl; exact rfl; exact rfl; intro K hK; go_big_quiet_op; go_big_quiet_on) | ((with_reducible refine wpM_skip ?_ ?_); exact rfl; simp only [Act.put, List.setIfInBounds_toArray, List.set_cons_succ, List.set_cons_zero]))
  refine wpM_exact rfl rfl rfl Tryz.func26 (by kernel_rfl) (by kernel_rfl) (fun w1 hw1 _ => PS.out w1 (HL2.out.grown hw1)) rfl (by simp only [Act.put, List.setIfInBounds_toArray, List.set_cons_succ, List.set_cons_zero]; rfl) ?_
  repeat (first | ((with_reducible refine wpM_calm ?_ ?_ ?_ ?_); exact rfl; exact rfl; exact rfl; intro K hK; go_big_quiet_op; go_big_quiet_on) | ((with_reducible refine wpM_skip ?_ ?_); exact rfl; simp only [Act.put, List.setIfInBounds_toArray, List.set_cons_succ, List.set_cons_zero]))
  refine wpM_exact rfl rfl rfl Tryz.func27 (by kernel_rfl) (by kernel_rfl) (fun w1 hw1 _ => RS.out w1 (HL2.out.grown hw1)) rfl (by simp only [Act.put, List.setIfInBounds_toArray, List.set_cons_succ, List.set_cons_zero]; rfl) ?_
  repeat (first | ((with_reducible refine wpM_calm ?_ ?_ ?_ ?_); exact rfl; exact rfl; exact rfl; intro K hK; go_big_quiet_op; go_big_quiet_on) | ((with_reducible refine wpM_skip ?_ ?_); exact rfl; simp only [Act.put, List.setIfInBounds_toArray, List.set_cons_succ, List.set_cons_zero]))
  refine wpM_exact rfl rfl rfl Tryz.func28 (by kernel_rfl) (by kernel_rfl) (fun w1 hw1 _ => PQ.out w1 (HL2.out.grown hw1)) rfl (by simp only [Act.put, List.setIfInBounds_toArray, List.set_cons_succ, List.set_cons_zero]; rfl) ?_
  repeat (first | ((with_reducible refine wpM_calm ?_ ?_ ?_ ?_); exact rfl; exact rfl; exact rfl; intro K hK; go_big_quiet_op; go_big_quiet_on) | ((with_reducible refine wpM_skip ?_ ?_); exact rfl; simp only [Act.put, List.setIfInBounds_toArray, List.set_cons_succ, List.set_cons_zero]))
  refine wpM_exact rfl rfl rfl Tryz.func29 (by kernel_rfl) (by kernel_rfl) (fun w1 hw1 _ => RQ.out w1 (HL2.out.grown hw1)) rfl (by simp only [Act.put, List.setIfInBounds_toArray, List.set_cons_succ, List.set_cons_zero]; rfl) ?_
  repeat (first | ((with_reducible refine wpM_calm ?_ ?_ ?_ ?_); exact rfl; exact rfl; exact rfl; intro K hK; go_big_quiet_op; go_big_quiet_on) | ((with_reducible refine wpM_skip ?_ ?_); exact rfl; simp only [Act.put, List.setIfInBounds_toArray, List.set_cons_succ, List.set_cons_zero]))
  refine wpM_nil ?_
  intro w5 hb5 _
  replace hb0 := on hb0 hb5
  replace hv := hv.on hb5
  have HL5 := Lib.hid (HL.out.grown hb0)
  replace q0 := q0.on hb5
  replace q1 := q1.on hb5
  replace q2 := q2.on hb5
  clear hb5 HL2 C0 C1 C2 D00 D01 D02 D10 D11 D12 D20 D21 D22
  obtain ⟨r00, r01, r02, _⟩ := q0.three
  obtain ⟨r10, r11, r12, _⟩ := q1.three
  obtain ⟨r20, r21, r22, _⟩ := q2.three
  obtain ⟨p0, p1, p2, _⟩ := hv.three
  go_wp2_with fail
  have C0 := fun d os => cell_regrown p0 d os
  have D00 := fun d os => cell_regrown r00 d os
  have D01 := fun d os => cell_regrown r01 d os
  have D02 := fun d os => cell_regrown r02 d os
  have C1 := fun d os => cell_regrown p1 d os
  have D10 := fun d os => cell_regrown r10 d os
  have D11 := fun d os => cell_regrown r11 d os
  have D12 := fun d os => cell_regrown r12 d os
  have C2 := fun d os => cell_regrown p2 d os
  have D20 := fun d os => cell_regrown r20 d os
  have D21 := fun d os => cell_regrown r21 d os
  have D22 := fun d os => cell_regrown r22 d os
  clear p0 p1 p2 r00 r01 r02 r10 r11 r12 r20 r21 r22
  refine wp_region_mem 44 (fun d => match d with
    | 100 => some (Is (.agg #[.int .i64 1, .int .i64 x, .string ⟨#[]⟩]))
    | 117 => some (Is (.bool true))
    | _ => none) (by kernel_rfl) (by kernel_rfl) ?_
  simp only [List.take_succ_cons, List.take_zero, List.drop_succ_cons, List.drop_zero]
  repeat (first | ((with_reducible refine wpM_calm ?_ ?_ ?_ ?_); exact rfl; exact rfl; exact rfl; intro K hK; go_big_quiet_op; go_big_quiet_on) | ((with_reducible refine wpM_skip ?_ ?_); exact rfl; simp only [Act.put, List.setIfInBounds_toArray, List.set_cons_succ, List.set_cons_zero]))
  refine wpM_exact rfl rfl rfl Tryz.func20 (by kernel_rfl) (by kernel_rfl) (fun w1 hw1 _ => PX.out w1 (HL5.out.grown hw1)) rfl (by simp only [Act.put, List.setIfInBounds_toArray, List.set_cons_succ, List.set_cons_zero]; rfl) ?_
  repeat (first | ((with_reducible refine wpM_calm ?_ ?_ ?_ ?_); exact rfl; exact rfl; exact rfl; intro K hK; go_big_quiet_op; go_big_quiet_on) | ((with_reducible refine wpM_skip ?_ ?_); exact rfl; simp only [Act.put, List.setIfInBounds_toArray, List.set_cons_succ, List.set_cons_zero]))
  refine wpM_exact rfl rfl rfl Tryz.func5 (by kernel_rfl) (by kernel_rfl) (fun w1 hw1 _ => HA.out w1 (HL5.out.grown hw1)) rfl (by simp only [Act.put, List.setIfInBounds_toArray, List.set_cons_succ, List.set_cons_zero]; rfl) ?_
  repeat (first | ((with_reducible refine wpM_calm ?_ ?_ ?_ ?_); exact rfl; exact rfl; exact rfl; intro K hK; go_big_quiet_op; go_big_quiet_on) | ((with_reducible refine wpM_skip ?_ ?_); exact rfl; simp only [Act.put, List.setIfInBounds_toArray, List.set_cons_succ, List.set_cons_zero]))
  refine wpM_nil ?_
  intro w6 hb6 _
  go_wp2
  go_ret
  exact ⟨rfl, on hb0 hb6⟩
set_option maxRecDepth 100000 in
set_option maxHeartbeats 8000000 in
theorem turns_t11 (nn nb : Int) (t : ByteArray) (q z : ByteArray)
    (HM : Yields 12 #[.agg #[.int .i64 2, .int .i64 0, .string t]] (.bool true))
    (PN : YieldsL 20 #[.agg #[.int .i64 2, .int .i64 0, .string t]] (.agg #[.int .i64 1, .int .i64 nn, .string ⟨#[]⟩]))
    (RN : YieldsL 23 #[.agg #[.int .i64 2, .int .i64 0, .string t]] (.agg #[.int .i64 1, .int .i64 nn, .string ⟨#[]⟩]))
    (PT : YieldsL 21 #[.agg #[.int .i64 2, .int .i64 0, .string t]] (.agg #[.int .i64 2, .int .i64 0, .string t]))
    (RT : YieldsL 24 #[.agg #[.int .i64 2, .int .i64 0, .string t]] (.agg #[.int .i64 2, .int .i64 0, .string t]))
    (PB : YieldsL 22 #[.agg #[.int .i64 2, .int .i64 0, .string t]] (.agg #[.int .i64 3, .int .i64 nb, .string ⟨#[]⟩]))
    (RB : YieldsL 25 #[.agg #[.int .i64 2, .int .i64 0, .string t]] (.agg #[.int .i64 3, .int .i64 nb, .string ⟨#[]⟩]))
    (PS : YieldsL 26 #[.agg #[.int .i64 2, .int .i64 0, .string t]] (.string q))
    (RS : YieldsL 27 #[.agg #[.int .i64 2, .int .i64 0, .string t]] (.string q))
    (PQ : YieldsL 28 #[.string t] (.string z))
    (RQ : YieldsL 29 #[.string t] (.string z)) (w : World) (hL : PLibs w) :
    Calls Tryz.prog 4 #[.agg #[.int .i64 2, .int .i64 0, .string t]] w (LawEnd w) := by
  have HA := Lib.hid (fun w1 hL => alive_c w1 hL)
  have HL := Lib.hid hL
  clear hL
  go_enter Tryz.func4, Tryz.ntmps4
  go_wp2_with fail
  have hv := CellsAt.new w [.int .i64 2, .int .i64 0, .string t] 23
  have hb0 := below1 w (.cells #[.int .i64 2, .int .i64 0, .string t] 23)
  have hsz : (w.alloc (.cells #[.int .i64 2, .int .i64 0, .string t] 23)).heap.size = w.heap.size + 1 := by simp
  refine (HM.out _).mono ?_
  rintro e W ⟨rfl, hb1⟩
  replace hv := hv.on hb1
  replace hb0 := on hb0 hb1
  have hs1 := hb1.size
  rw [hsz] at hs1
  clear hb1 hsz
  obtain ⟨p0, p1, p2, _⟩ := hv.three
  have C0 := fun d os => cell_regrown p0 d os
  have C1 := fun d os => cell_regrown p1 d os
  have C2 := fun d os => cell_regrown p2 d os
  clear p0 p1 p2
  have HL1 := Lib.hid (HL.out.grown hb0)
  go_wp2_with fail
  refine wp_region_new 9 (fun d => match d with
    | 11 => some (Is (.agg #[.int .i64 1, .int .i64 nn, .string ⟨#[]⟩]))
    | 13 => some (Is (.agg #[.int .i64 2, .int .i64 0, .string t]))
    | 15 => some (Is (.agg #[.int .i64 3, .int .i64 nb, .string ⟨#[]⟩]))
    | 3 => some (NewCells W.heap.size [.int .i64 0, .int .i64 0, .string ⟨#[]⟩])
    | 4 => some (NewCells W.heap.size [.int .i64 0, .int .i64 0, .string ⟨#[]⟩])
    | 5 => some (NewCells W.heap.size [.int .i64 0, .int .i64 0, .string ⟨#[]⟩])
    | _ => none) (fun d => d == 3 || d == 4 || d == 5) (by kernel_rfl) (by kernel_rfl) ?_
  simp only [List.take_succ_cons, List.take_zero, List.drop_succ_cons, List.drop_zero]
  repeat (first | ((with_reducible refine wpM_calm ?_ ?_ ?_ ?_); exact rfl; exact rfl; exact rfl; intro K hK; go_big_quiet_op; go_big_quiet_on) | ((with_reducible refine wpM_skip ?_ ?_); exact rfl; simp only [Act.put, List.setIfInBounds_toArray, List.set_cons_succ, List.set_cons_zero]))
  refine wpM_exact rfl rfl rfl Tryz.func20 (by kernel_rfl) (by kernel_rfl) (fun w1 hw1 _ => PN.out w1 (HL1.out.grown hw1)) rfl (by simp only [Act.put, List.setIfInBounds_toArray, List.set_cons_succ, List.set_cons_zero]; rfl) ?_
  repeat (first | ((with_reducible refine wpM_calm ?_ ?_ ?_ ?_); exact rfl; exact rfl; exact rfl; intro K hK; go_big_quiet_op; go_big_quiet_on) | ((with_reducible refine wpM_skip ?_ ?_); exact rfl; simp only [Act.put, List.setIfInBounds_toArray, List.set_cons_succ, List.set_cons_zero]))
  refine wpM_exact rfl rfl rfl Tryz.func21 (by kernel_rfl) (by kernel_rfl) (fun w1 hw1 _ => PT.out w1 (HL1.out.grown hw1)) rfl (by simp only [Act.put, List.setIfInBounds_toArray, List.set_cons_succ, List.set_cons_zero]; rfl) ?_
  repeat (first | ((with_reducible refine wpM_calm ?_ ?_ ?_ ?_); exact rfl; exact rfl; exact rfl; intro K hK; go_big_quiet_op; go_big_quiet_on) | ((with_reducible refine wpM_skip ?_ ?_); exact rfl; simp only [Act.put, List.setIfInBounds_toArray, List.set_cons_succ, List.set_cons_zero]))
  refine wpM_exact rfl rfl rfl Tryz.func22 (by kernel_rfl) (by kernel_rfl) (fun w1 hw1 _ => PB.out w1 (HL1.out.grown hw1)) rfl (by simp only [Act.put, List.setIfInBounds_toArray, List.set_cons_succ, List.set_cons_zero]; rfl) ?_
  refine wpM_alloc _ (.cells #[.int .i64 0, .int .i64 0, .string ⟨#[]⟩] 23) rfl rfl rfl (fun w1 => by simp [go_sem]) (fun w1 h1 => (NewCells.mk w1 _ _ h1.size).2) ?_ (by rintro v ⟨_, b, rfl, _⟩; exact ⟨b, rfl⟩)
  intro b3 a' ha'
  simp only [Act.put, List.setIfInBounds_toArray, List.set_cons_succ, List.set_cons_zero] at ha'
  subst ha'
  refine wpM_alloc _ (.cells #[.int .i64 0, .int .i64 0, .string ⟨#[]⟩] 23) rfl rfl rfl (fun w1 => by simp [go_sem]) (fun w1 h1 => (NewCells.mk w1 _ _ h1.size).2) ?_ (by rintro v ⟨_, b, rfl, _⟩; exact ⟨b, rfl⟩)
  intro b4 a' ha'
  simp only [Act.put, List.setIfInBounds_toArray, List.set_cons_succ, List.set_cons_zero] at ha'
  subst ha'
  refine wpM_alloc _ (.cells #[.int .i64 0, .int .i64 0, .string ⟨#[]⟩] 23) rfl rfl rfl (fun w1 => by simp [go_sem]) (fun w1 h1 => (NewCells.mk w1 _ _ h1.size).2) ?_ (by rintro v ⟨_, b, rfl, _⟩; exact ⟨b, rfl⟩)
  intro b5 a' ha'
  simp only [Act.put, List.setIfInBounds_toArray, List.set_cons_succ, List.set_cons_zero] at ha'
  subst ha'
  refine wpM_nil ?_
  intro w4 hb4 hG
  have ne01 : b3 ≠ b4 := hG.2.1 6 b3 7 b4 (.inl (.inl (.inr ⟨rfl, rfl⟩))) (.inl (.inr ⟨rfl, rfl⟩)) (by decide)
  have ne02 : b3 ≠ b5 := hG.2.1 6 b3 8 b5 (.inl (.inl (.inr ⟨rfl, rfl⟩))) (.inr ⟨rfl, rfl⟩) (by decide)
  have ne12 : b4 ≠ b5 := hG.2.1 7 b4 8 b5 (.inl (.inr ⟨rfl, rfl⟩)) (.inr ⟨rfl, rfl⟩) (by decide)
  obtain ⟨hB0, k0⟩ := NewCells.at (Fct.put_at (Fct.put_old (Fct.put_old (hG.2.2.1 6))))
  obtain ⟨hB1, k1⟩ := NewCells.at (Fct.put_at (Fct.put_old (hG.2.2.1 7)))
  obtain ⟨hB2, k2⟩ := NewCells.at (Fct.put_at (hG.2.2.1 8))
  clear hG C0 C1 C2
  replace hb0 := on hb0 hb4
  replace hv := hv.on hb4
  obtain ⟨x00, x01, x02, y00, y01, y02⟩ := (k0).three
  have q0 := (((k0).put3 (.int .i64 1) (.int .i64 nn) (.string ⟨#[]⟩)).put3_far ne01.symm (.int .i64 2) (.int .i64 0) (.string t)).put3_far ne02.symm (.int .i64 3) (.int .i64 nb) (.string ⟨#[]⟩)
  obtain ⟨x10, x11, x12, y10, y11, y12⟩ := ((k1).put3_far ne01 (.int .i64 1) (.int .i64 nn) (.string ⟨#[]⟩)).three
  have q1 := (((k1).put3_far ne01 (.int .i64 1) (.int .i64 nn) (.string ⟨#[]⟩)).put3 (.int .i64 2) (.int .i64 0) (.string t)).put3_far ne12.symm (.int .i64 3) (.int .i64 nb) (.string ⟨#[]⟩)
  obtain ⟨x20, x21, x22, y20, y21, y22⟩ := (((k2).put3_far ne02 (.int .i64 1) (.int .i64 nn) (.string ⟨#[]⟩)).put3_far ne12 (.int .i64 2) (.int .i64 0) (.string t)).three
  have q2 := (((k2).put3_far ne02 (.int .i64 1) (.int .i64 nn) (.string ⟨#[]⟩)).put3_far ne12 (.int .i64 2) (.int .i64 0) (.string t)).put3 (.int .i64 3) (.int .i64 nb) (.string ⟨#[]⟩)
  replace hv := (((hv).put3_far (c := b3) (by omega) (.int .i64 1) (.int .i64 nn) (.string ⟨#[]⟩)).put3_far (c := b4) (by omega) (.int .i64 2) (.int .i64 0) (.string t)).put3_far (c := b5) (by omega) (.int .i64 3) (.int .i64 nb) (.string ⟨#[]⟩)
  replace hb0 := (set3 (set3 (set3 (hb0) (b := b3) (by omega) (.int .i64 1) (.int .i64 nn) (.string ⟨#[]⟩)) (b := b4) (by omega) (.int .i64 2) (.int .i64 0) (.string t)) (b := b5) (by omega) (.int .i64 3) (.int .i64 nb) (.string ⟨#[]⟩))
  simp only [put3] at q0 q1 q2 hv
  clear k0 k1 k2
  go_wp2_with fail
  clear x00 x01 x02 y00 y01 y02 x10 x11 x12 y10 y11 y12 x20 x21 x22 y20 y21 y22
  generalize ((((((((w4.setCell ⟨b3, 0, none⟩ (.int .i64 1)).setCell ⟨b3, 1, none⟩ (.int .i64 nn)).setCell ⟨b3, 2, none⟩ (.string ⟨#[]⟩)).setCell ⟨b4, 0, none⟩ (.int .i64 2)).setCell ⟨b4, 1, none⟩ (.int .i64 0)).setCell ⟨b4, 2, none⟩ (.string t)).setCell ⟨b5, 0, none⟩ (.int .i64 3)).setCell ⟨b5, 1, none⟩ (.int .i64 nb)).setCell ⟨b5, 2, none⟩ (.string ⟨#[]⟩) = W2 at *
  have HL2 := Lib.hid (HL.out.grown hb0)
  obtain ⟨p0, p1, p2, _⟩ := hv.three
  have C0 := fun d os => cell_regrown p0 d os
  have C1 := fun d os => cell_regrown p1 d os
  have C2 := fun d os => cell_regrown p2 d os
  obtain ⟨r0, r1, r2, _⟩ := q0.three
  have D00 := fun d os => cell_regrown r0 d os
  have D01 := fun d os => cell_regrown r1 d os
  have D02 := fun d os => cell_regrown r2 d os
  clear r0 r1 r2
  obtain ⟨r0, r1, r2, _⟩ := q1.three
  have D10 := fun d os => cell_regrown r0 d os
  have D11 := fun d os => cell_regrown r1 d os
  have D12 := fun d os => cell_regrown r2 d os
  clear r0 r1 r2
  obtain ⟨r0, r1, r2, _⟩ := q2.three
  have D20 := fun d os => cell_regrown r0 d os
  have D21 := fun d os => cell_regrown r1 d os
  have D22 := fun d os => cell_regrown r2 d os
  clear r0 r1 r2
  clear p0 p1 p2
  refine wp_region_mem 32 (fun d => match d with
    | 18 => some (Is (.agg #[.int .i64 1, .int .i64 nn, .string ⟨#[]⟩]))
    | 23 => some (Is (.agg #[.int .i64 2, .int .i64 0, .string t]))
    | 29 => some (Is (.agg #[.int .i64 3, .int .i64 nb, .string ⟨#[]⟩]))
    | 34 => some (Is (.string q))
    | 36 => some (Is (.string q))
    | 42 => some (Is (.string z))
    | 45 => some (Is (.string z))
    | _ => none) (by kernel_rfl) (by kernel_rfl) ?_
  simp only [List.take_succ_cons, List.take_zero, List.drop_succ_cons, List.drop_zero]
  repeat (first | ((with_reducible refine wpM_calm ?_ ?_ ?_ ?_); exact rfl; exact rfl; exact rfl; intro K hK; go_big_quiet_op; go_big_quiet_on) | ((with_reducible refine wpM_skip ?_ ?_); exact rfl; simp only [Act.put, List.setIfInBounds_toArray, List.set_cons_succ, List.set_cons_zero]))
  refine wpM_exact rfl rfl rfl Tryz.func23 (by kernel_rfl) (by kernel_rfl) (fun w1 hw1 _ => RN.out w1 (HL2.out.grown hw1)) rfl (by simp only [Act.put, List.setIfInBounds_toArray, List.set_cons_succ, List.set_cons_zero]; rfl) ?_
  repeat (first | ((with_reducible refine wpM_calm ?_ ?_ ?_ ?_); exact rfl; exact rfl; exact rfl; intro K hK; go_big_quiet_op; go_big_quiet_on) | ((with_reducible refine wpM_skip ?_ ?_); exact rfl; simp only [Act.put, List.setIfInBounds_toArray, List.set_cons_succ, List.set_cons_zero]))
  refine wpM_exact rfl rfl rfl Tryz.func24 (by kernel_rfl) (by kernel_rfl) (fun w1 hw1 _ => RT.out w1 (HL2.out.grown hw1)) rfl (by simp only [Act.put, List.setIfInBounds_toArray, List.set_cons_succ, List.set_cons_zero]; rfl) ?_
  repeat (first | ((with_reducible refine wpM_calm ?_ ?_ ?_ ?_); exact rfl; exact rfl; exact rfl; intro K hK; go_big_quiet_op; go_big_quiet_on) | ((with_reducible refine wpM_skip ?_ ?_); exact rfl; simp only [Act.put, List.setIfInBounds_toArray, List.set_cons_succ, List.set_cons_zero]))
  refine wpM_exact rfl rfl rfl Tryz.func25 (by kernel_rfl) (by kernel_rfl) (fun w1 hw1 _ => RB.out w1 (HL2.out.grown hw1)) rfl (by simp only [Act.put, List.setIfInBounds_toArray, List.set_cons_succ, List.set_cons_zero]; rfl) ?_
  repeat (first | ((with_reducible refine wpM_calm ?_ ?_ ?_ ?_); exact rfl; exact rfl; exact rfl; intro K hK; go_big_quiet_op; go_big_quiet_on) | ((with_reducible refine wpM_skip ?_ ?_); exact rfl; simp only [Act.put, List.setIfInBounds_toArray, List.set_cons_succ, List.set_cons_zero]))
  refine wpM_exact rfl rfl rfl Tryz.func26 (by kernel_rfl) (by kernel_rfl) (fun w1 hw1 _ => PS.out w1 (HL2.out.grown hw1)) rfl (by simp only [Act.put, List.setIfInBounds_toArray, List.set_cons_succ, List.set_cons_zero]; rfl) ?_
  repeat (first | ((with_reducible refine wpM_calm ?_ ?_ ?_ ?_); exact rfl; exact rfl; exact rfl; intro K hK; go_big_quiet_op; go_big_quiet_on) | ((with_reducible refine wpM_skip ?_ ?_); exact rfl; simp only [Act.put, List.setIfInBounds_toArray, List.set_cons_succ, List.set_cons_zero]))
  refine wpM_exact rfl rfl rfl Tryz.func27 (by kernel_rfl) (by kernel_rfl) (fun w1 hw1 _ => RS.out w1 (HL2.out.grown hw1)) rfl (by simp only [Act.put, List.setIfInBounds_toArray, List.set_cons_succ, List.set_cons_zero]; rfl) ?_
  repeat (first | ((with_reducible refine wpM_calm ?_ ?_ ?_ ?_); exact rfl; exact rfl; exact rfl; intro K hK; go_big_quiet_op; go_big_quiet_on) | ((with_reducible refine wpM_skip ?_ ?_); exact rfl; simp only [Act.put, List.setIfInBounds_toArray, List.set_cons_succ, List.set_cons_zero]))
  refine wpM_exact rfl rfl rfl Tryz.func28 (by kernel_rfl) (by kernel_rfl) (fun w1 hw1 _ => PQ.out w1 (HL2.out.grown hw1)) rfl (by simp only [Act.put, List.setIfInBounds_toArray, List.set_cons_succ, List.set_cons_zero]; rfl) ?_
  repeat (first | ((with_reducible refine wpM_calm ?_ ?_ ?_ ?_); exact rfl; exact rfl; exact rfl; intro K hK; go_big_quiet_op; go_big_quiet_on) | ((with_reducible refine wpM_skip ?_ ?_); exact rfl; simp only [Act.put, List.setIfInBounds_toArray, List.set_cons_succ, List.set_cons_zero]))
  refine wpM_exact rfl rfl rfl Tryz.func29 (by kernel_rfl) (by kernel_rfl) (fun w1 hw1 _ => RQ.out w1 (HL2.out.grown hw1)) rfl (by simp only [Act.put, List.setIfInBounds_toArray, List.set_cons_succ, List.set_cons_zero]; rfl) ?_
  repeat (first | ((with_reducible refine wpM_calm ?_ ?_ ?_ ?_); exact rfl; exact rfl; exact rfl; intro K hK; go_big_quiet_op; go_big_quiet_on) | ((with_reducible refine wpM_skip ?_ ?_); exact rfl; simp only [Act.put, List.setIfInBounds_toArray, List.set_cons_succ, List.set_cons_zero]))
  refine wpM_nil ?_
  intro w5 hb5 _
  replace hb0 := on hb0 hb5
  replace hv := hv.on hb5
  have HL5 := Lib.hid (HL.out.grown hb0)
  replace q0 := q0.on hb5
  replace q1 := q1.on hb5
  replace q2 := q2.on hb5
  clear hb5 HL2 C0 C1 C2 D00 D01 D02 D10 D11 D12 D20 D21 D22
  obtain ⟨r00, r01, r02, _⟩ := q0.three
  obtain ⟨r10, r11, r12, _⟩ := q1.three
  obtain ⟨r20, r21, r22, _⟩ := q2.three
  obtain ⟨p0, p1, p2, _⟩ := hv.three
  go_wp2_with fail
  have C0 := fun d os => cell_regrown p0 d os
  have D00 := fun d os => cell_regrown r00 d os
  have D01 := fun d os => cell_regrown r01 d os
  have D02 := fun d os => cell_regrown r02 d os
  have C1 := fun d os => cell_regrown p1 d os
  have D10 := fun d os => cell_regrown r10 d os
  have D11 := fun d os => cell_regrown r11 d os
  have D12 := fun d os => cell_regrown r12 d os
  have C2 := fun d os => cell_regrown p2 d os
  have D20 := fun d os => cell_regrown r20 d os
  have D21 := fun d os => cell_regrown r21 d os
  have D22 := fun d os => cell_regrown r22 d os
  clear p0 p1 p2 r00 r01 r02 r10 r11 r12 r20 r21 r22
  refine wp_region_mem 44 (fun d => match d with
    | 117 => some (Is (.bool true))
    | _ => none) (by kernel_rfl) (by kernel_rfl) ?_
  simp only [List.take_succ_cons, List.take_zero, List.drop_succ_cons, List.drop_zero]
  repeat (first | ((with_reducible refine wpM_calm ?_ ?_ ?_ ?_); exact rfl; exact rfl; exact rfl; intro K hK; go_big_quiet_op; go_big_quiet_on) | ((with_reducible refine wpM_skip ?_ ?_); exact rfl; simp only [Act.put, List.setIfInBounds_toArray, List.set_cons_succ, List.set_cons_zero]))
  refine wpM_exact rfl rfl rfl Tryz.func5 (by kernel_rfl) (by kernel_rfl) (fun w1 hw1 _ => HA.out w1 (HL5.out.grown hw1)) rfl (by simp only [Act.put, List.setIfInBounds_toArray, List.set_cons_succ, List.set_cons_zero]; rfl) ?_
  repeat (first | ((with_reducible refine wpM_calm ?_ ?_ ?_ ?_); exact rfl; exact rfl; exact rfl; intro K hK; go_big_quiet_op; go_big_quiet_on) | ((with_reducible refine wpM_skip ?_ ?_); exact rfl; simp only [Act.put, List.setIfInBounds_toArray, List.set_cons_succ, List.set_cons_zero]))
  refine wpM_nil ?_
  intro w6 hb6 _
  go_wp2
  go_ret
  exact ⟨rfl, on hb0 hb6⟩
set_option maxRecDepth 100000 in
set_option maxHeartbeats 8000000 in
theorem turns_t10 (nn : Int) (t : ByteArray) (q z : ByteArray)
    (HM : Yields 12 #[.agg #[.int .i64 2, .int .i64 0, .string t]] (.bool true))
    (PN : YieldsL 20 #[.agg #[.int .i64 2, .int .i64 0, .string t]] (.agg #[.int .i64 1, .int .i64 nn, .string ⟨#[]⟩]))
    (RN : YieldsL 23 #[.agg #[.int .i64 2, .int .i64 0, .string t]] (.agg #[.int .i64 1, .int .i64 nn, .string ⟨#[]⟩]))
    (PT : YieldsL 21 #[.agg #[.int .i64 2, .int .i64 0, .string t]] (.agg #[.int .i64 2, .int .i64 0, .string t]))
    (RT : YieldsL 24 #[.agg #[.int .i64 2, .int .i64 0, .string t]] (.agg #[.int .i64 2, .int .i64 0, .string t]))
    (PB : YieldsL 22 #[.agg #[.int .i64 2, .int .i64 0, .string t]] (.agg #[.int .i64 4, .int .i64 2, .string ⟨#[]⟩]))
    (RB : YieldsL 25 #[.agg #[.int .i64 2, .int .i64 0, .string t]] (.agg #[.int .i64 4, .int .i64 2, .string ⟨#[]⟩]))
    (PS : YieldsL 26 #[.agg #[.int .i64 2, .int .i64 0, .string t]] (.string q))
    (RS : YieldsL 27 #[.agg #[.int .i64 2, .int .i64 0, .string t]] (.string q))
    (PQ : YieldsL 28 #[.string t] (.string z))
    (RQ : YieldsL 29 #[.string t] (.string z)) (w : World) (hL : PLibs w) :
    Calls Tryz.prog 4 #[.agg #[.int .i64 2, .int .i64 0, .string t]] w (LawEnd w) := by
  have HA := Lib.hid (fun w1 hL => alive_c w1 hL)
  have HL := Lib.hid hL
  clear hL
  go_enter Tryz.func4, Tryz.ntmps4
  go_wp2_with fail
  have hv := CellsAt.new w [.int .i64 2, .int .i64 0, .string t] 23
  have hb0 := below1 w (.cells #[.int .i64 2, .int .i64 0, .string t] 23)
  have hsz : (w.alloc (.cells #[.int .i64 2, .int .i64 0, .string t] 23)).heap.size = w.heap.size + 1 := by simp
  refine (HM.out _).mono ?_
  rintro e W ⟨rfl, hb1⟩
  replace hv := hv.on hb1
  replace hb0 := on hb0 hb1
  have hs1 := hb1.size
  rw [hsz] at hs1
  clear hb1 hsz
  obtain ⟨p0, p1, p2, _⟩ := hv.three
  have C0 := fun d os => cell_regrown p0 d os
  have C1 := fun d os => cell_regrown p1 d os
  have C2 := fun d os => cell_regrown p2 d os
  clear p0 p1 p2
  have HL1 := Lib.hid (HL.out.grown hb0)
  go_wp2_with fail
  refine wp_region_new 9 (fun d => match d with
    | 11 => some (Is (.agg #[.int .i64 1, .int .i64 nn, .string ⟨#[]⟩]))
    | 13 => some (Is (.agg #[.int .i64 2, .int .i64 0, .string t]))
    | 15 => some (Is (.agg #[.int .i64 4, .int .i64 2, .string ⟨#[]⟩]))
    | 3 => some (NewCells W.heap.size [.int .i64 0, .int .i64 0, .string ⟨#[]⟩])
    | 4 => some (NewCells W.heap.size [.int .i64 0, .int .i64 0, .string ⟨#[]⟩])
    | 5 => some (NewCells W.heap.size [.int .i64 0, .int .i64 0, .string ⟨#[]⟩])
    | _ => none) (fun d => d == 3 || d == 4 || d == 5) (by kernel_rfl) (by kernel_rfl) ?_
  simp only [List.take_succ_cons, List.take_zero, List.drop_succ_cons, List.drop_zero]
  repeat (first | ((with_reducible refine wpM_calm ?_ ?_ ?_ ?_); exact rfl; exact rfl; exact rfl; intro K hK; go_big_quiet_op; go_big_quiet_on) | ((with_reducible refine wpM_skip ?_ ?_); exact rfl; simp only [Act.put, List.setIfInBounds_toArray, List.set_cons_succ, List.set_cons_zero]))
  refine wpM_exact rfl rfl rfl Tryz.func20 (by kernel_rfl) (by kernel_rfl) (fun w1 hw1 _ => PN.out w1 (HL1.out.grown hw1)) rfl (by simp only [Act.put, List.setIfInBounds_toArray, List.set_cons_succ, List.set_cons_zero]; rfl) ?_
  repeat (first | ((with_reducible refine wpM_calm ?_ ?_ ?_ ?_); exact rfl; exact rfl; exact rfl; intro K hK; go_big_quiet_op; go_big_quiet_on) | ((with_reducible refine wpM_skip ?_ ?_); exact rfl; simp only [Act.put, List.setIfInBounds_toArray, List.set_cons_succ, List.set_cons_zero]))
  refine wpM_exact rfl rfl rfl Tryz.func21 (by kernel_rfl) (by kernel_rfl) (fun w1 hw1 _ => PT.out w1 (HL1.out.grown hw1)) rfl (by simp only [Act.put, List.setIfInBounds_toArray, List.set_cons_succ, List.set_cons_zero]; rfl) ?_
  repeat (first | ((with_reducible refine wpM_calm ?_ ?_ ?_ ?_); exact rfl; exact rfl; exact rfl; intro K hK; go_big_quiet_op; go_big_quiet_on) | ((with_reducible refine wpM_skip ?_ ?_); exact rfl; simp only [Act.put, List.setIfInBounds_toArray, List.set_cons_succ, List.set_cons_zero]))
  refine wpM_exact rfl rfl rfl Tryz.func22 (by kernel_rfl) (by kernel_rfl) (fun w1 hw1 _ => PB.out w1 (HL1.out.grown hw1)) rfl (by simp only [Act.put, List.setIfInBounds_toArray, List.set_cons_succ, List.set_cons_zero]; rfl) ?_
  refine wpM_alloc _ (.cells #[.int .i64 0, .int .i64 0, .string ⟨#[]⟩] 23) rfl rfl rfl (fun w1 => by simp [go_sem]) (fun w1 h1 => (NewCells.mk w1 _ _ h1.size).2) ?_ (by rintro v ⟨_, b, rfl, _⟩; exact ⟨b, rfl⟩)
  intro b3 a' ha'
  simp only [Act.put, List.setIfInBounds_toArray, List.set_cons_succ, List.set_cons_zero] at ha'
  subst ha'
  refine wpM_alloc _ (.cells #[.int .i64 0, .int .i64 0, .string ⟨#[]⟩] 23) rfl rfl rfl (fun w1 => by simp [go_sem]) (fun w1 h1 => (NewCells.mk w1 _ _ h1.size).2) ?_ (by rintro v ⟨_, b, rfl, _⟩; exact ⟨b, rfl⟩)
  intro b4 a' ha'
  simp only [Act.put, List.setIfInBounds_toArray, List.set_cons_succ, List.set_cons_zero] at ha'
  subst ha'
  refine wpM_alloc _ (.cells #[.int .i64 0, .int .i64 0, .string ⟨#[]⟩] 23) rfl rfl rfl (fun w1 => by simp [go_sem]) (fun w1 h1 => (NewCells.mk w1 _ _ h1.size).2) ?_ (by rintro v ⟨_, b, rfl, _⟩; exact ⟨b, rfl⟩)
  intro b5 a' ha'
  simp only [Act.put, List.setIfInBounds_toArray, List.set_cons_succ, List.set_cons_zero] at ha'
  subst ha'
  refine wpM_nil ?_
  intro w4 hb4 hG
  have ne01 : b3 ≠ b4 := hG.2.1 6 b3 7 b4 (.inl (.inl (.inr ⟨rfl, rfl⟩))) (.inl (.inr ⟨rfl, rfl⟩)) (by decide)
  have ne02 : b3 ≠ b5 := hG.2.1 6 b3 8 b5 (.inl (.inl (.inr ⟨rfl, rfl⟩))) (.inr ⟨rfl, rfl⟩) (by decide)
  have ne12 : b4 ≠ b5 := hG.2.1 7 b4 8 b5 (.inl (.inr ⟨rfl, rfl⟩)) (.inr ⟨rfl, rfl⟩) (by decide)
  obtain ⟨hB0, k0⟩ := NewCells.at (Fct.put_at (Fct.put_old (Fct.put_old (hG.2.2.1 6))))
  obtain ⟨hB1, k1⟩ := NewCells.at (Fct.put_at (Fct.put_old (hG.2.2.1 7)))
  obtain ⟨hB2, k2⟩ := NewCells.at (Fct.put_at (hG.2.2.1 8))
  clear hG C0 C1 C2
  replace hb0 := on hb0 hb4
  replace hv := hv.on hb4
  obtain ⟨x00, x01, x02, y00, y01, y02⟩ := (k0).three
  have q0 := (((k0).put3 (.int .i64 1) (.int .i64 nn) (.string ⟨#[]⟩)).put3_far ne01.symm (.int .i64 2) (.int .i64 0) (.string t)).put3_far ne02.symm (.int .i64 4) (.int .i64 2) (.string ⟨#[]⟩)
  obtain ⟨x10, x11, x12, y10, y11, y12⟩ := ((k1).put3_far ne01 (.int .i64 1) (.int .i64 nn) (.string ⟨#[]⟩)).three
  have q1 := (((k1).put3_far ne01 (.int .i64 1) (.int .i64 nn) (.string ⟨#[]⟩)).put3 (.int .i64 2) (.int .i64 0) (.string t)).put3_far ne12.symm (.int .i64 4) (.int .i64 2) (.string ⟨#[]⟩)
  obtain ⟨x20, x21, x22, y20, y21, y22⟩ := (((k2).put3_far ne02 (.int .i64 1) (.int .i64 nn) (.string ⟨#[]⟩)).put3_far ne12 (.int .i64 2) (.int .i64 0) (.string t)).three
  have q2 := (((k2).put3_far ne02 (.int .i64 1) (.int .i64 nn) (.string ⟨#[]⟩)).put3_far ne12 (.int .i64 2) (.int .i64 0) (.string t)).put3 (.int .i64 4) (.int .i64 2) (.string ⟨#[]⟩)
  replace hv := (((hv).put3_far (c := b3) (by omega) (.int .i64 1) (.int .i64 nn) (.string ⟨#[]⟩)).put3_far (c := b4) (by omega) (.int .i64 2) (.int .i64 0) (.string t)).put3_far (c := b5) (by omega) (.int .i64 4) (.int .i64 2) (.string ⟨#[]⟩)
  replace hb0 := (set3 (set3 (set3 (hb0) (b := b3) (by omega) (.int .i64 1) (.int .i64 nn) (.string ⟨#[]⟩)) (b := b4) (by omega) (.int .i64 2) (.int .i64 0) (.string t)) (b := b5) (by omega) (.int .i64 4) (.int .i64 2) (.string ⟨#[]⟩))
  simp only [put3] at q0 q1 q2 hv
  clear k0 k1 k2
  go_wp2_with fail
  clear x00 x01 x02 y00 y01 y02 x10 x11 x12 y10 y11 y12 x20 x21 x22 y20 y21 y22
  generalize ((((((((w4.setCell ⟨b3, 0, none⟩ (.int .i64 1)).setCell ⟨b3, 1, none⟩ (.int .i64 nn)).setCell ⟨b3, 2, none⟩ (.string ⟨#[]⟩)).setCell ⟨b4, 0, none⟩ (.int .i64 2)).setCell ⟨b4, 1, none⟩ (.int .i64 0)).setCell ⟨b4, 2, none⟩ (.string t)).setCell ⟨b5, 0, none⟩ (.int .i64 4)).setCell ⟨b5, 1, none⟩ (.int .i64 2)).setCell ⟨b5, 2, none⟩ (.string ⟨#[]⟩) = W2 at *
  have HL2 := Lib.hid (HL.out.grown hb0)
  obtain ⟨p0, p1, p2, _⟩ := hv.three
  have C0 := fun d os => cell_regrown p0 d os
  have C1 := fun d os => cell_regrown p1 d os
  have C2 := fun d os => cell_regrown p2 d os
  obtain ⟨r0, r1, r2, _⟩ := q0.three
  have D00 := fun d os => cell_regrown r0 d os
  have D01 := fun d os => cell_regrown r1 d os
  have D02 := fun d os => cell_regrown r2 d os
  clear r0 r1 r2
  obtain ⟨r0, r1, r2, _⟩ := q1.three
  have D10 := fun d os => cell_regrown r0 d os
  have D11 := fun d os => cell_regrown r1 d os
  have D12 := fun d os => cell_regrown r2 d os
  clear r0 r1 r2
  obtain ⟨r0, r1, r2, _⟩ := q2.three
  have D20 := fun d os => cell_regrown r0 d os
  have D21 := fun d os => cell_regrown r1 d os
  have D22 := fun d os => cell_regrown r2 d os
  clear r0 r1 r2
  clear p0 p1 p2
  refine wp_region_mem 32 (fun d => match d with
    | 18 => some (Is (.agg #[.int .i64 1, .int .i64 nn, .string ⟨#[]⟩]))
    | 23 => some (Is (.agg #[.int .i64 2, .int .i64 0, .string t]))
    | 29 => some (Is (.agg #[.int .i64 4, .int .i64 2, .string ⟨#[]⟩]))
    | 34 => some (Is (.string q))
    | 36 => some (Is (.string q))
    | 42 => some (Is (.string z))
    | 45 => some (Is (.string z))
    | _ => none) (by kernel_rfl) (by kernel_rfl) ?_
  simp only [List.take_succ_cons, List.take_zero, List.drop_succ_cons, List.drop_zero]
  repeat (first | ((with_reducible refine wpM_calm ?_ ?_ ?_ ?_); exact rfl; exact rfl; exact rfl; intro K hK; go_big_quiet_op; go_big_quiet_on) | ((with_reducible refine wpM_skip ?_ ?_); exact rfl; simp only [Act.put, List.setIfInBounds_toArray, List.set_cons_succ, List.set_cons_zero]))
  refine wpM_exact rfl rfl rfl Tryz.func23 (by kernel_rfl) (by kernel_rfl) (fun w1 hw1 _ => RN.out w1 (HL2.out.grown hw1)) rfl (by simp only [Act.put, List.setIfInBounds_toArray, List.set_cons_succ, List.set_cons_zero]; rfl) ?_
  repeat (first | ((with_reducible refine wpM_calm ?_ ?_ ?_ ?_); exact rfl; exact rfl; exact rfl; intro K hK; go_big_quiet_op; go_big_quiet_on) | ((with_reducible refine wpM_skip ?_ ?_); exact rfl; simp only [Act.put, List.setIfInBounds_toArray, List.set_cons_succ, List.set_cons_zero]))
  refine wpM_exact rfl rfl rfl Tryz.func24 (by kernel_rfl) (by kernel_rfl) (fun w1 hw1 _ => RT.out w1 (HL2.out.grown hw1)) rfl (by simp only [Act.put, List.setIfInBounds_toArray, List.set_cons_succ, List.set_cons_zero]; rfl) ?_
  repeat (first | ((with_reducible refine wpM_calm ?_ ?_ ?_ ?_); exact rfl; exact rfl; exact rfl; intro K hK; go_big_quiet_op; go_big_quiet_on) | ((with_reducible refine wpM_skip ?_ ?_); exact rfl; simp only [Act.put, List.setIfInBounds_toArray, List.set_cons_succ, List.set_cons_zero]))
  refine wpM_exact rfl rfl rfl Tryz.func25 (by kernel_rfl) (by kernel_rfl) (fun w1 hw1 _ => RB.out w1 (HL2.out.grown hw1)) rfl (by simp only [Act.put, List.setIfInBounds_toArray, List.set_cons_succ, List.set_cons_zero]; rfl) ?_
  repeat (first | ((with_reducible refine wpM_calm ?_ ?_ ?_ ?_); exact rfl; exact rfl; exact rfl; intro K hK; go_big_quiet_op; go_big_quiet_on) | ((with_reducible refine wpM_skip ?_ ?_); exact rfl; simp only [Act.put, List.setIfInBounds_toArray, List.set_cons_succ, List.set_cons_zero]))
  refine wpM_exact rfl rfl rfl Tryz.func26 (by kernel_rfl) (by kernel_rfl) (fun w1 hw1 _ => PS.out w1 (HL2.out.grown hw1)) rfl (by simp only [Act.put, List.setIfInBounds_toArray, List.set_cons_succ, List.set_cons_zero]; rfl) ?_
  repeat (first | ((with_reducible refine wpM_calm ?_ ?_ ?_ ?_); exact rfl; exact rfl; exact rfl; intro K hK; go_big_quiet_op; go_big_quiet_on) | ((with_reducible refine wpM_skip ?_ ?_); exact rfl; simp only [Act.put, List.setIfInBounds_toArray, List.set_cons_succ, List.set_cons_zero]))
  refine wpM_exact rfl rfl rfl Tryz.func27 (by kernel_rfl) (by kernel_rfl) (fun w1 hw1 _ => RS.out w1 (HL2.out.grown hw1)) rfl (by simp only [Act.put, List.setIfInBounds_toArray, List.set_cons_succ, List.set_cons_zero]; rfl) ?_
  repeat (first | ((with_reducible refine wpM_calm ?_ ?_ ?_ ?_); exact rfl; exact rfl; exact rfl; intro K hK; go_big_quiet_op; go_big_quiet_on) | ((with_reducible refine wpM_skip ?_ ?_); exact rfl; simp only [Act.put, List.setIfInBounds_toArray, List.set_cons_succ, List.set_cons_zero]))
  refine wpM_exact rfl rfl rfl Tryz.func28 (by kernel_rfl) (by kernel_rfl) (fun w1 hw1 _ => PQ.out w1 (HL2.out.grown hw1)) rfl (by simp only [Act.put, List.setIfInBounds_toArray, List.set_cons_succ, List.set_cons_zero]; rfl) ?_
  repeat (first | ((with_reducible refine wpM_calm ?_ ?_ ?_ ?_); exact rfl; exact rfl; exact rfl; intro K hK; go_big_quiet_op; go_big_quiet_on) | ((with_reducible refine wpM_skip ?_ ?_); exact rfl; simp only [Act.put, List.setIfInBounds_toArray, List.set_cons_succ, List.set_cons_zero]))
  refine wpM_exact rfl rfl rfl Tryz.func29 (by kernel_rfl) (by kernel_rfl) (fun w1 hw1 _ => RQ.out w1 (HL2.out.grown hw1)) rfl (by simp only [Act.put, List.setIfInBounds_toArray, List.set_cons_succ, List.set_cons_zero]; rfl) ?_
  repeat (first | ((with_reducible refine wpM_calm ?_ ?_ ?_ ?_); exact rfl; exact rfl; exact rfl; intro K hK; go_big_quiet_op; go_big_quiet_on) | ((with_reducible refine wpM_skip ?_ ?_); exact rfl; simp only [Act.put, List.setIfInBounds_toArray, List.set_cons_succ, List.set_cons_zero]))
  refine wpM_nil ?_
  intro w5 hb5 _
  replace hb0 := on hb0 hb5
  replace hv := hv.on hb5
  have HL5 := Lib.hid (HL.out.grown hb0)
  replace q0 := q0.on hb5
  replace q1 := q1.on hb5
  replace q2 := q2.on hb5
  clear hb5 HL2 C0 C1 C2 D00 D01 D02 D10 D11 D12 D20 D21 D22
  obtain ⟨r00, r01, r02, _⟩ := q0.three
  obtain ⟨r10, r11, r12, _⟩ := q1.three
  obtain ⟨r20, r21, r22, _⟩ := q2.three
  obtain ⟨p0, p1, p2, _⟩ := hv.three
  go_wp2_with fail
  have C0 := fun d os => cell_regrown p0 d os
  have D00 := fun d os => cell_regrown r00 d os
  have D01 := fun d os => cell_regrown r01 d os
  have D02 := fun d os => cell_regrown r02 d os
  have C1 := fun d os => cell_regrown p1 d os
  have D10 := fun d os => cell_regrown r10 d os
  have D11 := fun d os => cell_regrown r11 d os
  have D12 := fun d os => cell_regrown r12 d os
  have C2 := fun d os => cell_regrown p2 d os
  have D20 := fun d os => cell_regrown r20 d os
  have D21 := fun d os => cell_regrown r21 d os
  have D22 := fun d os => cell_regrown r22 d os
  clear p0 p1 p2 r00 r01 r02 r10 r11 r12 r20 r21 r22
  refine wp_region_mem 44 (fun d => match d with
    | 117 => some (Is (.bool true))
    | _ => none) (by kernel_rfl) (by kernel_rfl) ?_
  simp only [List.take_succ_cons, List.take_zero, List.drop_succ_cons, List.drop_zero]
  repeat (first | ((with_reducible refine wpM_calm ?_ ?_ ?_ ?_); exact rfl; exact rfl; exact rfl; intro K hK; go_big_quiet_op; go_big_quiet_on) | ((with_reducible refine wpM_skip ?_ ?_); exact rfl; simp only [Act.put, List.setIfInBounds_toArray, List.set_cons_succ, List.set_cons_zero]))
  refine wpM_exact rfl rfl rfl Tryz.func5 (by kernel_rfl) (by kernel_rfl) (fun w1 hw1 _ => HA.out w1 (HL5.out.grown hw1)) rfl (by simp only [Act.put, List.setIfInBounds_toArray, List.set_cons_succ, List.set_cons_zero]; rfl) ?_
  repeat (first | ((with_reducible refine wpM_calm ?_ ?_ ?_ ?_); exact rfl; exact rfl; exact rfl; intro K hK; go_big_quiet_op; go_big_quiet_on) | ((with_reducible refine wpM_skip ?_ ?_); exact rfl; simp only [Act.put, List.setIfInBounds_toArray, List.set_cons_succ, List.set_cons_zero]))
  refine wpM_nil ?_
  intro w6 hb6 _
  go_wp2
  go_ret
  exact ⟨rfl, on hb0 hb6⟩
set_option maxRecDepth 100000 in
set_option maxHeartbeats 8000000 in
theorem turns_t01 (nb : Int) (t : ByteArray) (q z : ByteArray)
    (HM : Yields 12 #[.agg #[.int .i64 2, .int .i64 0, .string t]] (.bool true))
    (PN : YieldsL 20 #[.agg #[.int .i64 2, .int .i64 0, .string t]] (.agg #[.int .i64 4, .int .i64 2, .string ⟨#[]⟩]))
    (RN : YieldsL 23 #[.agg #[.int .i64 2, .int .i64 0, .string t]] (.agg #[.int .i64 4, .int .i64 2, .string ⟨#[]⟩]))
    (PT : YieldsL 21 #[.agg #[.int .i64 2, .int .i64 0, .string t]] (.agg #[.int .i64 2, .int .i64 0, .string t]))
    (RT : YieldsL 24 #[.agg #[.int .i64 2, .int .i64 0, .string t]] (.agg #[.int .i64 2, .int .i64 0, .string t]))
    (PB : YieldsL 22 #[.agg #[.int .i64 2, .int .i64 0, .string t]] (.agg #[.int .i64 3, .int .i64 nb, .string ⟨#[]⟩]))
    (RB : YieldsL 25 #[.agg #[.int .i64 2, .int .i64 0, .string t]] (.agg #[.int .i64 3, .int .i64 nb, .string ⟨#[]⟩]))
    (PS : YieldsL 26 #[.agg #[.int .i64 2, .int .i64 0, .string t]] (.string q))
    (RS : YieldsL 27 #[.agg #[.int .i64 2, .int .i64 0, .string t]] (.string q))
    (PQ : YieldsL 28 #[.string t] (.string z))
    (RQ : YieldsL 29 #[.string t] (.string z)) (w : World) (hL : PLibs w) :
    Calls Tryz.prog 4 #[.agg #[.int .i64 2, .int .i64 0, .string t]] w (LawEnd w) := by
  have HA := Lib.hid (fun w1 hL => alive_c w1 hL)
  have HL := Lib.hid hL
  clear hL
  go_enter Tryz.func4, Tryz.ntmps4
  go_wp2_with fail
  have hv := CellsAt.new w [.int .i64 2, .int .i64 0, .string t] 23
  have hb0 := below1 w (.cells #[.int .i64 2, .int .i64 0, .string t] 23)
  have hsz : (w.alloc (.cells #[.int .i64 2, .int .i64 0, .string t] 23)).heap.size = w.heap.size + 1 := by simp
  refine (HM.out _).mono ?_
  rintro e W ⟨rfl, hb1⟩
  replace hv := hv.on hb1
  replace hb0 := on hb0 hb1
  have hs1 := hb1.size
  rw [hsz] at hs1
  clear hb1 hsz
  obtain ⟨p0, p1, p2, _⟩ := hv.three
  have C0 := fun d os => cell_regrown p0 d os
  have C1 := fun d os => cell_regrown p1 d os
  have C2 := fun d os => cell_regrown p2 d os
  clear p0 p1 p2
  have HL1 := Lib.hid (HL.out.grown hb0)
  go_wp2_with fail
  refine wp_region_new 9 (fun d => match d with
    | 11 => some (Is (.agg #[.int .i64 4, .int .i64 2, .string ⟨#[]⟩]))
    | 13 => some (Is (.agg #[.int .i64 2, .int .i64 0, .string t]))
    | 15 => some (Is (.agg #[.int .i64 3, .int .i64 nb, .string ⟨#[]⟩]))
    | 3 => some (NewCells W.heap.size [.int .i64 0, .int .i64 0, .string ⟨#[]⟩])
    | 4 => some (NewCells W.heap.size [.int .i64 0, .int .i64 0, .string ⟨#[]⟩])
    | 5 => some (NewCells W.heap.size [.int .i64 0, .int .i64 0, .string ⟨#[]⟩])
    | _ => none) (fun d => d == 3 || d == 4 || d == 5) (by kernel_rfl) (by kernel_rfl) ?_
  simp only [List.take_succ_cons, List.take_zero, List.drop_succ_cons, List.drop_zero]
  repeat (first | ((with_reducible refine wpM_calm ?_ ?_ ?_ ?_); exact rfl; exact rfl; exact rfl; intro K hK; go_big_quiet_op; go_big_quiet_on) | ((with_reducible refine wpM_skip ?_ ?_); exact rfl; simp only [Act.put, List.setIfInBounds_toArray, List.set_cons_succ, List.set_cons_zero]))
  refine wpM_exact rfl rfl rfl Tryz.func20 (by kernel_rfl) (by kernel_rfl) (fun w1 hw1 _ => PN.out w1 (HL1.out.grown hw1)) rfl (by simp only [Act.put, List.setIfInBounds_toArray, List.set_cons_succ, List.set_cons_zero]; rfl) ?_
  repeat (first | ((with_reducible refine wpM_calm ?_ ?_ ?_ ?_); exact rfl; exact rfl; exact rfl; intro K hK; go_big_quiet_op; go_big_quiet_on) | ((with_reducible refine wpM_skip ?_ ?_); exact rfl; simp only [Act.put, List.setIfInBounds_toArray, List.set_cons_succ, List.set_cons_zero]))
  refine wpM_exact rfl rfl rfl Tryz.func21 (by kernel_rfl) (by kernel_rfl) (fun w1 hw1 _ => PT.out w1 (HL1.out.grown hw1)) rfl (by simp only [Act.put, List.setIfInBounds_toArray, List.set_cons_succ, List.set_cons_zero]; rfl) ?_
  repeat (first | ((with_reducible refine wpM_calm ?_ ?_ ?_ ?_); exact rfl; exact rfl; exact rfl; intro K hK; go_big_quiet_op; go_big_quiet_on) | ((with_reducible refine wpM_skip ?_ ?_); exact rfl; simp only [Act.put, List.setIfInBounds_toArray, List.set_cons_succ, List.set_cons_zero]))
  refine wpM_exact rfl rfl rfl Tryz.func22 (by kernel_rfl) (by kernel_rfl) (fun w1 hw1 _ => PB.out w1 (HL1.out.grown hw1)) rfl (by simp only [Act.put, List.setIfInBounds_toArray, List.set_cons_succ, List.set_cons_zero]; rfl) ?_
  refine wpM_alloc _ (.cells #[.int .i64 0, .int .i64 0, .string ⟨#[]⟩] 23) rfl rfl rfl (fun w1 => by simp [go_sem]) (fun w1 h1 => (NewCells.mk w1 _ _ h1.size).2) ?_ (by rintro v ⟨_, b, rfl, _⟩; exact ⟨b, rfl⟩)
  intro b3 a' ha'
  simp only [Act.put, List.setIfInBounds_toArray, List.set_cons_succ, List.set_cons_zero] at ha'
  subst ha'
  refine wpM_alloc _ (.cells #[.int .i64 0, .int .i64 0, .string ⟨#[]⟩] 23) rfl rfl rfl (fun w1 => by simp [go_sem]) (fun w1 h1 => (NewCells.mk w1 _ _ h1.size).2) ?_ (by rintro v ⟨_, b, rfl, _⟩; exact ⟨b, rfl⟩)
  intro b4 a' ha'
  simp only [Act.put, List.setIfInBounds_toArray, List.set_cons_succ, List.set_cons_zero] at ha'
  subst ha'
  refine wpM_alloc _ (.cells #[.int .i64 0, .int .i64 0, .string ⟨#[]⟩] 23) rfl rfl rfl (fun w1 => by simp [go_sem]) (fun w1 h1 => (NewCells.mk w1 _ _ h1.size).2) ?_ (by rintro v ⟨_, b, rfl, _⟩; exact ⟨b, rfl⟩)
  intro b5 a' ha'
  simp only [Act.put, List.setIfInBounds_toArray, List.set_cons_succ, List.set_cons_zero] at ha'
  subst ha'
  refine wpM_nil ?_
  intro w4 hb4 hG
  have ne01 : b3 ≠ b4 := hG.2.1 6 b3 7 b4 (.inl (.inl (.inr ⟨rfl, rfl⟩))) (.inl (.inr ⟨rfl, rfl⟩)) (by decide)
  have ne02 : b3 ≠ b5 := hG.2.1 6 b3 8 b5 (.inl (.inl (.inr ⟨rfl, rfl⟩))) (.inr ⟨rfl, rfl⟩) (by decide)
  have ne12 : b4 ≠ b5 := hG.2.1 7 b4 8 b5 (.inl (.inr ⟨rfl, rfl⟩)) (.inr ⟨rfl, rfl⟩) (by decide)
  obtain ⟨hB0, k0⟩ := NewCells.at (Fct.put_at (Fct.put_old (Fct.put_old (hG.2.2.1 6))))
  obtain ⟨hB1, k1⟩ := NewCells.at (Fct.put_at (Fct.put_old (hG.2.2.1 7)))
  obtain ⟨hB2, k2⟩ := NewCells.at (Fct.put_at (hG.2.2.1 8))
  clear hG C0 C1 C2
  replace hb0 := on hb0 hb4
  replace hv := hv.on hb4
  obtain ⟨x00, x01, x02, y00, y01, y02⟩ := (k0).three
  have q0 := (((k0).put3 (.int .i64 4) (.int .i64 2) (.string ⟨#[]⟩)).put3_far ne01.symm (.int .i64 2) (.int .i64 0) (.string t)).put3_far ne02.symm (.int .i64 3) (.int .i64 nb) (.string ⟨#[]⟩)
  obtain ⟨x10, x11, x12, y10, y11, y12⟩ := ((k1).put3_far ne01 (.int .i64 4) (.int .i64 2) (.string ⟨#[]⟩)).three
  have q1 := (((k1).put3_far ne01 (.int .i64 4) (.int .i64 2) (.string ⟨#[]⟩)).put3 (.int .i64 2) (.int .i64 0) (.string t)).put3_far ne12.symm (.int .i64 3) (.int .i64 nb) (.string ⟨#[]⟩)
  obtain ⟨x20, x21, x22, y20, y21, y22⟩ := (((k2).put3_far ne02 (.int .i64 4) (.int .i64 2) (.string ⟨#[]⟩)).put3_far ne12 (.int .i64 2) (.int .i64 0) (.string t)).three
  have q2 := (((k2).put3_far ne02 (.int .i64 4) (.int .i64 2) (.string ⟨#[]⟩)).put3_far ne12 (.int .i64 2) (.int .i64 0) (.string t)).put3 (.int .i64 3) (.int .i64 nb) (.string ⟨#[]⟩)
  replace hv := (((hv).put3_far (c := b3) (by omega) (.int .i64 4) (.int .i64 2) (.string ⟨#[]⟩)).put3_far (c := b4) (by omega) (.int .i64 2) (.int .i64 0) (.string t)).put3_far (c := b5) (by omega) (.int .i64 3) (.int .i64 nb) (.string ⟨#[]⟩)
  replace hb0 := (set3 (set3 (set3 (hb0) (b := b3) (by omega) (.int .i64 4) (.int .i64 2) (.string ⟨#[]⟩)) (b := b4) (by omega) (.int .i64 2) (.int .i64 0) (.string t)) (b := b5) (by omega) (.int .i64 3) (.int .i64 nb) (.string ⟨#[]⟩))
  simp only [put3] at q0 q1 q2 hv
  clear k0 k1 k2
  go_wp2_with fail
  clear x00 x01 x02 y00 y01 y02 x10 x11 x12 y10 y11 y12 x20 x21 x22 y20 y21 y22
  generalize ((((((((w4.setCell ⟨b3, 0, none⟩ (.int .i64 4)).setCell ⟨b3, 1, none⟩ (.int .i64 2)).setCell ⟨b3, 2, none⟩ (.string ⟨#[]⟩)).setCell ⟨b4, 0, none⟩ (.int .i64 2)).setCell ⟨b4, 1, none⟩ (.int .i64 0)).setCell ⟨b4, 2, none⟩ (.string t)).setCell ⟨b5, 0, none⟩ (.int .i64 3)).setCell ⟨b5, 1, none⟩ (.int .i64 nb)).setCell ⟨b5, 2, none⟩ (.string ⟨#[]⟩) = W2 at *
  have HL2 := Lib.hid (HL.out.grown hb0)
  obtain ⟨p0, p1, p2, _⟩ := hv.three
  have C0 := fun d os => cell_regrown p0 d os
  have C1 := fun d os => cell_regrown p1 d os
  have C2 := fun d os => cell_regrown p2 d os
  obtain ⟨r0, r1, r2, _⟩ := q0.three
  have D00 := fun d os => cell_regrown r0 d os
  have D01 := fun d os => cell_regrown r1 d os
  have D02 := fun d os => cell_regrown r2 d os
  clear r0 r1 r2
  obtain ⟨r0, r1, r2, _⟩ := q1.three
  have D10 := fun d os => cell_regrown r0 d os
  have D11 := fun d os => cell_regrown r1 d os
  have D12 := fun d os => cell_regrown r2 d os
  clear r0 r1 r2
  obtain ⟨r0, r1, r2, _⟩ := q2.three
  have D20 := fun d os => cell_regrown r0 d os
  have D21 := fun d os => cell_regrown r1 d os
  have D22 := fun d os => cell_regrown r2 d os
  clear r0 r1 r2
  clear p0 p1 p2
  refine wp_region_mem 32 (fun d => match d with
    | 18 => some (Is (.agg #[.int .i64 4, .int .i64 2, .string ⟨#[]⟩]))
    | 23 => some (Is (.agg #[.int .i64 2, .int .i64 0, .string t]))
    | 29 => some (Is (.agg #[.int .i64 3, .int .i64 nb, .string ⟨#[]⟩]))
    | 34 => some (Is (.string q))
    | 36 => some (Is (.string q))
    | 42 => some (Is (.string z))
    | 45 => some (Is (.string z))
    | _ => none) (by kernel_rfl) (by kernel_rfl) ?_
  simp only [List.take_succ_cons, List.take_zero, List.drop_succ_cons, List.drop_zero]
  repeat (first | ((with_reducible refine wpM_calm ?_ ?_ ?_ ?_); exact rfl; exact rfl; exact rfl; intro K hK; go_big_quiet_op; go_big_quiet_on) | ((with_reducible refine wpM_skip ?_ ?_); exact rfl; simp only [Act.put, List.setIfInBounds_toArray, List.set_cons_succ, List.set_cons_zero]))
  refine wpM_exact rfl rfl rfl Tryz.func23 (by kernel_rfl) (by kernel_rfl) (fun w1 hw1 _ => RN.out w1 (HL2.out.grown hw1)) rfl (by simp only [Act.put, List.setIfInBounds_toArray, List.set_cons_succ, List.set_cons_zero]; rfl) ?_
  repeat (first | ((with_reducible refine wpM_calm ?_ ?_ ?_ ?_); exact rfl; exact rfl; exact rfl; intro K hK; go_big_quiet_op; go_big_quiet_on) | ((with_reducible refine wpM_skip ?_ ?_); exact rfl; simp only [Act.put, List.setIfInBounds_toArray, List.set_cons_succ, List.set_cons_zero]))
  refine wpM_exact rfl rfl rfl Tryz.func24 (by kernel_rfl) (by kernel_rfl) (fun w1 hw1 _ => RT.out w1 (HL2.out.grown hw1)) rfl (by simp only [Act.put, List.setIfInBounds_toArray, List.set_cons_succ, List.set_cons_zero]; rfl) ?_
  repeat (first | ((with_reducible refine wpM_calm ?_ ?_ ?_ ?_); exact rfl; exact rfl; exact rfl; intro K hK; go_big_quiet_op; go_big_quiet_on) | ((with_reducible refine wpM_skip ?_ ?_); exact rfl; simp only [Act.put, List.setIfInBounds_toArray, List.set_cons_succ, List.set_cons_zero]))
  refine wpM_exact rfl rfl rfl Tryz.func25 (by kernel_rfl) (by kernel_rfl) (fun w1 hw1 _ => RB.out w1 (HL2.out.grown hw1)) rfl (by simp only [Act.put, List.setIfInBounds_toArray, List.set_cons_succ, List.set_cons_zero]; rfl) ?_
  repeat (first | ((with_reducible refine wpM_calm ?_ ?_ ?_ ?_); exact rfl; exact rfl; exact rfl; intro K hK; go_big_quiet_op; go_big_quiet_on) | ((with_reducible refine wpM_skip ?_ ?_); exact rfl; simp only [Act.put, List.setIfInBounds_toArray, List.set_cons_succ, List.set_cons_zero]))
  refine wpM_exact rfl rfl rfl Tryz.func26 (by kernel_rfl) (by kernel_rfl) (fun w1 hw1 _ => PS.out w1 (HL2.out.grown hw1)) rfl (by simp only [Act.put, List.setIfInBounds_toArray, List.set_cons_succ, List.set_cons_zero]; rfl) ?_
  repeat (first | ((with_reducible refine wpM_calm ?_ ?_ ?_ ?_); exact rfl; exact rfl; exact rfl; intro K hK; go_big_quiet_op; go_big_quiet_on) | ((with_reducible refine wpM_skip ?_ ?_); exact rfl; simp only [Act.put, List.setIfInBounds_toArray, List.set_cons_succ, List.set_cons_zero]))
  refine wpM_exact rfl rfl rfl Tryz.func27 (by kernel_rfl) (by kernel_rfl) (fun w1 hw1 _ => RS.out w1 (HL2.out.grown hw1)) rfl (by simp only [Act.put, List.setIfInBounds_toArray, List.set_cons_succ, List.set_cons_zero]; rfl) ?_
  repeat (first | ((with_reducible refine wpM_calm ?_ ?_ ?_ ?_); exact rfl; exact rfl; exact rfl; intro K hK; go_big_quiet_op; go_big_quiet_on) | ((with_reducible refine wpM_skip ?_ ?_); exact rfl; simp only [Act.put, List.setIfInBounds_toArray, List.set_cons_succ, List.set_cons_zero]))
  refine wpM_exact rfl rfl rfl Tryz.func28 (by kernel_rfl) (by kernel_rfl) (fun w1 hw1 _ => PQ.out w1 (HL2.out.grown hw1)) rfl (by simp only [Act.put, List.setIfInBounds_toArray, List.set_cons_succ, List.set_cons_zero]; rfl) ?_
  repeat (first | ((with_reducible refine wpM_calm ?_ ?_ ?_ ?_); exact rfl; exact rfl; exact rfl; intro K hK; go_big_quiet_op; go_big_quiet_on) | ((with_reducible refine wpM_skip ?_ ?_); exact rfl; simp only [Act.put, List.setIfInBounds_toArray, List.set_cons_succ, List.set_cons_zero]))
  refine wpM_exact rfl rfl rfl Tryz.func29 (by kernel_rfl) (by kernel_rfl) (fun w1 hw1 _ => RQ.out w1 (HL2.out.grown hw1)) rfl (by simp only [Act.put, List.setIfInBounds_toArray, List.set_cons_succ, List.set_cons_zero]; rfl) ?_
  repeat (first | ((with_reducible refine wpM_calm ?_ ?_ ?_ ?_); exact rfl; exact rfl; exact rfl; intro K hK; go_big_quiet_op; go_big_quiet_on) | ((with_reducible refine wpM_skip ?_ ?_); exact rfl; simp only [Act.put, List.setIfInBounds_toArray, List.set_cons_succ, List.set_cons_zero]))
  refine wpM_nil ?_
  intro w5 hb5 _
  replace hb0 := on hb0 hb5
  replace hv := hv.on hb5
  have HL5 := Lib.hid (HL.out.grown hb0)
  replace q0 := q0.on hb5
  replace q1 := q1.on hb5
  replace q2 := q2.on hb5
  clear hb5 HL2 C0 C1 C2 D00 D01 D02 D10 D11 D12 D20 D21 D22
  obtain ⟨r00, r01, r02, _⟩ := q0.three
  obtain ⟨r10, r11, r12, _⟩ := q1.three
  obtain ⟨r20, r21, r22, _⟩ := q2.three
  obtain ⟨p0, p1, p2, _⟩ := hv.three
  go_wp2_with fail
  have C0 := fun d os => cell_regrown p0 d os
  have D00 := fun d os => cell_regrown r00 d os
  have D01 := fun d os => cell_regrown r01 d os
  have D02 := fun d os => cell_regrown r02 d os
  have C1 := fun d os => cell_regrown p1 d os
  have D10 := fun d os => cell_regrown r10 d os
  have D11 := fun d os => cell_regrown r11 d os
  have D12 := fun d os => cell_regrown r12 d os
  have C2 := fun d os => cell_regrown p2 d os
  have D20 := fun d os => cell_regrown r20 d os
  have D21 := fun d os => cell_regrown r21 d os
  have D22 := fun d os => cell_regrown r22 d os
  clear p0 p1 p2 r00 r01 r02 r10 r11 r12 r20 r21 r22
  refine wp_region_mem 44 (fun d => match d with
    | 117 => some (Is (.bool true))
    | _ => none) (by kernel_rfl) (by kernel_rfl) ?_
  simp only [List.take_succ_cons, List.take_zero, List.drop_succ_cons, List.drop_zero]
  repeat (first | ((with_reducible refine wpM_calm ?_ ?_ ?_ ?_); exact rfl; exact rfl; exact rfl; intro K hK; go_big_quiet_op; go_big_quiet_on) | ((with_reducible refine wpM_skip ?_ ?_); exact rfl; simp only [Act.put, List.setIfInBounds_toArray, List.set_cons_succ, List.set_cons_zero]))
  refine wpM_exact rfl rfl rfl Tryz.func5 (by kernel_rfl) (by kernel_rfl) (fun w1 hw1 _ => HA.out w1 (HL5.out.grown hw1)) rfl (by simp only [Act.put, List.setIfInBounds_toArray, List.set_cons_succ, List.set_cons_zero]; rfl) ?_
  repeat (first | ((with_reducible refine wpM_calm ?_ ?_ ?_ ?_); exact rfl; exact rfl; exact rfl; intro K hK; go_big_quiet_op; go_big_quiet_on) | ((with_reducible refine wpM_skip ?_ ?_); exact rfl; simp only [Act.put, List.setIfInBounds_toArray, List.set_cons_succ, List.set_cons_zero]))
  refine wpM_nil ?_
  intro w6 hb6 _
  go_wp2
  go_ret
  exact ⟨rfl, on hb0 hb6⟩
set_option maxRecDepth 100000 in
set_option maxHeartbeats 8000000 in
theorem turns_t00 (t : ByteArray) (q z : ByteArray)
    (HM : Yields 12 #[.agg #[.int .i64 2, .int .i64 0, .string t]] (.bool true))
    (PN : YieldsL 20 #[.agg #[.int .i64 2, .int .i64 0, .string t]] (.agg #[.int .i64 4, .int .i64 2, .string ⟨#[]⟩]))
    (RN : YieldsL 23 #[.agg #[.int .i64 2, .int .i64 0, .string t]] (.agg #[.int .i64 4, .int .i64 2, .string ⟨#[]⟩]))
    (PT : YieldsL 21 #[.agg #[.int .i64 2, .int .i64 0, .string t]] (.agg #[.int .i64 2, .int .i64 0, .string t]))
    (RT : YieldsL 24 #[.agg #[.int .i64 2, .int .i64 0, .string t]] (.agg #[.int .i64 2, .int .i64 0, .string t]))
    (PB : YieldsL 22 #[.agg #[.int .i64 2, .int .i64 0, .string t]] (.agg #[.int .i64 4, .int .i64 2, .string ⟨#[]⟩]))
    (RB : YieldsL 25 #[.agg #[.int .i64 2, .int .i64 0, .string t]] (.agg #[.int .i64 4, .int .i64 2, .string ⟨#[]⟩]))
    (PS : YieldsL 26 #[.agg #[.int .i64 2, .int .i64 0, .string t]] (.string q))
    (RS : YieldsL 27 #[.agg #[.int .i64 2, .int .i64 0, .string t]] (.string q))
    (PQ : YieldsL 28 #[.string t] (.string z))
    (RQ : YieldsL 29 #[.string t] (.string z)) (w : World) (hL : PLibs w) :
    Calls Tryz.prog 4 #[.agg #[.int .i64 2, .int .i64 0, .string t]] w (LawEnd w) := by
  have HA := Lib.hid (fun w1 hL => alive_c w1 hL)
  have HL := Lib.hid hL
  clear hL
  go_enter Tryz.func4, Tryz.ntmps4
  go_wp2_with fail
  have hv := CellsAt.new w [.int .i64 2, .int .i64 0, .string t] 23
  have hb0 := below1 w (.cells #[.int .i64 2, .int .i64 0, .string t] 23)
  have hsz : (w.alloc (.cells #[.int .i64 2, .int .i64 0, .string t] 23)).heap.size = w.heap.size + 1 := by simp
  refine (HM.out _).mono ?_
  rintro e W ⟨rfl, hb1⟩
  replace hv := hv.on hb1
  replace hb0 := on hb0 hb1
  have hs1 := hb1.size
  rw [hsz] at hs1
  clear hb1 hsz
  obtain ⟨p0, p1, p2, _⟩ := hv.three
  have C0 := fun d os => cell_regrown p0 d os
  have C1 := fun d os => cell_regrown p1 d os
  have C2 := fun d os => cell_regrown p2 d os
  clear p0 p1 p2
  have HL1 := Lib.hid (HL.out.grown hb0)
  go_wp2_with fail
  refine wp_region_new 9 (fun d => match d with
    | 11 => some (Is (.agg #[.int .i64 4, .int .i64 2, .string ⟨#[]⟩]))
    | 13 => some (Is (.agg #[.int .i64 2, .int .i64 0, .string t]))
    | 15 => some (Is (.agg #[.int .i64 4, .int .i64 2, .string ⟨#[]⟩]))
    | 3 => some (NewCells W.heap.size [.int .i64 0, .int .i64 0, .string ⟨#[]⟩])
    | 4 => some (NewCells W.heap.size [.int .i64 0, .int .i64 0, .string ⟨#[]⟩])
    | 5 => some (NewCells W.heap.size [.int .i64 0, .int .i64 0, .string ⟨#[]⟩])
    | _ => none) (fun d => d == 3 || d == 4 || d == 5) (by kernel_rfl) (by kernel_rfl) ?_
  simp only [List.take_succ_cons, List.take_zero, List.drop_succ_cons, List.drop_zero]
  repeat (first | ((with_reducible refine wpM_calm ?_ ?_ ?_ ?_); exact rfl; exact rfl; exact rfl; intro K hK; go_big_quiet_op; go_big_quiet_on) | ((with_reducible refine wpM_skip ?_ ?_); exact rfl; simp only [Act.put, List.setIfInBounds_toArray, List.set_cons_succ, List.set_cons_zero]))
  refine wpM_exact rfl rfl rfl Tryz.func20 (by kernel_rfl) (by kernel_rfl) (fun w1 hw1 _ => PN.out w1 (HL1.out.grown hw1)) rfl (by simp only [Act.put, List.setIfInBounds_toArray, List.set_cons_succ, List.set_cons_zero]; rfl) ?_
  repeat (first | ((with_reducible refine wpM_calm ?_ ?_ ?_ ?_); exact rfl; exact rfl; exact rfl; intro K hK; go_big_quiet_op; go_big_quiet_on) | ((with_reducible refine wpM_skip ?_ ?_); exact rfl; simp only [Act.put, List.setIfInBounds_toArray, List.set_cons_succ, List.set_cons_zero]))
  refine wpM_exact rfl rfl rfl Tryz.func21 (by kernel_rfl) (by kernel_rfl) (fun w1 hw1 _ => PT.out w1 (HL1.out.grown hw1)) rfl (by simp only [Act.put, List.setIfInBounds_toArray, List.set_cons_succ, List.set_cons_zero]; rfl) ?_
  repeat (first | ((with_reducible refine wpM_calm ?_ ?_ ?_ ?_); exact rfl; exact rfl; exact rfl; intro K hK; go_big_quiet_op; go_big_quiet_on) | ((with_reducible refine wpM_skip ?_ ?_); exact rfl; simp only [Act.put, List.setIfInBounds_toArray, List.set_cons_succ, List.set_cons_zero]))
  refine wpM_exact rfl rfl rfl Tryz.func22 (by kernel_rfl) (by kernel_rfl) (fun w1 hw1 _ => PB.out w1 (HL1.out.grown hw1)) rfl (by simp only [Act.put, List.setIfInBounds_toArray, List.set_cons_succ, List.set_cons_zero]; rfl) ?_
  refine wpM_alloc _ (.cells #[.int .i64 0, .int .i64 0, .string ⟨#[]⟩] 23) rfl rfl rfl (fun w1 => by simp [go_sem]) (fun w1 h1 => (NewCells.mk w1 _ _ h1.size).2) ?_ (by rintro v ⟨_, b, rfl, _⟩; exact ⟨b, rfl⟩)
  intro b3 a' ha'
  simp only [Act.put, List.setIfInBounds_toArray, List.set_cons_succ, List.set_cons_zero] at ha'
  subst ha'
  refine wpM_alloc _ (.cells #[.int .i64 0, .int .i64 0, .string ⟨#[]⟩] 23) rfl rfl rfl (fun w1 => by simp [go_sem]) (fun w1 h1 => (NewCells.mk w1 _ _ h1.size).2) ?_ (by rintro v ⟨_, b, rfl, _⟩; exact ⟨b, rfl⟩)
  intro b4 a' ha'
  simp only [Act.put, List.setIfInBounds_toArray, List.set_cons_succ, List.set_cons_zero] at ha'
  subst ha'
  refine wpM_alloc _ (.cells #[.int .i64 0, .int .i64 0, .string ⟨#[]⟩] 23) rfl rfl rfl (fun w1 => by simp [go_sem]) (fun w1 h1 => (NewCells.mk w1 _ _ h1.size).2) ?_ (by rintro v ⟨_, b, rfl, _⟩; exact ⟨b, rfl⟩)
  intro b5 a' ha'
  simp only [Act.put, List.setIfInBounds_toArray, List.set_cons_succ, List.set_cons_zero] at ha'
  subst ha'
  refine wpM_nil ?_
  intro w4 hb4 hG
  have ne01 : b3 ≠ b4 := hG.2.1 6 b3 7 b4 (.inl (.inl (.inr ⟨rfl, rfl⟩))) (.inl (.inr ⟨rfl, rfl⟩)) (by decide)
  have ne02 : b3 ≠ b5 := hG.2.1 6 b3 8 b5 (.inl (.inl (.inr ⟨rfl, rfl⟩))) (.inr ⟨rfl, rfl⟩) (by decide)
  have ne12 : b4 ≠ b5 := hG.2.1 7 b4 8 b5 (.inl (.inr ⟨rfl, rfl⟩)) (.inr ⟨rfl, rfl⟩) (by decide)
  obtain ⟨hB0, k0⟩ := NewCells.at (Fct.put_at (Fct.put_old (Fct.put_old (hG.2.2.1 6))))
  obtain ⟨hB1, k1⟩ := NewCells.at (Fct.put_at (Fct.put_old (hG.2.2.1 7)))
  obtain ⟨hB2, k2⟩ := NewCells.at (Fct.put_at (hG.2.2.1 8))
  clear hG C0 C1 C2
  replace hb0 := on hb0 hb4
  replace hv := hv.on hb4
  obtain ⟨x00, x01, x02, y00, y01, y02⟩ := (k0).three
  have q0 := (((k0).put3 (.int .i64 4) (.int .i64 2) (.string ⟨#[]⟩)).put3_far ne01.symm (.int .i64 2) (.int .i64 0) (.string t)).put3_far ne02.symm (.int .i64 4) (.int .i64 2) (.string ⟨#[]⟩)
  obtain ⟨x10, x11, x12, y10, y11, y12⟩ := ((k1).put3_far ne01 (.int .i64 4) (.int .i64 2) (.string ⟨#[]⟩)).three
  have q1 := (((k1).put3_far ne01 (.int .i64 4) (.int .i64 2) (.string ⟨#[]⟩)).put3 (.int .i64 2) (.int .i64 0) (.string t)).put3_far ne12.symm (.int .i64 4) (.int .i64 2) (.string ⟨#[]⟩)
  obtain ⟨x20, x21, x22, y20, y21, y22⟩ := (((k2).put3_far ne02 (.int .i64 4) (.int .i64 2) (.string ⟨#[]⟩)).put3_far ne12 (.int .i64 2) (.int .i64 0) (.string t)).three
  have q2 := (((k2).put3_far ne02 (.int .i64 4) (.int .i64 2) (.string ⟨#[]⟩)).put3_far ne12 (.int .i64 2) (.int .i64 0) (.string t)).put3 (.int .i64 4) (.int .i64 2) (.string ⟨#[]⟩)
  replace hv := (((hv).put3_far (c := b3) (by omega) (.int .i64 4) (.int .i64 2) (.string ⟨#[]⟩)).put3_far (c := b4) (by omega) (.int .i64 2) (.int .i64 0) (.string t)).put3_far (c := b5) (by omega) (.int .i64 4) (.int .i64 2) (.string ⟨#[]⟩)
  replace hb0 := (set3 (set3 (set3 (hb0) (b := b3) (by omega) (.int .i64 4) (.int .i64 2) (.string ⟨#[]⟩)) (b := b4) (by omega) (.int .i64 2) (.int .i64 0) (.string t)) (b := b5) (by omega) (.int .i64 4) (.int .i64 2) (.string ⟨#[]⟩))
  simp only [put3] at q0 q1 q2 hv
  clear k0 k1 k2
  go_wp2_with fail
  clear x00 x01 x02 y00 y01 y02 x10 x11 x12 y10 y11 y12 x20 x21 x22 y20 y21 y22
  generalize ((((((((w4.setCell ⟨b3, 0, none⟩ (.int .i64 4)).setCell ⟨b3, 1, none⟩ (.int .i64 2)).setCell ⟨b3, 2, none⟩ (.string ⟨#[]⟩)).setCell ⟨b4, 0, none⟩ (.int .i64 2)).setCell ⟨b4, 1, none⟩ (.int .i64 0)).setCell ⟨b4, 2, none⟩ (.string t)).setCell ⟨b5, 0, none⟩ (.int .i64 4)).setCell ⟨b5, 1, none⟩ (.int .i64 2)).setCell ⟨b5, 2, none⟩ (.string ⟨#[]⟩) = W2 at *
  have HL2 := Lib.hid (HL.out.grown hb0)
  obtain ⟨p0, p1, p2, _⟩ := hv.three
  have C0 := fun d os => cell_regrown p0 d os
  have C1 := fun d os => cell_regrown p1 d os
  have C2 := fun d os => cell_regrown p2 d os
  obtain ⟨r0, r1, r2, _⟩ := q0.three
  have D00 := fun d os => cell_regrown r0 d os
  have D01 := fun d os => cell_regrown r1 d os
  have D02 := fun d os => cell_regrown r2 d os
  clear r0 r1 r2
  obtain ⟨r0, r1, r2, _⟩ := q1.three
  have D10 := fun d os => cell_regrown r0 d os
  have D11 := fun d os => cell_regrown r1 d os
  have D12 := fun d os => cell_regrown r2 d os
  clear r0 r1 r2
  obtain ⟨r0, r1, r2, _⟩ := q2.three
  have D20 := fun d os => cell_regrown r0 d os
  have D21 := fun d os => cell_regrown r1 d os
  have D22 := fun d os => cell_regrown r2 d os
  clear r0 r1 r2
  clear p0 p1 p2
  refine wp_region_mem 32 (fun d => match d with
    | 18 => some (Is (.agg #[.int .i64 4, .int .i64 2, .string ⟨#[]⟩]))
    | 23 => some (Is (.agg #[.int .i64 2, .int .i64 0, .string t]))
    | 29 => some (Is (.agg #[.int .i64 4, .int .i64 2, .string ⟨#[]⟩]))
    | 34 => some (Is (.string q))
    | 36 => some (Is (.string q))
    | 42 => some (Is (.string z))
    | 45 => some (Is (.string z))
    | _ => none) (by kernel_rfl) (by kernel_rfl) ?_
  simp only [List.take_succ_cons, List.take_zero, List.drop_succ_cons, List.drop_zero]
  repeat (first | ((with_reducible refine wpM_calm ?_ ?_ ?_ ?_); exact rfl; exact rfl; exact rfl; intro K hK; go_big_quiet_op; go_big_quiet_on) | ((with_reducible refine wpM_skip ?_ ?_); exact rfl; simp only [Act.put, List.setIfInBounds_toArray, List.set_cons_succ, List.set_cons_zero]))
  refine wpM_exact rfl rfl rfl Tryz.func23 (by kernel_rfl) (by kernel_rfl) (fun w1 hw1 _ => RN.out w1 (HL2.out.grown hw1)) rfl (by simp only [Act.put, List.setIfInBounds_toArray, List.set_cons_succ, List.set_cons_zero]; rfl) ?_
  repeat (first | ((with_reducible refine wpM_calm ?_ ?_ ?_ ?_); exact rfl; exact rfl; exact rfl; intro K hK; go_big_quiet_op; go_big_quiet_on) | ((with_reducible refine wpM_skip ?_ ?_); exact rfl; simp only [Act.put, List.setIfInBounds_toArray, List.set_cons_succ, List.set_cons_zero]))
  refine wpM_exact rfl rfl rfl Tryz.func24 (by kernel_rfl) (by kernel_rfl) (fun w1 hw1 _ => RT.out w1 (HL2.out.grown hw1)) rfl (by simp only [Act.put, List.setIfInBounds_toArray, List.set_cons_succ, List.set_cons_zero]; rfl) ?_
  repeat (first | ((with_reducible refine wpM_calm ?_ ?_ ?_ ?_); exact rfl; exact rfl; exact rfl; intro K hK; go_big_quiet_op; go_big_quiet_on) | ((with_reducible refine wpM_skip ?_ ?_); exact rfl; simp only [Act.put, List.setIfInBounds_toArray, List.set_cons_succ, List.set_cons_zero]))
  refine wpM_exact rfl rfl rfl Tryz.func25 (by kernel_rfl) (by kernel_rfl) (fun w1 hw1 _ => RB.out w1 (HL2.out.grown hw1)) rfl (by simp only [Act.put, List.setIfInBounds_toArray, List.set_cons_succ, List.set_cons_zero]; rfl) ?_
  repeat (first | ((with_reducible refine wpM_calm ?_ ?_ ?_ ?_); exact rfl; exact rfl; exact rfl; intro K hK; go_big_quiet_op; go_big_quiet_on) | ((with_reducible refine wpM_skip ?_ ?_); exact rfl; simp only [Act.put, List.setIfInBounds_toArray, List.set_cons_succ, List.set_cons_zero]))
  refine wpM_exact rfl rfl rfl Tryz.func26 (by kernel_rfl) (by kernel_rfl) (fun w1 hw1 _ => PS.out w1 (HL2.out.grown hw1)) rfl (by simp only [Act.put, List.setIfInBounds_toArray, List.set_cons_succ, List.set_cons_zero]; rfl) ?_
  repeat (first | ((with_reducible refine wpM_calm ?_ ?_ ?_ ?_); exact rfl; exact rfl; exact rfl; intro K hK; go_big_quiet_op; go_big_quiet_on) | ((with_reducible refine wpM_skip ?_ ?_); exact rfl; simp only [Act.put, List.setIfInBounds_toArray, List.set_cons_succ, List.set_cons_zero]))
  refine wpM_exact rfl rfl rfl Tryz.func27 (by kernel_rfl) (by kernel_rfl) (fun w1 hw1 _ => RS.out w1 (HL2.out.grown hw1)) rfl (by simp only [Act.put, List.setIfInBounds_toArray, List.set_cons_succ, List.set_cons_zero]; rfl) ?_
  repeat (first | ((with_reducible refine wpM_calm ?_ ?_ ?_ ?_); exact rfl; exact rfl; exact rfl; intro K hK; go_big_quiet_op; go_big_quiet_on) | ((with_reducible refine wpM_skip ?_ ?_); exact rfl; simp only [Act.put, List.setIfInBounds_toArray, List.set_cons_succ, List.set_cons_zero]))
  refine wpM_exact rfl rfl rfl Tryz.func28 (by kernel_rfl) (by kernel_rfl) (fun w1 hw1 _ => PQ.out w1 (HL2.out.grown hw1)) rfl (by simp only [Act.put, List.setIfInBounds_toArray, List.set_cons_succ, List.set_cons_zero]; rfl) ?_
  repeat (first | ((with_reducible refine wpM_calm ?_ ?_ ?_ ?_); exact rfl; exact rfl; exact rfl; intro K hK; go_big_quiet_op; go_big_quiet_on) | ((with_reducible refine wpM_skip ?_ ?_); exact rfl; simp only [Act.put, List.setIfInBounds_toArray, List.set_cons_succ, List.set_cons_zero]))
  refine wpM_exact rfl rfl rfl Tryz.func29 (by kernel_rfl) (by kernel_rfl) (fun w1 hw1 _ => RQ.out w1 (HL2.out.grown hw1)) rfl (by simp only [Act.put, List.setIfInBounds_toArray, List.set_cons_succ, List.set_cons_zero]; rfl) ?_
  repeat (first | ((with_reducible refine wpM_calm ?_ ?_ ?_ ?_); exact rfl; exact rfl; exact rfl; intro K hK; go_big_quiet_op; go_big_quiet_on) | ((with_reducible refine wpM_skip ?_ ?_); exact rfl; simp only [Act.put, List.setIfInBounds_toArray, List.set_cons_succ, List.set_cons_zero]))
  refine wpM_nil ?_
  intro w5 hb5 _
  replace hb0 := on hb0 hb5
  replace hv := hv.on hb5
  have HL5 := Lib.hid (HL.out.grown hb0)
  replace q0 := q0.on hb5
  replace q1 := q1.on hb5
  replace q2 := q2.on hb5
  clear hb5 HL2 C0 C1 C2 D00 D01 D02 D10 D11 D12 D20 D21 D22
  obtain ⟨r00, r01, r02, _⟩ := q0.three
  obtain ⟨r10, r11, r12, _⟩ := q1.three
  obtain ⟨r20, r21, r22, _⟩ := q2.three
  obtain ⟨p0, p1, p2, _⟩ := hv.three
  go_wp2_with fail
  have C0 := fun d os => cell_regrown p0 d os
  have D00 := fun d os => cell_regrown r00 d os
  have D01 := fun d os => cell_regrown r01 d os
  have D02 := fun d os => cell_regrown r02 d os
  have C1 := fun d os => cell_regrown p1 d os
  have D10 := fun d os => cell_regrown r10 d os
  have D11 := fun d os => cell_regrown r11 d os
  have D12 := fun d os => cell_regrown r12 d os
  have C2 := fun d os => cell_regrown p2 d os
  have D20 := fun d os => cell_regrown r20 d os
  have D21 := fun d os => cell_regrown r21 d os
  have D22 := fun d os => cell_regrown r22 d os
  clear p0 p1 p2 r00 r01 r02 r10 r11 r12 r20 r21 r22
  refine wp_region_mem 44 (fun d => match d with
    | 117 => some (Is (.bool true))
    | _ => none) (by kernel_rfl) (by kernel_rfl) ?_
  simp only [List.take_succ_cons, List.take_zero, List.drop_succ_cons, List.drop_zero]
  repeat (first | ((with_reducible refine wpM_calm ?_ ?_ ?_ ?_); exact rfl; exact rfl; exact rfl; intro K hK; go_big_quiet_op; go_big_quiet_on) | ((with_reducible refine wpM_skip ?_ ?_); exact rfl; simp only [Act.put, List.setIfInBounds_toArray, List.set_cons_succ, List.set_cons_zero]))
  refine wpM_exact rfl rfl rfl Tryz.func5 (by kernel_rfl) (by kernel_rfl) (fun w1 hw1 _ => HA.out w1 (HL5.out.grown hw1)) rfl (by simp only [Act.put, List.setIfInBounds_toArray, List.set_cons_succ, List.set_cons_zero]; rfl) ?_
  repeat (first | ((with_reducible refine wpM_calm ?_ ?_ ?_ ?_); exact rfl; exact rfl; exact rfl; intro K hK; go_big_quiet_op; go_big_quiet_on) | ((with_reducible refine wpM_skip ?_ ?_); exact rfl; simp only [Act.put, List.setIfInBounds_toArray, List.set_cons_succ, List.set_cons_zero]))
  refine wpM_nil ?_
  intro w6 hb6 _
  go_wp2
  go_ret
  exact ⟨rfl, on hb0 hb6⟩
set_option maxRecDepth 100000 in
set_option maxHeartbeats 8000000 in
theorem turns_b (n nn : Int) (s : ByteArray) (q z : ByteArray)
    (HM : Yields 12 #[.agg #[.int .i64 3, .int .i64 n, .string ⟨#[]⟩]] (.bool true))
    (PN : YieldsL 20 #[.agg #[.int .i64 3, .int .i64 n, .string ⟨#[]⟩]] (.agg #[.int .i64 1, .int .i64 nn, .string ⟨#[]⟩]))
    (RN : YieldsL 23 #[.agg #[.int .i64 3, .int .i64 n, .string ⟨#[]⟩]] (.agg #[.int .i64 1, .int .i64 nn, .string ⟨#[]⟩]))
    (PT : YieldsL 21 #[.agg #[.int .i64 3, .int .i64 n, .string ⟨#[]⟩]] (.agg #[.int .i64 2, .int .i64 0, .string s]))
    (RT : YieldsL 24 #[.agg #[.int .i64 3, .int .i64 n, .string ⟨#[]⟩]] (.agg #[.int .i64 2, .int .i64 0, .string s]))
    (PB : YieldsL 22 #[.agg #[.int .i64 3, .int .i64 n, .string ⟨#[]⟩]] (.agg #[.int .i64 3, .int .i64 n, .string ⟨#[]⟩]))
    (RB : YieldsL 25 #[.agg #[.int .i64 3, .int .i64 n, .string ⟨#[]⟩]] (.agg #[.int .i64 3, .int .i64 n, .string ⟨#[]⟩]))
    (PS : YieldsL 26 #[.agg #[.int .i64 3, .int .i64 n, .string ⟨#[]⟩]] (.string q))
    (RS : YieldsL 27 #[.agg #[.int .i64 3, .int .i64 n, .string ⟨#[]⟩]] (.string q))
    (PQ : YieldsL 28 #[.string ⟨#[]⟩] (.string z))
    (RQ : YieldsL 29 #[.string ⟨#[]⟩] (.string z))
    (PX : YieldsL 22 #[.agg #[.int .i64 2, .int .i64 0, .string s]] (.agg #[.int .i64 3, .int .i64 n, .string ⟨#[]⟩])) (w : World) (hL : PLibs w) :
    Calls Tryz.prog 4 #[.agg #[.int .i64 3, .int .i64 n, .string ⟨#[]⟩]] w (LawEnd w) := by
  have HA := Lib.hid (fun w1 hL => alive_c w1 hL)
  have HL := Lib.hid hL
  clear hL
  go_enter Tryz.func4, Tryz.ntmps4
  go_wp2_with fail
  have hv := CellsAt.new w [.int .i64 3, .int .i64 n, .string ⟨#[]⟩] 23
  have hb0 := below1 w (.cells #[.int .i64 3, .int .i64 n, .string ⟨#[]⟩] 23)
  have hsz : (w.alloc (.cells #[.int .i64 3, .int .i64 n, .string ⟨#[]⟩] 23)).heap.size = w.heap.size + 1 := by simp
  refine (HM.out _).mono ?_
  rintro e W ⟨rfl, hb1⟩
  replace hv := hv.on hb1
  replace hb0 := on hb0 hb1
  have hs1 := hb1.size
  rw [hsz] at hs1
  clear hb1 hsz
  obtain ⟨p0, p1, p2, _⟩ := hv.three
  have C0 := fun d os => cell_regrown p0 d os
  have C1 := fun d os => cell_regrown p1 d os
  have C2 := fun d os => cell_regrown p2 d os
  clear p0 p1 p2
  have HL1 := Lib.hid (HL.out.grown hb0)
  go_wp2_with fail
  refine wp_region_new 9 (fun d => match d with
    | 11 => some (Is (.agg #[.int .i64 1, .int .i64 nn, .string ⟨#[]⟩]))
    | 13 => some (Is (.agg #[.int .i64 2, .int .i64 0, .string s]))
    | 15 => some (Is (.agg #[.int .i64 3, .int .i64 n, .string ⟨#[]⟩]))
    | 3 => some (NewCells W.heap.size [.int .i64 0, .int .i64 0, .string ⟨#[]⟩])
    | 4 => some (NewCells W.heap.size [.int .i64 0, .int .i64 0, .string ⟨#[]⟩])
    | 5 => some (NewCells W.heap.size [.int .i64 0, .int .i64 0, .string ⟨#[]⟩])
    | _ => none) (fun d => d == 3 || d == 4 || d == 5) (by kernel_rfl) (by kernel_rfl) ?_
  simp only [List.take_succ_cons, List.take_zero, List.drop_succ_cons, List.drop_zero]
  repeat (first | ((with_reducible refine wpM_calm ?_ ?_ ?_ ?_); exact rfl; exact rfl; exact rfl; intro K hK; go_big_quiet_op; go_big_quiet_on) | ((with_reducible refine wpM_skip ?_ ?_); exact rfl; simp only [Act.put, List.setIfInBounds_toArray, List.set_cons_succ, List.set_cons_zero]))
  refine wpM_exact rfl rfl rfl Tryz.func20 (by kernel_rfl) (by kernel_rfl) (fun w1 hw1 _ => PN.out w1 (HL1.out.grown hw1)) rfl (by simp only [Act.put, List.setIfInBounds_toArray, List.set_cons_succ, List.set_cons_zero]; rfl) ?_
  repeat (first | ((with_reducible refine wpM_calm ?_ ?_ ?_ ?_); exact rfl; exact rfl; exact rfl; intro K hK; go_big_quiet_op; go_big_quiet_on) | ((with_reducible refine wpM_skip ?_ ?_); exact rfl; simp only [Act.put, List.setIfInBounds_toArray, List.set_cons_succ, List.set_cons_zero]))
  refine wpM_exact rfl rfl rfl Tryz.func21 (by kernel_rfl) (by kernel_rfl) (fun w1 hw1 _ => PT.out w1 (HL1.out.grown hw1)) rfl (by simp only [Act.put, List.setIfInBounds_toArray, List.set_cons_succ, List.set_cons_zero]; rfl) ?_
  repeat (first | ((with_reducible refine wpM_calm ?_ ?_ ?_ ?_); exact rfl; exact rfl; exact rfl; intro K hK; go_big_quiet_op; go_big_quiet_on) | ((with_reducible refine wpM_skip ?_ ?_); exact rfl; simp only [Act.put, List.setIfInBounds_toArray, List.set_cons_succ, List.set_cons_zero]))
  refine wpM_exact rfl rfl rfl Tryz.func22 (by kernel_rfl) (by kernel_rfl) (fun w1 hw1 _ => PB.out w1 (HL1.out.grown hw1)) rfl (by simp only [Act.put, List.setIfInBounds_toArray, List.set_cons_succ, List.set_cons_zero]; rfl) ?_
  refine wpM_alloc _ (.cells #[.int .i64 0, .int .i64 0, .string ⟨#[]⟩] 23) rfl rfl rfl (fun w1 => by simp [go_sem]) (fun w1 h1 => (NewCells.mk w1 _ _ h1.size).2) ?_ (by rintro v ⟨_, b, rfl, _⟩; exact ⟨b, rfl⟩)
  intro b3 a' ha'
  simp only [Act.put, List.setIfInBounds_toArray, List.set_cons_succ, List.set_cons_zero] at ha'
  subst ha'
  refine wpM_alloc _ (.cells #[.int .i64 0, .int .i64 0, .string ⟨#[]⟩] 23) rfl rfl rfl (fun w1 => by simp [go_sem]) (fun w1 h1 => (NewCells.mk w1 _ _ h1.size).2) ?_ (by rintro v ⟨_, b, rfl, _⟩; exact ⟨b, rfl⟩)
  intro b4 a' ha'
  simp only [Act.put, List.setIfInBounds_toArray, List.set_cons_succ, List.set_cons_zero] at ha'
  subst ha'
  refine wpM_alloc _ (.cells #[.int .i64 0, .int .i64 0, .string ⟨#[]⟩] 23) rfl rfl rfl (fun w1 => by simp [go_sem]) (fun w1 h1 => (NewCells.mk w1 _ _ h1.size).2) ?_ (by rintro v ⟨_, b, rfl, _⟩; exact ⟨b, rfl⟩)
  intro b5 a' ha'
  simp only [Act.put, List.setIfInBounds_toArray, List.set_cons_succ, List.set_cons_zero] at ha'
  subst ha'
  refine wpM_nil ?_
  intro w4 hb4 hG
  have ne01 : b3 ≠ b4 := hG.2.1 6 b3 7 b4 (.inl (.inl (.inr ⟨rfl, rfl⟩))) (.inl (.inr ⟨rfl, rfl⟩)) (by decide)
  have ne02 : b3 ≠ b5 := hG.2.1 6 b3 8 b5 (.inl (.inl (.inr ⟨rfl, rfl⟩))) (.inr ⟨rfl, rfl⟩) (by decide)
  have ne12 : b4 ≠ b5 := hG.2.1 7 b4 8 b5 (.inl (.inr ⟨rfl, rfl⟩)) (.inr ⟨rfl, rfl⟩) (by decide)
  obtain ⟨hB0, k0⟩ := NewCells.at (Fct.put_at (Fct.put_old (Fct.put_old (hG.2.2.1 6))))
  obtain ⟨hB1, k1⟩ := NewCells.at (Fct.put_at (Fct.put_old (hG.2.2.1 7)))
  obtain ⟨hB2, k2⟩ := NewCells.at (Fct.put_at (hG.2.2.1 8))
  clear hG C0 C1 C2
  replace hb0 := on hb0 hb4
  replace hv := hv.on hb4
  obtain ⟨x00, x01, x02, y00, y01, y02⟩ := (k0).three
  have q0 := (((k0).put3 (.int .i64 1) (.int .i64 nn) (.string ⟨#[]⟩)).put3_far ne01.symm (.int .i64 2) (.int .i64 0) (.string s)).put3_far ne02.symm (.int .i64 3) (.int .i64 n) (.string ⟨#[]⟩)
  obtain ⟨x10, x11, x12, y10, y11, y12⟩ := ((k1).put3_far ne01 (.int .i64 1) (.int .i64 nn) (.string ⟨#[]⟩)).three
  have q1 := (((k1).put3_far ne01 (.int .i64 1) (.int .i64 nn) (.string ⟨#[]⟩)).put3 (.int .i64 2) (.int .i64 0) (.string s)).put3_far ne12.symm (.int .i64 3) (.int .i64 n) (.string ⟨#[]⟩)
  obtain ⟨x20, x21, x22, y20, y21, y22⟩ := (((k2).put3_far ne02 (.int .i64 1) (.int .i64 nn) (.string ⟨#[]⟩)).put3_far ne12 (.int .i64 2) (.int .i64 0) (.string s)).three
  have q2 := (((k2).put3_far ne02 (.int .i64 1) (.int .i64 nn) (.string ⟨#[]⟩)).put3_far ne12 (.int .i64 2) (.int .i64 0) (.string s)).put3 (.int .i64 3) (.int .i64 n) (.string ⟨#[]⟩)
  replace hv := (((hv).put3_far (c := b3) (by omega) (.int .i64 1) (.int .i64 nn) (.string ⟨#[]⟩)).put3_far (c := b4) (by omega) (.int .i64 2) (.int .i64 0) (.string s)).put3_far (c := b5) (by omega) (.int .i64 3) (.int .i64 n) (.string ⟨#[]⟩)
  replace hb0 := (set3 (set3 (set3 (hb0) (b := b3) (by omega) (.int .i64 1) (.int .i64 nn) (.string ⟨#[]⟩)) (b := b4) (by omega) (.int .i64 2) (.int .i64 0) (.string s)) (b := b5) (by omega) (.int .i64 3) (.int .i64 n) (.string ⟨#[]⟩))
  simp only [put3] at q0 q1 q2 hv
  clear k0 k1 k2
  go_wp2_with fail
  clear x00 x01 x02 y00 y01 y02 x10 x11 x12 y10 y11 y12 x20 x21 x22 y20 y21 y22
  generalize ((((((((w4.setCell ⟨b3, 0, none⟩ (.int .i64 1)).setCell ⟨b3, 1, none⟩ (.int .i64 nn)).setCell ⟨b3, 2, none⟩ (.string ⟨#[]⟩)).setCell ⟨b4, 0, none⟩ (.int .i64 2)).setCell ⟨b4, 1, none⟩ (.int .i64 0)).setCell ⟨b4, 2, none⟩ (.string s)).setCell ⟨b5, 0, none⟩ (.int .i64 3)).setCell ⟨b5, 1, none⟩ (.int .i64 n)).setCell ⟨b5, 2, none⟩ (.string ⟨#[]⟩) = W2 at *
  have HL2 := Lib.hid (HL.out.grown hb0)
  obtain ⟨p0, p1, p2, _⟩ := hv.three
  have C0 := fun d os => cell_regrown p0 d os
  have C1 := fun d os => cell_regrown p1 d os
  have C2 := fun d os => cell_regrown p2 d os
  obtain ⟨r0, r1, r2, _⟩ := q0.three
  have D00 := fun d os => cell_regrown r0 d os
  have D01 := fun d os => cell_regrown r1 d os
  have D02 := fun d os => cell_regrown r2 d os
  clear r0 r1 r2
  obtain ⟨r0, r1, r2, _⟩ := q1.three
  have D10 := fun d os => cell_regrown r0 d os
  have D11 := fun d os => cell_regrown r1 d os
  have D12 := fun d os => cell_regrown r2 d os
  clear r0 r1 r2
  obtain ⟨r0, r1, r2, _⟩ := q2.three
  have D20 := fun d os => cell_regrown r0 d os
  have D21 := fun d os => cell_regrown r1 d os
  have D22 := fun d os => cell_regrown r2 d os
  clear r0 r1 r2
  clear p0 p1 p2
  refine wp_region_mem 32 (fun d => match d with
    | 18 => some (Is (.agg #[.int .i64 1, .int .i64 nn, .string ⟨#[]⟩]))
    | 23 => some (Is (.agg #[.int .i64 2, .int .i64 0, .string s]))
    | 29 => some (Is (.agg #[.int .i64 3, .int .i64 n, .string ⟨#[]⟩]))
    | 34 => some (Is (.string q))
    | 36 => some (Is (.string q))
    | 42 => some (Is (.string z))
    | 45 => some (Is (.string z))
    | _ => none) (by kernel_rfl) (by kernel_rfl) ?_
  simp only [List.take_succ_cons, List.take_zero, List.drop_succ_cons, List.drop_zero]
  repeat (first | ((with_reducible refine wpM_calm ?_ ?_ ?_ ?_); exact rfl; exact rfl; exact rfl; intro K hK; go_big_quiet_op; go_big_quiet_on) | ((with_reducible refine wpM_skip ?_ ?_); exact rfl; simp only [Act.put, List.setIfInBounds_toArray, List.set_cons_succ, List.set_cons_zero]))
  refine wpM_exact rfl rfl rfl Tryz.func23 (by kernel_rfl) (by kernel_rfl) (fun w1 hw1 _ => RN.out w1 (HL2.out.grown hw1)) rfl (by simp only [Act.put, List.setIfInBounds_toArray, List.set_cons_succ, List.set_cons_zero]; rfl) ?_
  repeat (first | ((with_reducible refine wpM_calm ?_ ?_ ?_ ?_); exact rfl; exact rfl; exact rfl; intro K hK; go_big_quiet_op; go_big_quiet_on) | ((with_reducible refine wpM_skip ?_ ?_); exact rfl; simp only [Act.put, List.setIfInBounds_toArray, List.set_cons_succ, List.set_cons_zero]))
  refine wpM_exact rfl rfl rfl Tryz.func24 (by kernel_rfl) (by kernel_rfl) (fun w1 hw1 _ => RT.out w1 (HL2.out.grown hw1)) rfl (by simp only [Act.put, List.setIfInBounds_toArray, List.set_cons_succ, List.set_cons_zero]; rfl) ?_
  repeat (first | ((with_reducible refine wpM_calm ?_ ?_ ?_ ?_); exact rfl; exact rfl; exact rfl; intro K hK; go_big_quiet_op; go_big_quiet_on) | ((with_reducible refine wpM_skip ?_ ?_); exact rfl; simp only [Act.put, List.setIfInBounds_toArray, List.set_cons_succ, List.set_cons_zero]))
  refine wpM_exact rfl rfl rfl Tryz.func25 (by kernel_rfl) (by kernel_rfl) (fun w1 hw1 _ => RB.out w1 (HL2.out.grown hw1)) rfl (by simp only [Act.put, List.setIfInBounds_toArray, List.set_cons_succ, List.set_cons_zero]; rfl) ?_
  repeat (first | ((with_reducible refine wpM_calm ?_ ?_ ?_ ?_); exact rfl; exact rfl; exact rfl; intro K hK; go_big_quiet_op; go_big_quiet_on) | ((with_reducible refine wpM_skip ?_ ?_); exact rfl; simp only [Act.put, List.setIfInBounds_toArray, List.set_cons_succ, List.set_cons_zero]))
  refine wpM_exact rfl rfl rfl Tryz.func26 (by kernel_rfl) (by kernel_rfl) (fun w1 hw1 _ => PS.out w1 (HL2.out.grown hw1)) rfl (by simp only [Act.put, List.setIfInBounds_toArray, List.set_cons_succ, List.set_cons_zero]; rfl) ?_
  repeat (first | ((with_reducible refine wpM_calm ?_ ?_ ?_ ?_); exact rfl; exact rfl; exact rfl; intro K hK; go_big_quiet_op; go_big_quiet_on) | ((with_reducible refine wpM_skip ?_ ?_); exact rfl; simp only [Act.put, List.setIfInBounds_toArray, List.set_cons_succ, List.set_cons_zero]))
  refine wpM_exact rfl rfl rfl Tryz.func27 (by kernel_rfl) (by kernel_rfl) (fun w1 hw1 _ => RS.out w1 (HL2.out.grown hw1)) rfl (by simp only [Act.put, List.setIfInBounds_toArray, List.set_cons_succ, List.set_cons_zero]; rfl) ?_
  repeat (first | ((with_reducible refine wpM_calm ?_ ?_ ?_ ?_); exact rfl; exact rfl; exact rfl; intro K hK; go_big_quiet_op; go_big_quiet_on) | ((with_reducible refine wpM_skip ?_ ?_); exact rfl; simp only [Act.put, List.setIfInBounds_toArray, List.set_cons_succ, List.set_cons_zero]))
  refine wpM_exact rfl rfl rfl Tryz.func28 (by kernel_rfl) (by kernel_rfl) (fun w1 hw1 _ => PQ.out w1 (HL2.out.grown hw1)) rfl (by simp only [Act.put, List.setIfInBounds_toArray, List.set_cons_succ, List.set_cons_zero]; rfl) ?_
  repeat (first | ((with_reducible refine wpM_calm ?_ ?_ ?_ ?_); exact rfl; exact rfl; exact rfl; intro K hK; go_big_quiet_op; go_big_quiet_on) | ((with_reducible refine wpM_skip ?_ ?_); exact rfl; simp only [Act.put, List.setIfInBounds_toArray, List.set_cons_succ, List.set_cons_zero]))
  refine wpM_exact rfl rfl rfl Tryz.func29 (by kernel_rfl) (by kernel_rfl) (fun w1 hw1 _ => RQ.out w1 (HL2.out.grown hw1)) rfl (by simp only [Act.put, List.setIfInBounds_toArray, List.set_cons_succ, List.set_cons_zero]; rfl) ?_
  repeat (first | ((with_reducible refine wpM_calm ?_ ?_ ?_ ?_); exact rfl; exact rfl; exact rfl; intro K hK; go_big_quiet_op; go_big_quiet_on) | ((with_reducible refine wpM_skip ?_ ?_); exact rfl; simp only [Act.put, List.setIfInBounds_toArray, List.set_cons_succ, List.set_cons_zero]))
  refine wpM_nil ?_
  intro w5 hb5 _
  replace hb0 := on hb0 hb5
  replace hv := hv.on hb5
  have HL5 := Lib.hid (HL.out.grown hb0)
  replace q0 := q0.on hb5
  replace q1 := q1.on hb5
  replace q2 := q2.on hb5
  clear hb5 HL2 C0 C1 C2 D00 D01 D02 D10 D11 D12 D20 D21 D22
  obtain ⟨r00, r01, r02, _⟩ := q0.three
  obtain ⟨r10, r11, r12, _⟩ := q1.three
  obtain ⟨r20, r21, r22, _⟩ := q2.three
  obtain ⟨p0, p1, p2, _⟩ := hv.three
  go_wp2_with fail
  have C0 := fun d os => cell_regrown p0 d os
  have D00 := fun d os => cell_regrown r00 d os
  have D01 := fun d os => cell_regrown r01 d os
  have D02 := fun d os => cell_regrown r02 d os
  have C1 := fun d os => cell_regrown p1 d os
  have D10 := fun d os => cell_regrown r10 d os
  have D11 := fun d os => cell_regrown r11 d os
  have D12 := fun d os => cell_regrown r12 d os
  have C2 := fun d os => cell_regrown p2 d os
  have D20 := fun d os => cell_regrown r20 d os
  have D21 := fun d os => cell_regrown r21 d os
  have D22 := fun d os => cell_regrown r22 d os
  clear p0 p1 p2 r00 r01 r02 r10 r11 r12 r20 r21 r22
  refine wp_region_mem 44 (fun d => match d with
    | 111 => some (Is (.agg #[.int .i64 3, .int .i64 n, .string ⟨#[]⟩]))
    | 117 => some (Is (.bool true))
    | _ => none) (by kernel_rfl) (by kernel_rfl) ?_
  simp only [List.take_succ_cons, List.take_zero, List.drop_succ_cons, List.drop_zero]
  repeat (first | ((with_reducible refine wpM_calm ?_ ?_ ?_ ?_); exact rfl; exact rfl; exact rfl; intro K hK; go_big_quiet_op; go_big_quiet_on) | ((with_reducible refine wpM_skip ?_ ?_); exact rfl; simp only [Act.put, List.setIfInBounds_toArray, List.set_cons_succ, List.set_cons_zero]))
  refine wpM_exact rfl rfl rfl Tryz.func22 (by kernel_rfl) (by kernel_rfl) (fun w1 hw1 _ => PX.out w1 (HL5.out.grown hw1)) rfl (by simp only [Act.put, List.setIfInBounds_toArray, List.set_cons_succ, List.set_cons_zero]; rfl) ?_
  repeat (first | ((with_reducible refine wpM_calm ?_ ?_ ?_ ?_); exact rfl; exact rfl; exact rfl; intro K hK; go_big_quiet_op; go_big_quiet_on) | ((with_reducible refine wpM_skip ?_ ?_); exact rfl; simp only [Act.put, List.setIfInBounds_toArray, List.set_cons_succ, List.set_cons_zero]))
  refine wpM_exact rfl rfl rfl Tryz.func5 (by kernel_rfl) (by kernel_rfl) (fun w1 hw1 _ => HA.out w1 (HL5.out.grown hw1)) rfl (by simp only [Act.put, List.setIfInBounds_toArray, List.set_cons_succ, List.set_cons_zero]; rfl) ?_
  repeat (first | ((with_reducible refine wpM_calm ?_ ?_ ?_ ?_); exact rfl; exact rfl; exact rfl; intro K hK; go_big_quiet_op; go_big_quiet_on) | ((with_reducible refine wpM_skip ?_ ?_); exact rfl; simp only [Act.put, List.setIfInBounds_toArray, List.set_cons_succ, List.set_cons_zero]))
  refine wpM_nil ?_
  intro w6 hb6 _
  go_wp2
  go_ret
  exact ⟨rfl, on hb0 hb6⟩
set_option maxRecDepth 100000 in
set_option maxHeartbeats 8000000 in
theorem turns_f (c : Int) (q z : ByteArray)
    (HM : Yields 12 #[.agg #[.int .i64 4, .int .i64 c, .string ⟨#[]⟩]] (.bool true))
    (PN : YieldsL 20 #[.agg #[.int .i64 4, .int .i64 c, .string ⟨#[]⟩]] (.agg #[.int .i64 4, .int .i64 c, .string ⟨#[]⟩]))
    (RN : YieldsL 23 #[.agg #[.int .i64 4, .int .i64 c, .string ⟨#[]⟩]] (.agg #[.int .i64 4, .int .i64 c, .string ⟨#[]⟩]))
    (PT : YieldsL 21 #[.agg #[.int .i64 4, .int .i64 c, .string ⟨#[]⟩]] (.agg #[.int .i64 4, .int .i64 c, .string ⟨#[]⟩]))
    (RT : YieldsL 24 #[.agg #[.int .i64 4, .int .i64 c, .string ⟨#[]⟩]] (.agg #[.int .i64 4, .int .i64 c, .string ⟨#[]⟩]))
    (PB : YieldsL 22 #[.agg #[.int .i64 4, .int .i64 c, .string ⟨#[]⟩]] (.agg #[.int .i64 4, .int .i64 c, .string ⟨#[]⟩]))
    (RB : YieldsL 25 #[.agg #[.int .i64 4, .int .i64 c, .string ⟨#[]⟩]] (.agg #[.int .i64 4, .int .i64 c, .string ⟨#[]⟩]))
    (PS : YieldsL 26 #[.agg #[.int .i64 4, .int .i64 c, .string ⟨#[]⟩]] (.string q))
    (RS : YieldsL 27 #[.agg #[.int .i64 4, .int .i64 c, .string ⟨#[]⟩]] (.string q))
    (PQ : YieldsL 28 #[.string ⟨#[]⟩] (.string z))
    (RQ : YieldsL 29 #[.string ⟨#[]⟩] (.string z)) (w : World) (hL : PLibs w) :
    Calls Tryz.prog 4 #[.agg #[.int .i64 4, .int .i64 c, .string ⟨#[]⟩]] w (LawEnd w) := by
  have HA := Lib.hid (fun w1 hL => alive_c w1 hL)
  have HL := Lib.hid hL
  clear hL
  go_enter Tryz.func4, Tryz.ntmps4
  go_wp2_with fail
  have hv := CellsAt.new w [.int .i64 4, .int .i64 c, .string ⟨#[]⟩] 23
  have hb0 := below1 w (.cells #[.int .i64 4, .int .i64 c, .string ⟨#[]⟩] 23)
  have hsz : (w.alloc (.cells #[.int .i64 4, .int .i64 c, .string ⟨#[]⟩] 23)).heap.size = w.heap.size + 1 := by simp
  refine (HM.out _).mono ?_
  rintro e W ⟨rfl, hb1⟩
  replace hv := hv.on hb1
  replace hb0 := on hb0 hb1
  have hs1 := hb1.size
  rw [hsz] at hs1
  clear hb1 hsz
  obtain ⟨p0, p1, p2, _⟩ := hv.three
  have C0 := fun d os => cell_regrown p0 d os
  have C1 := fun d os => cell_regrown p1 d os
  have C2 := fun d os => cell_regrown p2 d os
  clear p0 p1 p2
  have HL1 := Lib.hid (HL.out.grown hb0)
  go_wp2_with fail
  refine wp_region_new 9 (fun d => match d with
    | 11 => some (Is (.agg #[.int .i64 4, .int .i64 c, .string ⟨#[]⟩]))
    | 13 => some (Is (.agg #[.int .i64 4, .int .i64 c, .string ⟨#[]⟩]))
    | 15 => some (Is (.agg #[.int .i64 4, .int .i64 c, .string ⟨#[]⟩]))
    | 3 => some (NewCells W.heap.size [.int .i64 0, .int .i64 0, .string ⟨#[]⟩])
    | 4 => some (NewCells W.heap.size [.int .i64 0, .int .i64 0, .string ⟨#[]⟩])
    | 5 => some (NewCells W.heap.size [.int .i64 0, .int .i64 0, .string ⟨#[]⟩])
    | _ => none) (fun d => d == 3 || d == 4 || d == 5) (by kernel_rfl) (by kernel_rfl) ?_
  simp only [List.take_succ_cons, List.take_zero, List.drop_succ_cons, List.drop_zero]
  repeat (first | ((with_reducible refine wpM_calm ?_ ?_ ?_ ?_); exact rfl; exact rfl; exact rfl; intro K hK; go_big_quiet_op; go_big_quiet_on) | ((with_reducible refine wpM_skip ?_ ?_); exact rfl; simp only [Act.put, List.setIfInBounds_toArray, List.set_cons_succ, List.set_cons_zero]))
  refine wpM_exact rfl rfl rfl Tryz.func20 (by kernel_rfl) (by kernel_rfl) (fun w1 hw1 _ => PN.out w1 (HL1.out.grown hw1)) rfl (by simp only [Act.put, List.setIfInBounds_toArray, List.set_cons_succ, List.set_cons_zero]; rfl) ?_
  repeat (first | ((with_reducible refine wpM_calm ?_ ?_ ?_ ?_); exact rfl; exact rfl; exact rfl; intro K hK; go_big_quiet_op; go_big_quiet_on) | ((with_reducible refine wpM_skip ?_ ?_); exact rfl; simp only [Act.put, List.setIfInBounds_toArray, List.set_cons_succ, List.set_cons_zero]))
  refine wpM_exact rfl rfl rfl Tryz.func21 (by kernel_rfl) (by kernel_rfl) (fun w1 hw1 _ => PT.out w1 (HL1.out.grown hw1)) rfl (by simp only [Act.put, List.setIfInBounds_toArray, List.set_cons_succ, List.set_cons_zero]; rfl) ?_
  repeat (first | ((with_reducible refine wpM_calm ?_ ?_ ?_ ?_); exact rfl; exact rfl; exact rfl; intro K hK; go_big_quiet_op; go_big_quiet_on) | ((with_reducible refine wpM_skip ?_ ?_); exact rfl; simp only [Act.put, List.setIfInBounds_toArray, List.set_cons_succ, List.set_cons_zero]))
  refine wpM_exact rfl rfl rfl Tryz.func22 (by kernel_rfl) (by kernel_rfl) (fun w1 hw1 _ => PB.out w1 (HL1.out.grown hw1)) rfl (by simp only [Act.put, List.setIfInBounds_toArray, List.set_cons_succ, List.set_cons_zero]; rfl) ?_
  refine wpM_alloc _ (.cells #[.int .i64 0, .int .i64 0, .string ⟨#[]⟩] 23) rfl rfl rfl (fun w1 => by simp [go_sem]) (fun w1 h1 => (NewCells.mk w1 _ _ h1.size).2) ?_ (by rintro v ⟨_, b, rfl, _⟩; exact ⟨b, rfl⟩)
  intro b3 a' ha'
  simp only [Act.put, List.setIfInBounds_toArray, List.set_cons_succ, List.set_cons_zero] at ha'
  subst ha'
  refine wpM_alloc _ (.cells #[.int .i64 0, .int .i64 0, .string ⟨#[]⟩] 23) rfl rfl rfl (fun w1 => by simp [go_sem]) (fun w1 h1 => (NewCells.mk w1 _ _ h1.size).2) ?_ (by rintro v ⟨_, b, rfl, _⟩; exact ⟨b, rfl⟩)
  intro b4 a' ha'
  simp only [Act.put, List.setIfInBounds_toArray, List.set_cons_succ, List.set_cons_zero] at ha'
  subst ha'
  refine wpM_alloc _ (.cells #[.int .i64 0, .int .i64 0, .string ⟨#[]⟩] 23) rfl rfl rfl (fun w1 => by simp [go_sem]) (fun w1 h1 => (NewCells.mk w1 _ _ h1.size).2) ?_ (by rintro v ⟨_, b, rfl, _⟩; exact ⟨b, rfl⟩)
  intro b5 a' ha'
  simp only [Act.put, List.setIfInBounds_toArray, List.set_cons_succ, List.set_cons_zero] at ha'
  subst ha'
  refine wpM_nil ?_
  intro w4 hb4 hG
  have ne01 : b3 ≠ b4 := hG.2.1 6 b3 7 b4 (.inl (.inl (.inr ⟨rfl, rfl⟩))) (.inl (.inr ⟨rfl, rfl⟩)) (by decide)
  have ne02 : b3 ≠ b5 := hG.2.1 6 b3 8 b5 (.inl (.inl (.inr ⟨rfl, rfl⟩))) (.inr ⟨rfl, rfl⟩) (by decide)
  have ne12 : b4 ≠ b5 := hG.2.1 7 b4 8 b5 (.inl (.inr ⟨rfl, rfl⟩)) (.inr ⟨rfl, rfl⟩) (by decide)
  obtain ⟨hB0, k0⟩ := NewCells.at (Fct.put_at (Fct.put_old (Fct.put_old (hG.2.2.1 6))))
  obtain ⟨hB1, k1⟩ := NewCells.at (Fct.put_at (Fct.put_old (hG.2.2.1 7)))
  obtain ⟨hB2, k2⟩ := NewCells.at (Fct.put_at (hG.2.2.1 8))
  clear hG C0 C1 C2
  replace hb0 := on hb0 hb4
  replace hv := hv.on hb4
  obtain ⟨x00, x01, x02, y00, y01, y02⟩ := (k0).three
  have q0 := (((k0).put3 (.int .i64 4) (.int .i64 c) (.string ⟨#[]⟩)).put3_far ne01.symm (.int .i64 4) (.int .i64 c) (.string ⟨#[]⟩)).put3_far ne02.symm (.int .i64 4) (.int .i64 c) (.string ⟨#[]⟩)
  obtain ⟨x10, x11, x12, y10, y11, y12⟩ := ((k1).put3_far ne01 (.int .i64 4) (.int .i64 c) (.string ⟨#[]⟩)).three
  have q1 := (((k1).put3_far ne01 (.int .i64 4) (.int .i64 c) (.string ⟨#[]⟩)).put3 (.int .i64 4) (.int .i64 c) (.string ⟨#[]⟩)).put3_far ne12.symm (.int .i64 4) (.int .i64 c) (.string ⟨#[]⟩)
  obtain ⟨x20, x21, x22, y20, y21, y22⟩ := (((k2).put3_far ne02 (.int .i64 4) (.int .i64 c) (.string ⟨#[]⟩)).put3_far ne12 (.int .i64 4) (.int .i64 c) (.string ⟨#[]⟩)).three
  have q2 := (((k2).put3_far ne02 (.int .i64 4) (.int .i64 c) (.string ⟨#[]⟩)).put3_far ne12 (.int .i64 4) (.int .i64 c) (.string ⟨#[]⟩)).put3 (.int .i64 4) (.int .i64 c) (.string ⟨#[]⟩)
  replace hv := (((hv).put3_far (c := b3) (by omega) (.int .i64 4) (.int .i64 c) (.string ⟨#[]⟩)).put3_far (c := b4) (by omega) (.int .i64 4) (.int .i64 c) (.string ⟨#[]⟩)).put3_far (c := b5) (by omega) (.int .i64 4) (.int .i64 c) (.string ⟨#[]⟩)
  replace hb0 := (set3 (set3 (set3 (hb0) (b := b3) (by omega) (.int .i64 4) (.int .i64 c) (.string ⟨#[]⟩)) (b := b4) (by omega) (.int .i64 4) (.int .i64 c) (.string ⟨#[]⟩)) (b := b5) (by omega) (.int .i64 4) (.int .i64 c) (.string ⟨#[]⟩))
  simp only [put3] at q0 q1 q2 hv
  clear k0 k1 k2
  go_wp2_with fail
  clear x00 x01 x02 y00 y01 y02 x10 x11 x12 y10 y11 y12 x20 x21 x22 y20 y21 y22
  generalize ((((((((w4.setCell ⟨b3, 0, none⟩ (.int .i64 4)).setCell ⟨b3, 1, none⟩ (.int .i64 c)).setCell ⟨b3, 2, none⟩ (.string ⟨#[]⟩)).setCell ⟨b4, 0, none⟩ (.int .i64 4)).setCell ⟨b4, 1, none⟩ (.int .i64 c)).setCell ⟨b4, 2, none⟩ (.string ⟨#[]⟩)).setCell ⟨b5, 0, none⟩ (.int .i64 4)).setCell ⟨b5, 1, none⟩ (.int .i64 c)).setCell ⟨b5, 2, none⟩ (.string ⟨#[]⟩) = W2 at *
  have HL2 := Lib.hid (HL.out.grown hb0)
  obtain ⟨p0, p1, p2, _⟩ := hv.three
  have C0 := fun d os => cell_regrown p0 d os
  have C1 := fun d os => cell_regrown p1 d os
  have C2 := fun d os => cell_regrown p2 d os
  obtain ⟨r0, r1, r2, _⟩ := q0.three
  have D00 := fun d os => cell_regrown r0 d os
  have D01 := fun d os => cell_regrown r1 d os
  have D02 := fun d os => cell_regrown r2 d os
  clear r0 r1 r2
  obtain ⟨r0, r1, r2, _⟩ := q1.three
  have D10 := fun d os => cell_regrown r0 d os
  have D11 := fun d os => cell_regrown r1 d os
  have D12 := fun d os => cell_regrown r2 d os
  clear r0 r1 r2
  obtain ⟨r0, r1, r2, _⟩ := q2.three
  have D20 := fun d os => cell_regrown r0 d os
  have D21 := fun d os => cell_regrown r1 d os
  have D22 := fun d os => cell_regrown r2 d os
  clear r0 r1 r2
  clear p0 p1 p2
  refine wp_region_mem 32 (fun d => match d with
    | 18 => some (Is (.agg #[.int .i64 4, .int .i64 c, .string ⟨#[]⟩]))
    | 23 => some (Is (.agg #[.int .i64 4, .int .i64 c, .string ⟨#[]⟩]))
    | 29 => some (Is (.agg #[.int .i64 4, .int .i64 c, .string ⟨#[]⟩]))
    | 34 => some (Is (.string q))
    | 36 => some (Is (.string q))
    | 42 => some (Is (.string z))
    | 45 => some (Is (.string z))
    | _ => none) (by kernel_rfl) (by kernel_rfl) ?_
  simp only [List.take_succ_cons, List.take_zero, List.drop_succ_cons, List.drop_zero]
  repeat (first | ((with_reducible refine wpM_calm ?_ ?_ ?_ ?_); exact rfl; exact rfl; exact rfl; intro K hK; go_big_quiet_op; go_big_quiet_on) | ((with_reducible refine wpM_skip ?_ ?_); exact rfl; simp only [Act.put, List.setIfInBounds_toArray, List.set_cons_succ, List.set_cons_zero]))
  refine wpM_exact rfl rfl rfl Tryz.func23 (by kernel_rfl) (by kernel_rfl) (fun w1 hw1 _ => RN.out w1 (HL2.out.grown hw1)) rfl (by simp only [Act.put, List.setIfInBounds_toArray, List.set_cons_succ, List.set_cons_zero]; rfl) ?_
  repeat (first | ((with_reducible refine wpM_calm ?_ ?_ ?_ ?_); exact rfl; exact rfl; exact rfl; intro K hK; go_big_quiet_op; go_big_quiet_on) | ((with_reducible refine wpM_skip ?_ ?_); exact rfl; simp only [Act.put, List.setIfInBounds_toArray, List.set_cons_succ, List.set_cons_zero]))
  refine wpM_exact rfl rfl rfl Tryz.func24 (by kernel_rfl) (by kernel_rfl) (fun w1 hw1 _ => RT.out w1 (HL2.out.grown hw1)) rfl (by simp only [Act.put, List.setIfInBounds_toArray, List.set_cons_succ, List.set_cons_zero]; rfl) ?_
  repeat (first | ((with_reducible refine wpM_calm ?_ ?_ ?_ ?_); exact rfl; exact rfl; exact rfl; intro K hK; go_big_quiet_op; go_big_quiet_on) | ((with_reducible refine wpM_skip ?_ ?_); exact rfl; simp only [Act.put, List.setIfInBounds_toArray, List.set_cons_succ, List.set_cons_zero]))
  refine wpM_exact rfl rfl rfl Tryz.func25 (by kernel_rfl) (by kernel_rfl) (fun w1 hw1 _ => RB.out w1 (HL2.out.grown hw1)) rfl (by simp only [Act.put, List.setIfInBounds_toArray, List.set_cons_succ, List.set_cons_zero]; rfl) ?_
  repeat (first | ((with_reducible refine wpM_calm ?_ ?_ ?_ ?_); exact rfl; exact rfl; exact rfl; intro K hK; go_big_quiet_op; go_big_quiet_on) | ((with_reducible refine wpM_skip ?_ ?_); exact rfl; simp only [Act.put, List.setIfInBounds_toArray, List.set_cons_succ, List.set_cons_zero]))
  refine wpM_exact rfl rfl rfl Tryz.func26 (by kernel_rfl) (by kernel_rfl) (fun w1 hw1 _ => PS.out w1 (HL2.out.grown hw1)) rfl (by simp only [Act.put, List.setIfInBounds_toArray, List.set_cons_succ, List.set_cons_zero]; rfl) ?_
  repeat (first | ((with_reducible refine wpM_calm ?_ ?_ ?_ ?_); exact rfl; exact rfl; exact rfl; intro K hK; go_big_quiet_op; go_big_quiet_on) | ((with_reducible refine wpM_skip ?_ ?_); exact rfl; simp only [Act.put, List.setIfInBounds_toArray, List.set_cons_succ, List.set_cons_zero]))
  refine wpM_exact rfl rfl rfl Tryz.func27 (by kernel_rfl) (by kernel_rfl) (fun w1 hw1 _ => RS.out w1 (HL2.out.grown hw1)) rfl (by simp only [Act.put, List.setIfInBounds_toArray, List.set_cons_succ, List.set_cons_zero]; rfl) ?_
  repeat (first | ((with_reducible refine wpM_calm ?_ ?_ ?_ ?_); exact rfl; exact rfl; exact rfl; intro K hK; go_big_quiet_op; go_big_quiet_on) | ((with_reducible refine wpM_skip ?_ ?_); exact rfl; simp only [Act.put, List.setIfInBounds_toArray, List.set_cons_succ, List.set_cons_zero]))
  refine wpM_exact rfl rfl rfl Tryz.func28 (by kernel_rfl) (by kernel_rfl) (fun w1 hw1 _ => PQ.out w1 (HL2.out.grown hw1)) rfl (by simp only [Act.put, List.setIfInBounds_toArray, List.set_cons_succ, List.set_cons_zero]; rfl) ?_
  repeat (first | ((with_reducible refine wpM_calm ?_ ?_ ?_ ?_); exact rfl; exact rfl; exact rfl; intro K hK; go_big_quiet_op; go_big_quiet_on) | ((with_reducible refine wpM_skip ?_ ?_); exact rfl; simp only [Act.put, List.setIfInBounds_toArray, List.set_cons_succ, List.set_cons_zero]))
  refine wpM_exact rfl rfl rfl Tryz.func29 (by kernel_rfl) (by kernel_rfl) (fun w1 hw1 _ => RQ.out w1 (HL2.out.grown hw1)) rfl (by simp only [Act.put, List.setIfInBounds_toArray, List.set_cons_succ, List.set_cons_zero]; rfl) ?_
  repeat (first | ((with_reducible refine wpM_calm ?_ ?_ ?_ ?_); exact rfl; exact rfl; exact rfl; intro K hK; go_big_quiet_op; go_big_quiet_on) | ((with_reducible refine wpM_skip ?_ ?_); exact rfl; simp only [Act.put, List.setIfInBounds_toArray, List.set_cons_succ, List.set_cons_zero]))
  refine wpM_nil ?_
  intro w5 hb5 _
  replace hb0 := on hb0 hb5
  replace hv := hv.on hb5
  have HL5 := Lib.hid (HL.out.grown hb0)
  replace q0 := q0.on hb5
  replace q1 := q1.on hb5
  replace q2 := q2.on hb5
  clear hb5 HL2 C0 C1 C2 D00 D01 D02 D10 D11 D12 D20 D21 D22
  obtain ⟨r00, r01, r02, _⟩ := q0.three
  obtain ⟨r10, r11, r12, _⟩ := q1.three
  obtain ⟨r20, r21, r22, _⟩ := q2.three
  obtain ⟨p0, p1, p2, _⟩ := hv.three
  go_wp2_with fail
  have C0 := fun d os => cell_regrown p0 d os
  have D00 := fun d os => cell_regrown r00 d os
  have D01 := fun d os => cell_regrown r01 d os
  have D02 := fun d os => cell_regrown r02 d os
  have C1 := fun d os => cell_regrown p1 d os
  have D10 := fun d os => cell_regrown r10 d os
  have D11 := fun d os => cell_regrown r11 d os
  have D12 := fun d os => cell_regrown r12 d os
  have C2 := fun d os => cell_regrown p2 d os
  have D20 := fun d os => cell_regrown r20 d os
  have D21 := fun d os => cell_regrown r21 d os
  have D22 := fun d os => cell_regrown r22 d os
  clear p0 p1 p2 r00 r01 r02 r10 r11 r12 r20 r21 r22
  refine wp_region_mem 44 (fun d => match d with
    | 117 => some (Is (.bool true))
    | _ => none) (by kernel_rfl) (by kernel_rfl) ?_
  simp only [List.take_succ_cons, List.take_zero, List.drop_succ_cons, List.drop_zero]
  repeat (first | ((with_reducible refine wpM_calm ?_ ?_ ?_ ?_); exact rfl; exact rfl; exact rfl; intro K hK; go_big_quiet_op; go_big_quiet_on) | ((with_reducible refine wpM_skip ?_ ?_); exact rfl; simp only [Act.put, List.setIfInBounds_toArray, List.set_cons_succ, List.set_cons_zero]))
  refine wpM_exact rfl rfl rfl Tryz.func5 (by kernel_rfl) (by kernel_rfl) (fun w1 hw1 _ => HA.out w1 (HL5.out.grown hw1)) rfl (by simp only [Act.put, List.setIfInBounds_toArray, List.set_cons_succ, List.set_cons_zero]; rfl) ?_
  repeat (first | ((with_reducible refine wpM_calm ?_ ?_ ?_ ?_); exact rfl; exact rfl; exact rfl; intro K hK; go_big_quiet_op; go_big_quiet_on) | ((with_reducible refine wpM_skip ?_ ?_); exact rfl; simp only [Act.put, List.setIfInBounds_toArray, List.set_cons_succ, List.set_cons_zero]))
  refine wpM_nil ?_
  intro w6 hb6 _
  go_wp2
  go_ret
  exact ⟨rfl, on hb0 hb6⟩
end Go.Proofs.YtkegelhhajfipaaGreatDoor.Val

/- What package value's Compare answers at the one pair of values that the laws' check of life asks: the number 9 and the empty text. -/
import Derived.Test.YtkegelhhajfipaaGreatDoorValMay
import Derived.Test.YtkegelhhajfipaaGreatDoorShelf
namespace Go.Proofs.YtkegelhhajfipaaGreatDoor.Val
open Go.RowKit Kit Reg Dec Dig

set_option maxRecDepth 100000 in
set_option maxHeartbeats 1000000 in
theorem beside_c (k n j : Int) (t : ByteArray) (hk : (k == 0) = false) (w : World) : Calls Tryz.prog 41 #[.agg #[.int .i64 k, .int .i64 n, .string t], .int .i64 j] w (ValIs k n t w) := by
  go_enter Tryz.func41, Tryz.ntmps41
  go_wp2
  exact bodyPost_ret (v := .agg #[.int .i64 k, .int .i64 n, .string t]) (by simp [results, Tryz.results41, go_sem]) rfl ⟨rfl, below2 _ _ _⟩
set_option maxRecDepth 100000 in
set_option maxHeartbeats 1000000 in
theorem cmp12_c (w : World) : Calls Tryz.prog 43 #[.int .i64 1, .int .i64 2] w fun e w' => e = .returned (.int .i64 (-1)) ∧ w = w' := by
  have HN : Hid (∀ (x : Int) (w1 : World), Calls Tryz.prog 55 #[.int .i64 x] w1 fun e w' => e = .returned (.bool false) ∧ w1 = w') := Lib.hid (fun x w1 => by
    go_enter Tryz.func55, Tryz.ntmps55
    go_wp2
    go_ret
    exact ⟨by simp, rfl⟩)
  go_enter Tryz.func43, Tryz.ntmps43
  go_wp2_with (go_at_call 55; refine (HN.out _ _).mono ?_; rintro e w' ⟨rfl, rfl⟩)
  go_ret
  exact ⟨rfl, rfl⟩
set_option maxRecDepth 100000 in
set_option maxHeartbeats 1000000 in
theorem cmp90_c (w : World) : Calls Tryz.prog 44 #[.int .i64 9, .int .i64 0] w fun e w' => e = .returned (.int .i64 1) ∧ w = w' := by
  have HN : Hid (∀ (x : Int) (w1 : World), Calls Tryz.prog 56 #[.int .i64 x] w1 fun e w' => e = .returned (.bool false) ∧ w1 = w') := Lib.hid (fun x w1 => by
    go_enter Tryz.func56, Tryz.ntmps56
    go_wp2
    go_ret
    exact ⟨by simp, rfl⟩)
  go_enter Tryz.func44, Tryz.ntmps44
  go_wp2_with (go_at_call 56; refine (HN.out _ _).mono ?_; rintro e w' ⟨rfl, rfl⟩)
  go_ret
  exact ⟨rfl, rfl⟩
set_option maxRecDepth 100000 in
set_option maxHeartbeats 1000000 in
/-- the first of three that is not 0, where that is the first -/
theorem or_c (g : Nat) (w : World) (h : w.cell? ⟨g, 0, none⟩ = some (.int .i64 (-1))) : Calls Tryz.prog 42 #[.slice (some ⟨g, 0, none⟩) 3 3] w fun e w' => e = .returned (.int .i64 (-1)) ∧ Below w.heap.size w w' := by
  have H := Lib.hid h
  clear h
  go_enter Tryz.func42, Tryz.ntmps42
  go_wp2
  go_loopw [8] (fun i wr => i = .int .i64 0 ∧ Below w.heap.size w wr) (fun _ _ => 0)
  case atStart => exact ⟨rfl, Below.refl _ _⟩
  case round =>
    obtain ⟨rfl, hb⟩ := hrel
    have x0 := kept hb H.out
    go_wp2
    go_ret
    exact ⟨rfl, hb⟩
set_option maxRecDepth 100000 in
set_option maxHeartbeats 2000000 in
theorem compare_life (w : World) : Calls Tryz.prog 30 #[.agg #[.int .i64 1, .int .i64 9, .string ⟨#[]⟩], .agg #[.int .i64 2, .int .i64 0, .string ⟨#[]⟩]] w fun e w' => e = .returned (.int .i64 (-1)) ∧ Below w.heap.size w w' := by
  have H1 := Lib.hid (fun w1 => beside_c 1 9 2 ⟨#[]⟩ rfl w1)
  have H2 := Lib.hid (fun w1 => beside_c 2 0 1 ⟨#[]⟩ rfl w1)
  have H3 : Hid (∀ w1, Calls Tryz.prog 43 #[.int .i64 1, .int .i64 2] w1 fun e w' => e = .returned (.int .i64 (-1)) ∧ Below w1.heap.size w1 w') := Lib.hid (fun w1 => (cmp12_c w1).mono fun e w' ⟨h1, h2⟩ => ⟨h1, h2 ▸ Below.refl _ _⟩)
  have H4 : Hid (∀ w1, Calls Tryz.prog 44 #[.int .i64 9, .int .i64 0] w1 fun e w' => e = .returned (.int .i64 1) ∧ Below w1.heap.size w1 w') := Lib.hid (fun w1 => (cmp90_c w1).mono fun e w' ⟨h1, h2⟩ => ⟨h1, h2 ▸ Below.refl _ _⟩)
  have H5 : Hid (∀ w1, Calls Tryz.prog 45 #[.string ⟨#[]⟩, .string ⟨#[]⟩] w1 fun e w' => e = .returned (.int .i64 0) ∧ Below w1.heap.size w1 w') := Lib.hid (fun w1 => (Tryz.strings_Compare ⟨#[]⟩ ⟨#[]⟩ w1).mono fun e w' ⟨h1, h2⟩ => ⟨h1, h2 ▸ Below.refl _ _⟩)
  have HO := Lib.hid (fun (g : Nat) (w1 : World) h => or_c g w1 h)
  go_enter Tryz.func30, Tryz.ntmps30
  go_wp2_with fail
  have ha := (CellsAt.new w [.int .i64 1, .int .i64 9, .string ⟨#[]⟩] 23).on_alloc (.cells #[.int .i64 2, .int .i64 0, .string ⟨#[]⟩] 23)
  have hz := CellsAt.new (w.alloc (.cells #[.int .i64 1, .int .i64 9, .string ⟨#[]⟩] 23)) [.int .i64 2, .int .i64 0, .string ⟨#[]⟩] 23
  have hb0 := below2 w (.cells #[.int .i64 1, .int .i64 9, .string ⟨#[]⟩] 23) (.cells #[.int .i64 2, .int .i64 0, .string ⟨#[]⟩] 23)
  rw [show (w.alloc (.cells #[.int .i64 1, .int .i64 9, .string ⟨#[]⟩] 23)).heap.size = w.heap.size + 1 by simp] at hz
  generalize (w.alloc (.cells #[.int .i64 1, .int .i64 9, .string ⟨#[]⟩] 23)).alloc (.cells #[.int .i64 2, .int .i64 0, .string ⟨#[]⟩] 23) = W at *
  obtain ⟨a0, a1, a2, _⟩ := ha.three
  obtain ⟨z0, z1, z2, _⟩ := hz.three
  have C0 := fun d os => cell_regrown a0 d os
  have C1 := fun d os => cell_regrown a1 d os
  have C2 := fun d os => cell_regrown a2 d os
  have D0 := fun d os => cell_regrown z0 d os
  have D1 := fun d os => cell_regrown z1 d os
  have D2 := fun d os => cell_regrown z2 d os
  clear a0 a1 a2 z0 z1 z2
  refine wp_region_mem 8 (fun d => match d with
    | 16 => some (Is (.agg #[.int .i64 1, .int .i64 9, .string ⟨#[]⟩]))
    | 20 => some (Is (.agg #[.int .i64 2, .int .i64 0, .string ⟨#[]⟩]))
    | _ => none) (by kernel_rfl) (by kernel_rfl) ?_
  simp only [List.take_succ_cons, List.take_zero, List.drop_succ_cons, List.drop_zero]
  repeat (first | ((with_reducible refine wpM_calm ?_ ?_ ?_ ?_); exact rfl; exact rfl; exact rfl; intro K hK; go_big_quiet_op; go_big_quiet_on) | ((with_reducible refine wpM_skip ?_ ?_); exact rfl; simp only [Act.put, List.setIfInBounds_toArray, List.set_cons_succ, List.set_cons_zero]))
  refine wpM_exact rfl rfl rfl Tryz.func41 (by kernel_rfl) (by kernel_rfl) (fun w1 _ _ => H1.out w1) rfl (by simp only [Act.put, List.setIfInBounds_toArray, List.set_cons_succ, List.set_cons_zero]; rfl) ?_
  repeat (first | ((with_reducible refine wpM_calm ?_ ?_ ?_ ?_); exact rfl; exact rfl; exact rfl; intro K hK; go_big_quiet_op; go_big_quiet_on) | ((with_reducible refine wpM_skip ?_ ?_); exact rfl; simp only [Act.put, List.setIfInBounds_toArray, List.set_cons_succ, List.set_cons_zero]))
  refine wpM_exact rfl rfl rfl Tryz.func41 (by kernel_rfl) (by kernel_rfl) (fun w1 _ _ => H2.out w1) rfl (by simp only [Act.put, List.setIfInBounds_toArray, List.set_cons_succ, List.set_cons_zero]; rfl) ?_
  refine wpM_nil ?_
  intro w1 hw1 _
  clear C0 C1 C2 D0 D1 D2
  replace ha := (ha.on hw1)
  replace hz := (hz.on hw1)
  obtain ⟨a0, a1, a2, f0, f1, f2⟩ := ha.three
  obtain ⟨z0, z1, z2, g0, g1, g2⟩ := (hz.put3_far (c := w.heap.size) (by omega) (.int .i64 1) (.int .i64 9) (.string ⟨#[]⟩)).three
  replace hz := (hz.put3_far (c := w.heap.size) (by omega) (.int .i64 1) (.int .i64 9) (.string ⟨#[]⟩)).put3 (.int .i64 2) (.int .i64 0) (.string ⟨#[]⟩)
  replace ha := (ha.put3 (.int .i64 1) (.int .i64 9) (.string ⟨#[]⟩)).put3_far (c := w.heap.size + 1) (by omega) (.int .i64 2) (.int .i64 0) (.string ⟨#[]⟩)
  replace hb0 := set3 (set3 (on hb0 hw1) (Nat.le_refl _) (.int .i64 1) (.int .i64 9) (.string ⟨#[]⟩)) (b := w.heap.size + 1) (by omega) (.int .i64 2) (.int .i64 0) (.string ⟨#[]⟩)
  clear hw1
  go_wp2_with fail
  clear a0 a1 a2 f0 f1 f2 z0 z1 z2 g0 g1 g2
  simp only [put3] at hz ha
  generalize (((((w1.setCell ⟨w.heap.size, 0, none⟩ (.int .i64 1)).setCell ⟨w.heap.size, 1, none⟩ (.int .i64 9)).setCell ⟨w.heap.size, 2, none⟩ (.string ⟨#[]⟩)).setCell
    ⟨w.heap.size + 1, 0, none⟩ (.int .i64 2)).setCell ⟨w.heap.size + 1, 1, none⟩ (.int .i64 0)).setCell ⟨w.heap.size + 1, 2, none⟩ (.string ⟨#[]⟩) = W2 at *
  obtain ⟨a0, a1, a2, _⟩ := ha.three
  obtain ⟨z0, z1, z2, _⟩ := hz.three
  have C0 := fun d os => cell_regrown a0 d os
  have C1 := fun d os => cell_regrown a1 d os
  have C2 := fun d os => cell_regrown a2 d os
  have D0 := fun d os => cell_regrown z0 d os
  have D1 := fun d os => cell_regrown z1 d os
  have D2 := fun d os => cell_regrown z2 d os
  clear a0 a1 a2 z0 z1 z2 ha hz
  refine wp_region_mem 17 (fun d => match d with
    | 25 => some (Is (.int .i64 (-1)))
    | 30 => some (Is (.int .i64 1))
    | 35 => some (Is (.int .i64 0))
    | 36 => some (NewSlice [.int .i64 (-1), .int .i64 1, .int .i64 0])
    | 37 => some (Is (.int .i64 (-1)))
    | _ => none) (by kernel_rfl) (by kernel_rfl) ?_
  simp only [List.take_succ_cons, List.take_zero, List.drop_succ_cons, List.drop_zero]
  repeat (first | ((with_reducible refine wpM_calm ?_ ?_ ?_ ?_); exact rfl; exact rfl; exact rfl; intro K hK; go_big_quiet_op; go_big_quiet_on) | ((with_reducible refine wpM_skip ?_ ?_); exact rfl; simp only [Act.put, List.setIfInBounds_toArray, List.set_cons_succ, List.set_cons_zero]))
  refine wpM_exact rfl rfl rfl Tryz.func43 (by kernel_rfl) (by kernel_rfl) (fun w1 _ _ => H3.out w1) rfl (by simp only [Act.put, List.setIfInBounds_toArray, List.set_cons_succ, List.set_cons_zero]; rfl) ?_
  repeat (first | ((with_reducible refine wpM_calm ?_ ?_ ?_ ?_); exact rfl; exact rfl; exact rfl; intro K hK; go_big_quiet_op; go_big_quiet_on) | ((with_reducible refine wpM_skip ?_ ?_); exact rfl; simp only [Act.put, List.setIfInBounds_toArray, List.set_cons_succ, List.set_cons_zero]))
  refine wpM_exact rfl rfl rfl Tryz.func44 (by kernel_rfl) (by kernel_rfl) (fun w1 _ _ => H4.out w1) rfl (by simp only [Act.put, List.setIfInBounds_toArray, List.set_cons_succ, List.set_cons_zero]; rfl) ?_
  repeat (first | ((with_reducible refine wpM_calm ?_ ?_ ?_ ?_); exact rfl; exact rfl; exact rfl; intro K hK; go_big_quiet_op; go_big_quiet_on) | ((with_reducible refine wpM_skip ?_ ?_); exact rfl; simp only [Act.put, List.setIfInBounds_toArray, List.set_cons_succ, List.set_cons_zero]))
  refine wpM_exact rfl rfl rfl Tryz.func45 (by kernel_rfl) (by kernel_rfl) (fun w1 _ _ => H5.out w1) rfl (by simp only [Act.put, List.setIfInBounds_toArray, List.set_cons_succ, List.set_cons_zero]; rfl) ?_
  refine wpM_makes _ rfl rfl (fun w1 hw1 _ => ?_) ?_
  · simp [go_sem, variesUpon]
    exact ⟨below1 _ _, w1.heap.size, rfl, CellsAt.new w1 [.int .i64 (-1), .int .i64 1, .int .i64 0] _⟩
  rintro v ⟨_, b2, rfl, _⟩ a' ha'
  simp only [Act.put, List.setIfInBounds_toArray, List.set_cons_succ, List.set_cons_zero] at ha'
  subst ha'
  refine wpM_exact rfl rfl rfl Tryz.func42 (by kernel_rfl) (by kernel_rfl) ?_ rfl (by simp only [Act.put, List.setIfInBounds_toArray, List.set_cons_succ, List.set_cons_zero]; rfl) ?_
  · intro w1 _ hl
    obtain ⟨b3, e, hl3⟩ := NewSlice.up ((looks_at (k := 15) (d := 36) hl (by kernel_rfl) (by kernel_rfl)).2 rfl)
    obtain rfl : b2 = b3 := by simpa using e
    exact HO.out _ w1 (hl3.2 0 _ rfl).1
  refine wpM_nil ?_
  intro w1 hw1 _
  go_wp2
  go_ret
  exact ⟨rfl, on hb0 hw1⟩
end Go.Proofs.YtkegelhhajfipaaGreatDoor.Val

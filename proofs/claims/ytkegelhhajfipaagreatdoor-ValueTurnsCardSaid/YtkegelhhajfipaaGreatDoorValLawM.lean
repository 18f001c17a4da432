/- ValueMakes, walked: whether a value may be, and what is made of a number, a text, a truth and a code. Written by wip/genval6.py. -/
import Derived.Test.YtkegelhhajfipaaGreatDoorValAlive
import Derived.Test.YtkegelhhajfipaaGreatDoorValRMay
import Derived.Test.YtkegelhhajfipaaGreatDoorValRGo
namespace Go.Proofs.YtkegelhhajfipaaGreatDoor.Val
open Go.RowKit Kit Reg Dec Dig

set_option maxRecDepth 100000 in
set_option maxHeartbeats 4000000 in
theorem makes_long (k n : Int) (t : ByteArray) (b : Bool) (c : Int) (ht : 400 < t.size) (w : World) (hL : PLibs w) : Calls Tryz.prog 3 #[.agg #[.int .i64 k, .int .i64 n, .string t], .bool b, .int .i64 c] w (LawEnd w) := by
  have d0 : decide (400 < t.size) = true := decide_eq_true ht
  have HA := Lib.hid (fun w1 hL => alive_c w1 hL)
  have HL := Lib.hid (hL.grown (below1 w (.cells #[.int .i64 k, .int .i64 n, .string t] 23)))
  clear hL
  go_enter Tryz.func3, Tryz.ntmps3
  go_wp2_with fail
  refine (HA.out _ HL.out).mono ?_
  rintro e w1 ⟨rfl, hb1⟩
  have hb2 := on (below1 w _) hb1
  go_wp2
  go_ret
  exact ⟨rfl, hb2⟩
/-- a call that yields one value -/
abbrev Yields (f : FuncId) (args : Array Value) (v : Value) : Prop := Hid (∀ w1, Calls Tryz.prog f args w1 fun e w' => e = .returned v ∧ Below w1.heap.size w1 w')
abbrev YieldsL (f : FuncId) (args : Array Value) (v : Value) : Prop := Hid (∀ w1, PLibs w1 → Calls Tryz.prog f args w1 fun e w' => e = .returned v ∧ Below w1.heap.size w1 w')
set_option maxRecDepth 100000 in
set_option maxHeartbeats 8000000 in
theorem makes_core (k n c kn nn ks ns nb cf kg ng : Int) (t ss q : ByteArray) (b m : Bool) (ht : t.size ≤ 400)
    (P0 : Yields 6 #[.int .i64 n] (.agg #[.int .i64 kn, .int .i64 nn, .string ⟨#[]⟩]))
    (R0 : Yields 13 #[.int .i64 n] (.agg #[.int .i64 kn, .int .i64 nn, .string ⟨#[]⟩]))
    (M0 : Yields 11 #[.agg #[.int .i64 kn, .int .i64 nn, .string ⟨#[]⟩]] (.bool true))
    (P1 : Yields 7 #[.string t] (.agg #[.int .i64 ks, .int .i64 ns, .string ss]))
    (R1 : Yields 14 #[.string t] (.agg #[.int .i64 ks, .int .i64 ns, .string ss]))
    (M1 : Yields 11 #[.agg #[.int .i64 ks, .int .i64 ns, .string ss]] (.bool true))
    (P2 : Yields 8 #[.bool b] (.agg #[.int .i64 3, .int .i64 nb, .string ⟨#[]⟩]))
    (R2 : Yields 15 #[.bool b] (.agg #[.int .i64 3, .int .i64 nb, .string ⟨#[]⟩]))
    (M2 : Yields 11 #[.agg #[.int .i64 3, .int .i64 nb, .string ⟨#[]⟩]] (.bool true))
    (P3 : Yields 9 #[.int .i64 c] (.agg #[.int .i64 4, .int .i64 cf, .string ⟨#[]⟩]))
    (R3 : Yields 16 #[.int .i64 c] (.agg #[.int .i64 4, .int .i64 cf, .string ⟨#[]⟩]))
    (M3 : Yields 11 #[.agg #[.int .i64 4, .int .i64 cf, .string ⟨#[]⟩]] (.bool true))
    (P4 : Yields 10 #[.int .i64 n, .bool b] (.agg #[.int .i64 kg, .int .i64 ng, .string ⟨#[]⟩]))
    (R4 : Yields 17 #[.agg #[.int .i64 n, .bool b]] (.agg #[.int .i64 kg, .int .i64 ng, .string ⟨#[]⟩]))
    (M4 : Yields 11 #[.agg #[.int .i64 kg, .int .i64 ng, .string ⟨#[]⟩]] (.bool true))
    (PM : Yields 11 #[.agg #[.int .i64 k, .int .i64 n, .string t]] (.bool m))
    (RM : Yields 12 #[.agg #[.int .i64 k, .int .i64 n, .string t]] (.bool m))
    (PF : Yields 18 #[.int .i64 c] (.string q))
    (RF : Yields 19 #[.int .i64 c] (.string q)) (w : World) (hL : PLibs w) :
    Calls Tryz.prog 3 #[.agg #[.int .i64 k, .int .i64 n, .string t], .bool b, .int .i64 c] w (LawEnd w) := by
  have d0 : decide (400 < t.size) = false := decide_eq_false (by omega)
  have HA := Lib.hid (fun w1 hL => alive_c w1 hL)
  have HL := Lib.hid hL
  clear hL
  go_enter Tryz.func3, Tryz.ntmps3
  go_wp2_with fail
  have hv := CellsAt.new w [.int .i64 k, .int .i64 n, .string t] 23
  have hb0 := below1 w (.cells #[.int .i64 k, .int .i64 n, .string t] 23)
  have hsz : (w.alloc (.cells #[.int .i64 k, .int .i64 n, .string t] 23)).heap.size = w.heap.size + 1 := by simp
  generalize w.alloc (.cells #[.int .i64 k, .int .i64 n, .string t] 23) = W at *
  obtain ⟨p0, p1, p2, _⟩ := hv.three
  have C0 := fun d os => cell_regrown p0 d os
  have C1 := fun d os => cell_regrown p1 d os
  have C2 := fun d os => cell_regrown p2 d os
  clear p0 p1 p2
  refine wp_region_new 19 (fun d => match d with
    | 19 => some (Is (.agg #[.int .i64 kn, .int .i64 nn, .string ⟨#[]⟩]))
    | 22 => some (Is (.agg #[.int .i64 ks, .int .i64 ns, .string ss]))
    | 24 => some (Is (.agg #[.int .i64 3, .int .i64 nb, .string ⟨#[]⟩]))
    | 26 => some (Is (.agg #[.int .i64 4, .int .i64 cf, .string ⟨#[]⟩]))
    | 30 => some (Is (.agg #[.int .i64 kg, .int .i64 ng, .string ⟨#[]⟩]))
    | 7 => some (NewCells W.heap.size [.int .i64 0, .int .i64 0, .string ⟨#[]⟩])
    | 8 => some (NewCells W.heap.size [.int .i64 0, .int .i64 0, .string ⟨#[]⟩])
    | 9 => some (NewCells W.heap.size [.int .i64 0, .int .i64 0, .string ⟨#[]⟩])
    | 10 => some (NewCells W.heap.size [.int .i64 0, .int .i64 0, .string ⟨#[]⟩])
    | 11 => some (NewCells W.heap.size [.int .i64 0, .int .i64 0, .string ⟨#[]⟩])
    | _ => none) (fun d => d == 7 || d == 8 || d == 9 || d == 10 || d == 11) (by kernel_rfl) (by kernel_rfl) ?_
  simp only [List.take_succ_cons, List.take_zero, List.drop_succ_cons, List.drop_zero]
  repeat (first | ((with_reducible refine wpM_calm ?_ ?_ ?_ ?_); exact rfl; exact rfl; exact rfl; intro K hK; go_big_quiet_op; go_big_quiet_on) | ((with_reducible refine wpM_skip ?_ ?_); exact rfl; simp only [Act.put, List.setIfInBounds_toArray, List.set_cons_succ, List.set_cons_zero]))
  refine wpM_exact rfl rfl rfl Tryz.func6 (by kernel_rfl) (by kernel_rfl) (fun w1 _ _ => P0.out w1) rfl (by simp only [Act.put, List.setIfInBounds_toArray, List.set_cons_succ, List.set_cons_zero]; rfl) ?_
  repeat (first | ((with_reducible refine wpM_calm ?_ ?_ ?_ ?_); exact rfl; exact rfl; exact rfl; intro K hK; go_big_quiet_op; go_big_quiet_on) | ((with_reducible refine wpM_skip ?_ ?_); exact rfl; simp only [Act.put, List.setIfInBounds_toArray, List.set_cons_succ, List.set_cons_zero]))
  refine wpM_exact rfl rfl rfl Tryz.func7 (by kernel_rfl) (by kernel_rfl) (fun w1 _ _ => P1.out w1) rfl (by simp only [Act.put, List.setIfInBounds_toArray, List.set_cons_succ, List.set_cons_zero]; rfl) ?_
  repeat (first | ((with_reducible refine wpM_calm ?_ ?_ ?_ ?_); exact rfl; exact rfl; exact rfl; intro K hK; go_big_quiet_op; go_big_quiet_on) | ((with_reducible refine wpM_skip ?_ ?_); exact rfl; simp only [Act.put, List.setIfInBounds_toArray, List.set_cons_succ, List.set_cons_zero]))
  refine wpM_exact rfl rfl rfl Tryz.func8 (by kernel_rfl) (by kernel_rfl) (fun w1 _ _ => P2.out w1) rfl (by simp only [Act.put, List.setIfInBounds_toArray, List.set_cons_succ, List.set_cons_zero]; rfl) ?_
  repeat (first | ((with_reducible refine wpM_calm ?_ ?_ ?_ ?_); exact rfl; exact rfl; exact rfl; intro K hK; go_big_quiet_op; go_big_quiet_on) | ((with_reducible refine wpM_skip ?_ ?_); exact rfl; simp only [Act.put, List.setIfInBounds_toArray, List.set_cons_succ, List.set_cons_zero]))
  refine wpM_exact rfl rfl rfl Tryz.func9 (by kernel_rfl) (by kernel_rfl) (fun w1 _ _ => P3.out w1) rfl (by simp only [Act.put, List.setIfInBounds_toArray, List.set_cons_succ, List.set_cons_zero]; rfl) ?_
  repeat (first | ((with_reducible refine wpM_calm ?_ ?_ ?_ ?_); exact rfl; exact rfl; exact rfl; intro K hK; go_big_quiet_op; go_big_quiet_on) | ((with_reducible refine wpM_skip ?_ ?_); exact rfl; simp only [Act.put, List.setIfInBounds_toArray, List.set_cons_succ, List.set_cons_zero]))
  refine wpM_exact rfl rfl rfl Tryz.func10 (by kernel_rfl) (by kernel_rfl) (fun w1 _ _ => P4.out w1) rfl (by simp only [Act.put, List.setIfInBounds_toArray, List.set_cons_succ, List.set_cons_zero]; rfl) ?_
  refine wpM_alloc _ (.cells #[.int .i64 0, .int .i64 0, .string ⟨#[]⟩] 23) rfl rfl rfl (fun w1 => by simp [go_sem]) (fun w1 h1 => (NewCells.mk w1 _ _ h1.size).2) ?_ (by rintro v ⟨_, b, rfl, _⟩; exact ⟨b, rfl⟩)
  intro b7 a' ha'
  simp only [Act.put, List.setIfInBounds_toArray, List.set_cons_succ, List.set_cons_zero] at ha'
  subst ha'
  refine wpM_alloc _ (.cells #[.int .i64 0, .int .i64 0, .string ⟨#[]⟩] 23) rfl rfl rfl (fun w1 => by simp [go_sem]) (fun w1 h1 => (NewCells.mk w1 _ _ h1.size).2) ?_ (by rintro v ⟨_, b, rfl, _⟩; exact ⟨b, rfl⟩)
  intro b8 a' ha'
  simp only [Act.put, List.setIfInBounds_toArray, List.set_cons_succ, List.set_cons_zero] at ha'
  subst ha'
  refine wpM_alloc _ (.cells #[.int .i64 0, .int .i64 0, .string ⟨#[]⟩] 23) rfl rfl rfl (fun w1 => by simp [go_sem]) (fun w1 h1 => (NewCells.mk w1 _ _ h1.size).2) ?_ (by rintro v ⟨_, b, rfl, _⟩; exact ⟨b, rfl⟩)
  intro b9 a' ha'
  simp only [Act.put, List.setIfInBounds_toArray, List.set_cons_succ, List.set_cons_zero] at ha'
  subst ha'
  refine wpM_alloc _ (.cells #[.int .i64 0, .int .i64 0, .string ⟨#[]⟩] 23) rfl rfl rfl (fun w1 => by simp [go_sem]) (fun w1 h1 => (NewCells.mk w1 _ _ h1.size).2) ?_ (by rintro v ⟨_, b, rfl, _⟩; exact ⟨b, rfl⟩)
  intro b10 a' ha'
  simp only [Act.put, List.setIfInBounds_toArray, List.set_cons_succ, List.set_cons_zero] at ha'
  subst ha'
  refine wpM_alloc _ (.cells #[.int .i64 0, .int .i64 0, .string ⟨#[]⟩] 23) rfl rfl rfl (fun w1 => by simp [go_sem]) (fun w1 h1 => (NewCells.mk w1 _ _ h1.size).2) ?_ (by rintro v ⟨_, b, rfl, _⟩; exact ⟨b, rfl⟩)
  intro b11 a' ha'
  simp only [Act.put, List.setIfInBounds_toArray, List.set_cons_succ, List.set_cons_zero] at ha'
  subst ha'
  refine wpM_nil ?_
  intro w4 hb4 hG
  have ne01 : b7 ≠ b8 := hG.2.1 14 b7 15 b8 (.inl (.inl (.inl (.inl (.inr ⟨rfl, rfl⟩))))) (.inl (.inl (.inl (.inr ⟨rfl, rfl⟩)))) (by decide)
  have ne02 : b7 ≠ b9 := hG.2.1 14 b7 16 b9 (.inl (.inl (.inl (.inl (.inr ⟨rfl, rfl⟩))))) (.inl (.inl (.inr ⟨rfl, rfl⟩))) (by decide)
  have ne03 : b7 ≠ b10 := hG.2.1 14 b7 17 b10 (.inl (.inl (.inl (.inl (.inr ⟨rfl, rfl⟩))))) (.inl (.inr ⟨rfl, rfl⟩)) (by decide)
  have ne04 : b7 ≠ b11 := hG.2.1 14 b7 18 b11 (.inl (.inl (.inl (.inl (.inr ⟨rfl, rfl⟩))))) (.inr ⟨rfl, rfl⟩) (by decide)
  have ne12 : b8 ≠ b9 := hG.2.1 15 b8 16 b9 (.inl (.inl (.inl (.inr ⟨rfl, rfl⟩)))) (.inl (.inl (.inr ⟨rfl, rfl⟩))) (by decide)
  have ne13 : b8 ≠ b10 := hG.2.1 15 b8 17 b10 (.inl (.inl (.inl (.inr ⟨rfl, rfl⟩)))) (.inl (.inr ⟨rfl, rfl⟩)) (by decide)
  have ne14 : b8 ≠ b11 := hG.2.1 15 b8 18 b11 (.inl (.inl (.inl (.inr ⟨rfl, rfl⟩)))) (.inr ⟨rfl, rfl⟩) (by decide)
  have ne23 : b9 ≠ b10 := hG.2.1 16 b9 17 b10 (.inl (.inl (.inr ⟨rfl, rfl⟩))) (.inl (.inr ⟨rfl, rfl⟩)) (by decide)
  have ne24 : b9 ≠ b11 := hG.2.1 16 b9 18 b11 (.inl (.inl (.inr ⟨rfl, rfl⟩))) (.inr ⟨rfl, rfl⟩) (by decide)
  have ne34 : b10 ≠ b11 := hG.2.1 17 b10 18 b11 (.inl (.inr ⟨rfl, rfl⟩)) (.inr ⟨rfl, rfl⟩) (by decide)
  obtain ⟨hB0, k0⟩ := NewCells.at (Fct.put_at (Fct.put_old (Fct.put_old (Fct.put_old (Fct.put_old (hG.2.2.1 14))))))
  obtain ⟨hB1, k1⟩ := NewCells.at (Fct.put_at (Fct.put_old (Fct.put_old (Fct.put_old (hG.2.2.1 15)))))
  obtain ⟨hB2, k2⟩ := NewCells.at (Fct.put_at (Fct.put_old (Fct.put_old (hG.2.2.1 16))))
  obtain ⟨hB3, k3⟩ := NewCells.at (Fct.put_at (Fct.put_old (hG.2.2.1 17)))
  obtain ⟨hB4, k4⟩ := NewCells.at (Fct.put_at (hG.2.2.1 18))
  clear hG C0 C1 C2
  replace hb0 := on hb0 hb4
  replace hv := hv.on hb4
  obtain ⟨x00, x01, x02, y00, y01, y02⟩ := (k0).three
  have q0 := (((((k0).put3 (.int .i64 kn) (.int .i64 nn) (.string ⟨#[]⟩)).put3_far ne01.symm (.int .i64 ks) (.int .i64 ns) (.string ss)).put3_far ne02.symm (.int .i64 3) (.int .i64 nb) (.string ⟨#[]⟩)).put3_far ne03.symm (.int .i64 4) (.int .i64 cf) (.string ⟨#[]⟩)).put3_far ne04.symm (.int .i64 kg) (.int .i64 ng) (.string ⟨#[]⟩)
  obtain ⟨x10, x11, x12, y10, y11, y12⟩ := ((k1).put3_far ne01 (.int .i64 kn) (.int .i64 nn) (.string ⟨#[]⟩)).three
  have q1 := (((((k1).put3_far ne01 (.int .i64 kn) (.int .i64 nn) (.string ⟨#[]⟩)).put3 (.int .i64 ks) (.int .i64 ns) (.string ss)).put3_far ne12.symm (.int .i64 3) (.int .i64 nb) (.string ⟨#[]⟩)).put3_far ne13.symm (.int .i64 4) (.int .i64 cf) (.string ⟨#[]⟩)).put3_far ne14.symm (.int .i64 kg) (.int .i64 ng) (.string ⟨#[]⟩)
  obtain ⟨x20, x21, x22, y20, y21, y22⟩ := (((k2).put3_far ne02 (.int .i64 kn) (.int .i64 nn) (.string ⟨#[]⟩)).put3_far ne12 (.int .i64 ks) (.int .i64 ns) (.string ss)).three
  have q2 := (((((k2).put3_far ne02 (.int .i64 kn) (.int .i64 nn) (.string ⟨#[]⟩)).put3_far ne12 (.int .i64 ks) (.int .i64 ns) (.string ss)).put3 (.int .i64 3) (.int .i64 nb) (.string ⟨#[]⟩)).put3_far ne23.symm (.int .i64 4) (.int .i64 cf) (.string ⟨#[]⟩)).put3_far ne24.symm (.int .i64 kg) (.int .i64 ng) (.string ⟨#[]⟩)
  obtain ⟨x30, x31, x32, y30, y31, y32⟩ := ((((k3).put3_far ne03 (.int .i64 kn) (.int .i64 nn) (.string ⟨#[]⟩)).put3_far ne13 (.int .i64 ks) (.int .i64 ns) (.string ss)).put3_far ne23 (.int .i64 3) (.int .i64 nb) (.string ⟨#[]⟩)).three
  have q3 := (((((k3).put3_far ne03 (.int .i64 kn) (.int .i64 nn) (.string ⟨#[]⟩)).put3_far ne13 (.int .i64 ks) (.int .i64 ns) (.string ss)).put3_far ne23 (.int .i64 3) (.int .i64 nb) (.string ⟨#[]⟩)).put3 (.int .i64 4) (.int .i64 cf) (.string ⟨#[]⟩)).put3_far ne34.symm (.int .i64 kg) (.int .i64 ng) (.string ⟨#[]⟩)
  obtain ⟨x40, x41, x42, y40, y41, y42⟩ := (((((k4).put3_far ne04 (.int .i64 kn) (.int .i64 nn) (.string ⟨#[]⟩)).put3_far ne14 (.int .i64 ks) (.int .i64 ns) (.string ss)).put3_far ne24 (.int .i64 3) (.int .i64 nb) (.string ⟨#[]⟩)).put3_far ne34 (.int .i64 4) (.int .i64 cf) (.string ⟨#[]⟩)).three
  have q4 := (((((k4).put3_far ne04 (.int .i64 kn) (.int .i64 nn) (.string ⟨#[]⟩)).put3_far ne14 (.int .i64 ks) (.int .i64 ns) (.string ss)).put3_far ne24 (.int .i64 3) (.int .i64 nb) (.string ⟨#[]⟩)).put3_far ne34 (.int .i64 4) (.int .i64 cf) (.string ⟨#[]⟩)).put3 (.int .i64 kg) (.int .i64 ng) (.string ⟨#[]⟩)
  replace hv := (((((hv).put3_far (c := b7) (by omega) (.int .i64 kn) (.int .i64 nn) (.string ⟨#[]⟩)).put3_far (c := b8) (by omega) (.int .i64 ks) (.int .i64 ns) (.string ss)).put3_far (c := b9) (by omega) (.int .i64 3) (.int .i64 nb) (.string ⟨#[]⟩)).put3_far (c := b10) (by omega) (.int .i64 4) (.int .i64 cf) (.string ⟨#[]⟩)).put3_far (c := b11) (by omega) (.int .i64 kg) (.int .i64 ng) (.string ⟨#[]⟩)
  replace hb0 := (set3 (set3 (set3 (set3 (set3 (hb0) (b := b7) (by omega) (.int .i64 kn) (.int .i64 nn) (.string ⟨#[]⟩)) (b := b8) (by omega) (.int .i64 ks) (.int .i64 ns) (.string ss)) (b := b9) (by omega) (.int .i64 3) (.int .i64 nb) (.string ⟨#[]⟩)) (b := b10) (by omega) (.int .i64 4) (.int .i64 cf) (.string ⟨#[]⟩)) (b := b11) (by omega) (.int .i64 kg) (.int .i64 ng) (.string ⟨#[]⟩))
  simp only [put3] at q0 q1 q2 q3 q4 hv
  clear k0 k1 k2 k3 k4
  go_wp2_with fail
  clear x00 x01 x02 y00 y01 y02 x10 x11 x12 y10 y11 y12 x20 x21 x22 y20 y21 y22 x30 x31 x32 y30 y31 y32 x40 x41 x42 y40 y41 y42
  generalize ((((((((((((((w4.setCell ⟨b7, 0, none⟩ (.int .i64 kn)).setCell ⟨b7, 1, none⟩ (.int .i64 nn)).setCell ⟨b7, 2, none⟩ (.string ⟨#[]⟩)).setCell ⟨b8, 0, none⟩ (.int .i64 ks)).setCell ⟨b8, 1, none⟩ (.int .i64 ns)).setCell ⟨b8, 2, none⟩ (.string ss)).setCell ⟨b9, 0, none⟩ (.int .i64 3)).setCell ⟨b9, 1, none⟩ (.int .i64 nb)).setCell ⟨b9, 2, none⟩ (.string ⟨#[]⟩)).setCell ⟨b10, 0, none⟩ (.int .i64 4)).setCell ⟨b10, 1, none⟩ (.int .i64 cf)).setCell ⟨b10, 2, none⟩ (.string ⟨#[]⟩)).setCell ⟨b11, 0, none⟩ (.int .i64 kg)).setCell ⟨b11, 1, none⟩ (.int .i64 ng)).setCell ⟨b11, 2, none⟩ (.string ⟨#[]⟩) = W2 at *
  have HL2 := Lib.hid (HL.out.grown hb0)
  obtain ⟨p0, p1, p2, _⟩ := hv.three
  have C0 := fun d os => cell_regrown p0 d os
  have C1 := fun d os => cell_regrown p1 d os
  have C2 := fun d os => cell_regrown p2 d os
  obtain ⟨r0, r1, r2, _⟩ := q0.three
  have D00 := fun d os => cell_regrown r0 d os
  have D01 := fun d os => cell_regrown r1 d os
  have D02 := fun d os => cell_regrown r2 d os
  clear r0 r1 r2
  obtain ⟨r0, r1, r2, _⟩ := q1.three
  have D10 := fun d os => cell_regrown r0 d os
  have D11 := fun d os => cell_regrown r1 d os
  have D12 := fun d os => cell_regrown r2 d os
  clear r0 r1 r2
  obtain ⟨r0, r1, r2, _⟩ := q2.three
  have D20 := fun d os => cell_regrown r0 d os
  have D21 := fun d os => cell_regrown r1 d os
  have D22 := fun d os => cell_regrown r2 d os
  clear r0 r1 r2
  obtain ⟨r0, r1, r2, _⟩ := q3.three
  have D30 := fun d os => cell_regrown r0 d os
  have D31 := fun d os => cell_regrown r1 d os
  have D32 := fun d os => cell_regrown r2 d os
  clear r0 r1 r2
  obtain ⟨r0, r1, r2, _⟩ := q4.three
  have D40 := fun d os => cell_regrown r0 d os
  have D41 := fun d os => cell_regrown r1 d os
  have D42 := fun d os => cell_regrown r2 d os
  clear r0 r1 r2
  clear p0 p1 p2
  refine wp_region_mem 40 (fun d => match d with
    | 32 => some (Is (.bool m))
    | 34 => some (Is (.bool m))
    | 40 => some (Is (.agg #[.int .i64 kn, .int .i64 nn, .string ⟨#[]⟩]))
    | 47 => some (Is (.agg #[.int .i64 ks, .int .i64 ns, .string ss]))
    | 53 => some (Is (.agg #[.int .i64 3, .int .i64 nb, .string ⟨#[]⟩]))
    | 59 => some (Is (.agg #[.int .i64 4, .int .i64 cf, .string ⟨#[]⟩]))
    | 68 => some (Is (.agg #[.int .i64 kg, .int .i64 ng, .string ⟨#[]⟩]))
    | _ => none) (by kernel_rfl) (by kernel_rfl) ?_
  simp only [List.take_succ_cons, List.take_zero, List.drop_succ_cons, List.drop_zero]
  repeat (first | ((with_reducible refine wpM_calm ?_ ?_ ?_ ?_); exact rfl; exact rfl; exact rfl; intro K hK; go_big_quiet_op; go_big_quiet_on) | ((with_reducible refine wpM_skip ?_ ?_); exact rfl; simp only [Act.put, List.setIfInBounds_toArray, List.set_cons_succ, List.set_cons_zero]))
  refine wpM_exact rfl rfl rfl Tryz.func11 (by kernel_rfl) (by kernel_rfl) (fun w1 _ _ => PM.out w1) rfl (by simp only [Act.put, List.setIfInBounds_toArray, List.set_cons_succ, List.set_cons_zero]; rfl) ?_
  repeat (first | ((with_reducible refine wpM_calm ?_ ?_ ?_ ?_); exact rfl; exact rfl; exact rfl; intro K hK; go_big_quiet_op; go_big_quiet_on) | ((with_reducible refine wpM_skip ?_ ?_); exact rfl; simp only [Act.put, List.setIfInBounds_toArray, List.set_cons_succ, List.set_cons_zero]))
  refine wpM_exact rfl rfl rfl Tryz.func12 (by kernel_rfl) (by kernel_rfl) (fun w1 _ _ => RM.out w1) rfl (by simp only [Act.put, List.setIfInBounds_toArray, List.set_cons_succ, List.set_cons_zero]; rfl) ?_
  repeat (first | ((with_reducible refine wpM_calm ?_ ?_ ?_ ?_); exact rfl; exact rfl; exact rfl; intro K hK; go_big_quiet_op; go_big_quiet_on) | ((with_reducible refine wpM_skip ?_ ?_); exact rfl; simp only [Act.put, List.setIfInBounds_toArray, List.set_cons_succ, List.set_cons_zero]))
  refine wpM_exact rfl rfl rfl Tryz.func13 (by kernel_rfl) (by kernel_rfl) (fun w1 _ _ => R0.out w1) rfl (by simp only [Act.put, List.setIfInBounds_toArray, List.set_cons_succ, List.set_cons_zero]; rfl) ?_
  repeat (first | ((with_reducible refine wpM_calm ?_ ?_ ?_ ?_); exact rfl; exact rfl; exact rfl; intro K hK; go_big_quiet_op; go_big_quiet_on) | ((with_reducible refine wpM_skip ?_ ?_); exact rfl; simp only [Act.put, List.setIfInBounds_toArray, List.set_cons_succ, List.set_cons_zero]))
  refine wpM_exact rfl rfl rfl Tryz.func14 (by kernel_rfl) (by kernel_rfl) (fun w1 _ _ => R1.out w1) rfl (by simp only [Act.put, List.setIfInBounds_toArray, List.set_cons_succ, List.set_cons_zero]; rfl) ?_
  repeat (first | ((with_reducible refine wpM_calm ?_ ?_ ?_ ?_); exact rfl; exact rfl; exact rfl; intro K hK; go_big_quiet_op; go_big_quiet_on) | ((with_reducible refine wpM_skip ?_ ?_); exact rfl; simp only [Act.put, List.setIfInBounds_toArray, List.set_cons_succ, List.set_cons_zero]))
  refine wpM_exact rfl rfl rfl Tryz.func15 (by kernel_rfl) (by kernel_rfl) (fun w1 _ _ => R2.out w1) rfl (by simp only [Act.put, List.setIfInBounds_toArray, List.set_cons_succ, List.set_cons_zero]; rfl) ?_
  repeat (first | ((with_reducible refine wpM_calm ?_ ?_ ?_ ?_); exact rfl; exact rfl; exact rfl; intro K hK; go_big_quiet_op; go_big_quiet_on) | ((with_reducible refine wpM_skip ?_ ?_); exact rfl; simp only [Act.put, List.setIfInBounds_toArray, List.set_cons_succ, List.set_cons_zero]))
  refine wpM_exact rfl rfl rfl Tryz.func16 (by kernel_rfl) (by kernel_rfl) (fun w1 _ _ => R3.out w1) rfl (by simp only [Act.put, List.setIfInBounds_toArray, List.set_cons_succ, List.set_cons_zero]; rfl) ?_
  repeat (first | ((with_reducible refine wpM_calm ?_ ?_ ?_ ?_); exact rfl; exact rfl; exact rfl; intro K hK; go_big_quiet_op; go_big_quiet_on) | ((with_reducible refine wpM_skip ?_ ?_); exact rfl; simp only [Act.put, List.setIfInBounds_toArray, List.set_cons_succ, List.set_cons_zero]))
  refine wpM_exact rfl rfl rfl Tryz.func17 (by kernel_rfl) (by kernel_rfl) (fun w1 _ _ => R4.out w1) rfl (by simp only [Act.put, List.setIfInBounds_toArray, List.set_cons_succ, List.set_cons_zero]; rfl) ?_
  repeat (first | ((with_reducible refine wpM_calm ?_ ?_ ?_ ?_); exact rfl; exact rfl; exact rfl; intro K hK; go_big_quiet_op; go_big_quiet_on) | ((with_reducible refine wpM_skip ?_ ?_); exact rfl; simp only [Act.put, List.setIfInBounds_toArray, List.set_cons_succ, List.set_cons_zero]))
  refine wpM_nil ?_
  intro w5 hb5 _
  replace hb0 := on hb0 hb5
  have HL5 := Lib.hid (HL.out.grown hb0)
  replace q0 := q0.on hb5
  replace q1 := q1.on hb5
  replace q2 := q2.on hb5
  replace q3 := q3.on hb5
  replace q4 := q4.on hb5
  clear hb5 HL2 C0 C1 C2 D00 D01 D02 D10 D11 D12 D20 D21 D22 D30 D31 D32 D40 D41 D42
  obtain ⟨r0, r1, r2, _⟩ := q0.three
  go_wp2_with fail
  refine (M0.out _).mono ?_
  rintro e w6 ⟨rfl, hb6⟩
  replace hb0 := on hb0 hb6
  replace HL5 := Lib.hid (HL5.out.grown hb6)
  replace q1 := q1.on hb6
  replace q2 := q2.on hb6
  replace q3 := q3.on hb6
  replace q4 := q4.on hb6
  clear hb6 r0 r1 r2 q0
  obtain ⟨r0, r1, r2, _⟩ := q1.three
  go_wp2_with fail
  refine (M1.out _).mono ?_
  rintro e w6 ⟨rfl, hb6⟩
  replace hb0 := on hb0 hb6
  replace HL5 := Lib.hid (HL5.out.grown hb6)
  replace q2 := q2.on hb6
  replace q3 := q3.on hb6
  replace q4 := q4.on hb6
  clear hb6 r0 r1 r2 q1
  obtain ⟨r0, r1, r2, _⟩ := q2.three
  go_wp2_with fail
  refine (M2.out _).mono ?_
  rintro e w6 ⟨rfl, hb6⟩
  replace hb0 := on hb0 hb6
  replace HL5 := Lib.hid (HL5.out.grown hb6)
  replace q3 := q3.on hb6
  replace q4 := q4.on hb6
  clear hb6 r0 r1 r2 q2
  obtain ⟨r0, r1, r2, _⟩ := q3.three
  go_wp2_with fail
  refine (M3.out _).mono ?_
  rintro e w6 ⟨rfl, hb6⟩
  replace hb0 := on hb0 hb6
  replace HL5 := Lib.hid (HL5.out.grown hb6)
  replace q4 := q4.on hb6
  clear hb6 r0 r1 r2 q3
  obtain ⟨r0, r1, r2, _⟩ := q4.three
  go_wp2_with fail
  refine (M4.out _).mono ?_
  rintro e w6 ⟨rfl, hb6⟩
  replace hb0 := on hb0 hb6
  replace HL5 := Lib.hid (HL5.out.grown hb6)
  clear hb6 r0 r1 r2 q4
  go_wp2_with fail
  refine (PF.out _).mono ?_
  rintro e w6 ⟨rfl, hb6⟩
  replace hb0 := on hb0 hb6
  replace HL5 := Lib.hid (HL5.out.grown hb6)
  clear hb6
  go_wp2_with fail
  refine (RF.out _).mono ?_
  rintro e w6 ⟨rfl, hb6⟩
  replace hb0 := on hb0 hb6
  replace HL5 := Lib.hid (HL5.out.grown hb6)
  clear hb6
  go_wp2_with fail
  refine (HA.out _ HL5.out).mono ?_
  rintro e w6 ⟨rfl, hb6⟩
  replace hb0 := on hb0 hb6
  go_wp2
  go_ret
  exact ⟨rfl, hb0⟩
theorem makes_law (k n : Int) (t : ByteArray) (b : Bool) (c : Int) (w : World) (hL : PLibs w) : Calls Tryz.prog 3 #[.agg #[.int .i64 k, .int .i64 n, .string t], .bool b, .int .i64 c] w (LawEnd w) := by
  by_cases ht : t.size ≤ 400
  · obtain ⟨⟨kn, nn⟩, hn⟩ : ∃ r, numV n = r := ⟨_, rfl⟩
    obtain ⟨⟨ks, ns, ss⟩, hs⟩ : ∃ r, strV t = r := ⟨_, rfl⟩
    obtain ⟨⟨kg, ng⟩, hg⟩ : ∃ r, gotV n b = r := ⟨_, rfl⟩
    have hmg : mayV kg ng ⟨#[]⟩ = true := by
      cases b
      · obtain ⟨rfl, rfl⟩ := Prod.mk.inj hg; rfl
      · exact may_num hg
    exact makes_core k n c kn nn ks ns (if b then 1 else 0) (badV c) kg ng t ss ⟨(faultL c).toArray⟩ b (mayV k n t) ht
      (Lib.hid fun w1 => num_c n kn nn hn w1) (Lib.hid fun w1 => rnum_c n kn nn hn w1) (Lib.hid fun w1 => mayv_c kn nn _ true (may_num hn) w1)
      (Lib.hid fun w1 => str_c t ks ns ss hs w1) (Lib.hid fun w1 => rstr_c t ks ns ss hs w1) (Lib.hid fun w1 => mayv_c ks ns ss true (may_str hs) w1)
      (Lib.hid fun w1 => bool_c b w1) (Lib.hid fun w1 => rbool_c b w1) (Lib.hid fun w1 => mayv_c 3 _ _ true (may_bool b) w1)
      (Lib.hid fun w1 => bad_c c w1) (Lib.hid fun w1 => rbad_c c w1) (Lib.hid fun w1 => mayv_c 4 _ _ true (may_bad c) w1)
      (Lib.hid fun w1 => got_c n b kg ng hg w1) (Lib.hid fun w1 => rof_c n b kg ng hg w1) (Lib.hid fun w1 => mayv_c kg ng _ true hmg w1)
      (Lib.hid fun w1 => mayv_c k n t _ rfl w1) (Lib.hid fun w1 => rmayv_c k n t _ rfl w1)
      (Lib.hid fun w1 => (fault_c c w1).mono fun e w' ⟨h1, h2⟩ => ⟨h1, h2 ▸ Below.refl _ _⟩) (Lib.hid fun w1 => rfault_c c w1) w hL
  · exact makes_long k n t b c (by omega) w hL
end Go.Proofs.YtkegelhhajfipaaGreatDoor.Val

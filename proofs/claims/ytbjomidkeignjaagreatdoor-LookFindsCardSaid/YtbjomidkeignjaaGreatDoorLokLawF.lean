/- What the statement LookFinds answers: yes, for every table, value and place. Written by wip/gen18m.py. -/
import Derived.Test.YtbjomidkeignjaaGreatDoorLokAlive
namespace Go.Proofs.YtbjomidkeignjaaGreatDoor.Lok
open Go.RowKit Kit Reg Dec Dig Val Fld
open Crt (CLibs LawEnd)

set_option maxRecDepth 100000 in
set_option maxHeartbeats 8000000 in
theorem finds_long (r c : Int) (A : Option Addr) (n cap : Nat) (xk xn : Int) (xt : ByteArray) (q0 q1 : Int) (h : 1200 < n) (w : World) (hL : CLibs w) :
    Calls Tryz.prog 3 #[.agg #[.int .i64 r, .int .i64 c, .slice A n cap], .agg #[.int .i64 xk, .int .i64 xn, .string xt], .agg #[.int .i64 q0, .int .i64 q1]] w (LawEnd w) := by
  have d1 : decide ((1200 : Int) < (n : Int)) = true := decide_eq_true (by omega)
  have d2 : decide (1200 < n) = true := decide_eq_true (by omega)
  have HA := Lib.hid (fun w1 h => life_c w1 h)
  have HL := Lib.hid hL
  have hn0 : 0 ≤ n := Nat.zero_le _
  have ht0 := ((CellsAt.new w [.int .i64 r, .int .i64 c, .slice A n cap] 24).on_alloc (.cells #[.int .i64 xk, .int .i64 xn, .string xt] 26)).on_alloc (.cells #[.int .i64 q0, .int .i64 q1] 27)
  have hx0 := (newAt (w0 := w.alloc (.cells #[.int .i64 r, .int .i64 c, .slice A n cap] 24)) (g := w.heap.size + 1) (by simp) [.int .i64 xk, .int .i64 xn, .string xt] 26).on_alloc (.cells #[.int .i64 q0, .int .i64 q1] 27)
  have hq0 := newAt (w0 := (w.alloc (.cells #[.int .i64 r, .int .i64 c, .slice A n cap] 24)).alloc (.cells #[.int .i64 xk, .int .i64 xn, .string xt] 26)) (g := w.heap.size + 2) (by simp) [.int .i64 q0, .int .i64 q1] 27
  have hb0 := below3 w (.cells #[.int .i64 r, .int .i64 c, .slice A n cap] 24) (.cells #[.int .i64 xk, .int .i64 xn, .string xt] 26) (.cells #[.int .i64 q0, .int .i64 q1] 27)
  clear hL
  obtain ⟨t0, t1, t2, _⟩ := ht0.three
  obtain ⟨x0, x1, x2, _⟩ := hx0.three
  obtain ⟨g0, g1, _⟩ := hq0.two
  go_enter Tryz.func3, Tryz.ntmps3
  have HL1 := Lib.hid (HL.out.grown hb0)
  go_wp2_with fail
  refine (HA.out _ HL1.out).mono ?_
  rintro e w9 ⟨rfl, hb9⟩
  clear t0 t1 t2 x0 x1 x2 g0 g1
  clear ht0 hx0 hq0
  go_wp2
  go_ret
  exact ⟨rfl, on hb0 hb9⟩
set_option maxRecDepth 100000 in
set_option maxHeartbeats 8000000 in
theorem finds_no (r c : Int) (A : Option Addr) (n cap : Nat) (xk xn : Int) (xt : ByteArray) (q0 q1 : Int) (h : n ≤ 1200) (w : World) (HP : ∀ w1, Below w.heap.size w w1 → Calls Tryz.prog 8 #[.agg #[.int .i64 r, .int .i64 c, .slice A n cap]] w1 (Bit false w1)) (HR : ∀ w1, Below w.heap.size w w1 → Calls Tryz.prog 9 #[.agg #[.int .i64 r, .int .i64 c, .slice A n cap]] w1 (Bit false w1)) (hL : CLibs w) :
    Calls Tryz.prog 3 #[.agg #[.int .i64 r, .int .i64 c, .slice A n cap], .agg #[.int .i64 xk, .int .i64 xn, .string xt], .agg #[.int .i64 q0, .int .i64 q1]] w (LawEnd w) := by
  have d1 : decide ((1200 : Int) < (n : Int)) = false := decide_eq_false (by omega)
  have d2 : decide (1200 < n) = false := decide_eq_false (by omega)
  have HP := Lib.hid HP
  have HR := Lib.hid HR
  have HA := Lib.hid (fun w1 h => life_c w1 h)
  have HL := Lib.hid hL
  have hn0 : 0 ≤ n := Nat.zero_le _
  have ht0 := ((CellsAt.new w [.int .i64 r, .int .i64 c, .slice A n cap] 24).on_alloc (.cells #[.int .i64 xk, .int .i64 xn, .string xt] 26)).on_alloc (.cells #[.int .i64 q0, .int .i64 q1] 27)
  have hx0 := (newAt (w0 := w.alloc (.cells #[.int .i64 r, .int .i64 c, .slice A n cap] 24)) (g := w.heap.size + 1) (by simp) [.int .i64 xk, .int .i64 xn, .string xt] 26).on_alloc (.cells #[.int .i64 q0, .int .i64 q1] 27)
  have hq0 := newAt (w0 := (w.alloc (.cells #[.int .i64 r, .int .i64 c, .slice A n cap] 24)).alloc (.cells #[.int .i64 xk, .int .i64 xn, .string xt] 26)) (g := w.heap.size + 2) (by simp) [.int .i64 q0, .int .i64 q1] 27
  have hb0 := below3 w (.cells #[.int .i64 r, .int .i64 c, .slice A n cap] 24) (.cells #[.int .i64 xk, .int .i64 xn, .string xt] 26) (.cells #[.int .i64 q0, .int .i64 q1] 27)
  clear hL
  obtain ⟨t0, t1, t2, _⟩ := ht0.three
  obtain ⟨x0, x1, x2, _⟩ := hx0.three
  obtain ⟨g0, g1, _⟩ := hq0.two
  go_enter Tryz.func3, Tryz.ntmps3
  go_wp2_with fail
  have T0 := fun d os => cell_regrown t0 d os
  have T1 := fun d os => cell_regrown t1 d os
  have T2 := fun d os => cell_regrown t2 d os
  clear t0 t1 t2 x0 x1 x2 g0 g1
  generalize ((w.alloc (.cells #[.int .i64 r, .int .i64 c, .slice A n cap] 24)).alloc (.cells #[.int .i64 xk, .int .i64 xn, .string xt] 26)).alloc (.cells #[.int .i64 q0, .int .i64 q1] 27) = W at *
  refine wp_region_mem 5 (fun d => match d with
    | 17 => some (Is (.bool false))
    | 19 => some (Is (.bool false))
    | _ => none) (by kernel_rfl) (by kernel_rfl) ?_
  simp only [List.take_succ_cons, List.take_zero, List.drop_succ_cons, List.drop_zero]
  repeat (first | ((with_reducible refine wpM_calm ?_ ?_ ?_ ?_); exact rfl; exact rfl; exact rfl; intro K hK; go_big_quiet_op; go_big_quiet_on) | ((with_reducible refine wpM_skip ?_ ?_); exact rfl; simp only [Act.put, List.setIfInBounds_toArray, List.set_cons_succ, List.set_cons_zero]))
  refine wpM_exact rfl rfl rfl Tryz.func8 (by kernel_rfl) (by kernel_rfl) (fun w1 hw1 _ => HP.out w1 (on hb0 hw1)) rfl (by simp only [Act.put, List.setIfInBounds_toArray, List.set_cons_succ, List.set_cons_zero]; rfl) ?_
  repeat (first | ((with_reducible refine wpM_calm ?_ ?_ ?_ ?_); exact rfl; exact rfl; exact rfl; intro K hK; go_big_quiet_op; go_big_quiet_on) | ((with_reducible refine wpM_skip ?_ ?_); exact rfl; simp only [Act.put, List.setIfInBounds_toArray, List.set_cons_succ, List.set_cons_zero]))
  refine wpM_exact rfl rfl rfl Tryz.func9 (by kernel_rfl) (by kernel_rfl) (fun w1 hw1 _ => HR.out w1 (on hb0 hw1)) rfl (by simp only [Act.put, List.setIfInBounds_toArray, List.set_cons_succ, List.set_cons_zero]; rfl) ?_
  repeat (first | ((with_reducible refine wpM_calm ?_ ?_ ?_ ?_); exact rfl; exact rfl; exact rfl; intro K hK; go_big_quiet_op; go_big_quiet_on) | ((with_reducible refine wpM_skip ?_ ?_); exact rfl; simp only [Act.put, List.setIfInBounds_toArray, List.set_cons_succ, List.set_cons_zero]))
  refine wpM_nil ?_
  intro w1 hw1 _
  clear T0 T1 T2
  replace ht0 := ht0.on hw1
  replace hx0 := hx0.on hw1
  replace hq0 := hq0.on hw1
  replace hb0 := on hb0 hw1
  clear hw1 HP
  obtain ⟨t0, t1, t2, _⟩ := ht0.three
  obtain ⟨x0, x1, x2, _⟩ := hx0.three
  obtain ⟨g0, g1, _⟩ := hq0.two
  go_wp2_with fail
  refine (HR.out _ hb0).mono ?_
  rintro e w2 ⟨rfl, hb2⟩
  clear t0 t1 t2 x0 x1 x2 g0 g1
  replace ht0 := ht0.on hb2
  replace hx0 := hx0.on hb2
  replace hq0 := hq0.on hb2
  replace hb0 := on hb0 hb2
  clear hb2 HR
  obtain ⟨t0, t1, t2, _⟩ := ht0.three
  obtain ⟨x0, x1, x2, _⟩ := hx0.three
  obtain ⟨g0, g1, _⟩ := hq0.two
  have HL1 := Lib.hid (HL.out.grown hb0)
  go_wp2_with fail
  refine (HA.out _ HL1.out).mono ?_
  rintro e w9 ⟨rfl, hb9⟩
  clear t0 t1 t2 x0 x1 x2 g0 g1
  clear ht0 hx0 hq0
  go_wp2
  go_ret
  exact ⟨rfl, on hb0 hb9⟩
set_option maxRecDepth 100000 in
set_option maxHeartbeats 8000000 in
theorem finds_x (r c : Int) (A : Option Addr) (n cap : Nat) (xk xn : Int) (xt : ByteArray) (q0 q1 : Int) (h : n ≤ 1200) (w : World) (HP : ∀ w1, Below w.heap.size w w1 → Calls Tryz.prog 8 #[.agg #[.int .i64 r, .int .i64 c, .slice A n cap]] w1 (Bit true w1)) (HR : ∀ w1, Below w.heap.size w w1 → Calls Tryz.prog 9 #[.agg #[.int .i64 r, .int .i64 c, .slice A n cap]] w1 (Bit true w1)) (HX : ∀ w1, Calls Tryz.prog 10 #[.agg #[.int .i64 xk, .int .i64 xn, .string xt]] w1 (Bit false w1)) (hL : CLibs w) :
    Calls Tryz.prog 3 #[.agg #[.int .i64 r, .int .i64 c, .slice A n cap], .agg #[.int .i64 xk, .int .i64 xn, .string xt], .agg #[.int .i64 q0, .int .i64 q1]] w (LawEnd w) := by
  have d1 : decide ((1200 : Int) < (n : Int)) = false := decide_eq_false (by omega)
  have d2 : decide (1200 < n) = false := decide_eq_false (by omega)
  have HP := Lib.hid HP
  have HR := Lib.hid HR
  have HX := Lib.hid HX
  have HA := Lib.hid (fun w1 h => life_c w1 h)
  have HL := Lib.hid hL
  have hn0 : 0 ≤ n := Nat.zero_le _
  have ht0 := ((CellsAt.new w [.int .i64 r, .int .i64 c, .slice A n cap] 24).on_alloc (.cells #[.int .i64 xk, .int .i64 xn, .string xt] 26)).on_alloc (.cells #[.int .i64 q0, .int .i64 q1] 27)
  have hx0 := (newAt (w0 := w.alloc (.cells #[.int .i64 r, .int .i64 c, .slice A n cap] 24)) (g := w.heap.size + 1) (by simp) [.int .i64 xk, .int .i64 xn, .string xt] 26).on_alloc (.cells #[.int .i64 q0, .int .i64 q1] 27)
  have hq0 := newAt (w0 := (w.alloc (.cells #[.int .i64 r, .int .i64 c, .slice A n cap] 24)).alloc (.cells #[.int .i64 xk, .int .i64 xn, .string xt] 26)) (g := w.heap.size + 2) (by simp) [.int .i64 q0, .int .i64 q1] 27
  have hb0 := below3 w (.cells #[.int .i64 r, .int .i64 c, .slice A n cap] 24) (.cells #[.int .i64 xk, .int .i64 xn, .string xt] 26) (.cells #[.int .i64 q0, .int .i64 q1] 27)
  clear hL
  obtain ⟨t0, t1, t2, _⟩ := ht0.three
  obtain ⟨x0, x1, x2, _⟩ := hx0.three
  obtain ⟨g0, g1, _⟩ := hq0.two
  go_enter Tryz.func3, Tryz.ntmps3
  go_wp2_with fail
  have T0 := fun d os => cell_regrown t0 d os
  have T1 := fun d os => cell_regrown t1 d os
  have T2 := fun d os => cell_regrown t2 d os
  clear t0 t1 t2 x0 x1 x2 g0 g1
  generalize ((w.alloc (.cells #[.int .i64 r, .int .i64 c, .slice A n cap] 24)).alloc (.cells #[.int .i64 xk, .int .i64 xn, .string xt] 26)).alloc (.cells #[.int .i64 q0, .int .i64 q1] 27) = W at *
  refine wp_region_mem 5 (fun d => match d with
    | 17 => some (Is (.bool true))
    | 19 => some (Is (.bool true))
    | _ => none) (by kernel_rfl) (by kernel_rfl) ?_
  simp only [List.take_succ_cons, List.take_zero, List.drop_succ_cons, List.drop_zero]
  repeat (first | ((with_reducible refine wpM_calm ?_ ?_ ?_ ?_); exact rfl; exact rfl; exact rfl; intro K hK; go_big_quiet_op; go_big_quiet_on) | ((with_reducible refine wpM_skip ?_ ?_); exact rfl; simp only [Act.put, List.setIfInBounds_toArray, List.set_cons_succ, List.set_cons_zero]))
  refine wpM_exact rfl rfl rfl Tryz.func8 (by kernel_rfl) (by kernel_rfl) (fun w1 hw1 _ => HP.out w1 (on hb0 hw1)) rfl (by simp only [Act.put, List.setIfInBounds_toArray, List.set_cons_succ, List.set_cons_zero]; rfl) ?_
  repeat (first | ((with_reducible refine wpM_calm ?_ ?_ ?_ ?_); exact rfl; exact rfl; exact rfl; intro K hK; go_big_quiet_op; go_big_quiet_on) | ((with_reducible refine wpM_skip ?_ ?_); exact rfl; simp only [Act.put, List.setIfInBounds_toArray, List.set_cons_succ, List.set_cons_zero]))
  refine wpM_exact rfl rfl rfl Tryz.func9 (by kernel_rfl) (by kernel_rfl) (fun w1 hw1 _ => HR.out w1 (on hb0 hw1)) rfl (by simp only [Act.put, List.setIfInBounds_toArray, List.set_cons_succ, List.set_cons_zero]; rfl) ?_
  repeat (first | ((with_reducible refine wpM_calm ?_ ?_ ?_ ?_); exact rfl; exact rfl; exact rfl; intro K hK; go_big_quiet_op; go_big_quiet_on) | ((with_reducible refine wpM_skip ?_ ?_); exact rfl; simp only [Act.put, List.setIfInBounds_toArray, List.set_cons_succ, List.set_cons_zero]))
  refine wpM_nil ?_
  intro w1 hw1 _
  clear T0 T1 T2
  replace ht0 := ht0.on hw1
  replace hx0 := hx0.on hw1
  replace hq0 := hq0.on hw1
  replace hb0 := on hb0 hw1
  clear hw1 HP
  obtain ⟨t0, t1, t2, _⟩ := ht0.three
  obtain ⟨x0, x1, x2, _⟩ := hx0.three
  obtain ⟨g0, g1, _⟩ := hq0.two
  go_wp2_with fail
  refine (HR.out _ hb0).mono ?_
  rintro e w2 ⟨rfl, hb2⟩
  clear t0 t1 t2 x0 x1 x2 g0 g1
  replace ht0 := ht0.on hb2
  replace hx0 := hx0.on hb2
  replace hq0 := hq0.on hb2
  replace hb0 := on hb0 hb2
  clear hb2 HR
  obtain ⟨t0, t1, t2, _⟩ := ht0.three
  obtain ⟨x0, x1, x2, _⟩ := hx0.three
  obtain ⟨g0, g1, _⟩ := hq0.two
  go_wp2_with fail
  refine (HX.out _).mono ?_
  rintro e w3 ⟨rfl, hb3⟩
  clear t0 t1 t2 x0 x1 x2 g0 g1
  replace ht0 := ht0.on hb3
  replace hx0 := hx0.on hb3
  replace hq0 := hq0.on hb3
  replace hb0 := on hb0 hb3
  clear hb3 HX
  obtain ⟨t0, t1, t2, _⟩ := ht0.three
  obtain ⟨x0, x1, x2, _⟩ := hx0.three
  obtain ⟨g0, g1, _⟩ := hq0.two
  have HL1 := Lib.hid (HL.out.grown hb0)
  go_wp2_with fail
  refine (HA.out _ HL1.out).mono ?_
  rintro e w9 ⟨rfl, hb9⟩
  clear t0 t1 t2 x0 x1 x2 g0 g1
  clear ht0 hx0 hq0
  go_wp2
  go_ret
  exact ⟨rfl, on hb0 hb9⟩
set_option maxRecDepth 100000 in
set_option maxHeartbeats 8000000 in
theorem finds_in (r c : Int) (A : Option Addr) (n cap : Nat) (xk xn : Int) (xt : ByteArray) (q0 q1 : Int) (vk vn : Int) (vt : ByteArray) (h : n ≤ 1200) (w : World) (HP : ∀ w1, Below w.heap.size w w1 → Calls Tryz.prog 8 #[.agg #[.int .i64 r, .int .i64 c, .slice A n cap]] w1 (Bit true w1)) (HR : ∀ w1, Below w.heap.size w w1 → Calls Tryz.prog 9 #[.agg #[.int .i64 r, .int .i64 c, .slice A n cap]] w1 (Bit true w1)) (HX : ∀ w1, Calls Tryz.prog 10 #[.agg #[.int .i64 xk, .int .i64 xn, .string xt]] w1 (Bit true w1)) (HAt : ∀ w1, Below w.heap.size w w1 → Calls Tryz.prog 11 #[.agg #[.int .i64 r, .int .i64 c, .slice A n cap], .int .i64 q0, .int .i64 q1] w1 (AtIs (⟨vk, vn, vt⟩ : Vl) true w1)) (HIn : ∀ w1, Calls Tryz.prog 12 #[.agg #[.int .i64 r, .int .i64 c, .slice A n cap], .int .i64 q0, .int .i64 q1] w1 (Bit true w1)) (HRA : ∀ w1, Below w.heap.size w w1 → Calls Tryz.prog 13 #[.agg #[.int .i64 r, .int .i64 c, .slice A n cap], .int .i64 q0, .int .i64 q1] w1 (ValIs vk vn vt w1)) (m : Int) (is : Bool) (him : decide (0 < m) = is) (HMt : ∀ w1, Below w.heap.size w w1 → Calls Tryz.prog 14 #[.agg #[.int .i64 xk, .int .i64 xn, .string xt], .agg #[.int .i64 r, .int .i64 c, .slice A n cap]] w1 (PlaceIs m is w1)) (HRM : ∀ w1, Below w.heap.size w w1 → Calls Tryz.prog 15 #[.agg #[.int .i64 xk, .int .i64 xn, .string xt], .agg #[.int .i64 r, .int .i64 c, .slice A n cap]] w1 fun e w' => e = .returned (.int .i64 m) ∧ Below w1.heap.size w1 w') (hL : CLibs w) :
    Calls Tryz.prog 3 #[.agg #[.int .i64 r, .int .i64 c, .slice A n cap], .agg #[.int .i64 xk, .int .i64 xn, .string xt], .agg #[.int .i64 q0, .int .i64 q1]] w (LawEnd w) := by
  have d1 : decide ((1200 : Int) < (n : Int)) = false := decide_eq_false (by omega)
  have d2 : decide (1200 < n) = false := decide_eq_false (by omega)
  have HP := Lib.hid HP
  have HR := Lib.hid HR
  have HX := Lib.hid HX
  have HAt := Lib.hid HAt
  have HIn := Lib.hid HIn
  have HMt := Lib.hid HMt
  have HRM := Lib.hid HRM
  have HRA := Lib.hid HRA
  have HA := Lib.hid (fun w1 h => life_c w1 h)
  have HL := Lib.hid hL
  have hn0 : 0 ≤ n := Nat.zero_le _
  have ht0 := ((CellsAt.new w [.int .i64 r, .int .i64 c, .slice A n cap] 24).on_alloc (.cells #[.int .i64 xk, .int .i64 xn, .string xt] 26)).on_alloc (.cells #[.int .i64 q0, .int .i64 q1] 27)
  have hx0 := (newAt (w0 := w.alloc (.cells #[.int .i64 r, .int .i64 c, .slice A n cap] 24)) (g := w.heap.size + 1) (by simp) [.int .i64 xk, .int .i64 xn, .string xt] 26).on_alloc (.cells #[.int .i64 q0, .int .i64 q1] 27)
  have hq0 := newAt (w0 := (w.alloc (.cells #[.int .i64 r, .int .i64 c, .slice A n cap] 24)).alloc (.cells #[.int .i64 xk, .int .i64 xn, .string xt] 26)) (g := w.heap.size + 2) (by simp) [.int .i64 q0, .int .i64 q1] 27
  have hb0 := below3 w (.cells #[.int .i64 r, .int .i64 c, .slice A n cap] 24) (.cells #[.int .i64 xk, .int .i64 xn, .string xt] 26) (.cells #[.int .i64 q0, .int .i64 q1] 27)
  clear hL
  obtain ⟨t0, t1, t2, _⟩ := ht0.three
  obtain ⟨x0, x1, x2, _⟩ := hx0.three
  obtain ⟨g0, g1, _⟩ := hq0.two
  go_enter Tryz.func3, Tryz.ntmps3
  go_wp2_with fail
  have T0 := fun d os => cell_regrown t0 d os
  have T1 := fun d os => cell_regrown t1 d os
  have T2 := fun d os => cell_regrown t2 d os
  clear t0 t1 t2 x0 x1 x2 g0 g1
  generalize ((w.alloc (.cells #[.int .i64 r, .int .i64 c, .slice A n cap] 24)).alloc (.cells #[.int .i64 xk, .int .i64 xn, .string xt] 26)).alloc (.cells #[.int .i64 q0, .int .i64 q1] 27) = W at *
  refine wp_region_mem 5 (fun d => match d with
    | 17 => some (Is (.bool true))
    | 19 => some (Is (.bool true))
    | _ => none) (by kernel_rfl) (by kernel_rfl) ?_
  simp only [List.take_succ_cons, List.take_zero, List.drop_succ_cons, List.drop_zero]
  repeat (first | ((with_reducible refine wpM_calm ?_ ?_ ?_ ?_); exact rfl; exact rfl; exact rfl; intro K hK; go_big_quiet_op; go_big_quiet_on) | ((with_reducible refine wpM_skip ?_ ?_); exact rfl; simp only [Act.put, List.setIfInBounds_toArray, List.set_cons_succ, List.set_cons_zero]))
  refine wpM_exact rfl rfl rfl Tryz.func8 (by kernel_rfl) (by kernel_rfl) (fun w1 hw1 _ => HP.out w1 (on hb0 hw1)) rfl (by simp only [Act.put, List.setIfInBounds_toArray, List.set_cons_succ, List.set_cons_zero]; rfl) ?_
  repeat (first | ((with_reducible refine wpM_calm ?_ ?_ ?_ ?_); exact rfl; exact rfl; exact rfl; intro K hK; go_big_quiet_op; go_big_quiet_on) | ((with_reducible refine wpM_skip ?_ ?_); exact rfl; simp only [Act.put, List.setIfInBounds_toArray, List.set_cons_succ, List.set_cons_zero]))
  refine wpM_exact rfl rfl rfl Tryz.func9 (by kernel_rfl) (by kernel_rfl) (fun w1 hw1 _ => HR.out w1 (on hb0 hw1)) rfl (by simp only [Act.put, List.setIfInBounds_toArray, List.set_cons_succ, List.set_cons_zero]; rfl) ?_
  repeat (first | ((with_reducible refine wpM_calm ?_ ?_ ?_ ?_); exact rfl; exact rfl; exact rfl; intro K hK; go_big_quiet_op; go_big_quiet_on) | ((with_reducible refine wpM_skip ?_ ?_); exact rfl; simp only [Act.put, List.setIfInBounds_toArray, List.set_cons_succ, List.set_cons_zero]))
  refine wpM_nil ?_
  intro w1 hw1 _
  clear T0 T1 T2
  replace ht0 := ht0.on hw1
  replace hx0 := hx0.on hw1
  replace hq0 := hq0.on hw1
  replace hb0 := on hb0 hw1
  clear hw1 HP
  obtain ⟨t0, t1, t2, _⟩ := ht0.three
  obtain ⟨x0, x1, x2, _⟩ := hx0.three
  obtain ⟨g0, g1, _⟩ := hq0.two
  go_wp2_with fail
  refine (HR.out _ hb0).mono ?_
  rintro e w2 ⟨rfl, hb2⟩
  clear t0 t1 t2 x0 x1 x2 g0 g1
  replace ht0 := ht0.on hb2
  replace hx0 := hx0.on hb2
  replace hq0 := hq0.on hb2
  replace hb0 := on hb0 hb2
  clear hb2 HR
  obtain ⟨t0, t1, t2, _⟩ := ht0.three
  obtain ⟨x0, x1, x2, _⟩ := hx0.three
  obtain ⟨g0, g1, _⟩ := hq0.two
  go_wp2_with fail
  refine (HX.out _).mono ?_
  rintro e w3 ⟨rfl, hb3⟩
  clear t0 t1 t2 x0 x1 x2 g0 g1
  replace ht0 := ht0.on hb3
  replace hx0 := hx0.on hb3
  replace hq0 := hq0.on hb3
  replace hb0 := on hb0 hb3
  clear hb3 HX
  obtain ⟨t0, t1, t2, _⟩ := ht0.three
  obtain ⟨x0, x1, x2, _⟩ := hx0.three
  obtain ⟨g0, g1, _⟩ := hq0.two
  go_wp2_with fail
  refine (HAt.out _ hb0).mono ?_
  rintro e w4 ⟨rfl, hb4⟩
  try dsimp only
  clear t0 t1 t2 x0 x1 x2 g0 g1
  replace ht0 := ht0.on hb4
  replace hx0 := hx0.on hb4
  replace hq0 := hq0.on hb4
  replace hb0 := on hb0 hb4
  have hv0 := CellsAt.new w4 [.int .i64 vk, .int .i64 vn, .string vt] 26
  replace ht0 := ht0.on_alloc (.cells #[.int .i64 vk, .int .i64 vn, .string vt] 26)
  replace hx0 := hx0.on_alloc (.cells #[.int .i64 vk, .int .i64 vn, .string vt] 26)
  replace hq0 := hq0.on_alloc (.cells #[.int .i64 vk, .int .i64 vn, .string vt] 26)
  replace hb0 := on_alloc hb0 (.cells #[.int .i64 vk, .int .i64 vn, .string vt] 26)
  clear hb4 HAt
  obtain ⟨t0, t1, t2, _⟩ := ht0.three
  obtain ⟨x0, x1, x2, _⟩ := hx0.three
  obtain ⟨g0, g1, _⟩ := hq0.two
  obtain ⟨v0, v1, v2, _⟩ := hv0.three
  go_wp2_with fail
  generalize w4.alloc (.cells #[.int .i64 vk, .int .i64 vn, .string vt] 26) = W4 at *
  have T0 := fun d os => cell_regrown t0 d os
  have T1 := fun d os => cell_regrown t1 d os
  have T2 := fun d os => cell_regrown t2 d os
  have G0 := fun d os => cell_regrown g0 d os
  have G1 := fun d os => cell_regrown g1 d os
  have V0 := fun d os => cell_regrown v0 d os
  have V1 := fun d os => cell_regrown v1 d os
  have V2 := fun d os => cell_regrown v2 d os
  clear t0 t1 t2 x0 x1 x2 g0 g1
  clear v0 v1 v2 hv0
  refine wp_region_mem 30 (fun d => match d with
    | 45 => some (Is (.bool true))
    | 56 => some (Is (.agg #[.int .i64 vk, .int .i64 vn, .string vt]))
    | _ => none) (by kernel_rfl) (by kernel_rfl) ?_
  try simp only [List.append]
  simp only [List.take_succ_cons, List.take_zero, List.drop_succ_cons, List.drop_zero]
  repeat (first | ((with_reducible refine wpM_calm ?_ ?_ ?_ ?_); exact rfl; exact rfl; exact rfl; intro K hK; go_big_quiet_op; go_big_quiet_on) | ((with_reducible refine wpM_skip ?_ ?_); exact rfl; simp only [Act.put, List.setIfInBounds_toArray, List.set_cons_succ, List.set_cons_zero]))
  refine wpM_exact rfl rfl rfl Tryz.func12 (by kernel_rfl) (by kernel_rfl) (fun w1 _ _ => HIn.out w1) rfl (by simp only [Act.put, List.setIfInBounds_toArray, List.set_cons_succ, List.set_cons_zero]; rfl) ?_
  repeat (first | ((with_reducible refine wpM_calm ?_ ?_ ?_ ?_); exact rfl; exact rfl; exact rfl; intro K hK; go_big_quiet_op; go_big_quiet_on) | ((with_reducible refine wpM_skip ?_ ?_); exact rfl; simp only [Act.put, List.setIfInBounds_toArray, List.set_cons_succ, List.set_cons_zero]))
  refine wpM_exact rfl rfl rfl Tryz.func13 (by kernel_rfl) (by kernel_rfl) (fun w1 hw1 _ => HRA.out w1 (on hb0 hw1)) rfl (by simp only [Act.put, List.setIfInBounds_toArray, List.set_cons_succ, List.set_cons_zero]; rfl) ?_
  repeat (first | ((with_reducible refine wpM_calm ?_ ?_ ?_ ?_); exact rfl; exact rfl; exact rfl; intro K hK; go_big_quiet_op; go_big_quiet_on) | ((with_reducible refine wpM_skip ?_ ?_); exact rfl; simp only [Act.put, List.setIfInBounds_toArray, List.set_cons_succ, List.set_cons_zero]))
  refine wpM_nil ?_
  intro w5 hw5 _
  clear T0 T1 T2 G0 G1 V0 V1 V2
  replace ht0 := ht0.on hw5
  replace hx0 := hx0.on hw5
  replace hq0 := hq0.on hw5
  replace hb0 := on hb0 hw5
  clear hw5 HIn HRA
  obtain ⟨t0, t1, t2, _⟩ := ht0.three
  obtain ⟨x0, x1, x2, _⟩ := hx0.three
  obtain ⟨g0, g1, _⟩ := hq0.two
  go_wp2_with fail
  refine (HMt.out _ hb0).mono ?_
  rintro e w6 ⟨rfl, hb6⟩
  clear t0 t1 t2 x0 x1 x2 g0 g1
  replace ht0 := ht0.on hb6
  replace hx0 := hx0.on hb6
  replace hq0 := hq0.on hb6
  replace hb0 := on hb0 hb6
  clear hb6 HMt
  obtain ⟨t0, t1, t2, _⟩ := ht0.three
  obtain ⟨x0, x1, x2, _⟩ := hx0.three
  obtain ⟨g0, g1, _⟩ := hq0.two
  go_wp2_with fail
  refine (HRM.out _ hb0).mono ?_
  rintro e w7 ⟨rfl, hb7⟩
  clear t0 t1 t2 x0 x1 x2 g0 g1
  replace ht0 := ht0.on hb7
  replace hx0 := hx0.on hb7
  replace hq0 := hq0.on hb7
  replace hb0 := on hb0 hb7
  clear hb7 HRM
  obtain ⟨t0, t1, t2, _⟩ := ht0.three
  obtain ⟨x0, x1, x2, _⟩ := hx0.three
  obtain ⟨g0, g1, _⟩ := hq0.two
  have HL1 := Lib.hid (HL.out.grown hb0)
  cases is
  all_goals
    go_wp2_with fail
    refine (HA.out _ HL1.out).mono ?_
    rintro e w9 ⟨rfl, hb9⟩
    clear t0 t1 t2 x0 x1 x2 g0 g1 ht0 hx0 hq0
    go_wp2
    go_ret
    exact ⟨rfl, on hb0 hb9⟩
set_option maxRecDepth 100000 in
set_option maxHeartbeats 8000000 in
theorem finds_out (r c : Int) (A : Option Addr) (n cap : Nat) (xk xn : Int) (xt : ByteArray) (q0 q1 : Int) (h : n ≤ 1200) (w : World) (HP : ∀ w1, Below w.heap.size w w1 → Calls Tryz.prog 8 #[.agg #[.int .i64 r, .int .i64 c, .slice A n cap]] w1 (Bit true w1)) (HR : ∀ w1, Below w.heap.size w w1 → Calls Tryz.prog 9 #[.agg #[.int .i64 r, .int .i64 c, .slice A n cap]] w1 (Bit true w1)) (HX : ∀ w1, Calls Tryz.prog 10 #[.agg #[.int .i64 xk, .int .i64 xn, .string xt]] w1 (Bit true w1)) (HAt : ∀ w1, Below w.heap.size w w1 → Calls Tryz.prog 11 #[.agg #[.int .i64 r, .int .i64 c, .slice A n cap], .int .i64 q0, .int .i64 q1] w1 (AtIs zeroVl false w1)) (HIn : ∀ w1, Calls Tryz.prog 12 #[.agg #[.int .i64 r, .int .i64 c, .slice A n cap], .int .i64 q0, .int .i64 q1] w1 (Bit false w1)) (m : Int) (is : Bool) (him : decide (0 < m) = is) (HMt : ∀ w1, Below w.heap.size w w1 → Calls Tryz.prog 14 #[.agg #[.int .i64 xk, .int .i64 xn, .string xt], .agg #[.int .i64 r, .int .i64 c, .slice A n cap]] w1 (PlaceIs m is w1)) (HRM : ∀ w1, Below w.heap.size w w1 → Calls Tryz.prog 15 #[.agg #[.int .i64 xk, .int .i64 xn, .string xt], .agg #[.int .i64 r, .int .i64 c, .slice A n cap]] w1 fun e w' => e = .returned (.int .i64 m) ∧ Below w1.heap.size w1 w') (hL : CLibs w) :
    Calls Tryz.prog 3 #[.agg #[.int .i64 r, .int .i64 c, .slice A n cap], .agg #[.int .i64 xk, .int .i64 xn, .string xt], .agg #[.int .i64 q0, .int .i64 q1]] w (LawEnd w) := by
  have d1 : decide ((1200 : Int) < (n : Int)) = false := decide_eq_false (by omega)
  have d2 : decide (1200 < n) = false := decide_eq_false (by omega)
  have HP := Lib.hid HP
  have HR := Lib.hid HR
  have HX := Lib.hid HX
  have HAt := Lib.hid HAt
  have HIn := Lib.hid HIn
  have HMt := Lib.hid HMt
  have HRM := Lib.hid HRM
  have HA := Lib.hid (fun w1 h => life_c w1 h)
  have HL := Lib.hid hL
  have hn0 : 0 ≤ n := Nat.zero_le _
  have ht0 := ((CellsAt.new w [.int .i64 r, .int .i64 c, .slice A n cap] 24).on_alloc (.cells #[.int .i64 xk, .int .i64 xn, .string xt] 26)).on_alloc (.cells #[.int .i64 q0, .int .i64 q1] 27)
  have hx0 := (newAt (w0 := w.alloc (.cells #[.int .i64 r, .int .i64 c, .slice A n cap] 24)) (g := w.heap.size + 1) (by simp) [.int .i64 xk, .int .i64 xn, .string xt] 26).on_alloc (.cells #[.int .i64 q0, .int .i64 q1] 27)
  have hq0 := newAt (w0 := (w.alloc (.cells #[.int .i64 r, .int .i64 c, .slice A n cap] 24)).alloc (.cells #[.int .i64 xk, .int .i64 xn, .string xt] 26)) (g := w.heap.size + 2) (by simp) [.int .i64 q0, .int .i64 q1] 27
  have hb0 := below3 w (.cells #[.int .i64 r, .int .i64 c, .slice A n cap] 24) (.cells #[.int .i64 xk, .int .i64 xn, .string xt] 26) (.cells #[.int .i64 q0, .int .i64 q1] 27)
  clear hL
  obtain ⟨t0, t1, t2, _⟩ := ht0.three
  obtain ⟨x0, x1, x2, _⟩ := hx0.three
  obtain ⟨g0, g1, _⟩ := hq0.two
  go_enter Tryz.func3, Tryz.ntmps3
  go_wp2_with fail
  have T0 := fun d os => cell_regrown t0 d os
  have T1 := fun d os => cell_regrown t1 d os
  have T2 := fun d os => cell_regrown t2 d os
  clear t0 t1 t2 x0 x1 x2 g0 g1
  generalize ((w.alloc (.cells #[.int .i64 r, .int .i64 c, .slice A n cap] 24)).alloc (.cells #[.int .i64 xk, .int .i64 xn, .string xt] 26)).alloc (.cells #[.int .i64 q0, .int .i64 q1] 27) = W at *
  refine wp_region_mem 5 (fun d => match d with
    | 17 => some (Is (.bool true))
    | 19 => some (Is (.bool true))
    | _ => none) (by kernel_rfl) (by kernel_rfl) ?_
  simp only [List.take_succ_cons, List.take_zero, List.drop_succ_cons, List.drop_zero]
  repeat (first | ((with_reducible refine wpM_calm ?_ ?_ ?_ ?_); exact rfl; exact rfl; exact rfl; intro K hK; go_big_quiet_op; go_big_quiet_on) | ((with_reducible refine wpM_skip ?_ ?_); exact rfl; simp only [Act.put, List.setIfInBounds_toArray, List.set_cons_succ, List.set_cons_zero]))
  refine wpM_exact rfl rfl rfl Tryz.func8 (by kernel_rfl) (by kernel_rfl) (fun w1 hw1 _ => HP.out w1 (on hb0 hw1)) rfl (by simp only [Act.put, List.setIfInBounds_toArray, List.set_cons_succ, List.set_cons_zero]; rfl) ?_
  repeat (first | ((with_reducible refine wpM_calm ?_ ?_ ?_ ?_); exact rfl; exact rfl; exact rfl; intro K hK; go_big_quiet_op; go_big_quiet_on) | ((with_reducible refine wpM_skip ?_ ?_); exact rfl; simp only [Act.put, List.setIfInBounds_toArray, List.set_cons_succ, List.set_cons_zero]))
  refine wpM_exact rfl rfl rfl Tryz.func9 (by kernel_rfl) (by kernel_rfl) (fun w1 hw1 _ => HR.out w1 (on hb0 hw1)) rfl (by simp only [Act.put, List.setIfInBounds_toArray, List.set_cons_succ, List.set_cons_zero]; rfl) ?_
  repeat (first | ((with_reducible refine wpM_calm ?_ ?_ ?_ ?_); exact rfl; exact rfl; exact rfl; intro K hK; go_big_quiet_op; go_big_quiet_on) | ((with_reducible refine wpM_skip ?_ ?_); exact rfl; simp only [Act.put, List.setIfInBounds_toArray, List.set_cons_succ, List.set_cons_zero]))
  refine wpM_nil ?_
  intro w1 hw1 _
  clear T0 T1 T2
  replace ht0 := ht0.on hw1
  replace hx0 := hx0.on hw1
  replace hq0 := hq0.on hw1
  replace hb0 := on hb0 hw1
  clear hw1 HP
  obtain ⟨t0, t1, t2, _⟩ := ht0.three
  obtain ⟨x0, x1, x2, _⟩ := hx0.three
  obtain ⟨g0, g1, _⟩ := hq0.two
  go_wp2_with fail
  refine (HR.out _ hb0).mono ?_
  rintro e w2 ⟨rfl, hb2⟩
  clear t0 t1 t2 x0 x1 x2 g0 g1
  replace ht0 := ht0.on hb2
  replace hx0 := hx0.on hb2
  replace hq0 := hq0.on hb2
  replace hb0 := on hb0 hb2
  clear hb2 HR
  obtain ⟨t0, t1, t2, _⟩ := ht0.three
  obtain ⟨x0, x1, x2, _⟩ := hx0.three
  obtain ⟨g0, g1, _⟩ := hq0.two
  go_wp2_with fail
  refine (HX.out _).mono ?_
  rintro e w3 ⟨rfl, hb3⟩
  clear t0 t1 t2 x0 x1 x2 g0 g1
  replace ht0 := ht0.on hb3
  replace hx0 := hx0.on hb3
  replace hq0 := hq0.on hb3
  replace hb0 := on hb0 hb3
  clear hb3 HX
  obtain ⟨t0, t1, t2, _⟩ := ht0.three
  obtain ⟨x0, x1, x2, _⟩ := hx0.three
  obtain ⟨g0, g1, _⟩ := hq0.two
  go_wp2_with fail
  refine (HAt.out _ hb0).mono ?_
  rintro e w4 ⟨rfl, hb4⟩
  try dsimp only
  clear t0 t1 t2 x0 x1 x2 g0 g1
  replace ht0 := ht0.on hb4
  replace hx0 := hx0.on hb4
  replace hq0 := hq0.on hb4
  replace hb0 := on hb0 hb4
  have hv0 := CellsAt.new w4 [.int .i64 0, .int .i64 0, .string ⟨#[]⟩] 26
  replace ht0 := ht0.on_alloc (.cells #[.int .i64 0, .int .i64 0, .string ⟨#[]⟩] 26)
  replace hx0 := hx0.on_alloc (.cells #[.int .i64 0, .int .i64 0, .string ⟨#[]⟩] 26)
  replace hq0 := hq0.on_alloc (.cells #[.int .i64 0, .int .i64 0, .string ⟨#[]⟩] 26)
  replace hb0 := on_alloc hb0 (.cells #[.int .i64 0, .int .i64 0, .string ⟨#[]⟩] 26)
  clear hb4 HAt
  obtain ⟨t0, t1, t2, _⟩ := ht0.three
  obtain ⟨x0, x1, x2, _⟩ := hx0.three
  obtain ⟨g0, g1, _⟩ := hq0.two
  obtain ⟨v0, v1, v2, _⟩ := hv0.three
  try unfold zeroVl
  go_wp2_with fail
  generalize w4.alloc (.cells #[.int .i64 0, .int .i64 0, .string ⟨#[]⟩] 26) = W4 at *
  have T0 := fun d os => cell_regrown t0 d os
  have T1 := fun d os => cell_regrown t1 d os
  have T2 := fun d os => cell_regrown t2 d os
  have G0 := fun d os => cell_regrown g0 d os
  have G1 := fun d os => cell_regrown g1 d os
  have V0 := fun d os => cell_regrown v0 d os
  have V1 := fun d os => cell_regrown v1 d os
  have V2 := fun d os => cell_regrown v2 d os
  clear t0 t1 t2 x0 x1 x2 g0 g1
  clear v0 v1 v2 hv0
  refine wp_region_mem 30 (fun d => match d with
    | 45 => some (Is (.bool false))
    | _ => none) (by kernel_rfl) (by kernel_rfl) ?_
  try simp only [List.append]
  simp only [List.take_succ_cons, List.take_zero, List.drop_succ_cons, List.drop_zero]
  repeat (first | ((with_reducible refine wpM_calm ?_ ?_ ?_ ?_); exact rfl; exact rfl; exact rfl; intro K hK; go_big_quiet_op; go_big_quiet_on) | ((with_reducible refine wpM_skip ?_ ?_); exact rfl; simp only [Act.put, List.setIfInBounds_toArray, List.set_cons_succ, List.set_cons_zero]))
  refine wpM_exact rfl rfl rfl Tryz.func12 (by kernel_rfl) (by kernel_rfl) (fun w1 _ _ => HIn.out w1) rfl (by simp only [Act.put, List.setIfInBounds_toArray, List.set_cons_succ, List.set_cons_zero]; rfl) ?_
  repeat (first | ((with_reducible refine wpM_calm ?_ ?_ ?_ ?_); exact rfl; exact rfl; exact rfl; intro K hK; go_big_quiet_op; go_big_quiet_on) | ((with_reducible refine wpM_skip ?_ ?_); exact rfl; simp only [Act.put, List.setIfInBounds_toArray, List.set_cons_succ, List.set_cons_zero]))
  refine wpM_nil ?_
  intro w5 hw5 _
  clear T0 T1 T2 G0 G1 V0 V1 V2
  replace ht0 := ht0.on hw5
  replace hx0 := hx0.on hw5
  replace hq0 := hq0.on hw5
  replace hb0 := on hb0 hw5
  clear hw5 HIn
  obtain ⟨t0, t1, t2, _⟩ := ht0.three
  obtain ⟨x0, x1, x2, _⟩ := hx0.three
  obtain ⟨g0, g1, _⟩ := hq0.two
  go_wp2_with fail
  refine (HMt.out _ hb0).mono ?_
  rintro e w6 ⟨rfl, hb6⟩
  clear t0 t1 t2 x0 x1 x2 g0 g1
  replace ht0 := ht0.on hb6
  replace hx0 := hx0.on hb6
  replace hq0 := hq0.on hb6
  replace hb0 := on hb0 hb6
  clear hb6 HMt
  obtain ⟨t0, t1, t2, _⟩ := ht0.three
  obtain ⟨x0, x1, x2, _⟩ := hx0.three
  obtain ⟨g0, g1, _⟩ := hq0.two
  go_wp2_with fail
  refine (HRM.out _ hb0).mono ?_
  rintro e w7 ⟨rfl, hb7⟩
  clear t0 t1 t2 x0 x1 x2 g0 g1
  replace ht0 := ht0.on hb7
  replace hx0 := hx0.on hb7
  replace hq0 := hq0.on hb7
  replace hb0 := on hb0 hb7
  clear hb7 HRM
  obtain ⟨t0, t1, t2, _⟩ := ht0.three
  obtain ⟨x0, x1, x2, _⟩ := hx0.three
  obtain ⟨g0, g1, _⟩ := hq0.two
  have HL1 := Lib.hid (HL.out.grown hb0)
  cases is
  all_goals
    go_wp2_with fail
    refine (HA.out _ HL1.out).mono ?_
    rintro e w9 ⟨rfl, hb9⟩
    clear t0 t1 t2 x0 x1 x2 g0 g1 ht0 hx0 hq0
    go_wp2
    go_ret
    exact ⟨rfl, on hb0 hb9⟩
theorem match_sign {x : Vl} {L : List Vl} {m : Int} {is : Bool} (h : MatchIs x L m is) : decide (0 < m) = is := by
  rcases h with ⟨_, rfl, rfl⟩ | ⟨_, _, rfl, rfl⟩ | ⟨_, p, u, _, rfl, rfl⟩
  · rfl
  · rfl
  · exact decide_eq_true (by omega)
theorem finds_law (r c : Int) (A : Option Addr) (n cap : Nat) (xk xn : Int) (xt : ByteArray) (q0 q1 : Int) (L : List Vl) (w : World) (hz : n ≤ 1000 → ValsR w A n L) (hL : CLibs w) :
    Calls Tryz.prog 3 #[.agg #[.int .i64 r, .int .i64 c, .slice A n cap], .agg #[.int .i64 xk, .int .i64 xn, .string xt], .agg #[.int .i64 q0, .int .i64 q1]] w (LawEnd w) := by
  by_cases h : n ≤ 1200
  · obtain ⟨b, hb⟩ := mayT_some r c n L
    have HP : ∀ w1, Below w.heap.size w w1 → Calls Tryz.prog 8 #[.agg #[.int .i64 r, .int .i64 c, .slice A n cap]] w1 (Bit b w1) := fun w1 hw => may_c r c A n cap L b hb w1 (fun h => (hz h).on hw)
    have HR : ∀ w1, Below w.heap.size w w1 → Calls Tryz.prog 9 #[.agg #[.int .i64 r, .int .i64 c, .slice A n cap]] w1 (Bit b w1) := fun w1 hw => rmay_c r c A n cap L b hb w1 (fun h => (hz h).on hw)
    cases b
    · exact finds_no r c A n cap xk xn xt q0 q1 h w HP HR hL
    · rcases hb with ⟨_, hg, hm⟩ | ⟨hb, _⟩ | ⟨hb, _⟩
      · cases hx : mayV xk xn xt
        · exact finds_x r c A n cap xk xn xt q0 q1 h w HP HR (fun w1 => rmayv_c xk xn xt false hx w1) hL
        · have HX : ∀ w1, Calls Tryz.prog 10 #[.agg #[.int .i64 xk, .int .i64 xn, .string xt]] w1 (Bit true w1) := fun w1 => rmayv_c xk xn xt true hx w1
          have hz1 := hz hg.2.2.1
          obtain ⟨m, is, hmi⟩ := match_some ⟨xk, xn, xt⟩ L
          have HMt := fun w1 (hw : Below w.heap.size w w1) => matchAny_c ⟨xk, xn, xt⟩ hx r c A n cap L hm m is hmi w1 (hz1.on hw)
          have HRM := fun w1 (hw : Below w.heap.size w w1) => rmatch_c ⟨xk, xn, xt⟩ hx r c A n cap L hm m is hmi w1 (hz1.on hw)
          rcases in_or r c q0 q1 with hi | ho
          · obtain ⟨i, m', s, k, hw⟩ := Way.of hg hi
            obtain ⟨v, hv⟩ := hz1.get hw.bound.2.2.2
            exact finds_in r c A n cap xk xn xt q0 q1 v.k v.n v.t h w HP HR HX (fun w1 hw1 => at_yes r c q0 q1 A n cap L hg i m' s k hw v hv w1 (hz1.on hw1)) (fun w1 => rin_yes r c q0 q1 A n cap hi w1) (fun w1 hw1 => rat_yes r c q0 q1 A n cap L i m' s k hw v hv w1 (hz1.on hw1)) m is (match_sign hmi) HMt HRM hL
          · exact finds_out r c A n cap xk xn xt q0 q1 h w HP HR HX (fun w1 _ => at_no r c q0 q1 A n cap hg ho w1) (fun w1 => rin_no r c q0 q1 A n cap ho w1) m is (match_sign hmi) HMt HRM hL
      · cases hb
      · cases hb
  · exact finds_long r c A n cap xk xn xt q0 q1 (by omega) w hL
end Go.Proofs.YtbjomidkeignjaaGreatDoor.Lok

/- What the statement CritHits answers: yes, for every two values. Written by wip/gen17f.py. -/
import Derived.Test.YtgikagdfmbkfdaaGreatDoorCrtLawO
namespace Go.Proofs.YtgikagdfmbkfdaaGreatDoor.Crt
open Go.RowKit Kit Reg Dec Dig Val

set_option maxRecDepth 100000 in
set_option maxHeartbeats 4000000 in
theorem hits_law_v (kw nw kv nv : Int) (tw tv : ByteArray) (hv : mayV kv nv tv = false) (w : World) (hL : CLibs w) :
    Calls Tryz.prog 5 #[.agg #[.int .i64 kw, .int .i64 nw, .string tw], .agg #[.int .i64 kv, .int .i64 nv, .string tv]] w (LawEnd w) := by
  have HV := Lib.hid (fun w1 => rmayv_c kv nv tv false hv w1)
  clear hv
  have HA := Lib.hid (fun w1 h => alive_c trims_stars w1 h)
  have HL := Lib.hid hL
  have hb0 := below2 w (.cells #[.int .i64 kw, .int .i64 nw, .string tw] 23) (.cells #[.int .i64 kv, .int .i64 nv, .string tv] 23)
  have hw0 := (CellsAt.new w [.int .i64 kw, .int .i64 nw, .string tw] 23).on_alloc (.cells #[.int .i64 kv, .int .i64 nv, .string tv] 23)
  have hv0 := cells_new (w0 := w.alloc (.cells #[.int .i64 kw, .int .i64 nw, .string tw] 23)) (g := w.heap.size + 1) (by simp) [.int .i64 kv, .int .i64 nv, .string tv] 23
  clear hL
  go_enter Tryz.func5, Tryz.ntmps5
  go_wp2_with fail
  refine (HV.out _).mono ?_
  rintro e w1 ⟨rfl, hb1⟩
  replace hw0 := hw0.on hb1
  replace hv0 := hv0.on hb1
  replace hb0 := on hb0 hb1
  clear HV hb1
  obtain ⟨x0, x1, x2, _⟩ := hw0.three
  obtain ⟨v0, v1, v2, _⟩ := hv0.three
  have HL1 := Lib.hid (HL.out.grown hb0)
  go_wp2_with fail
  refine (HA.out _ HL1.out).mono ?_
  rintro e w9 ⟨rfl, hb9⟩
  clear x0 x1 x2 v0 v1 v2 hw0 hv0
  go_wp2
  go_ret
  exact ⟨rfl, on hb0 hb9⟩
set_option maxRecDepth 100000 in
set_option maxHeartbeats 4000000 in
theorem hits_law_w (kw nw kv nv : Int) (tw tv : ByteArray) (hv : mayV kv nv tv = true) (hw : mayV kw nw tw = false) (w : World) (hL : CLibs w) :
    Calls Tryz.prog 5 #[.agg #[.int .i64 kw, .int .i64 nw, .string tw], .agg #[.int .i64 kv, .int .i64 nv, .string tv]] w (LawEnd w) := by
  have HV := Lib.hid (fun w1 => rmayv_c kv nv tv true hv w1)
  have HW := Lib.hid (fun w1 => rmayv_c kw nw tw false hw w1)
  clear hv hw
  have HA := Lib.hid (fun w1 h => alive_c trims_stars w1 h)
  have HL := Lib.hid hL
  have hb0 := below2 w (.cells #[.int .i64 kw, .int .i64 nw, .string tw] 23) (.cells #[.int .i64 kv, .int .i64 nv, .string tv] 23)
  have hw0 := (CellsAt.new w [.int .i64 kw, .int .i64 nw, .string tw] 23).on_alloc (.cells #[.int .i64 kv, .int .i64 nv, .string tv] 23)
  have hv0 := cells_new (w0 := w.alloc (.cells #[.int .i64 kw, .int .i64 nw, .string tw] 23)) (g := w.heap.size + 1) (by simp) [.int .i64 kv, .int .i64 nv, .string tv] 23
  clear hL
  go_enter Tryz.func5, Tryz.ntmps5
  go_wp2_with fail
  refine (HV.out _).mono ?_
  rintro e w1 ⟨rfl, hb1⟩
  replace hw0 := hw0.on hb1
  replace hv0 := hv0.on hb1
  replace hb0 := on hb0 hb1
  clear HV hb1
  obtain ⟨x0, x1, x2, _⟩ := hw0.three
  obtain ⟨v0, v1, v2, _⟩ := hv0.three
  go_wp2_with fail
  refine (HW.out _).mono ?_
  rintro e w2 ⟨rfl, hb1⟩
  clear x0 x1 x2 v0 v1 v2
  replace hw0 := hw0.on hb1
  replace hv0 := hv0.on hb1
  replace hb0 := on hb0 hb1
  clear HW hb1
  obtain ⟨x0, x1, x2, _⟩ := hw0.three
  obtain ⟨v0, v1, v2, _⟩ := hv0.three
  have HL1 := Lib.hid (HL.out.grown hb0)
  go_wp2_with fail
  refine (HA.out _ HL1.out).mono ?_
  rintro e w9 ⟨rfl, hb9⟩
  clear x0 x1 x2 v0 v1 v2 hw0 hv0
  go_wp2
  go_ret
  exact ⟨rfl, on hb0 hb9⟩
set_option maxRecDepth 100000 in
set_option maxHeartbeats 4000000 in
theorem hits_law_tv (kw nw kv nv : Int) (tw tv : ByteArray) (hv : mayV kv nv tv = true) (hw : mayV kw nw tw = true) (h1 : 60 < tv.size) (w : World) (hL : CLibs w) :
    Calls Tryz.prog 5 #[.agg #[.int .i64 kw, .int .i64 nw, .string tw], .agg #[.int .i64 kv, .int .i64 nv, .string tv]] w (LawEnd w) := by
  have HV := Lib.hid (fun w1 => rmayv_c kv nv tv true hv w1)
  have HW := Lib.hid (fun w1 => rmayv_c kw nw tw true hw w1)
  have d1 : decide (60 < tv.size) = true := decide_eq_true h1
  have d2 : decide ((60 : Int) < (tv.size : Int)) = true := decide_eq_true (by omega)
  clear hv hw
  have HA := Lib.hid (fun w1 h => alive_c trims_stars w1 h)
  have HL := Lib.hid hL
  have hb0 := below2 w (.cells #[.int .i64 kw, .int .i64 nw, .string tw] 23) (.cells #[.int .i64 kv, .int .i64 nv, .string tv] 23)
  have hw0 := (CellsAt.new w [.int .i64 kw, .int .i64 nw, .string tw] 23).on_alloc (.cells #[.int .i64 kv, .int .i64 nv, .string tv] 23)
  have hv0 := cells_new (w0 := w.alloc (.cells #[.int .i64 kw, .int .i64 nw, .string tw] 23)) (g := w.heap.size + 1) (by simp) [.int .i64 kv, .int .i64 nv, .string tv] 23
  clear hL
  go_enter Tryz.func5, Tryz.ntmps5
  go_wp2_with fail
  refine (HV.out _).mono ?_
  rintro e w1 ⟨rfl, hb1⟩
  replace hw0 := hw0.on hb1
  replace hv0 := hv0.on hb1
  replace hb0 := on hb0 hb1
  clear HV hb1
  obtain ⟨x0, x1, x2, _⟩ := hw0.three
  obtain ⟨v0, v1, v2, _⟩ := hv0.three
  go_wp2_with fail
  refine (HW.out _).mono ?_
  rintro e w2 ⟨rfl, hb1⟩
  clear x0 x1 x2 v0 v1 v2
  replace hw0 := hw0.on hb1
  replace hv0 := hv0.on hb1
  replace hb0 := on hb0 hb1
  clear HW hb1
  obtain ⟨x0, x1, x2, _⟩ := hw0.three
  obtain ⟨v0, v1, v2, _⟩ := hv0.three
  have HL1 := Lib.hid (HL.out.grown hb0)
  go_wp2_with fail
  refine (HA.out _ HL1.out).mono ?_
  rintro e w9 ⟨rfl, hb9⟩
  clear x0 x1 x2 v0 v1 v2 hw0 hv0
  go_wp2
  go_ret
  exact ⟨rfl, on hb0 hb9⟩
set_option maxRecDepth 100000 in
set_option maxHeartbeats 4000000 in
theorem hits_law_tw (kw nw kv nv : Int) (tw tv : ByteArray) (hv : mayV kv nv tv = true) (hw : mayV kw nw tw = true) (h1 : tv.size ≤ 60) (h2 : 60 < tw.size) (w : World) (hL : CLibs w) :
    Calls Tryz.prog 5 #[.agg #[.int .i64 kw, .int .i64 nw, .string tw], .agg #[.int .i64 kv, .int .i64 nv, .string tv]] w (LawEnd w) := by
  have HV := Lib.hid (fun w1 => rmayv_c kv nv tv true hv w1)
  have HW := Lib.hid (fun w1 => rmayv_c kw nw tw true hw w1)
  have d1 : decide (60 < tv.size) = false := decide_eq_false (by omega)
  have d2 : decide ((60 : Int) < (tv.size : Int)) = false := decide_eq_false (by omega)
  have d3 : decide (60 < tw.size) = true := decide_eq_true h2
  have d4 : decide ((60 : Int) < (tw.size : Int)) = true := decide_eq_true (by omega)
  clear hv hw
  have HA := Lib.hid (fun w1 h => alive_c trims_stars w1 h)
  have HL := Lib.hid hL
  have hb0 := below2 w (.cells #[.int .i64 kw, .int .i64 nw, .string tw] 23) (.cells #[.int .i64 kv, .int .i64 nv, .string tv] 23)
  have hw0 := (CellsAt.new w [.int .i64 kw, .int .i64 nw, .string tw] 23).on_alloc (.cells #[.int .i64 kv, .int .i64 nv, .string tv] 23)
  have hv0 := cells_new (w0 := w.alloc (.cells #[.int .i64 kw, .int .i64 nw, .string tw] 23)) (g := w.heap.size + 1) (by simp) [.int .i64 kv, .int .i64 nv, .string tv] 23
  clear hL
  go_enter Tryz.func5, Tryz.ntmps5
  go_wp2_with fail
  refine (HV.out _).mono ?_
  rintro e w1 ⟨rfl, hb1⟩
  replace hw0 := hw0.on hb1
  replace hv0 := hv0.on hb1
  replace hb0 := on hb0 hb1
  clear HV hb1
  obtain ⟨x0, x1, x2, _⟩ := hw0.three
  obtain ⟨v0, v1, v2, _⟩ := hv0.three
  go_wp2_with fail
  refine (HW.out _).mono ?_
  rintro e w2 ⟨rfl, hb1⟩
  clear x0 x1 x2 v0 v1 v2
  replace hw0 := hw0.on hb1
  replace hv0 := hv0.on hb1
  replace hb0 := on hb0 hb1
  clear HW hb1
  obtain ⟨x0, x1, x2, _⟩ := hw0.three
  obtain ⟨v0, v1, v2, _⟩ := hv0.three
  have HL1 := Lib.hid (HL.out.grown hb0)
  go_wp2_with fail
  refine (HA.out _ HL1.out).mono ?_
  rintro e w9 ⟨rfl, hb9⟩
  clear x0 x1 x2 v0 v1 v2 hw0 hv0
  go_wp2
  go_ret
  exact ⟨rfl, on hb0 hb9⟩
set_option maxRecDepth 100000 in
set_option maxHeartbeats 4000000 in
theorem hits_law_f (nw kv nv : Int) (tw tv : ByteArray) (hv : mayV kv nv tv = true) (hw : mayV 4 nw tw = true) (h1 : tv.size ≤ 60) (h2 : tw.size ≤ 60) (w : World) (hL : CLibs w) :
    Calls Tryz.prog 5 #[.agg #[.int .i64 4, .int .i64 nw, .string tw], .agg #[.int .i64 kv, .int .i64 nv, .string tv]] w (LawEnd w) := by
  have HV := Lib.hid (fun w1 => rmayv_c kv nv tv true hv w1)
  have HW := Lib.hid (fun w1 => rmayv_c 4 nw tw true hw w1)
  have d1 : decide (60 < tv.size) = false := decide_eq_false (by omega)
  have d2 : decide ((60 : Int) < (tv.size : Int)) = false := decide_eq_false (by omega)
  have d3 : decide (60 < tw.size) = false := decide_eq_false (by omega)
  have d4 : decide ((60 : Int) < (tw.size : Int)) = false := decide_eq_false (by omega)
  have HP : Hid (∀ w1, CLibs w1 → Calls Tryz.prog 8 #[.agg #[.int .i64 4, .int .i64 nw, .string tw]] w1 (CritIs 0 0 0 ⟨#[]⟩ false w1)) := Lib.hid (fun w1 _ => of_fault nw tw w1)
  clear hv hw
  have HA := Lib.hid (fun w1 h => alive_c trims_stars w1 h)
  have HL := Lib.hid hL
  have hb0 := below2 w (.cells #[.int .i64 4, .int .i64 nw, .string tw] 23) (.cells #[.int .i64 kv, .int .i64 nv, .string tv] 23)
  have hw0 := (CellsAt.new w [.int .i64 4, .int .i64 nw, .string tw] 23).on_alloc (.cells #[.int .i64 kv, .int .i64 nv, .string tv] 23)
  have hv0 := cells_new (w0 := w.alloc (.cells #[.int .i64 4, .int .i64 nw, .string tw] 23)) (g := w.heap.size + 1) (by simp) [.int .i64 kv, .int .i64 nv, .string tv] 23
  clear hL
  go_enter Tryz.func5, Tryz.ntmps5
  go_wp2_with fail
  refine (HV.out _).mono ?_
  rintro e w1 ⟨rfl, hb1⟩
  replace hw0 := hw0.on hb1
  replace hv0 := hv0.on hb1
  replace hb0 := on hb0 hb1
  clear HV hb1
  obtain ⟨x0, x1, x2, _⟩ := hw0.three
  obtain ⟨v0, v1, v2, _⟩ := hv0.three
  go_wp2_with fail
  refine (HW.out _).mono ?_
  rintro e w2 ⟨rfl, hb1⟩
  clear x0 x1 x2 v0 v1 v2
  replace hw0 := hw0.on hb1
  replace hv0 := hv0.on hb1
  replace hb0 := on hb0 hb1
  clear HW hb1
  obtain ⟨x0, x1, x2, _⟩ := hw0.three
  obtain ⟨v0, v1, v2, _⟩ := hv0.three
  have HL1 := Lib.hid (HL.out.grown hb0)
  go_wp2_with fail
  refine (HP.out _ HL1.out).mono ?_
  rintro e w3 ⟨rfl, hb1⟩
  clear x0 x1 x2 v0 v1 v2 HL1
  have HY := hw0.on hb1
  replace hw0 := HY.on_alloc (.cells #[.int .i64 0, .int .i64 0, .int .i64 0, .string ⟨#[]⟩] 27)
  replace hv0 := (hv0.on hb1).on_alloc (.cells #[.int .i64 0, .int .i64 0, .int .i64 0, .string ⟨#[]⟩] 27)
  have hc0 := CellsAt.new w3 [.int .i64 0, .int .i64 0, .int .i64 0, .string ⟨#[]⟩] 27
  replace hb0 := on_alloc (on hb0 hb1) (.cells #[.int .i64 0, .int .i64 0, .int .i64 0, .string ⟨#[]⟩] 27)
  clear HP hb1
  have hy := HY.1
  obtain ⟨x0, x1, x2, _⟩ := HY.three
  have HL1 := Lib.hid (HL.out.grown hb0)
  go_wp2_with fail
  refine (HA.out _ HL1.out).mono ?_
  rintro e w9 ⟨rfl, hb9⟩
  clear x0 x1 x2 hw0 hv0 hc0 HY hy
  go_wp2
  go_ret
  exact ⟨rfl, on hb0 hb9⟩
set_option maxRecDepth 100000 in
set_option maxHeartbeats 8000000 in
theorem hits_law_m (kw nw kv nv op k2 n2 : Int) (tw tv t2 : ByteArray) (hv : mayV kv nv tv = true) (hw : mayV kw nw tw = true) (h1 : tv.size ≤ 60) (h2 : tw.size ≤ 60) (b : Bool)
    (HP : ∀ w1, CLibs w1 → Calls Tryz.prog 8 #[.agg #[.int .i64 kw, .int .i64 nw, .string tw]] w1 (CritIs op k2 n2 t2 true w1))
    (HR : ∀ w1, Calls Tryz.prog 9 #[.agg #[.int .i64 kw, .int .i64 nw, .string tw]] w1 (RCritIs op k2 n2 t2 w1))
    (HH : ∀ w1, Calls Tryz.prog 13 #[.agg #[.int .i64 op, .int .i64 k2, .int .i64 n2, .string t2], .agg #[.int .i64 kv, .int .i64 nv, .string tv]] w1 (Bit b w1))
    (HG : ∀ w1, Calls Tryz.prog 14 #[.agg #[.int .i64 op, .int .i64 k2, .int .i64 n2, .string t2], .agg #[.int .i64 kv, .int .i64 nv, .string tv]] w1 (Bit b w1)) (w : World) (hL : CLibs w) :
    Calls Tryz.prog 5 #[.agg #[.int .i64 kw, .int .i64 nw, .string tw], .agg #[.int .i64 kv, .int .i64 nv, .string tv]] w (LawEnd w) := by
  have HV := Lib.hid (fun w1 => rmayv_c kv nv tv true hv w1)
  have HW := Lib.hid (fun w1 => rmayv_c kw nw tw true hw w1)
  have d1 : decide (60 < tv.size) = false := decide_eq_false (by omega)
  have d2 : decide ((60 : Int) < (tv.size : Int)) = false := decide_eq_false (by omega)
  have d3 : decide (60 < tw.size) = false := decide_eq_false (by omega)
  have d4 : decide ((60 : Int) < (tw.size : Int)) = false := decide_eq_false (by omega)
  have HP := Lib.hid HP
  have HR := Lib.hid HR
  have HH := Lib.hid HH
  have HG := Lib.hid HG
  clear hv hw
  have HA := Lib.hid (fun w1 h => alive_c trims_stars w1 h)
  have HL := Lib.hid hL
  have hb0 := below2 w (.cells #[.int .i64 kw, .int .i64 nw, .string tw] 23) (.cells #[.int .i64 kv, .int .i64 nv, .string tv] 23)
  have hw0 := (CellsAt.new w [.int .i64 kw, .int .i64 nw, .string tw] 23).on_alloc (.cells #[.int .i64 kv, .int .i64 nv, .string tv] 23)
  have hv0 := cells_new (w0 := w.alloc (.cells #[.int .i64 kw, .int .i64 nw, .string tw] 23)) (g := w.heap.size + 1) (by simp) [.int .i64 kv, .int .i64 nv, .string tv] 23
  clear hL
  go_enter Tryz.func5, Tryz.ntmps5
  go_wp2_with fail
  refine (HV.out _).mono ?_
  rintro e w1 ⟨rfl, hb1⟩
  replace hw0 := hw0.on hb1
  replace hv0 := hv0.on hb1
  replace hb0 := on hb0 hb1
  clear HV hb1
  obtain ⟨x0, x1, x2, _⟩ := hw0.three
  obtain ⟨v0, v1, v2, _⟩ := hv0.three
  go_wp2_with fail
  refine (HW.out _).mono ?_
  rintro e w2 ⟨rfl, hb1⟩
  clear x0 x1 x2 v0 v1 v2
  replace hw0 := hw0.on hb1
  replace hv0 := hv0.on hb1
  replace hb0 := on hb0 hb1
  clear HW hb1
  obtain ⟨x0, x1, x2, _⟩ := hw0.three
  obtain ⟨v0, v1, v2, _⟩ := hv0.three
  have HL1 := Lib.hid (HL.out.grown hb0)
  go_wp2_with fail
  refine (HP.out _ HL1.out).mono ?_
  rintro e w3 ⟨rfl, hb1⟩
  clear x0 x1 x2 v0 v1 v2 HL1
  replace hw0 := (hw0.on hb1).on_alloc (.cells #[.int .i64 op, .int .i64 k2, .int .i64 n2, .string t2] 27)
  replace hv0 := (hv0.on hb1).on_alloc (.cells #[.int .i64 op, .int .i64 k2, .int .i64 n2, .string t2] 27)
  have hc0 := CellsAt.new w3 [.int .i64 op, .int .i64 k2, .int .i64 n2, .string t2] 27
  replace hb0 := on_alloc (on hb0 hb1) (.cells #[.int .i64 op, .int .i64 k2, .int .i64 n2, .string t2] 27)
  clear HP hb1
  go_wp2_with fail
  generalize w3.alloc (.cells #[.int .i64 op, .int .i64 k2, .int .i64 n2, .string t2] 27) = W at *
  obtain ⟨x0, x1, x2, _⟩ := hw0.three
  obtain ⟨v0, v1, v2, _⟩ := hv0.three
  obtain ⟨c0, c1, c2, c3, _⟩ := hc0.four
  have X0 := fun d os => cell_regrown x0 d os
  have X1 := fun d os => cell_regrown x1 d os
  have X2 := fun d os => cell_regrown x2 d os
  have V0 := fun d os => cell_regrown v0 d os
  have V1 := fun d os => cell_regrown v1 d os
  have V2 := fun d os => cell_regrown v2 d os
  have C0 := fun d os => cell_regrown c0 d os
  have C1 := fun d os => cell_regrown c1 d os
  have C2 := fun d os => cell_regrown c2 d os
  have C3 := fun d os => cell_regrown c3 d os
  clear x0 x1 x2 v0 v1 v2 c0 c1 c2 c3 hw0 hv0 hc0
  cases b
  · refine wp_region_mem 12 (fun d => match d with
      | 43 => some (Is (.bool false))
      | 45 => some (Is (.agg #[.int .i64 op, .int .i64 k2, .int .i64 n2, .string t2]))
      | 47 => some (Is (.bool false))
      | 50 => some (Is (.bool true))
      | _ => none) (by kernel_rfl) (by kernel_rfl) ?_
    simp only [List.take_succ_cons, List.take_zero, List.drop_succ_cons, List.drop_zero]
    repeat (first | ((with_reducible refine wpM_calm ?_ ?_ ?_ ?_); exact rfl; exact rfl; exact rfl; intro K hK; go_big_quiet_op; go_big_quiet_on) | ((with_reducible refine wpM_skip ?_ ?_); exact rfl; simp only [Act.put, List.setIfInBounds_toArray, List.set_cons_succ, List.set_cons_zero]))
    refine wpM_exact rfl rfl rfl Tryz.func13 (by kernel_rfl) (by kernel_rfl) (fun w1 _ _ => HH.out w1) rfl (by simp only [Act.put, List.setIfInBounds_toArray, List.set_cons_succ, List.set_cons_zero]; rfl) ?_
    repeat (first | ((with_reducible refine wpM_calm ?_ ?_ ?_ ?_); exact rfl; exact rfl; exact rfl; intro K hK; go_big_quiet_op; go_big_quiet_on) | ((with_reducible refine wpM_skip ?_ ?_); exact rfl; simp only [Act.put, List.setIfInBounds_toArray, List.set_cons_succ, List.set_cons_zero]))
    refine wpM_exact rfl rfl rfl Tryz.func9 (by kernel_rfl) (by kernel_rfl) (fun w1 _ _ => HR.out w1) rfl (by simp only [Act.put, List.setIfInBounds_toArray, List.set_cons_succ, List.set_cons_zero]; rfl) ?_
    repeat (first | ((with_reducible refine wpM_calm ?_ ?_ ?_ ?_); exact rfl; exact rfl; exact rfl; intro K hK; go_big_quiet_op; go_big_quiet_on) | ((with_reducible refine wpM_skip ?_ ?_); exact rfl; simp only [Act.put, List.setIfInBounds_toArray, List.set_cons_succ, List.set_cons_zero]))
    refine wpM_exact rfl rfl rfl Tryz.func14 (by kernel_rfl) (by kernel_rfl) (fun w1 _ _ => HG.out w1) rfl (by simp only [Act.put, List.setIfInBounds_toArray, List.set_cons_succ, List.set_cons_zero]; rfl) ?_
    repeat (first | ((with_reducible refine wpM_calm ?_ ?_ ?_ ?_); exact rfl; exact rfl; exact rfl; intro K hK; go_big_quiet_op; go_big_quiet_on) | ((with_reducible refine wpM_skip ?_ ?_); exact rfl; simp only [Act.put, List.setIfInBounds_toArray, List.set_cons_succ, List.set_cons_zero]))
    refine wpM_exact rfl rfl rfl Tryz.func7 (by kernel_rfl) (by kernel_rfl) (fun w1 hw1 _ => HA.out w1 (HL.out.grown (on hb0 hw1))) rfl (by simp only [Act.put, List.setIfInBounds_toArray, List.set_cons_succ, List.set_cons_zero]; rfl) ?_
    repeat (first | ((with_reducible refine wpM_calm ?_ ?_ ?_ ?_); exact rfl; exact rfl; exact rfl; intro K hK; go_big_quiet_op; go_big_quiet_on) | ((with_reducible refine wpM_skip ?_ ?_); exact rfl; simp only [Act.put, List.setIfInBounds_toArray, List.set_cons_succ, List.set_cons_zero]))
    refine wpM_nil ?_
    intro w9 hw9 _
    clear X0 X1 X2 V0 V1 V2 C0 C1 C2 C3
    go_wp2
    go_ret
    exact ⟨rfl, on hb0 hw9⟩
  · refine wp_region_mem 12 (fun d => match d with
      | 43 => some (Is (.bool true))
      | 45 => some (Is (.agg #[.int .i64 op, .int .i64 k2, .int .i64 n2, .string t2]))
      | 47 => some (Is (.bool true))
      | 50 => some (Is (.bool true))
      | _ => none) (by kernel_rfl) (by kernel_rfl) ?_
    simp only [List.take_succ_cons, List.take_zero, List.drop_succ_cons, List.drop_zero]
    repeat (first | ((with_reducible refine wpM_calm ?_ ?_ ?_ ?_); exact rfl; exact rfl; exact rfl; intro K hK; go_big_quiet_op; go_big_quiet_on) | ((with_reducible refine wpM_skip ?_ ?_); exact rfl; simp only [Act.put, List.setIfInBounds_toArray, List.set_cons_succ, List.set_cons_zero]))
    refine wpM_exact rfl rfl rfl Tryz.func13 (by kernel_rfl) (by kernel_rfl) (fun w1 _ _ => HH.out w1) rfl (by simp only [Act.put, List.setIfInBounds_toArray, List.set_cons_succ, List.set_cons_zero]; rfl) ?_
    repeat (first | ((with_reducible refine wpM_calm ?_ ?_ ?_ ?_); exact rfl; exact rfl; exact rfl; intro K hK; go_big_quiet_op; go_big_quiet_on) | ((with_reducible refine wpM_skip ?_ ?_); exact rfl; simp only [Act.put, List.setIfInBounds_toArray, List.set_cons_succ, List.set_cons_zero]))
    refine wpM_exact rfl rfl rfl Tryz.func9 (by kernel_rfl) (by kernel_rfl) (fun w1 _ _ => HR.out w1) rfl (by simp only [Act.put, List.setIfInBounds_toArray, List.set_cons_succ, List.set_cons_zero]; rfl) ?_
    repeat (first | ((with_reducible refine wpM_calm ?_ ?_ ?_ ?_); exact rfl; exact rfl; exact rfl; intro K hK; go_big_quiet_op; go_big_quiet_on) | ((with_reducible refine wpM_skip ?_ ?_); exact rfl; simp only [Act.put, List.setIfInBounds_toArray, List.set_cons_succ, List.set_cons_zero]))
    refine wpM_exact rfl rfl rfl Tryz.func14 (by kernel_rfl) (by kernel_rfl) (fun w1 _ _ => HG.out w1) rfl (by simp only [Act.put, List.setIfInBounds_toArray, List.set_cons_succ, List.set_cons_zero]; rfl) ?_
    repeat (first | ((with_reducible refine wpM_calm ?_ ?_ ?_ ?_); exact rfl; exact rfl; exact rfl; intro K hK; go_big_quiet_op; go_big_quiet_on) | ((with_reducible refine wpM_skip ?_ ?_); exact rfl; simp only [Act.put, List.setIfInBounds_toArray, List.set_cons_succ, List.set_cons_zero]))
    refine wpM_exact rfl rfl rfl Tryz.func7 (by kernel_rfl) (by kernel_rfl) (fun w1 hw1 _ => HA.out w1 (HL.out.grown (on hb0 hw1))) rfl (by simp only [Act.put, List.setIfInBounds_toArray, List.set_cons_succ, List.set_cons_zero]; rfl) ?_
    repeat (first | ((with_reducible refine wpM_calm ?_ ?_ ?_ ?_); exact rfl; exact rfl; exact rfl; intro K hK; go_big_quiet_op; go_big_quiet_on) | ((with_reducible refine wpM_skip ?_ ?_); exact rfl; simp only [Act.put, List.setIfInBounds_toArray, List.set_cons_succ, List.set_cons_zero]))
    refine wpM_nil ?_
    intro w9 hw9 _
    clear X0 X1 X2 V0 V1 V2 C0 C1 C2 C3
    go_wp2
    go_ret
    exact ⟨rfl, on hb0 hw9⟩
theorem hits_law (kw nw kv nv : Int) (tw tv : ByteArray) (w : World) (hL : CLibs w) :
    Calls Tryz.prog 5 #[.agg #[.int .i64 kw, .int .i64 nw, .string tw], .agg #[.int .i64 kv, .int .i64 nv, .string tv]] w (LawEnd w) := by
  cases hv : mayV kv nv tv
  · exact hits_law_v kw nw kv nv tw tv hv w hL
  cases hw : mayV kw nw tw
  · exact hits_law_w kw nw kv nv tw tv hv hw w hL
  by_cases h1 : tv.size ≤ 60
  · by_cases h2 : tw.size ≤ 60
    · by_cases h4 : kw = 4
      · subst h4; exact hits_law_f nw kv nv tw tv hv hw h1 h2 w hL
      · obtain ⟨op, k2, n2, t2, o1, o2, hm, hk2, HP, HR⟩ := of_any kw nw tw hw h4
        exact hits_law_m kw nw kv nv op k2 n2 tw tv t2 hv hw h1 h2 _ HP HR (fun w1 => hits_c trims_stars op k2 n2 kv nv t2 tv o1 o2 hm hk2 hv (by omega) _ rfl w1) (fun w1 => rhits_c op k2 n2 kv nv t2 tv o1 o2 hm hk2 hv (by omega) _ rfl w1) w hL
    · exact hits_law_tw kw nw kv nv tw tv hv hw h1 (by omega) w hL
  · exact hits_law_tv kw nw kv nv tw tv hv hw (by omega) w hL
end Go.Proofs.YtgikagdfmbkfdaaGreatDoor.Crt

/- CallFaults, walked. Written by wip/gen21r.py. -/
import Derived.Test.YtebjedbppiphgaaGreatDoorKfa48
namespace Go.Proofs.YtebjedbppiphgaaGreatDoor.Cal
open Go.RowKit Kit Reg Dec Dig Val Fld
open Crt (CLibs)
theorem field_kd (k n : Int) (s : ByteArray) (w : World) : (Instr.field 23 (.agg #[.int .i64 k, .int .i64 n, .string s]) 0).run Tryz.prog w = .ok (.int .i64 k) w := by kernel_rfl
/-- a slice of one table, new -/
def TabV (P : List Tb → Prop) (v : Value) (w : World) : Prop := ∃ b T, v = .slice (some ⟨b, 0, none⟩) 1 1 ∧ P T ∧ TabsR w (some ⟨b, 0, none⟩) 1 T
theorem TabV.up {P : List Tb → Prop} {v : Value} {w : World} (h : Up (TabV P v) w) : TabV P v w := by
  obtain ⟨w1, ⟨b, T, e, hP, h1⟩, hb⟩ := h
  exact ⟨b, T, e, hP, h1.on hb⟩
theorem vals_one (w : World) (a : Vl) (fa : a.fits) : ValsR (w.alloc (.cells #[.int .i64 a.k, .int .i64 a.n, .string a.t] 23)) (some ⟨w.heap.size, 0, none⟩) 1 [a] := by
  have h := CellsAt.new w [.int .i64 a.k, .int .i64 a.n, .string a.t] 23
  exact Lok.vals_of_cells (L := [a]) h rfl (by decide) (fun v hv => by rw [List.mem_singleton.1 hv]; exact fa)
def RowV (x : Vl) (v : Value) (w : World) : Prop := ∃ g, v = .slice (some ⟨g, 0, none⟩) 1 1 ∧ ValsR w (some ⟨g, 0, none⟩) 1 [x]
theorem RowV.up {x : Vl} {v : Value} {w : World} (h : Up (RowV x v) w) : RowV x v w := by
  obtain ⟨w1, ⟨g, e, h1⟩, hb⟩ := h
  exact ⟨g, e, h1.on hb⟩
theorem tabs_new1 (w : World) (t : Tb) (ht : t.Reads w) : TabsR (w.alloc (.cells #[.int .i64 t.r, .int .i64 t.c, .slice t.A t.n t.d] 33)) (some ⟨w.heap.size, 0, none⟩) 1 [t] := by
  have h := CellsAt.new w [.int .i64 t.r, .int .i64 t.c, .slice t.A t.n t.d] 33
  refine ⟨rfl, fun v hv => ?_, fun _ => ⟨w.heap.size, 0, rfl, h.1, fun k v hk j x hj => ?_⟩⟩
  · rw [List.mem_singleton.1 hv]
    exact ht.on (below1 _ _)
  · match k, hk with
    | 0, hk =>
      obtain rfl : t = v := by simpa using hk
      have h3 : j < 3 := (List.getElem?_eq_some_iff.1 hj).1
      have e : ([.int .i64 t.r, .int .i64 t.c, .slice t.A t.n t.d] : List Value)[0 + 0 * 3 + j]? = some x := by
        match j, hj with
        | 0, hj => exact hj
        | 1, hj => exact hj
        | 2, hj => exact hj
      exact (h.2 _ x e).1
    | k + 1, hk => simp at hk
set_option maxRecDepth 100000 in
set_option maxHeartbeats 16000000 in
theorem faults_1 (op fn ak an : Int) (at_ : ByteArray) (bk bn : Int) (bt : ByteArray) (w : World) (h : mayV ak an at_ = false) (hL : CLibs w) :
    Calls Tryz.prog 5 #[.agg #[.int .i64 op, .int .i64 fn], .agg #[.int .i64 ak, .int .i64 an, .string at_], .agg #[.int .i64 bk, .int .i64 bn, .string bt]] w (LawEnd w) := by
  have hp0 := ((CellsAt.new w [.int .i64 op, .int .i64 fn] 37).on_alloc (.cells #[.int .i64 ak, .int .i64 an, .string at_] 23)).on_alloc (.cells #[.int .i64 bk, .int .i64 bn, .string bt] 23)
  have ht0 := (Lok.newAt (w0 := w.alloc (.cells #[.int .i64 op, .int .i64 fn] 37)) (g := w.heap.size + 1) (by simp) [.int .i64 ak, .int .i64 an, .string at_] 23).on_alloc (.cells #[.int .i64 bk, .int .i64 bn, .string bt] 23)
  have hx0 := Lok.newAt (w0 := (w.alloc (.cells #[.int .i64 op, .int .i64 fn] 37)).alloc (.cells #[.int .i64 ak, .int .i64 an, .string at_] 23)) (g := w.heap.size + 2) (by simp) [.int .i64 bk, .int .i64 bn, .string bt] 23
  have hb0 := on_alloc (below2 w (.cells #[.int .i64 op, .int .i64 fn] 37) (.cells #[.int .i64 ak, .int .i64 an, .string at_] 23)) (.cells #[.int .i64 bk, .int .i64 bn, .string bt] 23)
  have HL := Lib.hid hL
  clear hL
  obtain ⟨p0, p1, -⟩ := hp0.two
  obtain ⟨t0, t1, t2, -⟩ := ht0.three
  obtain ⟨x0, x1, x2, -⟩ := hx0.three
  have H1 := Lib.hid (fun w1 => rmayv_c ak an at_ false h w1)
  clear h
  go_enter Tryz.func5, Tryz.ntmps5
  go_wp2_with fail
  generalize ((w.alloc (.cells #[.int .i64 op, .int .i64 fn] 37)).alloc (.cells #[.int .i64 ak, .int .i64 an, .string at_] 23)).alloc (.cells #[.int .i64 bk, .int .i64 bn, .string bt] 23) = W1 at *
  have P0 := fun d os => cell_regrown p0 d os
  have P1 := fun d os => cell_regrown p1 d os
  have T0 := fun d os => cell_regrown t0 d os
  have T1 := fun d os => cell_regrown t1 d os
  have T2 := fun d os => cell_regrown t2 d os
  have X0 := fun d os => cell_regrown x0 d os
  have X1 := fun d os => cell_regrown x1 d os
  have X2 := fun d os => cell_regrown x2 d os
  refine wp_region_mem 6 (fun d => match d with
    | _ => none) (by kernel_rfl) (by kernel_rfl) ?_
  simp only [List.take_succ_cons, List.take_zero, List.drop_succ_cons, List.drop_zero]
  repeat (first | ((with_reducible refine wpM_calm ?_ ?_ ?_ ?_); exact rfl; exact rfl; exact rfl; intro K hK; go_big_quiet_op; go_big_quiet_on) | ((with_reducible refine wpM_skip ?_ ?_); exact rfl; simp only [Act.put, List.setIfInBounds_toArray, List.set_cons_succ, List.set_cons_zero]))
  refine wpM_nil ?_
  intro w1 hw1 _
  clear P0 P1 T0 T1 T2 X0 X1 X2
  clear p0 p1 t0 t1 t2 x0 x1 x2
  replace hp0 := hp0.on hw1
  replace ht0 := ht0.on hw1
  replace hx0 := hx0.on hw1
  replace hb0 := on hb0 hw1
  clear hw1
  obtain ⟨p0, p1, -⟩ := hp0.two
  obtain ⟨t0, t1, t2, -⟩ := ht0.three
  obtain ⟨x0, x1, x2, -⟩ := hx0.three
  go_wp2_with fail
  refine (H1.out _).mono ?_
  rintro e w2 ⟨rfl, hb1⟩
  clear p0 p1 t0 t1 t2 x0 x1 x2
  replace hp0 := hp0.on hb1
  replace ht0 := ht0.on hb1
  replace hx0 := hx0.on hb1
  replace hb0 := on hb0 hb1
  clear hb1
  obtain ⟨p0, p1, -⟩ := hp0.two
  obtain ⟨t0, t1, t2, -⟩ := ht0.three
  obtain ⟨x0, x1, x2, -⟩ := hx0.three
  have HL1 := Lib.hid (HL.out.grown hb0)
  go_wp2_with fail
  refine (alive_c _ HL1.out).mono ?_
  rintro e w9 ⟨rfl, hb9⟩
  clear p0 p1 t0 t1 t2 x0 x1 x2 ht0 hx0 hp0
  go_wp2
  go_ret
  exact ⟨rfl, on hb0 hb9⟩
set_option maxRecDepth 100000 in
set_option maxHeartbeats 16000000 in
theorem faults_2 (op fn ak an : Int) (at_ : ByteArray) (bk bn : Int) (bt : ByteArray) (w : World) (h : mayV ak an at_ = true) (h2 : mayV bk bn bt = false) (hL : CLibs w) :
    Calls Tryz.prog 5 #[.agg #[.int .i64 op, .int .i64 fn], .agg #[.int .i64 ak, .int .i64 an, .string at_], .agg #[.int .i64 bk, .int .i64 bn, .string bt]] w (LawEnd w) := by
  have hp0 := ((CellsAt.new w [.int .i64 op, .int .i64 fn] 37).on_alloc (.cells #[.int .i64 ak, .int .i64 an, .string at_] 23)).on_alloc (.cells #[.int .i64 bk, .int .i64 bn, .string bt] 23)
  have ht0 := (Lok.newAt (w0 := w.alloc (.cells #[.int .i64 op, .int .i64 fn] 37)) (g := w.heap.size + 1) (by simp) [.int .i64 ak, .int .i64 an, .string at_] 23).on_alloc (.cells #[.int .i64 bk, .int .i64 bn, .string bt] 23)
  have hx0 := Lok.newAt (w0 := (w.alloc (.cells #[.int .i64 op, .int .i64 fn] 37)).alloc (.cells #[.int .i64 ak, .int .i64 an, .string at_] 23)) (g := w.heap.size + 2) (by simp) [.int .i64 bk, .int .i64 bn, .string bt] 23
  have hb0 := on_alloc (below2 w (.cells #[.int .i64 op, .int .i64 fn] 37) (.cells #[.int .i64 ak, .int .i64 an, .string at_] 23)) (.cells #[.int .i64 bk, .int .i64 bn, .string bt] 23)
  have HL := Lib.hid hL
  clear hL
  obtain ⟨p0, p1, -⟩ := hp0.two
  obtain ⟨t0, t1, t2, -⟩ := ht0.three
  obtain ⟨x0, x1, x2, -⟩ := hx0.three
  have H1 := Lib.hid (fun w1 => rmayv_c ak an at_ true h w1)
  have H2 := Lib.hid (fun w1 => rmayv_c bk bn bt false h2 w1)
  clear h h2
  go_enter Tryz.func5, Tryz.ntmps5
  go_wp2_with fail
  generalize ((w.alloc (.cells #[.int .i64 op, .int .i64 fn] 37)).alloc (.cells #[.int .i64 ak, .int .i64 an, .string at_] 23)).alloc (.cells #[.int .i64 bk, .int .i64 bn, .string bt] 23) = W1 at *
  have P0 := fun d os => cell_regrown p0 d os
  have P1 := fun d os => cell_regrown p1 d os
  have T0 := fun d os => cell_regrown t0 d os
  have T1 := fun d os => cell_regrown t1 d os
  have T2 := fun d os => cell_regrown t2 d os
  have X0 := fun d os => cell_regrown x0 d os
  have X1 := fun d os => cell_regrown x1 d os
  have X2 := fun d os => cell_regrown x2 d os
  refine wp_region_mem 6 (fun d => match d with
    | _ => none) (by kernel_rfl) (by kernel_rfl) ?_
  simp only [List.take_succ_cons, List.take_zero, List.drop_succ_cons, List.drop_zero]
  repeat (first | ((with_reducible refine wpM_calm ?_ ?_ ?_ ?_); exact rfl; exact rfl; exact rfl; intro K hK; go_big_quiet_op; go_big_quiet_on) | ((with_reducible refine wpM_skip ?_ ?_); exact rfl; simp only [Act.put, List.setIfInBounds_toArray, List.set_cons_succ, List.set_cons_zero]))
  refine wpM_nil ?_
  intro w1 hw1 _
  clear P0 P1 T0 T1 T2 X0 X1 X2
  clear p0 p1 t0 t1 t2 x0 x1 x2
  replace hp0 := hp0.on hw1
  replace ht0 := ht0.on hw1
  replace hx0 := hx0.on hw1
  replace hb0 := on hb0 hw1
  clear hw1
  obtain ⟨p0, p1, -⟩ := hp0.two
  obtain ⟨t0, t1, t2, -⟩ := ht0.three
  obtain ⟨x0, x1, x2, -⟩ := hx0.three
  go_wp2_with fail
  refine (H1.out _).mono ?_
  rintro e w2 ⟨rfl, hb1⟩
  clear p0 p1 t0 t1 t2 x0 x1 x2
  replace hp0 := hp0.on hb1
  replace ht0 := ht0.on hb1
  replace hx0 := hx0.on hb1
  replace hb0 := on hb0 hb1
  clear hb1
  obtain ⟨p0, p1, -⟩ := hp0.two
  obtain ⟨t0, t1, t2, -⟩ := ht0.three
  obtain ⟨x0, x1, x2, -⟩ := hx0.three
  go_wp2_with fail
  refine (H2.out _).mono ?_
  rintro e w3 ⟨rfl, hb1⟩
  clear p0 p1 t0 t1 t2 x0 x1 x2
  replace hp0 := hp0.on hb1
  replace ht0 := ht0.on hb1
  replace hx0 := hx0.on hb1
  replace hb0 := on hb0 hb1
  clear hb1
  obtain ⟨p0, p1, -⟩ := hp0.two
  obtain ⟨t0, t1, t2, -⟩ := ht0.three
  obtain ⟨x0, x1, x2, -⟩ := hx0.three
  have HL1 := Lib.hid (HL.out.grown hb0)
  go_wp2_with fail
  refine (alive_c _ HL1.out).mono ?_
  rintro e w9 ⟨rfl, hb9⟩
  clear p0 p1 t0 t1 t2 x0 x1 x2 ht0 hx0 hp0
  go_wp2
  go_ret
  exact ⟨rfl, on hb0 hb9⟩
set_option maxRecDepth 100000 in
set_option maxHeartbeats 16000000 in
theorem faults_3 (op fn ak an : Int) (at_ : ByteArray) (bk bn : Int) (bt : ByteArray) (w : World) (h : mayV ak an at_ = true) (h2 : mayV bk bn bt = true) (ho : op < 1) (hL : CLibs w) :
    Calls Tryz.prog 5 #[.agg #[.int .i64 op, .int .i64 fn], .agg #[.int .i64 ak, .int .i64 an, .string at_], .agg #[.int .i64 bk, .int .i64 bn, .string bt]] w (LawEnd w) := by
  have hp0 := ((CellsAt.new w [.int .i64 op, .int .i64 fn] 37).on_alloc (.cells #[.int .i64 ak, .int .i64 an, .string at_] 23)).on_alloc (.cells #[.int .i64 bk, .int .i64 bn, .string bt] 23)
  have ht0 := (Lok.newAt (w0 := w.alloc (.cells #[.int .i64 op, .int .i64 fn] 37)) (g := w.heap.size + 1) (by simp) [.int .i64 ak, .int .i64 an, .string at_] 23).on_alloc (.cells #[.int .i64 bk, .int .i64 bn, .string bt] 23)
  have hx0 := Lok.newAt (w0 := (w.alloc (.cells #[.int .i64 op, .int .i64 fn] 37)).alloc (.cells #[.int .i64 ak, .int .i64 an, .string at_] 23)) (g := w.heap.size + 2) (by simp) [.int .i64 bk, .int .i64 bn, .string bt] 23
  have hb0 := on_alloc (below2 w (.cells #[.int .i64 op, .int .i64 fn] 37) (.cells #[.int .i64 ak, .int .i64 an, .string at_] 23)) (.cells #[.int .i64 bk, .int .i64 bn, .string bt] 23)
  have HL := Lib.hid hL
  clear hL
  obtain ⟨p0, p1, -⟩ := hp0.two
  obtain ⟨t0, t1, t2, -⟩ := ht0.three
  obtain ⟨x0, x1, x2, -⟩ := hx0.three
  have d1 : decide (op < 1) = true := decide_eq_true ho
  have H1 := Lib.hid (fun w1 => rmayv_c ak an at_ true h w1)
  have H2 := Lib.hid (fun w1 => rmayv_c bk bn bt true h2 w1)
  clear h h2
  go_enter Tryz.func5, Tryz.ntmps5
  go_wp2_with fail
  generalize ((w.alloc (.cells #[.int .i64 op, .int .i64 fn] 37)).alloc (.cells #[.int .i64 ak, .int .i64 an, .string at_] 23)).alloc (.cells #[.int .i64 bk, .int .i64 bn, .string bt] 23) = W1 at *
  have P0 := fun d os => cell_regrown p0 d os
  have P1 := fun d os => cell_regrown p1 d os
  have T0 := fun d os => cell_regrown t0 d os
  have T1 := fun d os => cell_regrown t1 d os
  have T2 := fun d os => cell_regrown t2 d os
  have X0 := fun d os => cell_regrown x0 d os
  have X1 := fun d os => cell_regrown x1 d os
  have X2 := fun d os => cell_regrown x2 d os
  refine wp_region_mem 6 (fun d => match d with
    | _ => none) (by kernel_rfl) (by kernel_rfl) ?_
  simp only [List.take_succ_cons, List.take_zero, List.drop_succ_cons, List.drop_zero]
  repeat (first | ((with_reducible refine wpM_calm ?_ ?_ ?_ ?_); exact rfl; exact rfl; exact rfl; intro K hK; go_big_quiet_op; go_big_quiet_on) | ((with_reducible refine wpM_skip ?_ ?_); exact rfl; simp only [Act.put, List.setIfInBounds_toArray, List.set_cons_succ, List.set_cons_zero]))
  refine wpM_nil ?_
  intro w1 hw1 _
  clear P0 P1 T0 T1 T2 X0 X1 X2
  clear p0 p1 t0 t1 t2 x0 x1 x2
  replace hp0 := hp0.on hw1
  replace ht0 := ht0.on hw1
  replace hx0 := hx0.on hw1
  replace hb0 := on hb0 hw1
  clear hw1
  obtain ⟨p0, p1, -⟩ := hp0.two
  obtain ⟨t0, t1, t2, -⟩ := ht0.three
  obtain ⟨x0, x1, x2, -⟩ := hx0.three
  go_wp2_with fail
  refine (H1.out _).mono ?_
  rintro e w2 ⟨rfl, hb1⟩
  clear p0 p1 t0 t1 t2 x0 x1 x2
  replace hp0 := hp0.on hb1
  replace ht0 := ht0.on hb1
  replace hx0 := hx0.on hb1
  replace hb0 := on hb0 hb1
  clear hb1
  obtain ⟨p0, p1, -⟩ := hp0.two
  obtain ⟨t0, t1, t2, -⟩ := ht0.three
  obtain ⟨x0, x1, x2, -⟩ := hx0.three
  go_wp2_with fail
  refine (H2.out _).mono ?_
  rintro e w3 ⟨rfl, hb1⟩
  clear p0 p1 t0 t1 t2 x0 x1 x2
  replace hp0 := hp0.on hb1
  replace ht0 := ht0.on hb1
  replace hx0 := hx0.on hb1
  replace hb0 := on hb0 hb1
  clear hb1
  obtain ⟨p0, p1, -⟩ := hp0.two
  obtain ⟨t0, t1, t2, -⟩ := ht0.three
  obtain ⟨x0, x1, x2, -⟩ := hx0.three
  have HL1 := Lib.hid (HL.out.grown hb0)
  go_wp2_with fail
  refine (alive_c _ HL1.out).mono ?_
  rintro e w9 ⟨rfl, hb9⟩
  clear p0 p1 t0 t1 t2 x0 x1 x2 ht0 hx0 hp0
  go_wp2
  go_ret
  exact ⟨rfl, on hb0 hb9⟩
set_option maxRecDepth 100000 in
set_option maxHeartbeats 16000000 in
theorem faults_4 (op fn ak an : Int) (at_ : ByteArray) (bk bn : Int) (bt : ByteArray) (w : World) (h : mayV ak an at_ = true) (h2 : mayV bk bn bt = true) (ho1 : ¬ op < 1) (ho : 12 < op) (hL : CLibs w) :
    Calls Tryz.prog 5 #[.agg #[.int .i64 op, .int .i64 fn], .agg #[.int .i64 ak, .int .i64 an, .string at_], .agg #[.int .i64 bk, .int .i64 bn, .string bt]] w (LawEnd w) := by
  have hp0 := ((CellsAt.new w [.int .i64 op, .int .i64 fn] 37).on_alloc (.cells #[.int .i64 ak, .int .i64 an, .string at_] 23)).on_alloc (.cells #[.int .i64 bk, .int .i64 bn, .string bt] 23)
  have ht0 := (Lok.newAt (w0 := w.alloc (.cells #[.int .i64 op, .int .i64 fn] 37)) (g := w.heap.size + 1) (by simp) [.int .i64 ak, .int .i64 an, .string at_] 23).on_alloc (.cells #[.int .i64 bk, .int .i64 bn, .string bt] 23)
  have hx0 := Lok.newAt (w0 := (w.alloc (.cells #[.int .i64 op, .int .i64 fn] 37)).alloc (.cells #[.int .i64 ak, .int .i64 an, .string at_] 23)) (g := w.heap.size + 2) (by simp) [.int .i64 bk, .int .i64 bn, .string bt] 23
  have hb0 := on_alloc (below2 w (.cells #[.int .i64 op, .int .i64 fn] 37) (.cells #[.int .i64 ak, .int .i64 an, .string at_] 23)) (.cells #[.int .i64 bk, .int .i64 bn, .string bt] 23)
  have HL := Lib.hid hL
  clear hL
  obtain ⟨p0, p1, -⟩ := hp0.two
  obtain ⟨t0, t1, t2, -⟩ := ht0.three
  obtain ⟨x0, x1, x2, -⟩ := hx0.three
  have d1 : decide (op < 1) = false := decide_eq_false ho1
  have d2 : decide (12 < op) = true := decide_eq_true ho
  have H1 := Lib.hid (fun w1 => rmayv_c ak an at_ true h w1)
  have H2 := Lib.hid (fun w1 => rmayv_c bk bn bt true h2 w1)
  clear h h2
  go_enter Tryz.func5, Tryz.ntmps5
  go_wp2_with fail
  generalize ((w.alloc (.cells #[.int .i64 op, .int .i64 fn] 37)).alloc (.cells #[.int .i64 ak, .int .i64 an, .string at_] 23)).alloc (.cells #[.int .i64 bk, .int .i64 bn, .string bt] 23) = W1 at *
  have P0 := fun d os => cell_regrown p0 d os
  have P1 := fun d os => cell_regrown p1 d os
  have T0 := fun d os => cell_regrown t0 d os
  have T1 := fun d os => cell_regrown t1 d os
  have T2 := fun d os => cell_regrown t2 d os
  have X0 := fun d os => cell_regrown x0 d os
  have X1 := fun d os => cell_regrown x1 d os
  have X2 := fun d os => cell_regrown x2 d os
  refine wp_region_mem 6 (fun d => match d with
    | _ => none) (by kernel_rfl) (by kernel_rfl) ?_
  simp only [List.take_succ_cons, List.take_zero, List.drop_succ_cons, List.drop_zero]
  repeat (first | ((with_reducible refine wpM_calm ?_ ?_ ?_ ?_); exact rfl; exact rfl; exact rfl; intro K hK; go_big_quiet_op; go_big_quiet_on) | ((with_reducible refine wpM_skip ?_ ?_); exact rfl; simp only [Act.put, List.setIfInBounds_toArray, List.set_cons_succ, List.set_cons_zero]))
  refine wpM_nil ?_
  intro w1 hw1 _
  clear P0 P1 T0 T1 T2 X0 X1 X2
  clear p0 p1 t0 t1 t2 x0 x1 x2
  replace hp0 := hp0.on hw1
  replace ht0 := ht0.on hw1
  replace hx0 := hx0.on hw1
  replace hb0 := on hb0 hw1
  clear hw1
  obtain ⟨p0, p1, -⟩ := hp0.two
  obtain ⟨t0, t1, t2, -⟩ := ht0.three
  obtain ⟨x0, x1, x2, -⟩ := hx0.three
  go_wp2_with fail
  refine (H1.out _).mono ?_
  rintro e w2 ⟨rfl, hb1⟩
  clear p0 p1 t0 t1 t2 x0 x1 x2
  replace hp0 := hp0.on hb1
  replace ht0 := ht0.on hb1
  replace hx0 := hx0.on hb1
  replace hb0 := on hb0 hb1
  clear hb1
  obtain ⟨p0, p1, -⟩ := hp0.two
  obtain ⟨t0, t1, t2, -⟩ := ht0.three
  obtain ⟨x0, x1, x2, -⟩ := hx0.three
  go_wp2_with fail
  refine (H2.out _).mono ?_
  rintro e w3 ⟨rfl, hb1⟩
  clear p0 p1 t0 t1 t2 x0 x1 x2
  replace hp0 := hp0.on hb1
  replace ht0 := ht0.on hb1
  replace hx0 := hx0.on hb1
  replace hb0 := on hb0 hb1
  clear hb1
  obtain ⟨p0, p1, -⟩ := hp0.two
  obtain ⟨t0, t1, t2, -⟩ := ht0.three
  obtain ⟨x0, x1, x2, -⟩ := hx0.three
  have HL1 := Lib.hid (HL.out.grown hb0)
  go_wp2_with fail
  refine (alive_c _ HL1.out).mono ?_
  rintro e w9 ⟨rfl, hb9⟩
  clear p0 p1 t0 t1 t2 x0 x1 x2 ht0 hx0 hp0
  go_wp2
  go_ret
  exact ⟨rfl, on hb0 hb9⟩
set_option maxRecDepth 100000 in
set_option maxHeartbeats 16000000 in
theorem faults_5 (op fn ak an : Int) (at_ : ByteArray) (bk bn : Int) (bt : ByteArray) (vk vn : Int) (vt : ByteArray) (w : World) (h : mayV ak an at_ = true) (h2 : mayV bk bn bt = true) (ho1 : ¬ op < 1) (ho : ¬ 12 < op) (h4 : ¬ ak = 4) (g4 : ¬ bk = 4)
    (HV : ∀ w1, CLibs w1 → Calls Tryz.prog 9 #[.int .i64 op, .agg #[.int .i64 ak, .int .i64 an, .string at_], .agg #[.int .i64 bk, .int .i64 bn, .string bt]] w1 (ValIs vk vn vt w1)) (hL : CLibs w) :
    Calls Tryz.prog 5 #[.agg #[.int .i64 op, .int .i64 fn], .agg #[.int .i64 ak, .int .i64 an, .string at_], .agg #[.int .i64 bk, .int .i64 bn, .string bt]] w (LawEnd w) := by
  have hp0 := ((CellsAt.new w [.int .i64 op, .int .i64 fn] 37).on_alloc (.cells #[.int .i64 ak, .int .i64 an, .string at_] 23)).on_alloc (.cells #[.int .i64 bk, .int .i64 bn, .string bt] 23)
  have ht0 := (Lok.newAt (w0 := w.alloc (.cells #[.int .i64 op, .int .i64 fn] 37)) (g := w.heap.size + 1) (by simp) [.int .i64 ak, .int .i64 an, .string at_] 23).on_alloc (.cells #[.int .i64 bk, .int .i64 bn, .string bt] 23)
  have hx0 := Lok.newAt (w0 := (w.alloc (.cells #[.int .i64 op, .int .i64 fn] 37)).alloc (.cells #[.int .i64 ak, .int .i64 an, .string at_] 23)) (g := w.heap.size + 2) (by simp) [.int .i64 bk, .int .i64 bn, .string bt] 23
  have hb0 := on_alloc (below2 w (.cells #[.int .i64 op, .int .i64 fn] 37) (.cells #[.int .i64 ak, .int .i64 an, .string at_] 23)) (.cells #[.int .i64 bk, .int .i64 bn, .string bt] 23)
  have HL := Lib.hid hL
  clear hL
  obtain ⟨p0, p1, -⟩ := hp0.two
  obtain ⟨t0, t1, t2, -⟩ := ht0.three
  obtain ⟨x0, x1, x2, -⟩ := hx0.three
  have d1 : decide (op < 1) = false := decide_eq_false ho1
  have d2 : decide (12 < op) = false := decide_eq_false ho
  clear ho1 ho
  have q4 : (ak == 4) = false := beq_eq_false_iff_ne.2 h4
  have q5 : (bk == 4) = false := beq_eq_false_iff_ne.2 g4
  have H1 := Lib.hid (fun w1 => rmayv_c ak an at_ true h w1)
  have H2 := Lib.hid (fun w1 => rmayv_c bk bn bt true h2 w1)
  clear h h2
  go_enter Tryz.func5, Tryz.ntmps5
  go_wp2_with fail
  generalize ((w.alloc (.cells #[.int .i64 op, .int .i64 fn] 37)).alloc (.cells #[.int .i64 ak, .int .i64 an, .string at_] 23)).alloc (.cells #[.int .i64 bk, .int .i64 bn, .string bt] 23) = W1 at *
  have P0 := fun d os => cell_regrown p0 d os
  have P1 := fun d os => cell_regrown p1 d os
  have T0 := fun d os => cell_regrown t0 d os
  have T1 := fun d os => cell_regrown t1 d os
  have T2 := fun d os => cell_regrown t2 d os
  have X0 := fun d os => cell_regrown x0 d os
  have X1 := fun d os => cell_regrown x1 d os
  have X2 := fun d os => cell_regrown x2 d os
  refine wp_region_mem 6 (fun d => match d with
    | _ => none) (by kernel_rfl) (by kernel_rfl) ?_
  simp only [List.take_succ_cons, List.take_zero, List.drop_succ_cons, List.drop_zero]
  repeat (first | ((with_reducible refine wpM_calm ?_ ?_ ?_ ?_); exact rfl; exact rfl; exact rfl; intro K hK; go_big_quiet_op; go_big_quiet_on) | ((with_reducible refine wpM_skip ?_ ?_); exact rfl; simp only [Act.put, List.setIfInBounds_toArray, List.set_cons_succ, List.set_cons_zero]))
  refine wpM_nil ?_
  intro w1 hw1 _
  clear P0 P1 T0 T1 T2 X0 X1 X2
  clear p0 p1 t0 t1 t2 x0 x1 x2
  replace hp0 := hp0.on hw1
  replace ht0 := ht0.on hw1
  replace hx0 := hx0.on hw1
  replace hb0 := on hb0 hw1
  clear hw1
  obtain ⟨p0, p1, -⟩ := hp0.two
  obtain ⟨t0, t1, t2, -⟩ := ht0.three
  obtain ⟨x0, x1, x2, -⟩ := hx0.three
  go_wp2_with fail
  refine (H1.out _).mono ?_
  rintro e w2 ⟨rfl, hb1⟩
  clear p0 p1 t0 t1 t2 x0 x1 x2
  replace hp0 := hp0.on hb1
  replace ht0 := ht0.on hb1
  replace hx0 := hx0.on hb1
  replace hb0 := on hb0 hb1
  clear hb1
  obtain ⟨p0, p1, -⟩ := hp0.two
  obtain ⟨t0, t1, t2, -⟩ := ht0.three
  obtain ⟨x0, x1, x2, -⟩ := hx0.three
  go_wp2_with fail
  refine (H2.out _).mono ?_
  rintro e w3 ⟨rfl, hb1⟩
  clear p0 p1 t0 t1 t2 x0 x1 x2
  replace hp0 := hp0.on hb1
  replace ht0 := ht0.on hb1
  replace hx0 := hx0.on hb1
  replace hb0 := on hb0 hb1
  clear hb1
  obtain ⟨p0, p1, -⟩ := hp0.two
  obtain ⟨t0, t1, t2, -⟩ := ht0.three
  obtain ⟨x0, x1, x2, -⟩ := hx0.three
  replace HV := Lib.hid HV
  have HL1 := Lib.hid (HL.out.grown hb0)
  go_wp2_with fail
  refine (HV.out _ HL1.out).mono ?_
  rintro e w4 ⟨rfl, hb1⟩
  clear HL1 HV
  clear p0 p1 t0 t1 t2 x0 x1 x2
  replace hp0 := hp0.on hb1
  replace ht0 := ht0.on hb1
  replace hx0 := hx0.on hb1
  replace hb0 := on hb0 hb1
  clear hb1
  obtain ⟨p0, p1, -⟩ := hp0.two
  obtain ⟨t0, t1, t2, -⟩ := ht0.three
  obtain ⟨x0, x1, x2, -⟩ := hx0.three
  have hv0 := CellsAt.new w4 [.int .i64 vk, .int .i64 vn, .string vt] 23
  clear p0 p1 t0 t1 t2 x0 x1 x2
  replace hp0 := hp0.on_alloc (.cells #[.int .i64 vk, .int .i64 vn, .string vt] 23)
  replace ht0 := ht0.on_alloc (.cells #[.int .i64 vk, .int .i64 vn, .string vt] 23)
  replace hx0 := hx0.on_alloc (.cells #[.int .i64 vk, .int .i64 vn, .string vt] 23)
  replace hb0 := on_alloc hb0 (.cells #[.int .i64 vk, .int .i64 vn, .string vt] 23)
  obtain ⟨p0, p1, -⟩ := hp0.two
  obtain ⟨t0, t1, t2, -⟩ := ht0.three
  obtain ⟨x0, x1, x2, -⟩ := hx0.three
  obtain ⟨v0, v1, v2, -⟩ := hv0.three
  go_wp2_with fail
  have HL1 := Lib.hid (HL.out.grown hb0)
  go_wp2_with fail
  refine (alive_c _ HL1.out).mono ?_
  rintro e w9 ⟨rfl, hb9⟩
  clear p0 p1 t0 t1 t2 x0 x1 x2 ht0 hx0 hp0
  go_wp2
  go_ret
  exact ⟨rfl, on hb0 hb9⟩
set_option maxRecDepth 100000 in
set_option maxHeartbeats 16000000 in
theorem faults_6 (op fn ak an : Int) (at_ : ByteArray) (bn : Int) (bt : ByteArray) (w : World) (h : mayV ak an at_ = true) (h2 : mayV 4 bn bt = true) (ho1 : ¬ op < 1) (ho : ¬ 12 < op) (h4 : ¬ ak = 4)
    (HV : ∀ w1, CLibs w1 → Calls Tryz.prog 9 #[.int .i64 op, .agg #[.int .i64 ak, .int .i64 an, .string at_], .agg #[.int .i64 4, .int .i64 bn, .string bt]] w1 (ValIs 4 bn bt w1)) (hL : CLibs w) :
    Calls Tryz.prog 5 #[.agg #[.int .i64 op, .int .i64 fn], .agg #[.int .i64 ak, .int .i64 an, .string at_], .agg #[.int .i64 4, .int .i64 bn, .string bt]] w (LawEnd w) := by
  have hp0 := ((CellsAt.new w [.int .i64 op, .int .i64 fn] 37).on_alloc (.cells #[.int .i64 ak, .int .i64 an, .string at_] 23)).on_alloc (.cells #[.int .i64 4, .int .i64 bn, .string bt] 23)
  have ht0 := (Lok.newAt (w0 := w.alloc (.cells #[.int .i64 op, .int .i64 fn] 37)) (g := w.heap.size + 1) (by simp) [.int .i64 ak, .int .i64 an, .string at_] 23).on_alloc (.cells #[.int .i64 4, .int .i64 bn, .string bt] 23)
  have hx0 := Lok.newAt (w0 := (w.alloc (.cells #[.int .i64 op, .int .i64 fn] 37)).alloc (.cells #[.int .i64 ak, .int .i64 an, .string at_] 23)) (g := w.heap.size + 2) (by simp) [.int .i64 4, .int .i64 bn, .string bt] 23
  have hb0 := on_alloc (below2 w (.cells #[.int .i64 op, .int .i64 fn] 37) (.cells #[.int .i64 ak, .int .i64 an, .string at_] 23)) (.cells #[.int .i64 4, .int .i64 bn, .string bt] 23)
  have HL := Lib.hid hL
  clear hL
  obtain ⟨p0, p1, -⟩ := hp0.two
  obtain ⟨t0, t1, t2, -⟩ := ht0.three
  obtain ⟨x0, x1, x2, -⟩ := hx0.three
  have d1 : decide (op < 1) = false := decide_eq_false ho1
  have d2 : decide (12 < op) = false := decide_eq_false ho
  clear ho1 ho
  have q4 : (ak == 4) = false := beq_eq_false_iff_ne.2 h4
  have H1 := Lib.hid (fun w1 => rmayv_c ak an at_ true h w1)
  have H2 := Lib.hid (fun w1 => rmayv_c 4 bn bt true h2 w1)
  clear h h2
  go_enter Tryz.func5, Tryz.ntmps5
  go_wp2_with fail
  generalize ((w.alloc (.cells #[.int .i64 op, .int .i64 fn] 37)).alloc (.cells #[.int .i64 ak, .int .i64 an, .string at_] 23)).alloc (.cells #[.int .i64 4, .int .i64 bn, .string bt] 23) = W1 at *
  have P0 := fun d os => cell_regrown p0 d os
  have P1 := fun d os => cell_regrown p1 d os
  have T0 := fun d os => cell_regrown t0 d os
  have T1 := fun d os => cell_regrown t1 d os
  have T2 := fun d os => cell_regrown t2 d os
  have X0 := fun d os => cell_regrown x0 d os
  have X1 := fun d os => cell_regrown x1 d os
  have X2 := fun d os => cell_regrown x2 d os
  refine wp_region_mem 6 (fun d => match d with
    | _ => none) (by kernel_rfl) (by kernel_rfl) ?_
  simp only [List.take_succ_cons, List.take_zero, List.drop_succ_cons, List.drop_zero]
  repeat (first | ((with_reducible refine wpM_calm ?_ ?_ ?_ ?_); exact rfl; exact rfl; exact rfl; intro K hK; go_big_quiet_op; go_big_quiet_on) | ((with_reducible refine wpM_skip ?_ ?_); exact rfl; simp only [Act.put, List.setIfInBounds_toArray, List.set_cons_succ, List.set_cons_zero]))
  refine wpM_nil ?_
  intro w1 hw1 _
  clear P0 P1 T0 T1 T2 X0 X1 X2
  clear p0 p1 t0 t1 t2 x0 x1 x2
  replace hp0 := hp0.on hw1
  replace ht0 := ht0.on hw1
  replace hx0 := hx0.on hw1
  replace hb0 := on hb0 hw1
  clear hw1
  obtain ⟨p0, p1, -⟩ := hp0.two
  obtain ⟨t0, t1, t2, -⟩ := ht0.three
  obtain ⟨x0, x1, x2, -⟩ := hx0.three
  go_wp2_with fail
  refine (H1.out _).mono ?_
  rintro e w2 ⟨rfl, hb1⟩
  clear p0 p1 t0 t1 t2 x0 x1 x2
  replace hp0 := hp0.on hb1
  replace ht0 := ht0.on hb1
  replace hx0 := hx0.on hb1
  replace hb0 := on hb0 hb1
  clear hb1
  obtain ⟨p0, p1, -⟩ := hp0.two
  obtain ⟨t0, t1, t2, -⟩ := ht0.three
  obtain ⟨x0, x1, x2, -⟩ := hx0.three
  go_wp2_with fail
  refine (H2.out _).mono ?_
  rintro e w3 ⟨rfl, hb1⟩
  clear p0 p1 t0 t1 t2 x0 x1 x2
  replace hp0 := hp0.on hb1
  replace ht0 := ht0.on hb1
  replace hx0 := hx0.on hb1
  replace hb0 := on hb0 hb1
  clear hb1
  obtain ⟨p0, p1, -⟩ := hp0.two
  obtain ⟨t0, t1, t2, -⟩ := ht0.three
  obtain ⟨x0, x1, x2, -⟩ := hx0.three
  replace HV := Lib.hid HV
  have HL1 := Lib.hid (HL.out.grown hb0)
  go_wp2_with fail
  refine (HV.out _ HL1.out).mono ?_
  rintro e w4 ⟨rfl, hb1⟩
  clear HL1 HV
  clear p0 p1 t0 t1 t2 x0 x1 x2
  replace hp0 := hp0.on hb1
  replace ht0 := ht0.on hb1
  replace hx0 := hx0.on hb1
  replace hb0 := on hb0 hb1
  clear hb1
  obtain ⟨p0, p1, -⟩ := hp0.two
  obtain ⟨t0, t1, t2, -⟩ := ht0.three
  obtain ⟨x0, x1, x2, -⟩ := hx0.three
  have hv0 := CellsAt.new w4 [.int .i64 4, .int .i64 bn, .string bt] 23
  clear p0 p1 t0 t1 t2 x0 x1 x2
  replace hp0 := hp0.on_alloc (.cells #[.int .i64 4, .int .i64 bn, .string bt] 23)
  replace ht0 := ht0.on_alloc (.cells #[.int .i64 4, .int .i64 bn, .string bt] 23)
  replace hx0 := hx0.on_alloc (.cells #[.int .i64 4, .int .i64 bn, .string bt] 23)
  replace hb0 := on_alloc hb0 (.cells #[.int .i64 4, .int .i64 bn, .string bt] 23)
  obtain ⟨p0, p1, -⟩ := hp0.two
  obtain ⟨t0, t1, t2, -⟩ := ht0.three
  obtain ⟨x0, x1, x2, -⟩ := hx0.three
  obtain ⟨v0, v1, v2, -⟩ := hv0.three
  go_wp2_with fail
  have HL1 := Lib.hid (HL.out.grown hb0)
  go_wp2_with fail
  refine (alive_c _ HL1.out).mono ?_
  rintro e w9 ⟨rfl, hb9⟩
  clear p0 p1 t0 t1 t2 x0 x1 x2 ht0 hx0 hp0
  go_wp2
  go_ret
  exact ⟨rfl, on hb0 hb9⟩
set_option maxRecDepth 100000 in
set_option maxHeartbeats 16000000 in
theorem faults_7 (op fn ak an : Int) (at_ : ByteArray) (bn : Int) (vn : Int) (zn : Int) (zt : ByteArray) (w : World) (h : mayV ak an at_ = true) (h2 : mayV 4 bn ⟨#[]⟩ = true) (ho1 : ¬ op < 1) (ho : ¬ 12 < op) (h4 : ¬ ak = 4) (hne : ¬ vn = bn) (HN : ∀ w1, CLibs w1 → Calls Tryz.prog 19 #[.agg #[.int .i64 ak, .int .i64 an, .string at_]] w1 (ValIs 4 zn zt w1))
    (HV : ∀ w1, CLibs w1 → Calls Tryz.prog 9 #[.int .i64 op, .agg #[.int .i64 ak, .int .i64 an, .string at_], .agg #[.int .i64 4, .int .i64 bn, .string ⟨#[]⟩]] w1 (ValIs 4 vn ⟨#[]⟩ w1)) (hL : CLibs w) :
    Calls Tryz.prog 5 #[.agg #[.int .i64 op, .int .i64 fn], .agg #[.int .i64 ak, .int .i64 an, .string at_], .agg #[.int .i64 4, .int .i64 bn, .string ⟨#[]⟩]] w (LawEnd w) := by
  have hp0 := ((CellsAt.new w [.int .i64 op, .int .i64 fn] 37).on_alloc (.cells #[.int .i64 ak, .int .i64 an, .string at_] 23)).on_alloc (.cells #[.int .i64 4, .int .i64 bn, .string ⟨#[]⟩] 23)
  have ht0 := (Lok.newAt (w0 := w.alloc (.cells #[.int .i64 op, .int .i64 fn] 37)) (g := w.heap.size + 1) (by simp) [.int .i64 ak, .int .i64 an, .string at_] 23).on_alloc (.cells #[.int .i64 4, .int .i64 bn, .string ⟨#[]⟩] 23)
  have hx0 := Lok.newAt (w0 := (w.alloc (.cells #[.int .i64 op, .int .i64 fn] 37)).alloc (.cells #[.int .i64 ak, .int .i64 an, .string at_] 23)) (g := w.heap.size + 2) (by simp) [.int .i64 4, .int .i64 bn, .string ⟨#[]⟩] 23
  have hb0 := on_alloc (below2 w (.cells #[.int .i64 op, .int .i64 fn] 37) (.cells #[.int .i64 ak, .int .i64 an, .string at_] 23)) (.cells #[.int .i64 4, .int .i64 bn, .string ⟨#[]⟩] 23)
  have HL := Lib.hid hL
  clear hL
  obtain ⟨p0, p1, -⟩ := hp0.two
  obtain ⟨t0, t1, t2, -⟩ := ht0.three
  obtain ⟨x0, x1, x2, -⟩ := hx0.three
  have d1 : decide (op < 1) = false := decide_eq_false ho1
  have d2 : decide (12 < op) = false := decide_eq_false ho
  clear ho1 ho
  have q4 : (ak == 4) = false := beq_eq_false_iff_ne.2 h4
  have q6 : (vn == bn) = false := beq_eq_false_iff_ne.2 hne
  clear hne
  have H1 := Lib.hid (fun w1 => rmayv_c ak an at_ true h w1)
  have H2 := Lib.hid (fun w1 => rmayv_c 4 bn ⟨#[]⟩ true h2 w1)
  clear h h2
  go_enter Tryz.func5, Tryz.ntmps5
  go_wp2_with fail
  generalize ((w.alloc (.cells #[.int .i64 op, .int .i64 fn] 37)).alloc (.cells #[.int .i64 ak, .int .i64 an, .string at_] 23)).alloc (.cells #[.int .i64 4, .int .i64 bn, .string ⟨#[]⟩] 23) = W1 at *
  have P0 := fun d os => cell_regrown p0 d os
  have P1 := fun d os => cell_regrown p1 d os
  have T0 := fun d os => cell_regrown t0 d os
  have T1 := fun d os => cell_regrown t1 d os
  have T2 := fun d os => cell_regrown t2 d os
  have X0 := fun d os => cell_regrown x0 d os
  have X1 := fun d os => cell_regrown x1 d os
  have X2 := fun d os => cell_regrown x2 d os
  refine wp_region_mem 6 (fun d => match d with
    | _ => none) (by kernel_rfl) (by kernel_rfl) ?_
  simp only [List.take_succ_cons, List.take_zero, List.drop_succ_cons, List.drop_zero]
  repeat (first | ((with_reducible refine wpM_calm ?_ ?_ ?_ ?_); exact rfl; exact rfl; exact rfl; intro K hK; go_big_quiet_op; go_big_quiet_on) | ((with_reducible refine wpM_skip ?_ ?_); exact rfl; simp only [Act.put, List.setIfInBounds_toArray, List.set_cons_succ, List.set_cons_zero]))
  refine wpM_nil ?_
  intro w1 hw1 _
  clear P0 P1 T0 T1 T2 X0 X1 X2
  clear p0 p1 t0 t1 t2 x0 x1 x2
  replace hp0 := hp0.on hw1
  replace ht0 := ht0.on hw1
  replace hx0 := hx0.on hw1
  replace hb0 := on hb0 hw1
  clear hw1
  obtain ⟨p0, p1, -⟩ := hp0.two
  obtain ⟨t0, t1, t2, -⟩ := ht0.three
  obtain ⟨x0, x1, x2, -⟩ := hx0.three
  go_wp2_with fail
  refine (H1.out _).mono ?_
  rintro e w2 ⟨rfl, hb1⟩
  clear p0 p1 t0 t1 t2 x0 x1 x2
  replace hp0 := hp0.on hb1
  replace ht0 := ht0.on hb1
  replace hx0 := hx0.on hb1
  replace hb0 := on hb0 hb1
  clear hb1
  obtain ⟨p0, p1, -⟩ := hp0.two
  obtain ⟨t0, t1, t2, -⟩ := ht0.three
  obtain ⟨x0, x1, x2, -⟩ := hx0.three
  go_wp2_with fail
  refine (H2.out _).mono ?_
  rintro e w3 ⟨rfl, hb1⟩
  clear p0 p1 t0 t1 t2 x0 x1 x2
  replace hp0 := hp0.on hb1
  replace ht0 := ht0.on hb1
  replace hx0 := hx0.on hb1
  replace hb0 := on hb0 hb1
  clear hb1
  obtain ⟨p0, p1, -⟩ := hp0.two
  obtain ⟨t0, t1, t2, -⟩ := ht0.three
  obtain ⟨x0, x1, x2, -⟩ := hx0.three
  replace HN := Lib.hid HN
  have hfld := field_kd
  replace HV := Lib.hid HV
  have HL1 := Lib.hid (HL.out.grown hb0)
  go_wp2_with fail
  refine (HV.out _ HL1.out).mono ?_
  rintro e w4 ⟨rfl, hb1⟩
  clear HL1 HV
  clear p0 p1 t0 t1 t2 x0 x1 x2
  replace hp0 := hp0.on hb1
  replace ht0 := ht0.on hb1
  replace hx0 := hx0.on hb1
  replace hb0 := on hb0 hb1
  clear hb1
  obtain ⟨p0, p1, -⟩ := hp0.two
  obtain ⟨t0, t1, t2, -⟩ := ht0.three
  obtain ⟨x0, x1, x2, -⟩ := hx0.three
  have hv0 := CellsAt.new w4 [.int .i64 4, .int .i64 vn, .string ⟨#[]⟩] 23
  clear p0 p1 t0 t1 t2 x0 x1 x2
  replace hp0 := hp0.on_alloc (.cells #[.int .i64 4, .int .i64 vn, .string ⟨#[]⟩] 23)
  replace ht0 := ht0.on_alloc (.cells #[.int .i64 4, .int .i64 vn, .string ⟨#[]⟩] 23)
  replace hx0 := hx0.on_alloc (.cells #[.int .i64 4, .int .i64 vn, .string ⟨#[]⟩] 23)
  replace hb0 := on_alloc hb0 (.cells #[.int .i64 4, .int .i64 vn, .string ⟨#[]⟩] 23)
  obtain ⟨p0, p1, -⟩ := hp0.two
  obtain ⟨t0, t1, t2, -⟩ := ht0.three
  obtain ⟨x0, x1, x2, -⟩ := hx0.three
  obtain ⟨v0, v1, v2, -⟩ := hv0.three
  go_wp2_with fail
  have HL1 := Lib.hid (HL.out.grown hb0)
  refine (HN.out _ HL1.out).mono ?_
  rintro e w5 ⟨rfl, hb1⟩
  clear HL1 v0 v1 v2
  clear p0 p1 t0 t1 t2 x0 x1 x2
  replace hp0 := hp0.on hb1
  replace ht0 := ht0.on hb1
  replace hx0 := hx0.on hb1
  replace hb0 := on hb0 hb1
  clear hb1
  obtain ⟨p0, p1, -⟩ := hp0.two
  obtain ⟨t0, t1, t2, -⟩ := ht0.three
  obtain ⟨x0, x1, x2, -⟩ := hx0.three
  have HL1 := Lib.hid (HL.out.grown hb0)
  go_wp2_with fail
  refine (alive_c _ HL1.out).mono ?_
  rintro e w9 ⟨rfl, hb9⟩
  clear p0 p1 t0 t1 t2 x0 x1 x2 ht0 hx0 hp0
  go_wp2
  go_ret
  exact ⟨rfl, on hb0 hb9⟩
set_option maxRecDepth 100000 in
set_option maxHeartbeats 16000000 in
theorem faults_8 (op fn an : Int) (bk bn : Int) (bt : ByteArray) (w : World) (h : mayV 4 an ⟨#[]⟩ = true) (h2 : mayV bk bn bt = true) (ho1 : ¬ op < 1) (ho : ¬ 12 < op) (hf : Fnm.fitsF fn 1 = false) 
    (HV : ∀ w1, CLibs w1 → Calls Tryz.prog 9 #[.int .i64 op, .agg #[.int .i64 4, .int .i64 an, .string ⟨#[]⟩], .agg #[.int .i64 bk, .int .i64 bn, .string bt]] w1 (ValIs 4 an ⟨#[]⟩ w1)) (hL : CLibs w) :
    Calls Tryz.prog 5 #[.agg #[.int .i64 op, .int .i64 fn], .agg #[.int .i64 4, .int .i64 an, .string ⟨#[]⟩], .agg #[.int .i64 bk, .int .i64 bn, .string bt]] w (LawEnd w) := by
  have hp0 := ((CellsAt.new w [.int .i64 op, .int .i64 fn] 37).on_alloc (.cells #[.int .i64 4, .int .i64 an, .string ⟨#[]⟩] 23)).on_alloc (.cells #[.int .i64 bk, .int .i64 bn, .string bt] 23)
  have ht0 := (Lok.newAt (w0 := w.alloc (.cells #[.int .i64 op, .int .i64 fn] 37)) (g := w.heap.size + 1) (by simp) [.int .i64 4, .int .i64 an, .string ⟨#[]⟩] 23).on_alloc (.cells #[.int .i64 bk, .int .i64 bn, .string bt] 23)
  have hx0 := Lok.newAt (w0 := (w.alloc (.cells #[.int .i64 op, .int .i64 fn] 37)).alloc (.cells #[.int .i64 4, .int .i64 an, .string ⟨#[]⟩] 23)) (g := w.heap.size + 2) (by simp) [.int .i64 bk, .int .i64 bn, .string bt] 23
  have hb0 := on_alloc (below2 w (.cells #[.int .i64 op, .int .i64 fn] 37) (.cells #[.int .i64 4, .int .i64 an, .string ⟨#[]⟩] 23)) (.cells #[.int .i64 bk, .int .i64 bn, .string bt] 23)
  have HL := Lib.hid hL
  clear hL
  obtain ⟨p0, p1, -⟩ := hp0.two
  obtain ⟨t0, t1, t2, -⟩ := ht0.three
  obtain ⟨x0, x1, x2, -⟩ := hx0.three
  have d1 : decide (op < 1) = false := decide_eq_false ho1
  have d2 : decide (12 < op) = false := decide_eq_false ho
  clear ho1 ho
  have HF := Lib.hid (fun w1 => Fnm.fits_c fn 1 false hf w1)
  clear hf
  have H1 := Lib.hid (fun w1 => rmayv_c 4 an ⟨#[]⟩ true h w1)
  have H2 := Lib.hid (fun w1 => rmayv_c bk bn bt true h2 w1)
  clear h h2
  go_enter Tryz.func5, Tryz.ntmps5
  go_wp2_with fail
  generalize ((w.alloc (.cells #[.int .i64 op, .int .i64 fn] 37)).alloc (.cells #[.int .i64 4, .int .i64 an, .string ⟨#[]⟩] 23)).alloc (.cells #[.int .i64 bk, .int .i64 bn, .string bt] 23) = W1 at *
  have P0 := fun d os => cell_regrown p0 d os
  have P1 := fun d os => cell_regrown p1 d os
  have T0 := fun d os => cell_regrown t0 d os
  have T1 := fun d os => cell_regrown t1 d os
  have T2 := fun d os => cell_regrown t2 d os
  have X0 := fun d os => cell_regrown x0 d os
  have X1 := fun d os => cell_regrown x1 d os
  have X2 := fun d os => cell_regrown x2 d os
  refine wp_region_mem 6 (fun d => match d with
    | _ => none) (by kernel_rfl) (by kernel_rfl) ?_
  simp only [List.take_succ_cons, List.take_zero, List.drop_succ_cons, List.drop_zero]
  repeat (first | ((with_reducible refine wpM_calm ?_ ?_ ?_ ?_); exact rfl; exact rfl; exact rfl; intro K hK; go_big_quiet_op; go_big_quiet_on) | ((with_reducible refine wpM_skip ?_ ?_); exact rfl; simp only [Act.put, List.setIfInBounds_toArray, List.set_cons_succ, List.set_cons_zero]))
  refine wpM_nil ?_
  intro w1 hw1 _
  clear P0 P1 T0 T1 T2 X0 X1 X2
  clear p0 p1 t0 t1 t2 x0 x1 x2
  replace hp0 := hp0.on hw1
  replace ht0 := ht0.on hw1
  replace hx0 := hx0.on hw1
  replace hb0 := on hb0 hw1
  clear hw1
  obtain ⟨p0, p1, -⟩ := hp0.two
  obtain ⟨t0, t1, t2, -⟩ := ht0.three
  obtain ⟨x0, x1, x2, -⟩ := hx0.three
  go_wp2_with fail
  refine (H1.out _).mono ?_
  rintro e w2 ⟨rfl, hb1⟩
  clear p0 p1 t0 t1 t2 x0 x1 x2
  replace hp0 := hp0.on hb1
  replace ht0 := ht0.on hb1
  replace hx0 := hx0.on hb1
  replace hb0 := on hb0 hb1
  clear hb1
  obtain ⟨p0, p1, -⟩ := hp0.two
  obtain ⟨t0, t1, t2, -⟩ := ht0.three
  obtain ⟨x0, x1, x2, -⟩ := hx0.three
  go_wp2_with fail
  refine (H2.out _).mono ?_
  rintro e w3 ⟨rfl, hb1⟩
  clear p0 p1 t0 t1 t2 x0 x1 x2
  replace hp0 := hp0.on hb1
  replace ht0 := ht0.on hb1
  replace hx0 := hx0.on hb1
  replace hb0 := on hb0 hb1
  clear hb1
  obtain ⟨p0, p1, -⟩ := hp0.two
  obtain ⟨t0, t1, t2, -⟩ := ht0.three
  obtain ⟨x0, x1, x2, -⟩ := hx0.three
  replace HV := Lib.hid HV
  have HL1 := Lib.hid (HL.out.grown hb0)
  go_wp2_with fail
  refine (HV.out _ HL1.out).mono ?_
  rintro e w4 ⟨rfl, hb1⟩
  clear HL1 HV
  clear p0 p1 t0 t1 t2 x0 x1 x2
  replace hp0 := hp0.on hb1
  replace ht0 := ht0.on hb1
  replace hx0 := hx0.on hb1
  replace hb0 := on hb0 hb1
  clear hb1
  obtain ⟨p0, p1, -⟩ := hp0.two
  obtain ⟨t0, t1, t2, -⟩ := ht0.three
  obtain ⟨x0, x1, x2, -⟩ := hx0.three
  have hv0 := CellsAt.new w4 [.int .i64 4, .int .i64 an, .string ⟨#[]⟩] 23
  clear p0 p1 t0 t1 t2 x0 x1 x2
  replace hp0 := hp0.on_alloc (.cells #[.int .i64 4, .int .i64 an, .string ⟨#[]⟩] 23)
  replace ht0 := ht0.on_alloc (.cells #[.int .i64 4, .int .i64 an, .string ⟨#[]⟩] 23)
  replace hx0 := hx0.on_alloc (.cells #[.int .i64 4, .int .i64 an, .string ⟨#[]⟩] 23)
  replace hb0 := on_alloc hb0 (.cells #[.int .i64 4, .int .i64 an, .string ⟨#[]⟩] 23)
  obtain ⟨p0, p1, -⟩ := hp0.two
  obtain ⟨t0, t1, t2, -⟩ := ht0.three
  obtain ⟨x0, x1, x2, -⟩ := hx0.three
  obtain ⟨v0, v1, v2, -⟩ := hv0.three
  go_wp2_with fail
  refine (HF.out _).mono ?_
  rintro e w6 ⟨rfl, hb1⟩
  clear v0 v1 v2 HF
  clear p0 p1 t0 t1 t2 x0 x1 x2
  replace hp0 := hp0.on hb1
  replace ht0 := ht0.on hb1
  replace hx0 := hx0.on hb1
  replace hb0 := on hb0 hb1
  clear hb1
  obtain ⟨p0, p1, -⟩ := hp0.two
  obtain ⟨t0, t1, t2, -⟩ := ht0.three
  obtain ⟨x0, x1, x2, -⟩ := hx0.three
  have HL1 := Lib.hid (HL.out.grown hb0)
  go_wp2_with fail
  refine (alive_c _ HL1.out).mono ?_
  rintro e w9 ⟨rfl, hb9⟩
  clear p0 p1 t0 t1 t2 x0 x1 x2 ht0 hx0 hp0
  go_wp2
  go_ret
  exact ⟨rfl, on hb0 hb9⟩
set_option maxRecDepth 100000 in
set_option maxHeartbeats 16000000 in
theorem faults_9 (op fn an : Int) (bk bn : Int) (bt : ByteArray) (w : World) (h : mayV 4 an ⟨#[]⟩ = true) (h2 : mayV bk bn bt = true) (ho1 : ¬ op < 1) (ho : ¬ 12 < op) (hf : Fnm.fitsF fn 1 = true) (hx : fn = 13 ∨ fn = 14 ∨ fn = 15) 
    (HV : ∀ w1, CLibs w1 → Calls Tryz.prog 9 #[.int .i64 op, .agg #[.int .i64 4, .int .i64 an, .string ⟨#[]⟩], .agg #[.int .i64 bk, .int .i64 bn, .string bt]] w1 (ValIs 4 an ⟨#[]⟩ w1)) (hL : CLibs w) :
    Calls Tryz.prog 5 #[.agg #[.int .i64 op, .int .i64 fn], .agg #[.int .i64 4, .int .i64 an, .string ⟨#[]⟩], .agg #[.int .i64 bk, .int .i64 bn, .string bt]] w (LawEnd w) := by
  have hp0 := ((CellsAt.new w [.int .i64 op, .int .i64 fn] 37).on_alloc (.cells #[.int .i64 4, .int .i64 an, .string ⟨#[]⟩] 23)).on_alloc (.cells #[.int .i64 bk, .int .i64 bn, .string bt] 23)
  have ht0 := (Lok.newAt (w0 := w.alloc (.cells #[.int .i64 op, .int .i64 fn] 37)) (g := w.heap.size + 1) (by simp) [.int .i64 4, .int .i64 an, .string ⟨#[]⟩] 23).on_alloc (.cells #[.int .i64 bk, .int .i64 bn, .string bt] 23)
  have hx0 := Lok.newAt (w0 := (w.alloc (.cells #[.int .i64 op, .int .i64 fn] 37)).alloc (.cells #[.int .i64 4, .int .i64 an, .string ⟨#[]⟩] 23)) (g := w.heap.size + 2) (by simp) [.int .i64 bk, .int .i64 bn, .string bt] 23
  have hb0 := on_alloc (below2 w (.cells #[.int .i64 op, .int .i64 fn] 37) (.cells #[.int .i64 4, .int .i64 an, .string ⟨#[]⟩] 23)) (.cells #[.int .i64 bk, .int .i64 bn, .string bt] 23)
  have HL := Lib.hid hL
  clear hL
  obtain ⟨p0, p1, -⟩ := hp0.two
  obtain ⟨t0, t1, t2, -⟩ := ht0.three
  obtain ⟨x0, x1, x2, -⟩ := hx0.three
  have d1 : decide (op < 1) = false := decide_eq_false ho1
  have d2 : decide (12 < op) = false := decide_eq_false ho
  clear ho1 ho
  have HF := Lib.hid (fun w1 => Fnm.fits_c fn 1 true hf w1)
  clear hf
  have H1 := Lib.hid (fun w1 => rmayv_c 4 an ⟨#[]⟩ true h w1)
  have H2 := Lib.hid (fun w1 => rmayv_c bk bn bt true h2 w1)
  clear h h2
  go_enter Tryz.func5, Tryz.ntmps5
  go_wp2_with fail
  generalize ((w.alloc (.cells #[.int .i64 op, .int .i64 fn] 37)).alloc (.cells #[.int .i64 4, .int .i64 an, .string ⟨#[]⟩] 23)).alloc (.cells #[.int .i64 bk, .int .i64 bn, .string bt] 23) = W1 at *
  have P0 := fun d os => cell_regrown p0 d os
  have P1 := fun d os => cell_regrown p1 d os
  have T0 := fun d os => cell_regrown t0 d os
  have T1 := fun d os => cell_regrown t1 d os
  have T2 := fun d os => cell_regrown t2 d os
  have X0 := fun d os => cell_regrown x0 d os
  have X1 := fun d os => cell_regrown x1 d os
  have X2 := fun d os => cell_regrown x2 d os
  refine wp_region_mem 6 (fun d => match d with
    | _ => none) (by kernel_rfl) (by kernel_rfl) ?_
  simp only [List.take_succ_cons, List.take_zero, List.drop_succ_cons, List.drop_zero]
  repeat (first | ((with_reducible refine wpM_calm ?_ ?_ ?_ ?_); exact rfl; exact rfl; exact rfl; intro K hK; go_big_quiet_op; go_big_quiet_on) | ((with_reducible refine wpM_skip ?_ ?_); exact rfl; simp only [Act.put, List.setIfInBounds_toArray, List.set_cons_succ, List.set_cons_zero]))
  refine wpM_nil ?_
  intro w1 hw1 _
  clear P0 P1 T0 T1 T2 X0 X1 X2
  clear p0 p1 t0 t1 t2 x0 x1 x2
  replace hp0 := hp0.on hw1
  replace ht0 := ht0.on hw1
  replace hx0 := hx0.on hw1
  replace hb0 := on hb0 hw1
  clear hw1
  obtain ⟨p0, p1, -⟩ := hp0.two
  obtain ⟨t0, t1, t2, -⟩ := ht0.three
  obtain ⟨x0, x1, x2, -⟩ := hx0.three
  go_wp2_with fail
  refine (H1.out _).mono ?_
  rintro e w2 ⟨rfl, hb1⟩
  clear p0 p1 t0 t1 t2 x0 x1 x2
  replace hp0 := hp0.on hb1
  replace ht0 := ht0.on hb1
  replace hx0 := hx0.on hb1
  replace hb0 := on hb0 hb1
  clear hb1
  obtain ⟨p0, p1, -⟩ := hp0.two
  obtain ⟨t0, t1, t2, -⟩ := ht0.three
  obtain ⟨x0, x1, x2, -⟩ := hx0.three
  go_wp2_with fail
  refine (H2.out _).mono ?_
  rintro e w3 ⟨rfl, hb1⟩
  clear p0 p1 t0 t1 t2 x0 x1 x2
  replace hp0 := hp0.on hb1
  replace ht0 := ht0.on hb1
  replace hx0 := hx0.on hb1
  replace hb0 := on hb0 hb1
  clear hb1
  obtain ⟨p0, p1, -⟩ := hp0.two
  obtain ⟨t0, t1, t2, -⟩ := ht0.three
  obtain ⟨x0, x1, x2, -⟩ := hx0.three
  replace HV := Lib.hid HV
  have HL1 := Lib.hid (HL.out.grown hb0)
  go_wp2_with fail
  refine (HV.out _ HL1.out).mono ?_
  rintro e w4 ⟨rfl, hb1⟩
  clear HL1 HV
  clear p0 p1 t0 t1 t2 x0 x1 x2
  replace hp0 := hp0.on hb1
  replace ht0 := ht0.on hb1
  replace hx0 := hx0.on hb1
  replace hb0 := on hb0 hb1
  clear hb1
  obtain ⟨p0, p1, -⟩ := hp0.two
  obtain ⟨t0, t1, t2, -⟩ := ht0.three
  obtain ⟨x0, x1, x2, -⟩ := hx0.three
  have hv0 := CellsAt.new w4 [.int .i64 4, .int .i64 an, .string ⟨#[]⟩] 23
  clear p0 p1 t0 t1 t2 x0 x1 x2
  replace hp0 := hp0.on_alloc (.cells #[.int .i64 4, .int .i64 an, .string ⟨#[]⟩] 23)
  replace ht0 := ht0.on_alloc (.cells #[.int .i64 4, .int .i64 an, .string ⟨#[]⟩] 23)
  replace hx0 := hx0.on_alloc (.cells #[.int .i64 4, .int .i64 an, .string ⟨#[]⟩] 23)
  replace hb0 := on_alloc hb0 (.cells #[.int .i64 4, .int .i64 an, .string ⟨#[]⟩] 23)
  obtain ⟨p0, p1, -⟩ := hp0.two
  obtain ⟨t0, t1, t2, -⟩ := ht0.three
  obtain ⟨x0, x1, x2, -⟩ := hx0.three
  obtain ⟨v0, v1, v2, -⟩ := hv0.three
  go_wp2_with fail
  refine (HF.out _).mono ?_
  rintro e w6 ⟨rfl, hb1⟩
  clear v0 v1 v2 HF
  clear p0 p1 t0 t1 t2 x0 x1 x2
  replace hp0 := hp0.on hb1
  replace ht0 := ht0.on hb1
  replace hx0 := hx0.on hb1
  replace hb0 := on hb0 hb1
  clear hb1
  obtain ⟨p0, p1, -⟩ := hp0.two
  obtain ⟨t0, t1, t2, -⟩ := ht0.three
  obtain ⟨x0, x1, x2, -⟩ := hx0.three
  have HL1 := Lib.hid (HL.out.grown hb0)
  rcases hx with rfl | rfl | rfl
  all_goals
    go_wp2_with fail
    refine (alive_c _ HL1.out).mono ?_
    rintro e w9 ⟨rfl, hb9⟩
    clear p0 p1 t0 t1 t2 x0 x1 x2 ht0 hx0 hp0
    go_wp2
    go_ret
    exact ⟨rfl, on hb0 hb9⟩
set_option maxRecDepth 100000 in
set_option maxHeartbeats 16000000 in
theorem faults_10 (op fn an : Int) (bk bn : Int) (bt : ByteArray) (w : World) (h : mayV 4 an ⟨#[]⟩ = true) (h2 : mayV bk bn bt = true) (ho1 : ¬ op < 1) (ho : ¬ 12 < op) (hf : Fnm.fitsF fn 1 = true) (x13 : ¬ fn = 13) (x14 : ¬ fn = 14) (x15 : ¬ fn = 15) (hx : 29 ≤ fn ∧ fn ≤ 33) 
    (HV : ∀ w1, CLibs w1 → Calls Tryz.prog 9 #[.int .i64 op, .agg #[.int .i64 4, .int .i64 an, .string ⟨#[]⟩], .agg #[.int .i64 bk, .int .i64 bn, .string bt]] w1 (ValIs 4 an ⟨#[]⟩ w1)) (hL : CLibs w) :
    Calls Tryz.prog 5 #[.agg #[.int .i64 op, .int .i64 fn], .agg #[.int .i64 4, .int .i64 an, .string ⟨#[]⟩], .agg #[.int .i64 bk, .int .i64 bn, .string bt]] w (LawEnd w) := by
  have hp0 := ((CellsAt.new w [.int .i64 op, .int .i64 fn] 37).on_alloc (.cells #[.int .i64 4, .int .i64 an, .string ⟨#[]⟩] 23)).on_alloc (.cells #[.int .i64 bk, .int .i64 bn, .string bt] 23)
  have ht0 := (Lok.newAt (w0 := w.alloc (.cells #[.int .i64 op, .int .i64 fn] 37)) (g := w.heap.size + 1) (by simp) [.int .i64 4, .int .i64 an, .string ⟨#[]⟩] 23).on_alloc (.cells #[.int .i64 bk, .int .i64 bn, .string bt] 23)
  have hx0 := Lok.newAt (w0 := (w.alloc (.cells #[.int .i64 op, .int .i64 fn] 37)).alloc (.cells #[.int .i64 4, .int .i64 an, .string ⟨#[]⟩] 23)) (g := w.heap.size + 2) (by simp) [.int .i64 bk, .int .i64 bn, .string bt] 23
  have hb0 := on_alloc (below2 w (.cells #[.int .i64 op, .int .i64 fn] 37) (.cells #[.int .i64 4, .int .i64 an, .string ⟨#[]⟩] 23)) (.cells #[.int .i64 bk, .int .i64 bn, .string bt] 23)
  have HL := Lib.hid hL
  clear hL
  obtain ⟨p0, p1, -⟩ := hp0.two
  obtain ⟨t0, t1, t2, -⟩ := ht0.three
  obtain ⟨x0, x1, x2, -⟩ := hx0.three
  have d1 : decide (op < 1) = false := decide_eq_false ho1
  have d2 : decide (12 < op) = false := decide_eq_false ho
  clear ho1 ho
  have HF := Lib.hid (fun w1 => Fnm.fits_c fn 1 true hf w1)
  have e13 : (fn == 13) = false := beq_eq_false_iff_ne.2 (by omega)
  have e14 : (fn == 14) = false := beq_eq_false_iff_ne.2 (by omega)
  have e15 : (fn == 15) = false := beq_eq_false_iff_ne.2 (by omega)
  have d29 : decide (29 ≤ fn) = true := decide_eq_true (by omega)
  have d33 : decide (fn ≤ 33) = true := decide_eq_true (by omega)
  clear hf x13 x14 x15 hx
  have H1 := Lib.hid (fun w1 => rmayv_c 4 an ⟨#[]⟩ true h w1)
  have H2 := Lib.hid (fun w1 => rmayv_c bk bn bt true h2 w1)
  clear h h2
  go_enter Tryz.func5, Tryz.ntmps5
  go_wp2_with fail
  generalize ((w.alloc (.cells #[.int .i64 op, .int .i64 fn] 37)).alloc (.cells #[.int .i64 4, .int .i64 an, .string ⟨#[]⟩] 23)).alloc (.cells #[.int .i64 bk, .int .i64 bn, .string bt] 23) = W1 at *
  have P0 := fun d os => cell_regrown p0 d os
  have P1 := fun d os => cell_regrown p1 d os
  have T0 := fun d os => cell_regrown t0 d os
  have T1 := fun d os => cell_regrown t1 d os
  have T2 := fun d os => cell_regrown t2 d os
  have X0 := fun d os => cell_regrown x0 d os
  have X1 := fun d os => cell_regrown x1 d os
  have X2 := fun d os => cell_regrown x2 d os
  refine wp_region_mem 6 (fun d => match d with
    | _ => none) (by kernel_rfl) (by kernel_rfl) ?_
  simp only [List.take_succ_cons, List.take_zero, List.drop_succ_cons, List.drop_zero]
  repeat (first | ((with_reducible refine wpM_calm ?_ ?_ ?_ ?_); exact rfl; exact rfl; exact rfl; intro K hK; go_big_quiet_op; go_big_quiet_on) | ((with_reducible refine wpM_skip ?_ ?_); exact rfl; simp only [Act.put, List.setIfInBounds_toArray, List.set_cons_succ, List.set_cons_zero]))
  refine wpM_nil ?_
  intro w1 hw1 _
  clear P0 P1 T0 T1 T2 X0 X1 X2
  clear p0 p1 t0 t1 t2 x0 x1 x2
  replace hp0 := hp0.on hw1
  replace ht0 := ht0.on hw1
  replace hx0 := hx0.on hw1
  replace hb0 := on hb0 hw1
  clear hw1
  obtain ⟨p0, p1, -⟩ := hp0.two
  obtain ⟨t0, t1, t2, -⟩ := ht0.three
  obtain ⟨x0, x1, x2, -⟩ := hx0.three
  go_wp2_with fail
  refine (H1.out _).mono ?_
  rintro e w2 ⟨rfl, hb1⟩
  clear p0 p1 t0 t1 t2 x0 x1 x2
  replace hp0 := hp0.on hb1
  replace ht0 := ht0.on hb1
  replace hx0 := hx0.on hb1
  replace hb0 := on hb0 hb1
  clear hb1
  obtain ⟨p0, p1, -⟩ := hp0.two
  obtain ⟨t0, t1, t2, -⟩ := ht0.three
  obtain ⟨x0, x1, x2, -⟩ := hx0.three
  go_wp2_with fail
  refine (H2.out _).mono ?_
  rintro e w3 ⟨rfl, hb1⟩
  clear p0 p1 t0 t1 t2 x0 x1 x2
  replace hp0 := hp0.on hb1
  replace ht0 := ht0.on hb1
  replace hx0 := hx0.on hb1
  replace hb0 := on hb0 hb1
  clear hb1
  obtain ⟨p0, p1, -⟩ := hp0.two
  obtain ⟨t0, t1, t2, -⟩ := ht0.three
  obtain ⟨x0, x1, x2, -⟩ := hx0.three
  replace HV := Lib.hid HV
  have HL1 := Lib.hid (HL.out.grown hb0)
  go_wp2_with fail
  refine (HV.out _ HL1.out).mono ?_
  rintro e w4 ⟨rfl, hb1⟩
  clear HL1 HV
  clear p0 p1 t0 t1 t2 x0 x1 x2
  replace hp0 := hp0.on hb1
  replace ht0 := ht0.on hb1
  replace hx0 := hx0.on hb1
  replace hb0 := on hb0 hb1
  clear hb1
  obtain ⟨p0, p1, -⟩ := hp0.two
  obtain ⟨t0, t1, t2, -⟩ := ht0.three
  obtain ⟨x0, x1, x2, -⟩ := hx0.three
  have hv0 := CellsAt.new w4 [.int .i64 4, .int .i64 an, .string ⟨#[]⟩] 23
  clear p0 p1 t0 t1 t2 x0 x1 x2
  replace hp0 := hp0.on_alloc (.cells #[.int .i64 4, .int .i64 an, .string ⟨#[]⟩] 23)
  replace ht0 := ht0.on_alloc (.cells #[.int .i64 4, .int .i64 an, .string ⟨#[]⟩] 23)
  replace hx0 := hx0.on_alloc (.cells #[.int .i64 4, .int .i64 an, .string ⟨#[]⟩] 23)
  replace hb0 := on_alloc hb0 (.cells #[.int .i64 4, .int .i64 an, .string ⟨#[]⟩] 23)
  obtain ⟨p0, p1, -⟩ := hp0.two
  obtain ⟨t0, t1, t2, -⟩ := ht0.three
  obtain ⟨x0, x1, x2, -⟩ := hx0.three
  obtain ⟨v0, v1, v2, -⟩ := hv0.three
  go_wp2_with fail
  refine (HF.out _).mono ?_
  rintro e w6 ⟨rfl, hb1⟩
  clear v0 v1 v2 HF
  clear p0 p1 t0 t1 t2 x0 x1 x2
  replace hp0 := hp0.on hb1
  replace ht0 := ht0.on hb1
  replace hx0 := hx0.on hb1
  replace hb0 := on hb0 hb1
  clear hb1
  obtain ⟨p0, p1, -⟩ := hp0.two
  obtain ⟨t0, t1, t2, -⟩ := ht0.three
  obtain ⟨x0, x1, x2, -⟩ := hx0.three
  have HL1 := Lib.hid (HL.out.grown hb0)
  go_wp2_with fail
  refine (alive_c _ HL1.out).mono ?_
  rintro e w9 ⟨rfl, hb9⟩
  clear p0 p1 t0 t1 t2 x0 x1 x2 ht0 hx0 hp0
  go_wp2
  go_ret
  exact ⟨rfl, on hb0 hb9⟩
set_option maxRecDepth 100000 in
set_option maxHeartbeats 16000000 in
theorem faults_11a (op fn an : Int) (bk bn : Int) (bt : ByteArray) (w : World) (h : mayV 4 an ⟨#[]⟩ = true) (h2 : mayV bk bn bt = true) (ho1 : ¬ op < 1) (ho : ¬ 12 < op) (hf : Fnm.fitsF fn 1 = true) (x13 : ¬ fn = 13) (x14 : ¬ fn = 14) (x15 : ¬ fn = 15) (hx : fn < 29) (k1 : ¬ kdF fn 0 = 118) (k2 : ¬ kdF fn 0 = 108) 
    (HV : ∀ w1, CLibs w1 → Calls Tryz.prog 9 #[.int .i64 op, .agg #[.int .i64 4, .int .i64 an, .string ⟨#[]⟩], .agg #[.int .i64 bk, .int .i64 bn, .string bt]] w1 (ValIs 4 an ⟨#[]⟩ w1)) (hL : CLibs w) :
    Calls Tryz.prog 5 #[.agg #[.int .i64 op, .int .i64 fn], .agg #[.int .i64 4, .int .i64 an, .string ⟨#[]⟩], .agg #[.int .i64 bk, .int .i64 bn, .string bt]] w (LawEnd w) := by
  have hp0 := ((CellsAt.new w [.int .i64 op, .int .i64 fn] 37).on_alloc (.cells #[.int .i64 4, .int .i64 an, .string ⟨#[]⟩] 23)).on_alloc (.cells #[.int .i64 bk, .int .i64 bn, .string bt] 23)
  have ht0 := (Lok.newAt (w0 := w.alloc (.cells #[.int .i64 op, .int .i64 fn] 37)) (g := w.heap.size + 1) (by simp) [.int .i64 4, .int .i64 an, .string ⟨#[]⟩] 23).on_alloc (.cells #[.int .i64 bk, .int .i64 bn, .string bt] 23)
  have hx0 := Lok.newAt (w0 := (w.alloc (.cells #[.int .i64 op, .int .i64 fn] 37)).alloc (.cells #[.int .i64 4, .int .i64 an, .string ⟨#[]⟩] 23)) (g := w.heap.size + 2) (by simp) [.int .i64 bk, .int .i64 bn, .string bt] 23
  have hb0 := on_alloc (below2 w (.cells #[.int .i64 op, .int .i64 fn] 37) (.cells #[.int .i64 4, .int .i64 an, .string ⟨#[]⟩] 23)) (.cells #[.int .i64 bk, .int .i64 bn, .string bt] 23)
  have HL := Lib.hid hL
  clear hL
  obtain ⟨p0, p1, -⟩ := hp0.two
  obtain ⟨t0, t1, t2, -⟩ := ht0.three
  obtain ⟨x0, x1, x2, -⟩ := hx0.three
  have d1 : decide (op < 1) = false := decide_eq_false ho1
  have d2 : decide (12 < op) = false := decide_eq_false ho
  clear ho1 ho
  have HF := Lib.hid (fun w1 => Fnm.fits_c fn 1 true hf w1)
  have e13 : (fn == 13) = false := beq_eq_false_iff_ne.2 (by omega)
  have e14 : (fn == 14) = false := beq_eq_false_iff_ne.2 (by omega)
  have e15 : (fn == 15) = false := beq_eq_false_iff_ne.2 (by omega)
  have d29 : decide (29 ≤ fn) = false := decide_eq_false (by omega)
  have HK : Hid (∀ w1, Calls Tryz.prog 21 #[.int .i64 fn, .int .i64 0] w1 fun e w2 => e = .returned (.int .u8 (kdF fn 0 : Int)) ∧ Below w1.heap.size w1 w2) := Lib.hid (fun w1 => Fnm.kind_c fn 0 _ rfl w1)
  obtain ⟨kn, hkn⟩ : ∃ kn : Int, (kdF fn 0 : Int) = kn := ⟨_, rfl⟩
  rw [hkn] at HK
  have e118 : (kn == 118) = false := beq_eq_false_iff_ne.2 (by omega)
  have n118 : (kn != 118) = true := by rw [bne, e118]; rfl
  have e108 : (kn == 108) = false := beq_eq_false_iff_ne.2 (by omega)
  have n108 : (kn != 108) = true := by rw [bne, e108]; rfl
  clear hf x13 x14 x15 hx k1 k2 hkn
  have H1 := Lib.hid (fun w1 => rmayv_c 4 an ⟨#[]⟩ true h w1)
  have H2 := Lib.hid (fun w1 => rmayv_c bk bn bt true h2 w1)
  clear h h2
  go_enter Tryz.func5, Tryz.ntmps5
  go_wp2_with fail
  generalize ((w.alloc (.cells #[.int .i64 op, .int .i64 fn] 37)).alloc (.cells #[.int .i64 4, .int .i64 an, .string ⟨#[]⟩] 23)).alloc (.cells #[.int .i64 bk, .int .i64 bn, .string bt] 23) = W1 at *
  have P0 := fun d os => cell_regrown p0 d os
  have P1 := fun d os => cell_regrown p1 d os
  have T0 := fun d os => cell_regrown t0 d os
  have T1 := fun d os => cell_regrown t1 d os
  have T2 := fun d os => cell_regrown t2 d os
  have X0 := fun d os => cell_regrown x0 d os
  have X1 := fun d os => cell_regrown x1 d os
  have X2 := fun d os => cell_regrown x2 d os
  refine wp_region_mem 6 (fun d => match d with
    | _ => none) (by kernel_rfl) (by kernel_rfl) ?_
  simp only [List.take_succ_cons, List.take_zero, List.drop_succ_cons, List.drop_zero]
  repeat (first | ((with_reducible refine wpM_calm ?_ ?_ ?_ ?_); exact rfl; exact rfl; exact rfl; intro K hK; go_big_quiet_op; go_big_quiet_on) | ((with_reducible refine wpM_skip ?_ ?_); exact rfl; simp only [Act.put, List.setIfInBounds_toArray, List.set_cons_succ, List.set_cons_zero]))
  refine wpM_nil ?_
  intro w1 hw1 _
  clear P0 P1 T0 T1 T2 X0 X1 X2
  clear p0 p1 t0 t1 t2 x0 x1 x2
  replace hp0 := hp0.on hw1
  replace ht0 := ht0.on hw1
  replace hx0 := hx0.on hw1
  replace hb0 := on hb0 hw1
  clear hw1
  obtain ⟨p0, p1, -⟩ := hp0.two
  obtain ⟨t0, t1, t2, -⟩ := ht0.three
  obtain ⟨x0, x1, x2, -⟩ := hx0.three
  go_wp2_with fail
  refine (H1.out _).mono ?_
  rintro e w2 ⟨rfl, hb1⟩
  clear p0 p1 t0 t1 t2 x0 x1 x2
  replace hp0 := hp0.on hb1
  replace ht0 := ht0.on hb1
  replace hx0 := hx0.on hb1
  replace hb0 := on hb0 hb1
  clear hb1
  obtain ⟨p0, p1, -⟩ := hp0.two
  obtain ⟨t0, t1, t2, -⟩ := ht0.three
  obtain ⟨x0, x1, x2, -⟩ := hx0.three
  go_wp2_with fail
  refine (H2.out _).mono ?_
  rintro e w3 ⟨rfl, hb1⟩
  clear p0 p1 t0 t1 t2 x0 x1 x2
  replace hp0 := hp0.on hb1
  replace ht0 := ht0.on hb1
  replace hx0 := hx0.on hb1
  replace hb0 := on hb0 hb1
  clear hb1
  obtain ⟨p0, p1, -⟩ := hp0.two
  obtain ⟨t0, t1, t2, -⟩ := ht0.three
  obtain ⟨x0, x1, x2, -⟩ := hx0.three
  replace HV := Lib.hid HV
  have HL1 := Lib.hid (HL.out.grown hb0)
  go_wp2_with fail
  refine (HV.out _ HL1.out).mono ?_
  rintro e w4 ⟨rfl, hb1⟩
  clear HL1 HV
  clear p0 p1 t0 t1 t2 x0 x1 x2
  replace hp0 := hp0.on hb1
  replace ht0 := ht0.on hb1
  replace hx0 := hx0.on hb1
  replace hb0 := on hb0 hb1
  clear hb1
  obtain ⟨p0, p1, -⟩ := hp0.two
  obtain ⟨t0, t1, t2, -⟩ := ht0.three
  obtain ⟨x0, x1, x2, -⟩ := hx0.three
  have hv0 := CellsAt.new w4 [.int .i64 4, .int .i64 an, .string ⟨#[]⟩] 23
  clear p0 p1 t0 t1 t2 x0 x1 x2
  replace hp0 := hp0.on_alloc (.cells #[.int .i64 4, .int .i64 an, .string ⟨#[]⟩] 23)
  replace ht0 := ht0.on_alloc (.cells #[.int .i64 4, .int .i64 an, .string ⟨#[]⟩] 23)
  replace hx0 := hx0.on_alloc (.cells #[.int .i64 4, .int .i64 an, .string ⟨#[]⟩] 23)
  replace hb0 := on_alloc hb0 (.cells #[.int .i64 4, .int .i64 an, .string ⟨#[]⟩] 23)
  obtain ⟨p0, p1, -⟩ := hp0.two
  obtain ⟨t0, t1, t2, -⟩ := ht0.three
  obtain ⟨x0, x1, x2, -⟩ := hx0.three
  obtain ⟨v0, v1, v2, -⟩ := hv0.three
  go_wp2_with fail
  refine (HF.out _).mono ?_
  rintro e w6 ⟨rfl, hb1⟩
  clear v0 v1 v2 HF
  clear p0 p1 t0 t1 t2 x0 x1 x2
  replace hp0 := hp0.on hb1
  replace ht0 := ht0.on hb1
  replace hx0 := hx0.on hb1
  replace hb0 := on hb0 hb1
  clear hb1
  obtain ⟨p0, p1, -⟩ := hp0.two
  obtain ⟨t0, t1, t2, -⟩ := ht0.three
  obtain ⟨x0, x1, x2, -⟩ := hx0.three
  go_wp2_with fail
  refine (HK.out _).mono ?_
  rintro e w7 ⟨rfl, hb1⟩
  clear HK
  clear p0 p1 t0 t1 t2 x0 x1 x2
  replace hp0 := hp0.on hb1
  replace ht0 := ht0.on hb1
  replace hx0 := hx0.on hb1
  replace hb0 := on hb0 hb1
  clear hb1
  obtain ⟨p0, p1, -⟩ := hp0.two
  obtain ⟨t0, t1, t2, -⟩ := ht0.three
  obtain ⟨x0, x1, x2, -⟩ := hx0.three
  have HL1 := Lib.hid (HL.out.grown hb0)
  go_wp2_with fail
  refine (alive_c _ HL1.out).mono ?_
  rintro e w9 ⟨rfl, hb9⟩
  clear p0 p1 t0 t1 t2 x0 x1 x2 ht0 hx0 hp0
  go_wp2
  go_ret
  exact ⟨rfl, on hb0 hb9⟩
set_option maxRecDepth 100000 in
set_option maxHeartbeats 16000000 in
theorem faults_11b (op fn an : Int) (bk bn : Int) (bt : ByteArray) (w : World) (h : mayV 4 an ⟨#[]⟩ = true) (h2 : mayV bk bn bt = true) (ho1 : ¬ op < 1) (ho : ¬ 12 < op) (hf : Fnm.fitsF fn 1 = true) (x13 : ¬ fn = 13) (x14 : ¬ fn = 14) (x15 : ¬ fn = 15) (hx : 33 < fn) (k1 : ¬ kdF fn 0 = 118) (k2 : ¬ kdF fn 0 = 108) 
    (HV : ∀ w1, CLibs w1 → Calls Tryz.prog 9 #[.int .i64 op, .agg #[.int .i64 4, .int .i64 an, .string ⟨#[]⟩], .agg #[.int .i64 bk, .int .i64 bn, .string bt]] w1 (ValIs 4 an ⟨#[]⟩ w1)) (hL : CLibs w) :
    Calls Tryz.prog 5 #[.agg #[.int .i64 op, .int .i64 fn], .agg #[.int .i64 4, .int .i64 an, .string ⟨#[]⟩], .agg #[.int .i64 bk, .int .i64 bn, .string bt]] w (LawEnd w) := by
  have hp0 := ((CellsAt.new w [.int .i64 op, .int .i64 fn] 37).on_alloc (.cells #[.int .i64 4, .int .i64 an, .string ⟨#[]⟩] 23)).on_alloc (.cells #[.int .i64 bk, .int .i64 bn, .string bt] 23)
  have ht0 := (Lok.newAt (w0 := w.alloc (.cells #[.int .i64 op, .int .i64 fn] 37)) (g := w.heap.size + 1) (by simp) [.int .i64 4, .int .i64 an, .string ⟨#[]⟩] 23).on_alloc (.cells #[.int .i64 bk, .int .i64 bn, .string bt] 23)
  have hx0 := Lok.newAt (w0 := (w.alloc (.cells #[.int .i64 op, .int .i64 fn] 37)).alloc (.cells #[.int .i64 4, .int .i64 an, .string ⟨#[]⟩] 23)) (g := w.heap.size + 2) (by simp) [.int .i64 bk, .int .i64 bn, .string bt] 23
  have hb0 := on_alloc (below2 w (.cells #[.int .i64 op, .int .i64 fn] 37) (.cells #[.int .i64 4, .int .i64 an, .string ⟨#[]⟩] 23)) (.cells #[.int .i64 bk, .int .i64 bn, .string bt] 23)
  have HL := Lib.hid hL
  clear hL
  obtain ⟨p0, p1, -⟩ := hp0.two
  obtain ⟨t0, t1, t2, -⟩ := ht0.three
  obtain ⟨x0, x1, x2, -⟩ := hx0.three
  have d1 : decide (op < 1) = false := decide_eq_false ho1
  have d2 : decide (12 < op) = false := decide_eq_false ho
  clear ho1 ho
  have HF := Lib.hid (fun w1 => Fnm.fits_c fn 1 true hf w1)
  have e13 : (fn == 13) = false := beq_eq_false_iff_ne.2 (by omega)
  have e14 : (fn == 14) = false := beq_eq_false_iff_ne.2 (by omega)
  have e15 : (fn == 15) = false := beq_eq_false_iff_ne.2 (by omega)
  have d29 : decide (29 ≤ fn) = true := decide_eq_true (by omega)
  have d33 : decide (fn ≤ 33) = false := decide_eq_false (by omega)
  have HK : Hid (∀ w1, Calls Tryz.prog 21 #[.int .i64 fn, .int .i64 0] w1 fun e w2 => e = .returned (.int .u8 (kdF fn 0 : Int)) ∧ Below w1.heap.size w1 w2) := Lib.hid (fun w1 => Fnm.kind_c fn 0 _ rfl w1)
  obtain ⟨kn, hkn⟩ : ∃ kn : Int, (kdF fn 0 : Int) = kn := ⟨_, rfl⟩
  rw [hkn] at HK
  have e118 : (kn == 118) = false := beq_eq_false_iff_ne.2 (by omega)
  have n118 : (kn != 118) = true := by rw [bne, e118]; rfl
  have e108 : (kn == 108) = false := beq_eq_false_iff_ne.2 (by omega)
  have n108 : (kn != 108) = true := by rw [bne, e108]; rfl
  clear hf x13 x14 x15 hx k1 k2 hkn
  have H1 := Lib.hid (fun w1 => rmayv_c 4 an ⟨#[]⟩ true h w1)
  have H2 := Lib.hid (fun w1 => rmayv_c bk bn bt true h2 w1)
  clear h h2
  go_enter Tryz.func5, Tryz.ntmps5
  go_wp2_with fail
  generalize ((w.alloc (.cells #[.int .i64 op, .int .i64 fn] 37)).alloc (.cells #[.int .i64 4, .int .i64 an, .string ⟨#[]⟩] 23)).alloc (.cells #[.int .i64 bk, .int .i64 bn, .string bt] 23) = W1 at *
  have P0 := fun d os => cell_regrown p0 d os
  have P1 := fun d os => cell_regrown p1 d os
  have T0 := fun d os => cell_regrown t0 d os
  have T1 := fun d os => cell_regrown t1 d os
  have T2 := fun d os => cell_regrown t2 d os
  have X0 := fun d os => cell_regrown x0 d os
  have X1 := fun d os => cell_regrown x1 d os
  have X2 := fun d os => cell_regrown x2 d os
  refine wp_region_mem 6 (fun d => match d with
    | _ => none) (by kernel_rfl) (by kernel_rfl) ?_
  simp only [List.take_succ_cons, List.take_zero, List.drop_succ_cons, List.drop_zero]
  repeat (first | ((with_reducible refine wpM_calm ?_ ?_ ?_ ?_); exact rfl; exact rfl; exact rfl; intro K hK; go_big_quiet_op; go_big_quiet_on) | ((with_reducible refine wpM_skip ?_ ?_); exact rfl; simp only [Act.put, List.setIfInBounds_toArray, List.set_cons_succ, List.set_cons_zero]))
  refine wpM_nil ?_
  intro w1 hw1 _
  clear P0 P1 T0 T1 T2 X0 X1 X2
  clear p0 p1 t0 t1 t2 x0 x1 x2
  replace hp0 := hp0.on hw1
  replace ht0 := ht0.on hw1
  replace hx0 := hx0.on hw1
  replace hb0 := on hb0 hw1
  clear hw1
  obtain ⟨p0, p1, -⟩ := hp0.two
  obtain ⟨t0, t1, t2, -⟩ := ht0.three
  obtain ⟨x0, x1, x2, -⟩ := hx0.three
  go_wp2_with fail
  refine (H1.out _).mono ?_
  rintro e w2 ⟨rfl, hb1⟩
  clear p0 p1 t0 t1 t2 x0 x1 x2
  replace hp0 := hp0.on hb1
  replace ht0 := ht0.on hb1
  replace hx0 := hx0.on hb1
  replace hb0 := on hb0 hb1
  clear hb1
  obtain ⟨p0, p1, -⟩ := hp0.two
  obtain ⟨t0, t1, t2, -⟩ := ht0.three
  obtain ⟨x0, x1, x2, -⟩ := hx0.three
  go_wp2_with fail
  refine (H2.out _).mono ?_
  rintro e w3 ⟨rfl, hb1⟩
  clear p0 p1 t0 t1 t2 x0 x1 x2
  replace hp0 := hp0.on hb1
  replace ht0 := ht0.on hb1
  replace hx0 := hx0.on hb1
  replace hb0 := on hb0 hb1
  clear hb1
  obtain ⟨p0, p1, -⟩ := hp0.two
  obtain ⟨t0, t1, t2, -⟩ := ht0.three
  obtain ⟨x0, x1, x2, -⟩ := hx0.three
  replace HV := Lib.hid HV
  have HL1 := Lib.hid (HL.out.grown hb0)
  go_wp2_with fail
  refine (HV.out _ HL1.out).mono ?_
  rintro e w4 ⟨rfl, hb1⟩
  clear HL1 HV
  clear p0 p1 t0 t1 t2 x0 x1 x2
  replace hp0 := hp0.on hb1
  replace ht0 := ht0.on hb1
  replace hx0 := hx0.on hb1
  replace hb0 := on hb0 hb1
  clear hb1
  obtain ⟨p0, p1, -⟩ := hp0.two
  obtain ⟨t0, t1, t2, -⟩ := ht0.three
  obtain ⟨x0, x1, x2, -⟩ := hx0.three
  have hv0 := CellsAt.new w4 [.int .i64 4, .int .i64 an, .string ⟨#[]⟩] 23
  clear p0 p1 t0 t1 t2 x0 x1 x2
  replace hp0 := hp0.on_alloc (.cells #[.int .i64 4, .int .i64 an, .string ⟨#[]⟩] 23)
  replace ht0 := ht0.on_alloc (.cells #[.int .i64 4, .int .i64 an, .string ⟨#[]⟩] 23)
  replace hx0 := hx0.on_alloc (.cells #[.int .i64 4, .int .i64 an, .string ⟨#[]⟩] 23)
  replace hb0 := on_alloc hb0 (.cells #[.int .i64 4, .int .i64 an, .string ⟨#[]⟩] 23)
  obtain ⟨p0, p1, -⟩ := hp0.two
  obtain ⟨t0, t1, t2, -⟩ := ht0.three
  obtain ⟨x0, x1, x2, -⟩ := hx0.three
  obtain ⟨v0, v1, v2, -⟩ := hv0.three
  go_wp2_with fail
  refine (HF.out _).mono ?_
  rintro e w6 ⟨rfl, hb1⟩
  clear v0 v1 v2 HF
  clear p0 p1 t0 t1 t2 x0 x1 x2
  replace hp0 := hp0.on hb1
  replace ht0 := ht0.on hb1
  replace hx0 := hx0.on hb1
  replace hb0 := on hb0 hb1
  clear hb1
  obtain ⟨p0, p1, -⟩ := hp0.two
  obtain ⟨t0, t1, t2, -⟩ := ht0.three
  obtain ⟨x0, x1, x2, -⟩ := hx0.three
  go_wp2_with fail
  refine (HK.out _).mono ?_
  rintro e w7 ⟨rfl, hb1⟩
  clear HK
  clear p0 p1 t0 t1 t2 x0 x1 x2
  replace hp0 := hp0.on hb1
  replace ht0 := ht0.on hb1
  replace hx0 := hx0.on hb1
  replace hb0 := on hb0 hb1
  clear hb1
  obtain ⟨p0, p1, -⟩ := hp0.two
  obtain ⟨t0, t1, t2, -⟩ := ht0.three
  obtain ⟨x0, x1, x2, -⟩ := hx0.three
  have HL1 := Lib.hid (HL.out.grown hb0)
  go_wp2_with fail
  refine (alive_c _ HL1.out).mono ?_
  rintro e w9 ⟨rfl, hb9⟩
  clear p0 p1 t0 t1 t2 x0 x1 x2 ht0 hx0 hp0
  go_wp2
  go_ret
  exact ⟨rfl, on hb0 hb9⟩
set_option maxRecDepth 100000 in
set_option maxHeartbeats 16000000 in
theorem faults_12a118 (op fn an : Int) (bk bn : Int) (bt : ByteArray) (w : World) (h : mayV 4 an ⟨#[]⟩ = true) (h2 : mayV bk bn bt = true) (ho1 : ¬ op < 1) (ho : ¬ 12 < op) (hf : Fnm.fitsF fn 1 = true) (x13 : ¬ fn = 13) (x14 : ¬ fn = 14) (x15 : ¬ fn = 15) (hx : fn < 29) (hkd : kdF fn 0 = 118) (han : 1 ≤ an ∧ an ≤ 7) (HC : ∀ (A : Option Addr) (b : Nat) (w1 : World), TabsR w1 (some ⟨b, 0, none⟩) 1 [oneTb A (fV an)] → CLibs w1 → Calls Tryz.prog 17 #[.int .i64 fn, .slice (some ⟨b, 0, none⟩) 1 1] w1 (ValIs 4 an ⟨#[]⟩ w1)) 
    (HV : ∀ w1, CLibs w1 → Calls Tryz.prog 9 #[.int .i64 op, .agg #[.int .i64 4, .int .i64 an, .string ⟨#[]⟩], .agg #[.int .i64 bk, .int .i64 bn, .string bt]] w1 (ValIs 4 an ⟨#[]⟩ w1)) (hL : CLibs w) :
    Calls Tryz.prog 5 #[.agg #[.int .i64 op, .int .i64 fn], .agg #[.int .i64 4, .int .i64 an, .string ⟨#[]⟩], .agg #[.int .i64 bk, .int .i64 bn, .string bt]] w (LawEnd w) := by
  have hp0 := ((CellsAt.new w [.int .i64 op, .int .i64 fn] 37).on_alloc (.cells #[.int .i64 4, .int .i64 an, .string ⟨#[]⟩] 23)).on_alloc (.cells #[.int .i64 bk, .int .i64 bn, .string bt] 23)
  have ht0 := (Lok.newAt (w0 := w.alloc (.cells #[.int .i64 op, .int .i64 fn] 37)) (g := w.heap.size + 1) (by simp) [.int .i64 4, .int .i64 an, .string ⟨#[]⟩] 23).on_alloc (.cells #[.int .i64 bk, .int .i64 bn, .string bt] 23)
  have hx0 := Lok.newAt (w0 := (w.alloc (.cells #[.int .i64 op, .int .i64 fn] 37)).alloc (.cells #[.int .i64 4, .int .i64 an, .string ⟨#[]⟩] 23)) (g := w.heap.size + 2) (by simp) [.int .i64 bk, .int .i64 bn, .string bt] 23
  have hb0 := on_alloc (below2 w (.cells #[.int .i64 op, .int .i64 fn] 37) (.cells #[.int .i64 4, .int .i64 an, .string ⟨#[]⟩] 23)) (.cells #[.int .i64 bk, .int .i64 bn, .string bt] 23)
  have HL := Lib.hid hL
  clear hL
  obtain ⟨p0, p1, -⟩ := hp0.two
  obtain ⟨t0, t1, t2, -⟩ := ht0.three
  obtain ⟨x0, x1, x2, -⟩ := hx0.three
  have d1 : decide (op < 1) = false := decide_eq_false ho1
  have d2 : decide (12 < op) = false := decide_eq_false ho
  clear ho1 ho
  have HF := Lib.hid (fun w1 => Fnm.fits_c fn 1 true hf w1)
  have e13 : (fn == 13) = false := beq_eq_false_iff_ne.2 (by omega)
  have e14 : (fn == 14) = false := beq_eq_false_iff_ne.2 (by omega)
  have e15 : (fn == 15) = false := beq_eq_false_iff_ne.2 (by omega)
  have d29 : decide (29 ≤ fn) = false := decide_eq_false (by omega)
  have HK : Hid (∀ w1, Calls Tryz.prog 21 #[.int .i64 fn, .int .i64 0] w1 fun e w2 => e = .returned (.int .u8 (kdF fn 0 : Int)) ∧ Below w1.heap.size w1 w2) := Lib.hid (fun w1 => Fnm.kind_c fn 0 _ rfl w1)
  obtain ⟨kn, hkn⟩ : ∃ kn : Int, (kdF fn 0 : Int) = kn := ⟨_, rfl⟩
  rw [hkn] at HK
  have e118 : (kn == 118) = true := beq_iff_eq.2 (by omega)
  have n118 : (kn != 118) = false := by rw [bne, e118]; rfl
  clear hf x13 x14 x15 hx hkd hkn
  replace HC := Lib.hid HC
  have H1 := Lib.hid (fun w1 => rmayv_c 4 an ⟨#[]⟩ true h w1)
  have H2 := Lib.hid (fun w1 => rmayv_c bk bn bt true h2 w1)
  clear h h2
  go_enter Tryz.func5, Tryz.ntmps5
  go_wp2_with fail
  generalize ((w.alloc (.cells #[.int .i64 op, .int .i64 fn] 37)).alloc (.cells #[.int .i64 4, .int .i64 an, .string ⟨#[]⟩] 23)).alloc (.cells #[.int .i64 bk, .int .i64 bn, .string bt] 23) = W1 at *
  have P0 := fun d os => cell_regrown p0 d os
  have P1 := fun d os => cell_regrown p1 d os
  have T0 := fun d os => cell_regrown t0 d os
  have T1 := fun d os => cell_regrown t1 d os
  have T2 := fun d os => cell_regrown t2 d os
  have X0 := fun d os => cell_regrown x0 d os
  have X1 := fun d os => cell_regrown x1 d os
  have X2 := fun d os => cell_regrown x2 d os
  refine wp_region_mem 6 (fun d => match d with
    | _ => none) (by kernel_rfl) (by kernel_rfl) ?_
  simp only [List.take_succ_cons, List.take_zero, List.drop_succ_cons, List.drop_zero]
  repeat (first | ((with_reducible refine wpM_calm ?_ ?_ ?_ ?_); exact rfl; exact rfl; exact rfl; intro K hK; go_big_quiet_op; go_big_quiet_on) | ((with_reducible refine wpM_skip ?_ ?_); exact rfl; simp only [Act.put, List.setIfInBounds_toArray, List.set_cons_succ, List.set_cons_zero]))
  refine wpM_nil ?_
  intro w1 hw1 _
  clear P0 P1 T0 T1 T2 X0 X1 X2
  clear p0 p1 t0 t1 t2 x0 x1 x2
  replace hp0 := hp0.on hw1
  replace ht0 := ht0.on hw1
  replace hx0 := hx0.on hw1
  replace hb0 := on hb0 hw1
  clear hw1
  obtain ⟨p0, p1, -⟩ := hp0.two
  obtain ⟨t0, t1, t2, -⟩ := ht0.three
  obtain ⟨x0, x1, x2, -⟩ := hx0.three
  go_wp2_with fail
  refine (H1.out _).mono ?_
  rintro e w2 ⟨rfl, hb1⟩
  clear p0 p1 t0 t1 t2 x0 x1 x2
  replace hp0 := hp0.on hb1
  replace ht0 := ht0.on hb1
  replace hx0 := hx0.on hb1
  replace hb0 := on hb0 hb1
  clear hb1
  obtain ⟨p0, p1, -⟩ := hp0.two
  obtain ⟨t0, t1, t2, -⟩ := ht0.three
  obtain ⟨x0, x1, x2, -⟩ := hx0.three
  go_wp2_with fail
  refine (H2.out _).mono ?_
  rintro e w3 ⟨rfl, hb1⟩
  clear p0 p1 t0 t1 t2 x0 x1 x2
  replace hp0 := hp0.on hb1
  replace ht0 := ht0.on hb1
  replace hx0 := hx0.on hb1
  replace hb0 := on hb0 hb1
  clear hb1
  obtain ⟨p0, p1, -⟩ := hp0.two
  obtain ⟨t0, t1, t2, -⟩ := ht0.three
  obtain ⟨x0, x1, x2, -⟩ := hx0.three
  replace HV := Lib.hid HV
  have HL1 := Lib.hid (HL.out.grown hb0)
  go_wp2_with fail
  refine (HV.out _ HL1.out).mono ?_
  rintro e w4 ⟨rfl, hb1⟩
  clear HL1 HV
  clear p0 p1 t0 t1 t2 x0 x1 x2
  replace hp0 := hp0.on hb1
  replace ht0 := ht0.on hb1
  replace hx0 := hx0.on hb1
  replace hb0 := on hb0 hb1
  clear hb1
  obtain ⟨p0, p1, -⟩ := hp0.two
  obtain ⟨t0, t1, t2, -⟩ := ht0.three
  obtain ⟨x0, x1, x2, -⟩ := hx0.three
  have hv0 := CellsAt.new w4 [.int .i64 4, .int .i64 an, .string ⟨#[]⟩] 23
  clear p0 p1 t0 t1 t2 x0 x1 x2
  replace hp0 := hp0.on_alloc (.cells #[.int .i64 4, .int .i64 an, .string ⟨#[]⟩] 23)
  replace ht0 := ht0.on_alloc (.cells #[.int .i64 4, .int .i64 an, .string ⟨#[]⟩] 23)
  replace hx0 := hx0.on_alloc (.cells #[.int .i64 4, .int .i64 an, .string ⟨#[]⟩] 23)
  replace hb0 := on_alloc hb0 (.cells #[.int .i64 4, .int .i64 an, .string ⟨#[]⟩] 23)
  obtain ⟨p0, p1, -⟩ := hp0.two
  obtain ⟨t0, t1, t2, -⟩ := ht0.three
  obtain ⟨x0, x1, x2, -⟩ := hx0.three
  obtain ⟨v0, v1, v2, -⟩ := hv0.three
  go_wp2_with fail
  refine (HF.out _).mono ?_
  rintro e w6 ⟨rfl, hb1⟩
  clear v0 v1 v2 HF
  clear p0 p1 t0 t1 t2 x0 x1 x2
  replace hp0 := hp0.on hb1
  replace ht0 := ht0.on hb1
  replace hx0 := hx0.on hb1
  replace hb0 := on hb0 hb1
  clear hb1
  obtain ⟨p0, p1, -⟩ := hp0.two
  obtain ⟨t0, t1, t2, -⟩ := ht0.three
  obtain ⟨x0, x1, x2, -⟩ := hx0.three
  go_wp2_with fail
  refine (HK.out _).mono ?_
  rintro e w7 ⟨rfl, hb1⟩
  clear HK
  clear p0 p1 t0 t1 t2 x0 x1 x2
  replace hp0 := hp0.on hb1
  replace ht0 := ht0.on hb1
  replace hx0 := hx0.on hb1
  replace hb0 := on hb0 hb1
  clear hb1
  obtain ⟨p0, p1, -⟩ := hp0.two
  obtain ⟨t0, t1, t2, -⟩ := ht0.three
  obtain ⟨x0, x1, x2, -⟩ := hx0.three
  go_wp2_with fail
  have P0 := fun d os => cell_regrown p0 d os
  have P1 := fun d os => cell_regrown p1 d os
  have T0 := fun d os => cell_regrown t0 d os
  have T1 := fun d os => cell_regrown t1 d os
  have T2 := fun d os => cell_regrown t2 d os
  have X0 := fun d os => cell_regrown x0 d os
  have X1 := fun d os => cell_regrown x1 d os
  have X2 := fun d os => cell_regrown x2 d os
  refine wp_region_mem 12 (fun d => match d with
    | 105 => some (RowV (fV an))
    | 106 => some (OneV (fV an))
    | 107 => some (TabV fun T => ∃ A, T = [oneTb A (fV an)])
    | 108 => some (Is (.agg #[.int .i64 4, .int .i64 an, .string ⟨#[]⟩]))
    | 112 => some (Is (.bool true))
    | _ => none) (by kernel_rfl) (by kernel_rfl) ?_
  simp only [List.take_succ_cons, List.take_zero, List.drop_succ_cons, List.drop_zero]
  repeat (first | ((with_reducible refine wpM_calm ?_ ?_ ?_ ?_); exact rfl; exact rfl; exact rfl; intro K hK; go_big_quiet_op; go_big_quiet_on) | ((with_reducible refine wpM_skip ?_ ?_); exact rfl; simp only [Act.put, List.setIfInBounds_toArray, List.set_cons_succ, List.set_cons_zero]))
  refine wpM_makes _ rfl rfl (fun w5 hw5 hl => ?_) ?_
  · simp [go_sem, variesUpon]
    exact ⟨below1 _ _, w5.heap.size, rfl, vals_one w5 (fV an) (ok_fault an han).2⟩
  rintro v1 ⟨_, g1, rfl, _⟩ a1 ha1
  simp only [Act.put, List.setIfInBounds_toArray, List.set_cons_succ, List.set_cons_zero] at ha1
  subst ha1
  repeat (first | ((with_reducible refine wpM_calm ?_ ?_ ?_ ?_); exact rfl; exact rfl; exact rfl; intro K hK; go_big_quiet_op; go_big_quiet_on) | ((with_reducible refine wpM_skip ?_ ?_); exact rfl; simp only [Act.put, List.setIfInBounds_toArray, List.set_cons_succ, List.set_cons_zero]))
  refine wpM_makes _ rfl rfl (fun w5 hw5 hl => ?_) ?_
  · obtain ⟨gx1, ex1, hx1⟩ := RowV.up ((looks_at (k := 2) (d := 105) hl (by kernel_rfl) (by kernel_rfl)).2 rfl)
    obtain rfl : g1 = gx1 := by simpa using ex1
    simp [go_sem, variesUpon]
    exact ⟨Below.refl _ _, g1, rfl, hx1⟩
  rintro v2 ⟨_, g2, rfl, _⟩ a2 ha2
  simp only [Act.put, List.setIfInBounds_toArray, List.set_cons_succ, List.set_cons_zero] at ha2
  subst ha2
  repeat (first | ((with_reducible refine wpM_calm ?_ ?_ ?_ ?_); exact rfl; exact rfl; exact rfl; intro K hK; go_big_quiet_op; go_big_quiet_on) | ((with_reducible refine wpM_skip ?_ ?_); exact rfl; simp only [Act.put, List.setIfInBounds_toArray, List.set_cons_succ, List.set_cons_zero]))
  refine wpM_makes _ rfl rfl (fun w5 hw5 hl => ?_) ?_
  · obtain ⟨gx1, ex1, hx1⟩ := OneV.up ((looks_at (k := 3) (d := 106) hl (by kernel_rfl) (by kernel_rfl)).2 rfl)
    obtain rfl : g2 = gx1 := by simpa using ex1
    simp [go_sem, variesUpon]
    exact ⟨below1 _ _, w5.heap.size, [oneTb (some ⟨g2, 0, none⟩) (fV an)], rfl, ⟨_, rfl⟩, tabs_new1 w5 (oneTb (some ⟨g2, 0, none⟩) (fV an)) (fun _ => hx1)⟩
  rintro v3 ⟨_, b3, T3, rfl, _⟩ a3 ha3
  simp only [Act.put, List.setIfInBounds_toArray, List.set_cons_succ, List.set_cons_zero] at ha3
  subst ha3
  repeat (first | ((with_reducible refine wpM_calm ?_ ?_ ?_ ?_); exact rfl; exact rfl; exact rfl; intro K hK; go_big_quiet_op; go_big_quiet_on) | ((with_reducible refine wpM_skip ?_ ?_); exact rfl; simp only [Act.put, List.setIfInBounds_toArray, List.set_cons_succ, List.set_cons_zero]))
  refine wpM_exact rfl rfl rfl Tryz.func17 (by kernel_rfl) (by kernel_rfl) ?_ rfl (by simp only [Act.put, List.setIfInBounds_toArray, List.set_cons_succ, List.set_cons_zero]; rfl) ?_
  · intro w5 hw5 hl
    obtain ⟨b9, T9, e9, hP, ht⟩ := TabV.up ((looks_at (k := 4) (d := 107) hl (by kernel_rfl) (by kernel_rfl)).2 rfl)
    simp only [Value.slice.injEq, Option.some.injEq, Addr.mk.injEq] at e9
    obtain ⟨⟨rfl, _⟩, _⟩ := e9
    obtain ⟨A9, rfl⟩ := hP
    exact HC.out A9 b3 w5 ht (HL.out.grown (on hb0 hw5))
  repeat (first | ((with_reducible refine wpM_calm ?_ ?_ ?_ ?_); exact rfl; exact rfl; exact rfl; intro K hK; go_big_quiet_op; go_big_quiet_on) | ((with_reducible refine wpM_skip ?_ ?_); exact rfl; simp only [Act.put, List.setIfInBounds_toArray, List.set_cons_succ, List.set_cons_zero]))
  refine wpM_exact rfl rfl rfl Tryz.func8 (by kernel_rfl) (by kernel_rfl) (fun w1 hw1 _ => alive_c w1 (HL.out.grown (on hb0 hw1))) rfl (by simp only [Act.put, List.setIfInBounds_toArray, List.set_cons_succ, List.set_cons_zero]; rfl) ?_
  repeat (first | ((with_reducible refine wpM_calm ?_ ?_ ?_ ?_); exact rfl; exact rfl; exact rfl; intro K hK; go_big_quiet_op; go_big_quiet_on) | ((with_reducible refine wpM_skip ?_ ?_); exact rfl; simp only [Act.put, List.setIfInBounds_toArray, List.set_cons_succ, List.set_cons_zero]))
  refine wpM_nil ?_
  intro w6 hw6 _
  clear P0 P1 T0 T1 T2 X0 X1 X2
  go_wp2
  go_ret
  exact ⟨rfl, on hb0 hw6⟩
set_option maxRecDepth 100000 in
set_option maxHeartbeats 16000000 in
theorem faults_12a108 (op fn an : Int) (bk bn : Int) (bt : ByteArray) (w : World) (h : mayV 4 an ⟨#[]⟩ = true) (h2 : mayV bk bn bt = true) (ho1 : ¬ op < 1) (ho : ¬ 12 < op) (hf : Fnm.fitsF fn 1 = true) (x13 : ¬ fn = 13) (x14 : ¬ fn = 14) (x15 : ¬ fn = 15) (hx : fn < 29) (hkd : kdF fn 0 = 108) (han : 1 ≤ an ∧ an ≤ 7) (HC : ∀ (A : Option Addr) (b : Nat) (w1 : World), TabsR w1 (some ⟨b, 0, none⟩) 1 [oneTb A (fV an)] → CLibs w1 → Calls Tryz.prog 17 #[.int .i64 fn, .slice (some ⟨b, 0, none⟩) 1 1] w1 (ValIs 4 an ⟨#[]⟩ w1)) 
    (HV : ∀ w1, CLibs w1 → Calls Tryz.prog 9 #[.int .i64 op, .agg #[.int .i64 4, .int .i64 an, .string ⟨#[]⟩], .agg #[.int .i64 bk, .int .i64 bn, .string bt]] w1 (ValIs 4 an ⟨#[]⟩ w1)) (hL : CLibs w) :
    Calls Tryz.prog 5 #[.agg #[.int .i64 op, .int .i64 fn], .agg #[.int .i64 4, .int .i64 an, .string ⟨#[]⟩], .agg #[.int .i64 bk, .int .i64 bn, .string bt]] w (LawEnd w) := by
  have hp0 := ((CellsAt.new w [.int .i64 op, .int .i64 fn] 37).on_alloc (.cells #[.int .i64 4, .int .i64 an, .string ⟨#[]⟩] 23)).on_alloc (.cells #[.int .i64 bk, .int .i64 bn, .string bt] 23)
  have ht0 := (Lok.newAt (w0 := w.alloc (.cells #[.int .i64 op, .int .i64 fn] 37)) (g := w.heap.size + 1) (by simp) [.int .i64 4, .int .i64 an, .string ⟨#[]⟩] 23).on_alloc (.cells #[.int .i64 bk, .int .i64 bn, .string bt] 23)
  have hx0 := Lok.newAt (w0 := (w.alloc (.cells #[.int .i64 op, .int .i64 fn] 37)).alloc (.cells #[.int .i64 4, .int .i64 an, .string ⟨#[]⟩] 23)) (g := w.heap.size + 2) (by simp) [.int .i64 bk, .int .i64 bn, .string bt] 23
  have hb0 := on_alloc (below2 w (.cells #[.int .i64 op, .int .i64 fn] 37) (.cells #[.int .i64 4, .int .i64 an, .string ⟨#[]⟩] 23)) (.cells #[.int .i64 bk, .int .i64 bn, .string bt] 23)
  have HL := Lib.hid hL
  clear hL
  obtain ⟨p0, p1, -⟩ := hp0.two
  obtain ⟨t0, t1, t2, -⟩ := ht0.three
  obtain ⟨x0, x1, x2, -⟩ := hx0.three
  have d1 : decide (op < 1) = false := decide_eq_false ho1
  have d2 : decide (12 < op) = false := decide_eq_false ho
  clear ho1 ho
  have HF := Lib.hid (fun w1 => Fnm.fits_c fn 1 true hf w1)
  have e13 : (fn == 13) = false := beq_eq_false_iff_ne.2 (by omega)
  have e14 : (fn == 14) = false := beq_eq_false_iff_ne.2 (by omega)
  have e15 : (fn == 15) = false := beq_eq_false_iff_ne.2 (by omega)
  have d29 : decide (29 ≤ fn) = false := decide_eq_false (by omega)
  have HK : Hid (∀ w1, Calls Tryz.prog 21 #[.int .i64 fn, .int .i64 0] w1 fun e w2 => e = .returned (.int .u8 (kdF fn 0 : Int)) ∧ Below w1.heap.size w1 w2) := Lib.hid (fun w1 => Fnm.kind_c fn 0 _ rfl w1)
  obtain ⟨kn, hkn⟩ : ∃ kn : Int, (kdF fn 0 : Int) = kn := ⟨_, rfl⟩
  rw [hkn] at HK
  have e118 : (kn == 118) = false := beq_eq_false_iff_ne.2 (by omega)
  have n118 : (kn != 118) = true := by rw [bne, e118]; rfl
  have e108 : (kn == 108) = true := beq_iff_eq.2 (by omega)
  have n108 : (kn != 108) = false := by rw [bne, e108]; rfl
  clear hf x13 x14 x15 hx hkd hkn
  replace HC := Lib.hid HC
  have H1 := Lib.hid (fun w1 => rmayv_c 4 an ⟨#[]⟩ true h w1)
  have H2 := Lib.hid (fun w1 => rmayv_c bk bn bt true h2 w1)
  clear h h2
  go_enter Tryz.func5, Tryz.ntmps5
  go_wp2_with fail
  generalize ((w.alloc (.cells #[.int .i64 op, .int .i64 fn] 37)).alloc (.cells #[.int .i64 4, .int .i64 an, .string ⟨#[]⟩] 23)).alloc (.cells #[.int .i64 bk, .int .i64 bn, .string bt] 23) = W1 at *
  have P0 := fun d os => cell_regrown p0 d os
  have P1 := fun d os => cell_regrown p1 d os
  have T0 := fun d os => cell_regrown t0 d os
  have T1 := fun d os => cell_regrown t1 d os
  have T2 := fun d os => cell_regrown t2 d os
  have X0 := fun d os => cell_regrown x0 d os
  have X1 := fun d os => cell_regrown x1 d os
  have X2 := fun d os => cell_regrown x2 d os
  refine wp_region_mem 6 (fun d => match d with
    | _ => none) (by kernel_rfl) (by kernel_rfl) ?_
  simp only [List.take_succ_cons, List.take_zero, List.drop_succ_cons, List.drop_zero]
  repeat (first | ((with_reducible refine wpM_calm ?_ ?_ ?_ ?_); exact rfl; exact rfl; exact rfl; intro K hK; go_big_quiet_op; go_big_quiet_on) | ((with_reducible refine wpM_skip ?_ ?_); exact rfl; simp only [Act.put, List.setIfInBounds_toArray, List.set_cons_succ, List.set_cons_zero]))
  refine wpM_nil ?_
  intro w1 hw1 _
  clear P0 P1 T0 T1 T2 X0 X1 X2
  clear p0 p1 t0 t1 t2 x0 x1 x2
  replace hp0 := hp0.on hw1
  replace ht0 := ht0.on hw1
  replace hx0 := hx0.on hw1
  replace hb0 := on hb0 hw1
  clear hw1
  obtain ⟨p0, p1, -⟩ := hp0.two
  obtain ⟨t0, t1, t2, -⟩ := ht0.three
  obtain ⟨x0, x1, x2, -⟩ := hx0.three
  go_wp2_with fail
  refine (H1.out _).mono ?_
  rintro e w2 ⟨rfl, hb1⟩
  clear p0 p1 t0 t1 t2 x0 x1 x2
  replace hp0 := hp0.on hb1
  replace ht0 := ht0.on hb1
  replace hx0 := hx0.on hb1
  replace hb0 := on hb0 hb1
  clear hb1
  obtain ⟨p0, p1, -⟩ := hp0.two
  obtain ⟨t0, t1, t2, -⟩ := ht0.three
  obtain ⟨x0, x1, x2, -⟩ := hx0.three
  go_wp2_with fail
  refine (H2.out _).mono ?_
  rintro e w3 ⟨rfl, hb1⟩
  clear p0 p1 t0 t1 t2 x0 x1 x2
  replace hp0 := hp0.on hb1
  replace ht0 := ht0.on hb1
  replace hx0 := hx0.on hb1
  replace hb0 := on hb0 hb1
  clear hb1
  obtain ⟨p0, p1, -⟩ := hp0.two
  obtain ⟨t0, t1, t2, -⟩ := ht0.three
  obtain ⟨x0, x1, x2, -⟩ := hx0.three
  replace HV := Lib.hid HV
  have HL1 := Lib.hid (HL.out.grown hb0)
  go_wp2_with fail
  refine (HV.out _ HL1.out).mono ?_
  rintro e w4 ⟨rfl, hb1⟩
  clear HL1 HV
  clear p0 p1 t0 t1 t2 x0 x1 x2
  replace hp0 := hp0.on hb1
  replace ht0 := ht0.on hb1
  replace hx0 := hx0.on hb1
  replace hb0 := on hb0 hb1
  clear hb1
  obtain ⟨p0, p1, -⟩ := hp0.two
  obtain ⟨t0, t1, t2, -⟩ := ht0.three
  obtain ⟨x0, x1, x2, -⟩ := hx0.three
  have hv0 := CellsAt.new w4 [.int .i64 4, .int .i64 an, .string ⟨#[]⟩] 23
  clear p0 p1 t0 t1 t2 x0 x1 x2
  replace hp0 := hp0.on_alloc (.cells #[.int .i64 4, .int .i64 an, .string ⟨#[]⟩] 23)
  replace ht0 := ht0.on_alloc (.cells #[.int .i64 4, .int .i64 an, .string ⟨#[]⟩] 23)
  replace hx0 := hx0.on_alloc (.cells #[.int .i64 4, .int .i64 an, .string ⟨#[]⟩] 23)
  replace hb0 := on_alloc hb0 (.cells #[.int .i64 4, .int .i64 an, .string ⟨#[]⟩] 23)
  obtain ⟨p0, p1, -⟩ := hp0.two
  obtain ⟨t0, t1, t2, -⟩ := ht0.three
  obtain ⟨x0, x1, x2, -⟩ := hx0.three
  obtain ⟨v0, v1, v2, -⟩ := hv0.three
  go_wp2_with fail
  refine (HF.out _).mono ?_
  rintro e w6 ⟨rfl, hb1⟩
  clear v0 v1 v2 HF
  clear p0 p1 t0 t1 t2 x0 x1 x2
  replace hp0 := hp0.on hb1
  replace ht0 := ht0.on hb1
  replace hx0 := hx0.on hb1
  replace hb0 := on hb0 hb1
  clear hb1
  obtain ⟨p0, p1, -⟩ := hp0.two
  obtain ⟨t0, t1, t2, -⟩ := ht0.three
  obtain ⟨x0, x1, x2, -⟩ := hx0.three
  go_wp2_with fail
  refine (HK.out _).mono ?_
  rintro e w7 ⟨rfl, hb1⟩
  clear HK
  clear p0 p1 t0 t1 t2 x0 x1 x2
  replace hp0 := hp0.on hb1
  replace ht0 := ht0.on hb1
  replace hx0 := hx0.on hb1
  replace hb0 := on hb0 hb1
  clear hb1
  obtain ⟨p0, p1, -⟩ := hp0.two
  obtain ⟨t0, t1, t2, -⟩ := ht0.three
  obtain ⟨x0, x1, x2, -⟩ := hx0.three
  go_wp2_with fail
  have P0 := fun d os => cell_regrown p0 d os
  have P1 := fun d os => cell_regrown p1 d os
  have T0 := fun d os => cell_regrown t0 d os
  have T1 := fun d os => cell_regrown t1 d os
  have T2 := fun d os => cell_regrown t2 d os
  have X0 := fun d os => cell_regrown x0 d os
  have X1 := fun d os => cell_regrown x1 d os
  have X2 := fun d os => cell_regrown x2 d os
  refine wp_region_mem 12 (fun d => match d with
    | 105 => some (RowV (fV an))
    | 106 => some (OneV (fV an))
    | 107 => some (TabV fun T => ∃ A, T = [oneTb A (fV an)])
    | 108 => some (Is (.agg #[.int .i64 4, .int .i64 an, .string ⟨#[]⟩]))
    | 112 => some (Is (.bool true))
    | _ => none) (by kernel_rfl) (by kernel_rfl) ?_
  simp only [List.take_succ_cons, List.take_zero, List.drop_succ_cons, List.drop_zero]
  repeat (first | ((with_reducible refine wpM_calm ?_ ?_ ?_ ?_); exact rfl; exact rfl; exact rfl; intro K hK; go_big_quiet_op; go_big_quiet_on) | ((with_reducible refine wpM_skip ?_ ?_); exact rfl; simp only [Act.put, List.setIfInBounds_toArray, List.set_cons_succ, List.set_cons_zero]))
  refine wpM_makes _ rfl rfl (fun w5 hw5 hl => ?_) ?_
  · simp [go_sem, variesUpon]
    exact ⟨below1 _ _, w5.heap.size, rfl, vals_one w5 (fV an) (ok_fault an han).2⟩
  rintro v1 ⟨_, g1, rfl, _⟩ a1 ha1
  simp only [Act.put, List.setIfInBounds_toArray, List.set_cons_succ, List.set_cons_zero] at ha1
  subst ha1
  repeat (first | ((with_reducible refine wpM_calm ?_ ?_ ?_ ?_); exact rfl; exact rfl; exact rfl; intro K hK; go_big_quiet_op; go_big_quiet_on) | ((with_reducible refine wpM_skip ?_ ?_); exact rfl; simp only [Act.put, List.setIfInBounds_toArray, List.set_cons_succ, List.set_cons_zero]))
  refine wpM_makes _ rfl rfl (fun w5 hw5 hl => ?_) ?_
  · obtain ⟨gx1, ex1, hx1⟩ := RowV.up ((looks_at (k := 2) (d := 105) hl (by kernel_rfl) (by kernel_rfl)).2 rfl)
    obtain rfl : g1 = gx1 := by simpa using ex1
    simp [go_sem, variesUpon]
    exact ⟨Below.refl _ _, g1, rfl, hx1⟩
  rintro v2 ⟨_, g2, rfl, _⟩ a2 ha2
  simp only [Act.put, List.setIfInBounds_toArray, List.set_cons_succ, List.set_cons_zero] at ha2
  subst ha2
  repeat (first | ((with_reducible refine wpM_calm ?_ ?_ ?_ ?_); exact rfl; exact rfl; exact rfl; intro K hK; go_big_quiet_op; go_big_quiet_on) | ((with_reducible refine wpM_skip ?_ ?_); exact rfl; simp only [Act.put, List.setIfInBounds_toArray, List.set_cons_succ, List.set_cons_zero]))
  refine wpM_makes _ rfl rfl (fun w5 hw5 hl => ?_) ?_
  · obtain ⟨gx1, ex1, hx1⟩ := OneV.up ((looks_at (k := 3) (d := 106) hl (by kernel_rfl) (by kernel_rfl)).2 rfl)
    obtain rfl : g2 = gx1 := by simpa using ex1
    simp [go_sem, variesUpon]
    exact ⟨below1 _ _, w5.heap.size, [oneTb (some ⟨g2, 0, none⟩) (fV an)], rfl, ⟨_, rfl⟩, tabs_new1 w5 (oneTb (some ⟨g2, 0, none⟩) (fV an)) (fun _ => hx1)⟩
  rintro v3 ⟨_, b3, T3, rfl, _⟩ a3 ha3
  simp only [Act.put, List.setIfInBounds_toArray, List.set_cons_succ, List.set_cons_zero] at ha3
  subst ha3
  repeat (first | ((with_reducible refine wpM_calm ?_ ?_ ?_ ?_); exact rfl; exact rfl; exact rfl; intro K hK; go_big_quiet_op; go_big_quiet_on) | ((with_reducible refine wpM_skip ?_ ?_); exact rfl; simp only [Act.put, List.setIfInBounds_toArray, List.set_cons_succ, List.set_cons_zero]))
  refine wpM_exact rfl rfl rfl Tryz.func17 (by kernel_rfl) (by kernel_rfl) ?_ rfl (by simp only [Act.put, List.setIfInBounds_toArray, List.set_cons_succ, List.set_cons_zero]; rfl) ?_
  · intro w5 hw5 hl
    obtain ⟨b9, T9, e9, hP, ht⟩ := TabV.up ((looks_at (k := 4) (d := 107) hl (by kernel_rfl) (by kernel_rfl)).2 rfl)
    simp only [Value.slice.injEq, Option.some.injEq, Addr.mk.injEq] at e9
    obtain ⟨⟨rfl, _⟩, _⟩ := e9
    obtain ⟨A9, rfl⟩ := hP
    exact HC.out A9 b3 w5 ht (HL.out.grown (on hb0 hw5))
  repeat (first | ((with_reducible refine wpM_calm ?_ ?_ ?_ ?_); exact rfl; exact rfl; exact rfl; intro K hK; go_big_quiet_op; go_big_quiet_on) | ((with_reducible refine wpM_skip ?_ ?_); exact rfl; simp only [Act.put, List.setIfInBounds_toArray, List.set_cons_succ, List.set_cons_zero]))
  refine wpM_exact rfl rfl rfl Tryz.func8 (by kernel_rfl) (by kernel_rfl) (fun w1 hw1 _ => alive_c w1 (HL.out.grown (on hb0 hw1))) rfl (by simp only [Act.put, List.setIfInBounds_toArray, List.set_cons_succ, List.set_cons_zero]; rfl) ?_
  repeat (first | ((with_reducible refine wpM_calm ?_ ?_ ?_ ?_); exact rfl; exact rfl; exact rfl; intro K hK; go_big_quiet_op; go_big_quiet_on) | ((with_reducible refine wpM_skip ?_ ?_); exact rfl; simp only [Act.put, List.setIfInBounds_toArray, List.set_cons_succ, List.set_cons_zero]))
  refine wpM_nil ?_
  intro w6 hw6 _
  clear P0 P1 T0 T1 T2 X0 X1 X2
  go_wp2
  go_ret
  exact ⟨rfl, on hb0 hw6⟩
set_option maxRecDepth 100000 in
set_option maxHeartbeats 16000000 in
theorem faults_12b118 (op fn an : Int) (bk bn : Int) (bt : ByteArray) (w : World) (h : mayV 4 an ⟨#[]⟩ = true) (h2 : mayV bk bn bt = true) (ho1 : ¬ op < 1) (ho : ¬ 12 < op) (hf : Fnm.fitsF fn 1 = true) (x13 : ¬ fn = 13) (x14 : ¬ fn = 14) (x15 : ¬ fn = 15) (hx : 33 < fn) (hkd : kdF fn 0 = 118) (han : 1 ≤ an ∧ an ≤ 7) (HC : ∀ (A : Option Addr) (b : Nat) (w1 : World), TabsR w1 (some ⟨b, 0, none⟩) 1 [oneTb A (fV an)] → CLibs w1 → Calls Tryz.prog 17 #[.int .i64 fn, .slice (some ⟨b, 0, none⟩) 1 1] w1 (ValIs 4 an ⟨#[]⟩ w1)) 
    (HV : ∀ w1, CLibs w1 → Calls Tryz.prog 9 #[.int .i64 op, .agg #[.int .i64 4, .int .i64 an, .string ⟨#[]⟩], .agg #[.int .i64 bk, .int .i64 bn, .string bt]] w1 (ValIs 4 an ⟨#[]⟩ w1)) (hL : CLibs w) :
    Calls Tryz.prog 5 #[.agg #[.int .i64 op, .int .i64 fn], .agg #[.int .i64 4, .int .i64 an, .string ⟨#[]⟩], .agg #[.int .i64 bk, .int .i64 bn, .string bt]] w (LawEnd w) := by
  have hp0 := ((CellsAt.new w [.int .i64 op, .int .i64 fn] 37).on_alloc (.cells #[.int .i64 4, .int .i64 an, .string ⟨#[]⟩] 23)).on_alloc (.cells #[.int .i64 bk, .int .i64 bn, .string bt] 23)
  have ht0 := (Lok.newAt (w0 := w.alloc (.cells #[.int .i64 op, .int .i64 fn] 37)) (g := w.heap.size + 1) (by simp) [.int .i64 4, .int .i64 an, .string ⟨#[]⟩] 23).on_alloc (.cells #[.int .i64 bk, .int .i64 bn, .string bt] 23)
  have hx0 := Lok.newAt (w0 := (w.alloc (.cells #[.int .i64 op, .int .i64 fn] 37)).alloc (.cells #[.int .i64 4, .int .i64 an, .string ⟨#[]⟩] 23)) (g := w.heap.size + 2) (by simp) [.int .i64 bk, .int .i64 bn, .string bt] 23
  have hb0 := on_alloc (below2 w (.cells #[.int .i64 op, .int .i64 fn] 37) (.cells #[.int .i64 4, .int .i64 an, .string ⟨#[]⟩] 23)) (.cells #[.int .i64 bk, .int .i64 bn, .string bt] 23)
  have HL := Lib.hid hL
  clear hL
  obtain ⟨p0, p1, -⟩ := hp0.two
  obtain ⟨t0, t1, t2, -⟩ := ht0.three
  obtain ⟨x0, x1, x2, -⟩ := hx0.three
  have d1 : decide (op < 1) = false := decide_eq_false ho1
  have d2 : decide (12 < op) = false := decide_eq_false ho
  clear ho1 ho
  have HF := Lib.hid (fun w1 => Fnm.fits_c fn 1 true hf w1)
  have e13 : (fn == 13) = false := beq_eq_false_iff_ne.2 (by omega)
  have e14 : (fn == 14) = false := beq_eq_false_iff_ne.2 (by omega)
  have e15 : (fn == 15) = false := beq_eq_false_iff_ne.2 (by omega)
  have d29 : decide (29 ≤ fn) = true := decide_eq_true (by omega)
  have d33 : decide (fn ≤ 33) = false := decide_eq_false (by omega)
  have HK : Hid (∀ w1, Calls Tryz.prog 21 #[.int .i64 fn, .int .i64 0] w1 fun e w2 => e = .returned (.int .u8 (kdF fn 0 : Int)) ∧ Below w1.heap.size w1 w2) := Lib.hid (fun w1 => Fnm.kind_c fn 0 _ rfl w1)
  obtain ⟨kn, hkn⟩ : ∃ kn : Int, (kdF fn 0 : Int) = kn := ⟨_, rfl⟩
  rw [hkn] at HK
  have e118 : (kn == 118) = true := beq_iff_eq.2 (by omega)
  have n118 : (kn != 118) = false := by rw [bne, e118]; rfl
  clear hf x13 x14 x15 hx hkd hkn
  replace HC := Lib.hid HC
  have H1 := Lib.hid (fun w1 => rmayv_c 4 an ⟨#[]⟩ true h w1)
  have H2 := Lib.hid (fun w1 => rmayv_c bk bn bt true h2 w1)
  clear h h2
  go_enter Tryz.func5, Tryz.ntmps5
  go_wp2_with fail
  generalize ((w.alloc (.cells #[.int .i64 op, .int .i64 fn] 37)).alloc (.cells #[.int .i64 4, .int .i64 an, .string ⟨#[]⟩] 23)).alloc (.cells #[.int .i64 bk, .int .i64 bn, .string bt] 23) = W1 at *
  have P0 := fun d os => cell_regrown p0 d os
  have P1 := fun d os => cell_regrown p1 d os
  have T0 := fun d os => cell_regrown t0 d os
  have T1 := fun d os => cell_regrown t1 d os
  have T2 := fun d os => cell_regrown t2 d os
  have X0 := fun d os => cell_regrown x0 d os
  have X1 := fun d os => cell_regrown x1 d os
  have X2 := fun d os => cell_regrown x2 d os
  refine wp_region_mem 6 (fun d => match d with
    | _ => none) (by kernel_rfl) (by kernel_rfl) ?_
  simp only [List.take_succ_cons, List.take_zero, List.drop_succ_cons, List.drop_zero]
  repeat (first | ((with_reducible refine wpM_calm ?_ ?_ ?_ ?_); exact rfl; exact rfl; exact rfl; intro K hK; go_big_quiet_op; go_big_quiet_on) | ((with_reducible refine wpM_skip ?_ ?_); exact rfl; simp only [Act.put, List.setIfInBounds_toArray, List.set_cons_succ, List.set_cons_zero]))
  refine wpM_nil ?_
  intro w1 hw1 _
  clear P0 P1 T0 T1 T2 X0 X1 X2
  clear p0 p1 t0 t1 t2 x0 x1 x2
  replace hp0 := hp0.on hw1
  replace ht0 := ht0.on hw1
  replace hx0 := hx0.on hw1
  replace hb0 := on hb0 hw1
  clear hw1
  obtain ⟨p0, p1, -⟩ := hp0.two
  obtain ⟨t0, t1, t2, -⟩ := ht0.three
  obtain ⟨x0, x1, x2, -⟩ := hx0.three
  go_wp2_with fail
  refine (H1.out _).mono ?_
  rintro e w2 ⟨rfl, hb1⟩
  clear p0 p1 t0 t1 t2 x0 x1 x2
  replace hp0 := hp0.on hb1
  replace ht0 := ht0.on hb1
  replace hx0 := hx0.on hb1
  replace hb0 := on hb0 hb1
  clear hb1
  obtain ⟨p0, p1, -⟩ := hp0.two
  obtain ⟨t0, t1, t2, -⟩ := ht0.three
  obtain ⟨x0, x1, x2, -⟩ := hx0.three
  go_wp2_with fail
  refine (H2.out _).mono ?_
  rintro e w3 ⟨rfl, hb1⟩
  clear p0 p1 t0 t1 t2 x0 x1 x2
  replace hp0 := hp0.on hb1
  replace ht0 := ht0.on hb1
  replace hx0 := hx0.on hb1
  replace hb0 := on hb0 hb1
  clear hb1
  obtain ⟨p0, p1, -⟩ := hp0.two
  obtain ⟨t0, t1, t2, -⟩ := ht0.three
  obtain ⟨x0, x1, x2, -⟩ := hx0.three
  replace HV := Lib.hid HV
  have HL1 := Lib.hid (HL.out.grown hb0)
  go_wp2_with fail
  refine (HV.out _ HL1.out).mono ?_
  rintro e w4 ⟨rfl, hb1⟩
  clear HL1 HV
  clear p0 p1 t0 t1 t2 x0 x1 x2
  replace hp0 := hp0.on hb1
  replace ht0 := ht0.on hb1
  replace hx0 := hx0.on hb1
  replace hb0 := on hb0 hb1
  clear hb1
  obtain ⟨p0, p1, -⟩ := hp0.two
  obtain ⟨t0, t1, t2, -⟩ := ht0.three
  obtain ⟨x0, x1, x2, -⟩ := hx0.three
  have hv0 := CellsAt.new w4 [.int .i64 4, .int .i64 an, .string ⟨#[]⟩] 23
  clear p0 p1 t0 t1 t2 x0 x1 x2
  replace hp0 := hp0.on_alloc (.cells #[.int .i64 4, .int .i64 an, .string ⟨#[]⟩] 23)
  replace ht0 := ht0.on_alloc (.cells #[.int .i64 4, .int .i64 an, .string ⟨#[]⟩] 23)
  replace hx0 := hx0.on_alloc (.cells #[.int .i64 4, .int .i64 an, .string ⟨#[]⟩] 23)
  replace hb0 := on_alloc hb0 (.cells #[.int .i64 4, .int .i64 an, .string ⟨#[]⟩] 23)
  obtain ⟨p0, p1, -⟩ := hp0.two
  obtain ⟨t0, t1, t2, -⟩ := ht0.three
  obtain ⟨x0, x1, x2, -⟩ := hx0.three
  obtain ⟨v0, v1, v2, -⟩ := hv0.three
  go_wp2_with fail
  refine (HF.out _).mono ?_
  rintro e w6 ⟨rfl, hb1⟩
  clear v0 v1 v2 HF
  clear p0 p1 t0 t1 t2 x0 x1 x2
  replace hp0 := hp0.on hb1
  replace ht0 := ht0.on hb1
  replace hx0 := hx0.on hb1
  replace hb0 := on hb0 hb1
  clear hb1
  obtain ⟨p0, p1, -⟩ := hp0.two
  obtain ⟨t0, t1, t2, -⟩ := ht0.three
  obtain ⟨x0, x1, x2, -⟩ := hx0.three
  go_wp2_with fail
  refine (HK.out _).mono ?_
  rintro e w7 ⟨rfl, hb1⟩
  clear HK
  clear p0 p1 t0 t1 t2 x0 x1 x2
  replace hp0 := hp0.on hb1
  replace ht0 := ht0.on hb1
  replace hx0 := hx0.on hb1
  replace hb0 := on hb0 hb1
  clear hb1
  obtain ⟨p0, p1, -⟩ := hp0.two
  obtain ⟨t0, t1, t2, -⟩ := ht0.three
  obtain ⟨x0, x1, x2, -⟩ := hx0.three
  go_wp2_with fail
  have P0 := fun d os => cell_regrown p0 d os
  have P1 := fun d os => cell_regrown p1 d os
  have T0 := fun d os => cell_regrown t0 d os
  have T1 := fun d os => cell_regrown t1 d os
  have T2 := fun d os => cell_regrown t2 d os
  have X0 := fun d os => cell_regrown x0 d os
  have X1 := fun d os => cell_regrown x1 d os
  have X2 := fun d os => cell_regrown x2 d os
  refine wp_region_mem 12 (fun d => match d with
    | 105 => some (RowV (fV an))
    | 106 => some (OneV (fV an))
    | 107 => some (TabV fun T => ∃ A, T = [oneTb A (fV an)])
    | 108 => some (Is (.agg #[.int .i64 4, .int .i64 an, .string ⟨#[]⟩]))
    | 112 => some (Is (.bool true))
    | _ => none) (by kernel_rfl) (by kernel_rfl) ?_
  simp only [List.take_succ_cons, List.take_zero, List.drop_succ_cons, List.drop_zero]
  repeat (first | ((with_reducible refine wpM_calm ?_ ?_ ?_ ?_); exact rfl; exact rfl; exact rfl; intro K hK; go_big_quiet_op; go_big_quiet_on) | ((with_reducible refine wpM_skip ?_ ?_); exact rfl; simp only [Act.put, List.setIfInBounds_toArray, List.set_cons_succ, List.set_cons_zero]))
  refine wpM_makes _ rfl rfl (fun w5 hw5 hl => ?_) ?_
  · simp [go_sem, variesUpon]
    exact ⟨below1 _ _, w5.heap.size, rfl, vals_one w5 (fV an) (ok_fault an han).2⟩
  rintro v1 ⟨_, g1, rfl, _⟩ a1 ha1
  simp only [Act.put, List.setIfInBounds_toArray, List.set_cons_succ, List.set_cons_zero] at ha1
  subst ha1
  repeat (first | ((with_reducible refine wpM_calm ?_ ?_ ?_ ?_); exact rfl; exact rfl; exact rfl; intro K hK; go_big_quiet_op; go_big_quiet_on) | ((with_reducible refine wpM_skip ?_ ?_); exact rfl; simp only [Act.put, List.setIfInBounds_toArray, List.set_cons_succ, List.set_cons_zero]))
  refine wpM_makes _ rfl rfl (fun w5 hw5 hl => ?_) ?_
  · obtain ⟨gx1, ex1, hx1⟩ := RowV.up ((looks_at (k := 2) (d := 105) hl (by kernel_rfl) (by kernel_rfl)).2 rfl)
    obtain rfl : g1 = gx1 := by simpa using ex1
    simp [go_sem, variesUpon]
    exact ⟨Below.refl _ _, g1, rfl, hx1⟩
  rintro v2 ⟨_, g2, rfl, _⟩ a2 ha2
  simp only [Act.put, List.setIfInBounds_toArray, List.set_cons_succ, List.set_cons_zero] at ha2
  subst ha2
  repeat (first | ((with_reducible refine wpM_calm ?_ ?_ ?_ ?_); exact rfl; exact rfl; exact rfl; intro K hK; go_big_quiet_op; go_big_quiet_on) | ((with_reducible refine wpM_skip ?_ ?_); exact rfl; simp only [Act.put, List.setIfInBounds_toArray, List.set_cons_succ, List.set_cons_zero]))
  refine wpM_makes _ rfl rfl (fun w5 hw5 hl => ?_) ?_
  · obtain ⟨gx1, ex1, hx1⟩ := OneV.up ((looks_at (k := 3) (d := 106) hl (by kernel_rfl) (by kernel_rfl)).2 rfl)
    obtain rfl : g2 = gx1 := by simpa using ex1
    simp [go_sem, variesUpon]
    exact ⟨below1 _ _, w5.heap.size, [oneTb (some ⟨g2, 0, none⟩) (fV an)], rfl, ⟨_, rfl⟩, tabs_new1 w5 (oneTb (some ⟨g2, 0, none⟩) (fV an)) (fun _ => hx1)⟩
  rintro v3 ⟨_, b3, T3, rfl, _⟩ a3 ha3
  simp only [Act.put, List.setIfInBounds_toArray, List.set_cons_succ, List.set_cons_zero] at ha3
  subst ha3
  repeat (first | ((with_reducible refine wpM_calm ?_ ?_ ?_ ?_); exact rfl; exact rfl; exact rfl; intro K hK; go_big_quiet_op; go_big_quiet_on) | ((with_reducible refine wpM_skip ?_ ?_); exact rfl; simp only [Act.put, List.setIfInBounds_toArray, List.set_cons_succ, List.set_cons_zero]))
  refine wpM_exact rfl rfl rfl Tryz.func17 (by kernel_rfl) (by kernel_rfl) ?_ rfl (by simp only [Act.put, List.setIfInBounds_toArray, List.set_cons_succ, List.set_cons_zero]; rfl) ?_
  · intro w5 hw5 hl
    obtain ⟨b9, T9, e9, hP, ht⟩ := TabV.up ((looks_at (k := 4) (d := 107) hl (by kernel_rfl) (by kernel_rfl)).2 rfl)
    simp only [Value.slice.injEq, Option.some.injEq, Addr.mk.injEq] at e9
    obtain ⟨⟨rfl, _⟩, _⟩ := e9
    obtain ⟨A9, rfl⟩ := hP
    exact HC.out A9 b3 w5 ht (HL.out.grown (on hb0 hw5))
  repeat (first | ((with_reducible refine wpM_calm ?_ ?_ ?_ ?_); exact rfl; exact rfl; exact rfl; intro K hK; go_big_quiet_op; go_big_quiet_on) | ((with_reducible refine wpM_skip ?_ ?_); exact rfl; simp only [Act.put, List.setIfInBounds_toArray, List.set_cons_succ, List.set_cons_zero]))
  refine wpM_exact rfl rfl rfl Tryz.func8 (by kernel_rfl) (by kernel_rfl) (fun w1 hw1 _ => alive_c w1 (HL.out.grown (on hb0 hw1))) rfl (by simp only [Act.put, List.setIfInBounds_toArray, List.set_cons_succ, List.set_cons_zero]; rfl) ?_
  repeat (first | ((with_reducible refine wpM_calm ?_ ?_ ?_ ?_); exact rfl; exact rfl; exact rfl; intro K hK; go_big_quiet_op; go_big_quiet_on) | ((with_reducible refine wpM_skip ?_ ?_); exact rfl; simp only [Act.put, List.setIfInBounds_toArray, List.set_cons_succ, List.set_cons_zero]))
  refine wpM_nil ?_
  intro w6 hw6 _
  clear P0 P1 T0 T1 T2 X0 X1 X2
  go_wp2
  go_ret
  exact ⟨rfl, on hb0 hw6⟩
set_option maxRecDepth 100000 in
set_option maxHeartbeats 16000000 in
theorem faults_12b108 (op fn an : Int) (bk bn : Int) (bt : ByteArray) (w : World) (h : mayV 4 an ⟨#[]⟩ = true) (h2 : mayV bk bn bt = true) (ho1 : ¬ op < 1) (ho : ¬ 12 < op) (hf : Fnm.fitsF fn 1 = true) (x13 : ¬ fn = 13) (x14 : ¬ fn = 14) (x15 : ¬ fn = 15) (hx : 33 < fn) (hkd : kdF fn 0 = 108) (han : 1 ≤ an ∧ an ≤ 7) (HC : ∀ (A : Option Addr) (b : Nat) (w1 : World), TabsR w1 (some ⟨b, 0, none⟩) 1 [oneTb A (fV an)] → CLibs w1 → Calls Tryz.prog 17 #[.int .i64 fn, .slice (some ⟨b, 0, none⟩) 1 1] w1 (ValIs 4 an ⟨#[]⟩ w1)) 
    (HV : ∀ w1, CLibs w1 → Calls Tryz.prog 9 #[.int .i64 op, .agg #[.int .i64 4, .int .i64 an, .string ⟨#[]⟩], .agg #[.int .i64 bk, .int .i64 bn, .string bt]] w1 (ValIs 4 an ⟨#[]⟩ w1)) (hL : CLibs w) :
    Calls Tryz.prog 5 #[.agg #[.int .i64 op, .int .i64 fn], .agg #[.int .i64 4, .int .i64 an, .string ⟨#[]⟩], .agg #[.int .i64 bk, .int .i64 bn, .string bt]] w (LawEnd w) := by
  have hp0 := ((CellsAt.new w [.int .i64 op, .int .i64 fn] 37).on_alloc (.cells #[.int .i64 4, .int .i64 an, .string ⟨#[]⟩] 23)).on_alloc (.cells #[.int .i64 bk, .int .i64 bn, .string bt] 23)
  have ht0 := (Lok.newAt (w0 := w.alloc (.cells #[.int .i64 op, .int .i64 fn] 37)) (g := w.heap.size + 1) (by simp) [.int .i64 4, .int .i64 an, .string ⟨#[]⟩] 23).on_alloc (.cells #[.int .i64 bk, .int .i64 bn, .string bt] 23)
  have hx0 := Lok.newAt (w0 := (w.alloc (.cells #[.int .i64 op, .int .i64 fn] 37)).alloc (.cells #[.int .i64 4, .int .i64 an, .string ⟨#[]⟩] 23)) (g := w.heap.size + 2) (by simp) [.int .i64 bk, .int .i64 bn, .string bt] 23
  have hb0 := on_alloc (below2 w (.cells #[.int .i64 op, .int .i64 fn] 37) (.cells #[.int .i64 4, .int .i64 an, .string ⟨#[]⟩] 23)) (.cells #[.int .i64 bk, .int .i64 bn, .string bt] 23)
  have HL := Lib.hid hL
  clear hL
  obtain ⟨p0, p1, -⟩ := hp0.two
  obtain ⟨t0, t1, t2, -⟩ := ht0.three
  obtain ⟨x0, x1, x2, -⟩ := hx0.three
  have d1 : decide (op < 1) = false := decide_eq_false ho1
  have d2 : decide (12 < op) = false := decide_eq_false ho
  clear ho1 ho
  have HF := Lib.hid (fun w1 => Fnm.fits_c fn 1 true hf w1)
  have e13 : (fn == 13) = false := beq_eq_false_iff_ne.2 (by omega)
  have e14 : (fn == 14) = false := beq_eq_false_iff_ne.2 (by omega)
  have e15 : (fn == 15) = false := beq_eq_false_iff_ne.2 (by omega)
  have d29 : decide (29 ≤ fn) = true := decide_eq_true (by omega)
  have d33 : decide (fn ≤ 33) = false := decide_eq_false (by omega)
  have HK : Hid (∀ w1, Calls Tryz.prog 21 #[.int .i64 fn, .int .i64 0] w1 fun e w2 => e = .returned (.int .u8 (kdF fn 0 : Int)) ∧ Below w1.heap.size w1 w2) := Lib.hid (fun w1 => Fnm.kind_c fn 0 _ rfl w1)
  obtain ⟨kn, hkn⟩ : ∃ kn : Int, (kdF fn 0 : Int) = kn := ⟨_, rfl⟩
  rw [hkn] at HK
  have e118 : (kn == 118) = false := beq_eq_false_iff_ne.2 (by omega)
  have n118 : (kn != 118) = true := by rw [bne, e118]; rfl
  have e108 : (kn == 108) = true := beq_iff_eq.2 (by omega)
  have n108 : (kn != 108) = false := by rw [bne, e108]; rfl
  clear hf x13 x14 x15 hx hkd hkn
  replace HC := Lib.hid HC
  have H1 := Lib.hid (fun w1 => rmayv_c 4 an ⟨#[]⟩ true h w1)
  have H2 := Lib.hid (fun w1 => rmayv_c bk bn bt true h2 w1)
  clear h h2
  go_enter Tryz.func5, Tryz.ntmps5
  go_wp2_with fail
  generalize ((w.alloc (.cells #[.int .i64 op, .int .i64 fn] 37)).alloc (.cells #[.int .i64 4, .int .i64 an, .string ⟨#[]⟩] 23)).alloc (.cells #[.int .i64 bk, .int .i64 bn, .string bt] 23) = W1 at *
  have P0 := fun d os => cell_regrown p0 d os
  have P1 := fun d os => cell_regrown p1 d os
  have T0 := fun d os => cell_regrown t0 d os
  have T1 := fun d os => cell_regrown t1 d os
  have T2 := fun d os => cell_regrown t2 d os
  have X0 := fun d os => cell_regrown x0 d os
  have X1 := fun d os => cell_regrown x1 d os
  have X2 := fun d os => cell_regrown x2 d os
  refine wp_region_mem 6 (fun d => match d with
    | _ => none) (by kernel_rfl) (by kernel_rfl) ?_
  simp only [List.take_succ_cons, List.take_zero, List.drop_succ_cons, List.drop_zero]
  repeat (first | ((with_reducible refine wpM_calm ?_ ?_ ?_ ?_); exact rfl; exact rfl; exact rfl; intro K hK; go_big_quiet_op; go_big_quiet_on) | ((with_reducible refine wpM_skip ?_ ?_); exact rfl; simp only [Act.put, List.setIfInBounds_toArray, List.set_cons_succ, List.set_cons_zero]))
  refine wpM_nil ?_
  intro w1 hw1 _
  clear P0 P1 T0 T1 T2 X0 X1 X2
  clear p0 p1 t0 t1 t2 x0 x1 x2
  replace hp0 := hp0.on hw1
  replace ht0 := ht0.on hw1
  replace hx0 := hx0.on hw1
  replace hb0 := on hb0 hw1
  clear hw1
  obtain ⟨p0, p1, -⟩ := hp0.two
  obtain ⟨t0, t1, t2, -⟩ := ht0.three
  obtain ⟨x0, x1, x2, -⟩ := hx0.three
  go_wp2_with fail
  refine (H1.out _).mono ?_
  rintro e w2 ⟨rfl, hb1⟩
  clear p0 p1 t0 t1 t2 x0 x1 x2
  replace hp0 := hp0.on hb1
  replace ht0 := ht0.on hb1
  replace hx0 := hx0.on hb1
  replace hb0 := on hb0 hb1
  clear hb1
  obtain ⟨p0, p1, -⟩ := hp0.two
  obtain ⟨t0, t1, t2, -⟩ := ht0.three
  obtain ⟨x0, x1, x2, -⟩ := hx0.three
  go_wp2_with fail
  refine (H2.out _).mono ?_
  rintro e w3 ⟨rfl, hb1⟩
  clear p0 p1 t0 t1 t2 x0 x1 x2
  replace hp0 := hp0.on hb1
  replace ht0 := ht0.on hb1
  replace hx0 := hx0.on hb1
  replace hb0 := on hb0 hb1
  clear hb1
  obtain ⟨p0, p1, -⟩ := hp0.two
  obtain ⟨t0, t1, t2, -⟩ := ht0.three
  obtain ⟨x0, x1, x2, -⟩ := hx0.three
  replace HV := Lib.hid HV
  have HL1 := Lib.hid (HL.out.grown hb0)
  go_wp2_with fail
  refine (HV.out _ HL1.out).mono ?_
  rintro e w4 ⟨rfl, hb1⟩
  clear HL1 HV
  clear p0 p1 t0 t1 t2 x0 x1 x2
  replace hp0 := hp0.on hb1
  replace ht0 := ht0.on hb1
  replace hx0 := hx0.on hb1
  replace hb0 := on hb0 hb1
  clear hb1
  obtain ⟨p0, p1, -⟩ := hp0.two
  obtain ⟨t0, t1, t2, -⟩ := ht0.three
  obtain ⟨x0, x1, x2, -⟩ := hx0.three
  have hv0 := CellsAt.new w4 [.int .i64 4, .int .i64 an, .string ⟨#[]⟩] 23
  clear p0 p1 t0 t1 t2 x0 x1 x2
  replace hp0 := hp0.on_alloc (.cells #[.int .i64 4, .int .i64 an, .string ⟨#[]⟩] 23)
  replace ht0 := ht0.on_alloc (.cells #[.int .i64 4, .int .i64 an, .string ⟨#[]⟩] 23)
  replace hx0 := hx0.on_alloc (.cells #[.int .i64 4, .int .i64 an, .string ⟨#[]⟩] 23)
  replace hb0 := on_alloc hb0 (.cells #[.int .i64 4, .int .i64 an, .string ⟨#[]⟩] 23)
  obtain ⟨p0, p1, -⟩ := hp0.two
  obtain ⟨t0, t1, t2, -⟩ := ht0.three
  obtain ⟨x0, x1, x2, -⟩ := hx0.three
  obtain ⟨v0, v1, v2, -⟩ := hv0.three
  go_wp2_with fail
  refine (HF.out _).mono ?_
  rintro e w6 ⟨rfl, hb1⟩
  clear v0 v1 v2 HF
  clear p0 p1 t0 t1 t2 x0 x1 x2
  replace hp0 := hp0.on hb1
  replace ht0 := ht0.on hb1
  replace hx0 := hx0.on hb1
  replace hb0 := on hb0 hb1
  clear hb1
  obtain ⟨p0, p1, -⟩ := hp0.two
  obtain ⟨t0, t1, t2, -⟩ := ht0.three
  obtain ⟨x0, x1, x2, -⟩ := hx0.three
  go_wp2_with fail
  refine (HK.out _).mono ?_
  rintro e w7 ⟨rfl, hb1⟩
  clear HK
  clear p0 p1 t0 t1 t2 x0 x1 x2
  replace hp0 := hp0.on hb1
  replace ht0 := ht0.on hb1
  replace hx0 := hx0.on hb1
  replace hb0 := on hb0 hb1
  clear hb1
  obtain ⟨p0, p1, -⟩ := hp0.two
  obtain ⟨t0, t1, t2, -⟩ := ht0.three
  obtain ⟨x0, x1, x2, -⟩ := hx0.three
  go_wp2_with fail
  have P0 := fun d os => cell_regrown p0 d os
  have P1 := fun d os => cell_regrown p1 d os
  have T0 := fun d os => cell_regrown t0 d os
  have T1 := fun d os => cell_regrown t1 d os
  have T2 := fun d os => cell_regrown t2 d os
  have X0 := fun d os => cell_regrown x0 d os
  have X1 := fun d os => cell_regrown x1 d os
  have X2 := fun d os => cell_regrown x2 d os
  refine wp_region_mem 12 (fun d => match d with
    | 105 => some (RowV (fV an))
    | 106 => some (OneV (fV an))
    | 107 => some (TabV fun T => ∃ A, T = [oneTb A (fV an)])
    | 108 => some (Is (.agg #[.int .i64 4, .int .i64 an, .string ⟨#[]⟩]))
    | 112 => some (Is (.bool true))
    | _ => none) (by kernel_rfl) (by kernel_rfl) ?_
  simp only [List.take_succ_cons, List.take_zero, List.drop_succ_cons, List.drop_zero]
  repeat (first | ((with_reducible refine wpM_calm ?_ ?_ ?_ ?_); exact rfl; exact rfl; exact rfl; intro K hK; go_big_quiet_op; go_big_quiet_on) | ((with_reducible refine wpM_skip ?_ ?_); exact rfl; simp only [Act.put, List.setIfInBounds_toArray, List.set_cons_succ, List.set_cons_zero]))
  refine wpM_makes _ rfl rfl (fun w5 hw5 hl => ?_) ?_
  · simp [go_sem, variesUpon]
    exact ⟨below1 _ _, w5.heap.size, rfl, vals_one w5 (fV an) (ok_fault an han).2⟩
  rintro v1 ⟨_, g1, rfl, _⟩ a1 ha1
  simp only [Act.put, List.setIfInBounds_toArray, List.set_cons_succ, List.set_cons_zero] at ha1
  subst ha1
  repeat (first | ((with_reducible refine wpM_calm ?_ ?_ ?_ ?_); exact rfl; exact rfl; exact rfl; intro K hK; go_big_quiet_op; go_big_quiet_on) | ((with_reducible refine wpM_skip ?_ ?_); exact rfl; simp only [Act.put, List.setIfInBounds_toArray, List.set_cons_succ, List.set_cons_zero]))
  refine wpM_makes _ rfl rfl (fun w5 hw5 hl => ?_) ?_
  · obtain ⟨gx1, ex1, hx1⟩ := RowV.up ((looks_at (k := 2) (d := 105) hl (by kernel_rfl) (by kernel_rfl)).2 rfl)
    obtain rfl : g1 = gx1 := by simpa using ex1
    simp [go_sem, variesUpon]
    exact ⟨Below.refl _ _, g1, rfl, hx1⟩
  rintro v2 ⟨_, g2, rfl, _⟩ a2 ha2
  simp only [Act.put, List.setIfInBounds_toArray, List.set_cons_succ, List.set_cons_zero] at ha2
  subst ha2
  repeat (first | ((with_reducible refine wpM_calm ?_ ?_ ?_ ?_); exact rfl; exact rfl; exact rfl; intro K hK; go_big_quiet_op; go_big_quiet_on) | ((with_reducible refine wpM_skip ?_ ?_); exact rfl; simp only [Act.put, List.setIfInBounds_toArray, List.set_cons_succ, List.set_cons_zero]))
  refine wpM_makes _ rfl rfl (fun w5 hw5 hl => ?_) ?_
  · obtain ⟨gx1, ex1, hx1⟩ := OneV.up ((looks_at (k := 3) (d := 106) hl (by kernel_rfl) (by kernel_rfl)).2 rfl)
    obtain rfl : g2 = gx1 := by simpa using ex1
    simp [go_sem, variesUpon]
    exact ⟨below1 _ _, w5.heap.size, [oneTb (some ⟨g2, 0, none⟩) (fV an)], rfl, ⟨_, rfl⟩, tabs_new1 w5 (oneTb (some ⟨g2, 0, none⟩) (fV an)) (fun _ => hx1)⟩
  rintro v3 ⟨_, b3, T3, rfl, _⟩ a3 ha3
  simp only [Act.put, List.setIfInBounds_toArray, List.set_cons_succ, List.set_cons_zero] at ha3
  subst ha3
  repeat (first | ((with_reducible refine wpM_calm ?_ ?_ ?_ ?_); exact rfl; exact rfl; exact rfl; intro K hK; go_big_quiet_op; go_big_quiet_on) | ((with_reducible refine wpM_skip ?_ ?_); exact rfl; simp only [Act.put, List.setIfInBounds_toArray, List.set_cons_succ, List.set_cons_zero]))
  refine wpM_exact rfl rfl rfl Tryz.func17 (by kernel_rfl) (by kernel_rfl) ?_ rfl (by simp only [Act.put, List.setIfInBounds_toArray, List.set_cons_succ, List.set_cons_zero]; rfl) ?_
  · intro w5 hw5 hl
    obtain ⟨b9, T9, e9, hP, ht⟩ := TabV.up ((looks_at (k := 4) (d := 107) hl (by kernel_rfl) (by kernel_rfl)).2 rfl)
    simp only [Value.slice.injEq, Option.some.injEq, Addr.mk.injEq] at e9
    obtain ⟨⟨rfl, _⟩, _⟩ := e9
    obtain ⟨A9, rfl⟩ := hP
    exact HC.out A9 b3 w5 ht (HL.out.grown (on hb0 hw5))
  repeat (first | ((with_reducible refine wpM_calm ?_ ?_ ?_ ?_); exact rfl; exact rfl; exact rfl; intro K hK; go_big_quiet_op; go_big_quiet_on) | ((with_reducible refine wpM_skip ?_ ?_); exact rfl; simp only [Act.put, List.setIfInBounds_toArray, List.set_cons_succ, List.set_cons_zero]))
  refine wpM_exact rfl rfl rfl Tryz.func8 (by kernel_rfl) (by kernel_rfl) (fun w1 hw1 _ => alive_c w1 (HL.out.grown (on hb0 hw1))) rfl (by simp only [Act.put, List.setIfInBounds_toArray, List.set_cons_succ, List.set_cons_zero]; rfl) ?_
  repeat (first | ((with_reducible refine wpM_calm ?_ ?_ ?_ ?_); exact rfl; exact rfl; exact rfl; intro K hK; go_big_quiet_op; go_big_quiet_on) | ((with_reducible refine wpM_skip ?_ ?_); exact rfl; simp only [Act.put, List.setIfInBounds_toArray, List.set_cons_succ, List.set_cons_zero]))
  refine wpM_nil ?_
  intro w6 hw6 _
  clear P0 P1 T0 T1 T2 X0 X1 X2
  go_wp2
  go_ret
  exact ⟨rfl, on hb0 hw6⟩
end Go.Proofs.YtebjedbppiphgaaGreatDoor.Cal

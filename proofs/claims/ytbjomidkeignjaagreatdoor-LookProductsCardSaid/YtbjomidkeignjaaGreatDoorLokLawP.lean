/- What the statement LookProducts answers: yes, for every two tables. Written by wip/gen18n.py. -/
import Derived.Test.YtbjomidkeignjaaGreatDoorLokAlive
import Derived.Test.YtbjomidkeignjaaGreatDoorL2
import Derived.Test.YtbjomidkeignjaaGreatDoorLokRProd
namespace Go.Proofs.YtbjomidkeignjaaGreatDoor.Lok
open Go.RowKit Kit Reg Dec Dig Val Fld
open Crt (CLibs LawEnd)

set_option maxRecDepth 100000 in
set_option maxHeartbeats 8000000 in
theorem products_law_1 (ra ca : Int) (A : Option Addr) (n1 d1 : Nat) (rb cb : Int) (B : Option Addr) (n2 d2 : Nat) (w : World) (H1 : ∀ w1, Below w.heap.size w w1 → Calls Tryz.prog 16 #[.agg #[.int .i64 ra, .int .i64 ca, .slice A n1 d1]] w1 (Bit false w1)) (hL : CLibs w) :
    Calls Tryz.prog 6 #[.agg #[.int .i64 ra, .int .i64 ca, .slice A n1 d1], .agg #[.int .i64 rb, .int .i64 cb, .slice B n2 d2]] w (LawEnd w) := by
  have H1 := Lib.hid H1
  have HA := Lib.hid (fun w1 h => life_c w1 h)
  have HL := Lib.hid hL
  have ht0 := (CellsAt.new w [.int .i64 ra, .int .i64 ca, .slice A n1 d1] 24).on_alloc (.cells #[.int .i64 rb, .int .i64 cb, .slice B n2 d2] 24)
  have hu0 := newAt (w0 := w.alloc (.cells #[.int .i64 ra, .int .i64 ca, .slice A n1 d1] 24)) (g := w.heap.size + 1) (by simp) [.int .i64 rb, .int .i64 cb, .slice B n2 d2] 24
  have hb0 := below2 w (.cells #[.int .i64 ra, .int .i64 ca, .slice A n1 d1] 24) (.cells #[.int .i64 rb, .int .i64 cb, .slice B n2 d2] 24)
  clear hL
  obtain ⟨t0, t1, t2, _⟩ := ht0.three
  obtain ⟨u0, u1, u2, _⟩ := hu0.three
  go_enter Tryz.func6, Tryz.ntmps6
  go_wp2_with fail
  refine (H1.out _ hb0).mono ?_
  rintro e w1 ⟨rfl, hb1⟩
  clear t0 t1 t2 u0 u1 u2
  replace ht0 := ht0.on hb1
  replace hu0 := hu0.on hb1
  replace hb0 := on hb0 hb1
  clear hb1 H1
  obtain ⟨t0, t1, t2, _⟩ := ht0.three
  obtain ⟨u0, u1, u2, _⟩ := hu0.three
  have HL1 := Lib.hid (HL.out.grown hb0)
  go_wp2_with fail
  refine (HA.out _ HL1.out).mono ?_
  rintro e w9 ⟨rfl, hb9⟩
  clear t0 t1 t2 u0 u1 u2
  clear ht0 hu0
  go_wp2
  go_ret
  exact ⟨rfl, on hb0 hb9⟩
set_option maxRecDepth 100000 in
set_option maxHeartbeats 8000000 in
theorem products_law_2 (ra ca : Int) (A : Option Addr) (n1 d1 : Nat) (rb cb : Int) (B : Option Addr) (n2 d2 : Nat) (w : World) (H1 : ∀ w1, Below w.heap.size w w1 → Calls Tryz.prog 16 #[.agg #[.int .i64 ra, .int .i64 ca, .slice A n1 d1]] w1 (Bit true w1)) (H2 : ∀ w1, Below w.heap.size w w1 → Calls Tryz.prog 16 #[.agg #[.int .i64 rb, .int .i64 cb, .slice B n2 d2]] w1 (Bit false w1)) (hL : CLibs w) :
    Calls Tryz.prog 6 #[.agg #[.int .i64 ra, .int .i64 ca, .slice A n1 d1], .agg #[.int .i64 rb, .int .i64 cb, .slice B n2 d2]] w (LawEnd w) := by
  have H1 := Lib.hid H1
  have H2 := Lib.hid H2
  have HA := Lib.hid (fun w1 h => life_c w1 h)
  have HL := Lib.hid hL
  have ht0 := (CellsAt.new w [.int .i64 ra, .int .i64 ca, .slice A n1 d1] 24).on_alloc (.cells #[.int .i64 rb, .int .i64 cb, .slice B n2 d2] 24)
  have hu0 := newAt (w0 := w.alloc (.cells #[.int .i64 ra, .int .i64 ca, .slice A n1 d1] 24)) (g := w.heap.size + 1) (by simp) [.int .i64 rb, .int .i64 cb, .slice B n2 d2] 24
  have hb0 := below2 w (.cells #[.int .i64 ra, .int .i64 ca, .slice A n1 d1] 24) (.cells #[.int .i64 rb, .int .i64 cb, .slice B n2 d2] 24)
  clear hL
  obtain ⟨t0, t1, t2, _⟩ := ht0.three
  obtain ⟨u0, u1, u2, _⟩ := hu0.three
  go_enter Tryz.func6, Tryz.ntmps6
  go_wp2_with fail
  refine (H1.out _ hb0).mono ?_
  rintro e w1 ⟨rfl, hb1⟩
  clear t0 t1 t2 u0 u1 u2
  replace ht0 := ht0.on hb1
  replace hu0 := hu0.on hb1
  replace hb0 := on hb0 hb1
  clear hb1 H1
  obtain ⟨t0, t1, t2, _⟩ := ht0.three
  obtain ⟨u0, u1, u2, _⟩ := hu0.three
  go_wp2_with fail
  refine (H2.out _ hb0).mono ?_
  rintro e w2 ⟨rfl, hb2⟩
  clear t0 t1 t2 u0 u1 u2
  replace ht0 := ht0.on hb2
  replace hu0 := hu0.on hb2
  replace hb0 := on hb0 hb2
  clear hb2 H2
  obtain ⟨t0, t1, t2, _⟩ := ht0.three
  obtain ⟨u0, u1, u2, _⟩ := hu0.three
  have HL1 := Lib.hid (HL.out.grown hb0)
  go_wp2_with fail
  refine (HA.out _ HL1.out).mono ?_
  rintro e w9 ⟨rfl, hb9⟩
  clear t0 t1 t2 u0 u1 u2
  clear ht0 hu0
  go_wp2
  go_ret
  exact ⟨rfl, on hb0 hb9⟩
set_option maxRecDepth 100000 in
set_option maxHeartbeats 8000000 in
theorem products_law_fault (ra ca : Int) (A : Option Addr) (n1 d1 : Nat) (rb cb : Int) (B : Option Addr) (n2 d2 : Nat) (nx ky ny : Int) (w : World) (H1 : ∀ w1, Below w.heap.size w w1 → Calls Tryz.prog 16 #[.agg #[.int .i64 ra, .int .i64 ca, .slice A n1 d1]] w1 (Bit true w1)) (H2 : ∀ w1, Below w.heap.size w w1 → Calls Tryz.prog 16 #[.agg #[.int .i64 rb, .int .i64 cb, .slice B n2 d2]] w1 (Bit true w1)) (HP : ∀ w1, Below w.heap.size w w1 → Calls Tryz.prog 28 #[.agg #[.int .i64 ra, .int .i64 ca, .slice A n1 d1], .agg #[.int .i64 rb, .int .i64 cb, .slice B n2 d2]] w1 (ValIs 4 nx ⟨#[]⟩ w1)) (HQ : ∀ w1, Below w.heap.size w w1 → Calls Tryz.prog 28 #[.agg #[.int .i64 rb, .int .i64 cb, .slice B n2 d2], .agg #[.int .i64 ra, .int .i64 ca, .slice A n1 d1]] w1 (ValIs ky ny ⟨#[]⟩ w1)) (HR : ∀ w1, Below w.heap.size w w1 → Calls Tryz.prog 29 #[.agg #[.int .i64 ra, .int .i64 ca, .slice A n1 d1], .agg #[.int .i64 rb, .int .i64 cb, .slice B n2 d2]] w1 (ValIs 4 nx ⟨#[]⟩ w1)) (hL : CLibs w) :
    Calls Tryz.prog 6 #[.agg #[.int .i64 ra, .int .i64 ca, .slice A n1 d1], .agg #[.int .i64 rb, .int .i64 cb, .slice B n2 d2]] w (LawEnd w) := by
  have H1 := Lib.hid H1
  have H2 := Lib.hid H2
  have HP := Lib.hid HP
  have HQ := Lib.hid HQ
  have HR := Lib.hid HR
  have HA := Lib.hid (fun w1 h => life_c w1 h)
  have HL := Lib.hid hL
  have ht0 := (CellsAt.new w [.int .i64 ra, .int .i64 ca, .slice A n1 d1] 24).on_alloc (.cells #[.int .i64 rb, .int .i64 cb, .slice B n2 d2] 24)
  have hu0 := newAt (w0 := w.alloc (.cells #[.int .i64 ra, .int .i64 ca, .slice A n1 d1] 24)) (g := w.heap.size + 1) (by simp) [.int .i64 rb, .int .i64 cb, .slice B n2 d2] 24
  have hb0 := below2 w (.cells #[.int .i64 ra, .int .i64 ca, .slice A n1 d1] 24) (.cells #[.int .i64 rb, .int .i64 cb, .slice B n2 d2] 24)
  clear hL
  obtain ⟨t0, t1, t2, _⟩ := ht0.three
  obtain ⟨u0, u1, u2, _⟩ := hu0.three
  go_enter Tryz.func6, Tryz.ntmps6
  go_wp2_with fail
  refine (H1.out _ hb0).mono ?_
  rintro e w1 ⟨rfl, hb1⟩
  clear t0 t1 t2 u0 u1 u2
  replace ht0 := ht0.on hb1
  replace hu0 := hu0.on hb1
  replace hb0 := on hb0 hb1
  clear hb1 H1
  obtain ⟨t0, t1, t2, _⟩ := ht0.three
  obtain ⟨u0, u1, u2, _⟩ := hu0.three
  go_wp2_with fail
  refine (H2.out _ hb0).mono ?_
  rintro e w2 ⟨rfl, hb2⟩
  clear t0 t1 t2 u0 u1 u2
  replace ht0 := ht0.on hb2
  replace hu0 := hu0.on hb2
  replace hb0 := on hb0 hb2
  clear hb2 H2
  obtain ⟨t0, t1, t2, _⟩ := ht0.three
  obtain ⟨u0, u1, u2, _⟩ := hu0.three
  go_wp2_with fail
  have T0 := fun d os => cell_regrown t0 d os
  have T1 := fun d os => cell_regrown t1 d os
  have T2 := fun d os => cell_regrown t2 d os
  have U0 := fun d os => cell_regrown u0 d os
  have U1 := fun d os => cell_regrown u1 d os
  have U2 := fun d os => cell_regrown u2 d os
  clear t0 t1 t2 u0 u1 u2
  refine wp_region_new 8 (fun d => match d with
    | 18 => some (Is (.agg #[.int .i64 4, .int .i64 nx, .string ⟨#[]⟩]))
    | 21 => some (Is (.agg #[.int .i64 ky, .int .i64 ny, .string ⟨#[]⟩]))
    | 5 => some (NewCells w2.heap.size [.int .i64 0, .int .i64 0, .string ⟨#[]⟩])
    | 6 => some (NewCells w2.heap.size [.int .i64 0, .int .i64 0, .string ⟨#[]⟩])
    | _ => none) (fun d => d == 5 || d == 6) (by kernel_rfl) (by kernel_rfl) ?_
  simp only [List.take_succ_cons, List.take_zero, List.drop_succ_cons, List.drop_zero]
  repeat (first | ((with_reducible refine wpM_calm ?_ ?_ ?_ ?_); exact rfl; exact rfl; exact rfl; intro K hK; go_big_quiet_op; go_big_quiet_on) | ((with_reducible refine wpM_skip ?_ ?_); exact rfl; simp only [Act.put, List.setIfInBounds_toArray, List.set_cons_succ, List.set_cons_zero]))
  refine wpM_exact rfl rfl rfl Tryz.func28 (by kernel_rfl) (by kernel_rfl) (fun w1 hw1 _ => HP.out w1 (on hb0 hw1)) rfl (by simp only [Act.put, List.setIfInBounds_toArray, List.set_cons_succ, List.set_cons_zero]; rfl) ?_
  repeat (first | ((with_reducible refine wpM_calm ?_ ?_ ?_ ?_); exact rfl; exact rfl; exact rfl; intro K hK; go_big_quiet_op; go_big_quiet_on) | ((with_reducible refine wpM_skip ?_ ?_); exact rfl; simp only [Act.put, List.setIfInBounds_toArray, List.set_cons_succ, List.set_cons_zero]))
  refine wpM_exact rfl rfl rfl Tryz.func28 (by kernel_rfl) (by kernel_rfl) (fun w1 hw1 _ => HQ.out w1 (on hb0 hw1)) rfl (by simp only [Act.put, List.setIfInBounds_toArray, List.set_cons_succ, List.set_cons_zero]; rfl) ?_
  refine wpM_alloc _ (.cells #[.int .i64 0, .int .i64 0, .string ⟨#[]⟩] 26) rfl rfl rfl (fun w1 => by simp [go_sem]) (fun w1 h1 => (NewCells.mk w1 _ _ h1.size).2) ?_ (by rintro v ⟨_, b, rfl, _⟩; exact ⟨b, rfl⟩)
  intro b5 a' ha'
  simp only [Act.put, List.setIfInBounds_toArray, List.set_cons_succ, List.set_cons_zero] at ha'
  subst ha'
  refine wpM_alloc _ (.cells #[.int .i64 0, .int .i64 0, .string ⟨#[]⟩] 26) rfl rfl rfl (fun w1 => by simp [go_sem]) (fun w1 h1 => (NewCells.mk w1 _ _ h1.size).2) ?_ (by rintro v ⟨_, b, rfl, _⟩; exact ⟨b, rfl⟩)
  intro b6 a' ha'
  simp only [Act.put, List.setIfInBounds_toArray, List.set_cons_succ, List.set_cons_zero] at ha'
  subst ha'
  refine wpM_nil ?_
  intro w3 hw3 hG
  have hne : b5 ≠ b6 := hG.2.1 6 b5 7 b6 (.inl (.inr ⟨rfl, rfl⟩)) (.inr ⟨rfl, rfl⟩) (by decide)
  obtain ⟨hB6, k6⟩ := NewCells.at (Fct.put_at (hG.2.2.1 7))
  obtain ⟨hB5, k5⟩ := NewCells.at (Fct.put_at (Fct.put_old (hG.2.2.1 6)))
  have lt := ht0.1
  have lu := hu0.1
  have hs2 := hb0.size
  clear hG T0 T1 T2 U0 U1 U2
  replace ht0 := ((ht0.on hw3).put3_far (c := b5) (by omega) (.int .i64 4) (.int .i64 nx) (.string ⟨#[]⟩)).put3_far (c := b6) (by omega) (.int .i64 ky) (.int .i64 ny) (.string ⟨#[]⟩)
  replace hu0 := ((hu0.on hw3).put3_far (c := b5) (by omega) (.int .i64 4) (.int .i64 nx) (.string ⟨#[]⟩)).put3_far (c := b6) (by omega) (.int .i64 ky) (.int .i64 ny) (.string ⟨#[]⟩)
  obtain ⟨m0, m1, m2, f0, f1, f2⟩ := k5.three
  obtain ⟨j0, j1, j2, y0, y1, y2⟩ := (k6.put3_far hne (.int .i64 4) (.int .i64 nx) (.string ⟨#[]⟩)).three
  have q5 := (k5.put3 (.int .i64 4) (.int .i64 nx) (.string ⟨#[]⟩)).put3_far hne.symm (.int .i64 ky) (.int .i64 ny) (.string ⟨#[]⟩)
  have q6 := (k6.put3_far hne (.int .i64 4) (.int .i64 nx) (.string ⟨#[]⟩)).put3 (.int .i64 ky) (.int .i64 ny) (.string ⟨#[]⟩)
  replace hb0 := set3 (set3 (on hb0 hw3) (b := b5) (by omega) (.int .i64 4) (.int .i64 nx) (.string ⟨#[]⟩)) (b := b6) (by omega) (.int .i64 ky) (.int .i64 ny) (.string ⟨#[]⟩)
  simp only [put3] at ht0 hu0 q5 q6
  clear k5 k6 hw3
  go_wp2_with fail
  generalize ((((((w3.setCell ⟨b5, 0, none⟩ (.int .i64 4)).setCell ⟨b5, 1, none⟩ (.int .i64 nx)).setCell ⟨b5, 2, none⟩ (.string ⟨#[]⟩)).setCell ⟨b6, 0, none⟩ (.int .i64 ky)).setCell ⟨b6, 1, none⟩ (.int .i64 ny)).setCell ⟨b6, 2, none⟩ (.string ⟨#[]⟩)) = W3 at *
  clear m0 m1 m2 f0 f1 f2 j0 j1 j2 y0 y1 y2
  obtain ⟨p0, p1, p2, _⟩ := q5.three
  obtain ⟨s0, s1, s2, _⟩ := q6.three
  have P0 := fun d os => cell_regrown p0 d os
  have P1 := fun d os => cell_regrown p1 d os
  have P2 := fun d os => cell_regrown p2 d os
  have S0 := fun d os => cell_regrown s0 d os
  have S1 := fun d os => cell_regrown s1 d os
  have S2 := fun d os => cell_regrown s2 d os
  obtain ⟨t0, t1, t2, _⟩ := ht0.three
  obtain ⟨u0, u1, u2, _⟩ := hu0.three
  have T0 := fun d os => cell_regrown t0 d os
  have T1 := fun d os => cell_regrown t1 d os
  have T2 := fun d os => cell_regrown t2 d os
  have U0 := fun d os => cell_regrown u0 d os
  have U1 := fun d os => cell_regrown u1 d os
  have U2 := fun d os => cell_regrown u2 d os
  clear t0 t1 t2 u0 u1 u2
  clear p0 p1 p2 s0 s1 s2 ht0 hu0 q5 q6
  refine wp_region_mem 19 (fun d => match d with
    | 25 => some (Is (.agg #[.int .i64 4, .int .i64 nx, .string ⟨#[]⟩]))
    | 38 => some (Is (.bool true))
    | _ => none) (by kernel_rfl) (by kernel_rfl) ?_
  try simp only [List.append]
  simp only [List.take_succ_cons, List.take_zero, List.drop_succ_cons, List.drop_zero]
  repeat (first | ((with_reducible refine wpM_calm ?_ ?_ ?_ ?_); exact rfl; exact rfl; exact rfl; intro K hK; go_big_quiet_op; go_big_quiet_on) | ((with_reducible refine wpM_skip ?_ ?_); exact rfl; simp only [Act.put, List.setIfInBounds_toArray, List.set_cons_succ, List.set_cons_zero]))
  refine wpM_exact rfl rfl rfl Tryz.func29 (by kernel_rfl) (by kernel_rfl) (fun w1 hw1 _ => HR.out w1 (on hb0 hw1)) rfl (by simp only [Act.put, List.setIfInBounds_toArray, List.set_cons_succ, List.set_cons_zero]; rfl) ?_
  repeat (first | ((with_reducible refine wpM_calm ?_ ?_ ?_ ?_); exact rfl; exact rfl; exact rfl; intro K hK; go_big_quiet_op; go_big_quiet_on) | ((with_reducible refine wpM_skip ?_ ?_); exact rfl; simp only [Act.put, List.setIfInBounds_toArray, List.set_cons_succ, List.set_cons_zero]))
  refine wpM_exact rfl rfl rfl Tryz.func7 (by kernel_rfl) (by kernel_rfl) (fun w1 hw1 _ => HA.out w1 (HL.out.grown (on hb0 hw1))) rfl (by simp only [Act.put, List.setIfInBounds_toArray, List.set_cons_succ, List.set_cons_zero]; rfl) ?_
  repeat (first | ((with_reducible refine wpM_calm ?_ ?_ ?_ ?_); exact rfl; exact rfl; exact rfl; intro K hK; go_big_quiet_op; go_big_quiet_on) | ((with_reducible refine wpM_skip ?_ ?_); exact rfl; simp only [Act.put, List.setIfInBounds_toArray, List.set_cons_succ, List.set_cons_zero]))
  refine wpM_nil ?_
  intro w9 hw9 _
  clear T0 T1 T2 U0 U1 U2 P0 P1 P2 S0 S1 S2
  go_wp2
  go_ret
  exact ⟨rfl, on hb0 hw9⟩
set_option maxRecDepth 100000 in
set_option maxHeartbeats 8000000 in
theorem products_law_same (ra ca : Int) (A : Option Addr) (n1 d1 : Nat) (rb cb : Int) (B : Option Addr) (n2 d2 : Nat) (kx nx : Int) (hk : (kx == 4) = false) (w : World) (H1 : ∀ w1, Below w.heap.size w w1 → Calls Tryz.prog 16 #[.agg #[.int .i64 ra, .int .i64 ca, .slice A n1 d1]] w1 (Bit true w1)) (H2 : ∀ w1, Below w.heap.size w w1 → Calls Tryz.prog 16 #[.agg #[.int .i64 rb, .int .i64 cb, .slice B n2 d2]] w1 (Bit true w1)) (HP : ∀ w1, Below w.heap.size w w1 → Calls Tryz.prog 28 #[.agg #[.int .i64 ra, .int .i64 ca, .slice A n1 d1], .agg #[.int .i64 rb, .int .i64 cb, .slice B n2 d2]] w1 (ValIs kx nx ⟨#[]⟩ w1)) (HQ : ∀ w1, Below w.heap.size w w1 → Calls Tryz.prog 28 #[.agg #[.int .i64 rb, .int .i64 cb, .slice B n2 d2], .agg #[.int .i64 ra, .int .i64 ca, .slice A n1 d1]] w1 (ValIs kx nx ⟨#[]⟩ w1)) (HR : ∀ w1, Below w.heap.size w w1 → Calls Tryz.prog 29 #[.agg #[.int .i64 ra, .int .i64 ca, .slice A n1 d1], .agg #[.int .i64 rb, .int .i64 cb, .slice B n2 d2]] w1 (ValIs kx nx ⟨#[]⟩ w1)) (hL : CLibs w) :
    Calls Tryz.prog 6 #[.agg #[.int .i64 ra, .int .i64 ca, .slice A n1 d1], .agg #[.int .i64 rb, .int .i64 cb, .slice B n2 d2]] w (LawEnd w) := by
  have H1 := Lib.hid H1
  have H2 := Lib.hid H2
  have HP := Lib.hid HP
  have HQ := Lib.hid HQ
  have HR := Lib.hid HR
  have HA := Lib.hid (fun w1 h => life_c w1 h)
  have HL := Lib.hid hL
  have ht0 := (CellsAt.new w [.int .i64 ra, .int .i64 ca, .slice A n1 d1] 24).on_alloc (.cells #[.int .i64 rb, .int .i64 cb, .slice B n2 d2] 24)
  have hu0 := newAt (w0 := w.alloc (.cells #[.int .i64 ra, .int .i64 ca, .slice A n1 d1] 24)) (g := w.heap.size + 1) (by simp) [.int .i64 rb, .int .i64 cb, .slice B n2 d2] 24
  have hb0 := below2 w (.cells #[.int .i64 ra, .int .i64 ca, .slice A n1 d1] 24) (.cells #[.int .i64 rb, .int .i64 cb, .slice B n2 d2] 24)
  clear hL
  obtain ⟨t0, t1, t2, _⟩ := ht0.three
  obtain ⟨u0, u1, u2, _⟩ := hu0.three
  go_enter Tryz.func6, Tryz.ntmps6
  go_wp2_with fail
  refine (H1.out _ hb0).mono ?_
  rintro e w1 ⟨rfl, hb1⟩
  clear t0 t1 t2 u0 u1 u2
  replace ht0 := ht0.on hb1
  replace hu0 := hu0.on hb1
  replace hb0 := on hb0 hb1
  clear hb1 H1
  obtain ⟨t0, t1, t2, _⟩ := ht0.three
  obtain ⟨u0, u1, u2, _⟩ := hu0.three
  go_wp2_with fail
  refine (H2.out _ hb0).mono ?_
  rintro e w2 ⟨rfl, hb2⟩
  clear t0 t1 t2 u0 u1 u2
  replace ht0 := ht0.on hb2
  replace hu0 := hu0.on hb2
  replace hb0 := on hb0 hb2
  clear hb2 H2
  obtain ⟨t0, t1, t2, _⟩ := ht0.three
  obtain ⟨u0, u1, u2, _⟩ := hu0.three
  go_wp2_with fail
  have T0 := fun d os => cell_regrown t0 d os
  have T1 := fun d os => cell_regrown t1 d os
  have T2 := fun d os => cell_regrown t2 d os
  have U0 := fun d os => cell_regrown u0 d os
  have U1 := fun d os => cell_regrown u1 d os
  have U2 := fun d os => cell_regrown u2 d os
  clear t0 t1 t2 u0 u1 u2
  refine wp_region_new 8 (fun d => match d with
    | 18 => some (Is (.agg #[.int .i64 kx, .int .i64 nx, .string ⟨#[]⟩]))
    | 21 => some (Is (.agg #[.int .i64 kx, .int .i64 nx, .string ⟨#[]⟩]))
    | 5 => some (NewCells w2.heap.size [.int .i64 0, .int .i64 0, .string ⟨#[]⟩])
    | 6 => some (NewCells w2.heap.size [.int .i64 0, .int .i64 0, .string ⟨#[]⟩])
    | _ => none) (fun d => d == 5 || d == 6) (by kernel_rfl) (by kernel_rfl) ?_
  simp only [List.take_succ_cons, List.take_zero, List.drop_succ_cons, List.drop_zero]
  repeat (first | ((with_reducible refine wpM_calm ?_ ?_ ?_ ?_); exact rfl; exact rfl; exact rfl; intro K hK; go_big_quiet_op; go_big_quiet_on) | ((with_reducible refine wpM_skip ?_ ?_); exact rfl; simp only [Act.put, List.setIfInBounds_toArray, List.set_cons_succ, List.set_cons_zero]))
  refine wpM_exact rfl rfl rfl Tryz.func28 (by kernel_rfl) (by kernel_rfl) (fun w1 hw1 _ => HP.out w1 (on hb0 hw1)) rfl (by simp only [Act.put, List.setIfInBounds_toArray, List.set_cons_succ, List.set_cons_zero]; rfl) ?_
  repeat (first | ((with_reducible refine wpM_calm ?_ ?_ ?_ ?_); exact rfl; exact rfl; exact rfl; intro K hK; go_big_quiet_op; go_big_quiet_on) | ((with_reducible refine wpM_skip ?_ ?_); exact rfl; simp only [Act.put, List.setIfInBounds_toArray, List.set_cons_succ, List.set_cons_zero]))
  refine wpM_exact rfl rfl rfl Tryz.func28 (by kernel_rfl) (by kernel_rfl) (fun w1 hw1 _ => HQ.out w1 (on hb0 hw1)) rfl (by simp only [Act.put, List.setIfInBounds_toArray, List.set_cons_succ, List.set_cons_zero]; rfl) ?_
  refine wpM_alloc _ (.cells #[.int .i64 0, .int .i64 0, .string ⟨#[]⟩] 26) rfl rfl rfl (fun w1 => by simp [go_sem]) (fun w1 h1 => (NewCells.mk w1 _ _ h1.size).2) ?_ (by rintro v ⟨_, b, rfl, _⟩; exact ⟨b, rfl⟩)
  intro b5 a' ha'
  simp only [Act.put, List.setIfInBounds_toArray, List.set_cons_succ, List.set_cons_zero] at ha'
  subst ha'
  refine wpM_alloc _ (.cells #[.int .i64 0, .int .i64 0, .string ⟨#[]⟩] 26) rfl rfl rfl (fun w1 => by simp [go_sem]) (fun w1 h1 => (NewCells.mk w1 _ _ h1.size).2) ?_ (by rintro v ⟨_, b, rfl, _⟩; exact ⟨b, rfl⟩)
  intro b6 a' ha'
  simp only [Act.put, List.setIfInBounds_toArray, List.set_cons_succ, List.set_cons_zero] at ha'
  subst ha'
  refine wpM_nil ?_
  intro w3 hw3 hG
  have hne : b5 ≠ b6 := hG.2.1 6 b5 7 b6 (.inl (.inr ⟨rfl, rfl⟩)) (.inr ⟨rfl, rfl⟩) (by decide)
  obtain ⟨hB6, k6⟩ := NewCells.at (Fct.put_at (hG.2.2.1 7))
  obtain ⟨hB5, k5⟩ := NewCells.at (Fct.put_at (Fct.put_old (hG.2.2.1 6)))
  have lt := ht0.1
  have lu := hu0.1
  have hs2 := hb0.size
  clear hG T0 T1 T2 U0 U1 U2
  replace ht0 := ((ht0.on hw3).put3_far (c := b5) (by omega) (.int .i64 kx) (.int .i64 nx) (.string ⟨#[]⟩)).put3_far (c := b6) (by omega) (.int .i64 kx) (.int .i64 nx) (.string ⟨#[]⟩)
  replace hu0 := ((hu0.on hw3).put3_far (c := b5) (by omega) (.int .i64 kx) (.int .i64 nx) (.string ⟨#[]⟩)).put3_far (c := b6) (by omega) (.int .i64 kx) (.int .i64 nx) (.string ⟨#[]⟩)
  obtain ⟨m0, m1, m2, f0, f1, f2⟩ := k5.three
  obtain ⟨j0, j1, j2, y0, y1, y2⟩ := (k6.put3_far hne (.int .i64 kx) (.int .i64 nx) (.string ⟨#[]⟩)).three
  have q5 := (k5.put3 (.int .i64 kx) (.int .i64 nx) (.string ⟨#[]⟩)).put3_far hne.symm (.int .i64 kx) (.int .i64 nx) (.string ⟨#[]⟩)
  have q6 := (k6.put3_far hne (.int .i64 kx) (.int .i64 nx) (.string ⟨#[]⟩)).put3 (.int .i64 kx) (.int .i64 nx) (.string ⟨#[]⟩)
  replace hb0 := set3 (set3 (on hb0 hw3) (b := b5) (by omega) (.int .i64 kx) (.int .i64 nx) (.string ⟨#[]⟩)) (b := b6) (by omega) (.int .i64 kx) (.int .i64 nx) (.string ⟨#[]⟩)
  simp only [put3] at ht0 hu0 q5 q6
  clear k5 k6 hw3
  go_wp2_with fail
  generalize ((((((w3.setCell ⟨b5, 0, none⟩ (.int .i64 kx)).setCell ⟨b5, 1, none⟩ (.int .i64 nx)).setCell ⟨b5, 2, none⟩ (.string ⟨#[]⟩)).setCell ⟨b6, 0, none⟩ (.int .i64 kx)).setCell ⟨b6, 1, none⟩ (.int .i64 nx)).setCell ⟨b6, 2, none⟩ (.string ⟨#[]⟩)) = W3 at *
  clear m0 m1 m2 f0 f1 f2 j0 j1 j2 y0 y1 y2
  obtain ⟨p0, p1, p2, _⟩ := q5.three
  obtain ⟨s0, s1, s2, _⟩ := q6.three
  have P0 := fun d os => cell_regrown p0 d os
  have P1 := fun d os => cell_regrown p1 d os
  have P2 := fun d os => cell_regrown p2 d os
  have S0 := fun d os => cell_regrown s0 d os
  have S1 := fun d os => cell_regrown s1 d os
  have S2 := fun d os => cell_regrown s2 d os
  obtain ⟨t0, t1, t2, _⟩ := ht0.three
  obtain ⟨u0, u1, u2, _⟩ := hu0.three
  have T0 := fun d os => cell_regrown t0 d os
  have T1 := fun d os => cell_regrown t1 d os
  have T2 := fun d os => cell_regrown t2 d os
  have U0 := fun d os => cell_regrown u0 d os
  have U1 := fun d os => cell_regrown u1 d os
  have U2 := fun d os => cell_regrown u2 d os
  clear t0 t1 t2 u0 u1 u2
  clear p0 p1 p2 s0 s1 s2 ht0 hu0 q5 q6
  refine wp_region_mem 19 (fun d => match d with
    | 25 => some (Is (.agg #[.int .i64 kx, .int .i64 nx, .string ⟨#[]⟩]))
    | 38 => some (Is (.bool true))
    | _ => none) (by kernel_rfl) (by kernel_rfl) ?_
  try simp only [List.append]
  simp only [List.take_succ_cons, List.take_zero, List.drop_succ_cons, List.drop_zero]
  repeat (first | ((with_reducible refine wpM_calm ?_ ?_ ?_ ?_); exact rfl; exact rfl; exact rfl; intro K hK; go_big_quiet_op; go_big_quiet_on) | ((with_reducible refine wpM_skip ?_ ?_); exact rfl; simp only [Act.put, List.setIfInBounds_toArray, List.set_cons_succ, List.set_cons_zero]))
  refine wpM_exact rfl rfl rfl Tryz.func29 (by kernel_rfl) (by kernel_rfl) (fun w1 hw1 _ => HR.out w1 (on hb0 hw1)) rfl (by simp only [Act.put, List.setIfInBounds_toArray, List.set_cons_succ, List.set_cons_zero]; rfl) ?_
  repeat (first | ((with_reducible refine wpM_calm ?_ ?_ ?_ ?_); exact rfl; exact rfl; exact rfl; intro K hK; go_big_quiet_op; go_big_quiet_on) | ((with_reducible refine wpM_skip ?_ ?_); exact rfl; simp only [Act.put, List.setIfInBounds_toArray, List.set_cons_succ, List.set_cons_zero]))
  refine wpM_exact rfl rfl rfl Tryz.func7 (by kernel_rfl) (by kernel_rfl) (fun w1 hw1 _ => HA.out w1 (HL.out.grown (on hb0 hw1))) rfl (by simp only [Act.put, List.setIfInBounds_toArray, List.set_cons_succ, List.set_cons_zero]; rfl) ?_
  repeat (first | ((with_reducible refine wpM_calm ?_ ?_ ?_ ?_); exact rfl; exact rfl; exact rfl; intro K hK; go_big_quiet_op; go_big_quiet_on) | ((with_reducible refine wpM_skip ?_ ?_); exact rfl; simp only [Act.put, List.setIfInBounds_toArray, List.set_cons_succ, List.set_cons_zero]))
  refine wpM_nil ?_
  intro w9 hw9 _
  clear T0 T1 T2 U0 U1 U2 P0 P1 P2 S0 S1 S2
  go_wp2
  go_ret
  exact ⟨rfl, on hb0 hw9⟩
/-- what Products answers of two tables -/
def prodT (ra ca rb cb : Int) (L M : List Vl) : Int × Int := if ra = rb ∧ ca = cb then sumP L M else (4, 2)
theorem prodT_c (ra ca : Int) (A : Option Addr) (n1 d1 : Nat) (rb cb : Int) (B : Option Addr) (n2 d2 : Nat) (L M : List Vl) (hA : Good ra ca n1) (hB : Good rb cb n2) (h1 : n1 ≤ 60) (hL : ∀ v ∈ L, v.may) (hM : ∀ v ∈ M, v.may) (k0 n0 : Int) (hv : prodT ra ca rb cb L M = (k0, n0)) (w : World) (hz1 : ValsR w A n1 L) (hz2 : ValsR w B n2 M) :
    Calls Tryz.prog 28 #[.agg #[.int .i64 ra, .int .i64 ca, .slice A n1 d1], .agg #[.int .i64 rb, .int .i64 cb, .slice B n2 d2]] w (ValIs k0 n0 ⟨#[]⟩ w) ∧ Calls Tryz.prog 29 #[.agg #[.int .i64 ra, .int .i64 ca, .slice A n1 d1], .agg #[.int .i64 rb, .int .i64 cb, .slice B n2 d2]] w (ValIs k0 n0 ⟨#[]⟩ w) := by
  unfold prodT at hv
  by_cases hr : ra = rb
  · by_cases hc : ca = cb
    · subst hr
      subst hc
      rw [if_pos ⟨rfl, rfl⟩] at hv
      obtain rfl : n1 = n2 := by
        have e1 := hA.2.2.2
        have e2 := hB.2.2.2
        omega
      exact ⟨products_c ra ca n1 A d1 B d2 L M hL hM hA (by omega) k0 n0 hv w hz1 hz2, rproducts_c ra ca n1 A d1 B d2 L M hL hM k0 n0 hv w hz1 hz2⟩
    · rw [if_neg (fun h => hc h.2)] at hv
      obtain ⟨rfl, rfl⟩ := Prod.mk.inj hv
      subst hr
      exact ⟨products_cols ra ca A n1 d1 cb B n2 d2 hA hB hc w, rproducts_cols ra ca A n1 d1 cb B n2 d2 hc w⟩
  · rw [if_neg (fun h => hr h.1)] at hv
    obtain ⟨rfl, rfl⟩ := Prod.mk.inj hv
    exact ⟨products_rows ra ca A n1 d1 rb cb B n2 d2 hA hB hr w, rproducts_rows ra ca A n1 d1 rb cb B n2 d2 hr w⟩
theorem prodT_comm (ra ca rb cb : Int) (L M : List Vl) : (prodT ra ca rb cb L M).1 = 4 ∨ prodT ra ca rb cb L M = prodT rb cb ra ca M L := by
  unfold prodT
  by_cases h : ra = rb ∧ ca = cb
  · rw [if_pos h, if_pos ⟨h.1.symm, h.2.symm⟩]
    exact sumP_comm L M
  · rw [if_neg h]
    exact .inl rfl
theorem products_law (ra ca : Int) (A : Option Addr) (n1 d1 : Nat) (rb cb : Int) (B : Option Addr) (n2 d2 : Nat) (L M : List Vl) (w : World) (hz1 : n1 ≤ 1000 → ValsR w A n1 L) (hz2 : n2 ≤ 1000 → ValsR w B n2 M) (hL : CLibs w) :
    Calls Tryz.prog 6 #[.agg #[.int .i64 ra, .int .i64 ca, .slice A n1 d1], .agg #[.int .i64 rb, .int .i64 cb, .slice B n2 d2]] w (LawEnd w) := by
  obtain ⟨b1, h1⟩ := small_some ra ca n1 L
  obtain ⟨b2, h2⟩ := small_some rb cb n2 M
  have H1 : ∀ w1, Below w.heap.size w w1 → Calls Tryz.prog 16 #[.agg #[.int .i64 ra, .int .i64 ca, .slice A n1 d1]] w1 (Bit b1 w1) := fun w1 hw => small_c ra ca A n1 d1 L b1 h1 w1 (fun h => (hz1 h).on hw)
  have H2 : ∀ w1, Below w.heap.size w w1 → Calls Tryz.prog 16 #[.agg #[.int .i64 rb, .int .i64 cb, .slice B n2 d2]] w1 (Bit b2 w1) := fun w1 hw => small_c rb cb B n2 d2 M b2 h2 w1 (fun h => (hz2 h).on hw)
  cases b1
  · exact products_law_1 ra ca A n1 d1 rb cb B n2 d2 w H1 hL
  cases b2
  · exact products_law_2 ra ca A n1 d1 rb cb B n2 d2 w H1 H2 hL
  obtain ⟨g1, m1, s1⟩ : Good ra ca n1 ∧ (∀ v ∈ L, v.may) ∧ n1 ≤ 60 := by
    rcases h1 with ⟨_, h, hm, hs, _⟩ | ⟨h, _⟩ | ⟨h, _⟩
    · exact ⟨h, hm, hs⟩
    · cases h
    · cases h
  obtain ⟨g2, m2, s2⟩ : Good rb cb n2 ∧ (∀ v ∈ M, v.may) ∧ n2 ≤ 60 := by
    rcases h2 with ⟨_, h, hm, hs, _⟩ | ⟨h, _⟩ | ⟨h, _⟩
    · exact ⟨h, hm, hs⟩
    · cases h
    · cases h
  have z1 := hz1 (by omega)
  have z2 := hz2 (by omega)
  rcases e : prodT ra ca rb cb L M with ⟨kx, nx⟩
  rcases e2 : prodT rb cb ra ca M L with ⟨ky, ny⟩
  have HP := fun w1 (hw : Below w.heap.size w w1) => (prodT_c ra ca A n1 d1 rb cb B n2 d2 L M g1 g2 s1 m1 m2 kx nx e w1 (z1.on hw) (z2.on hw)).1
  have HR := fun w1 (hw : Below w.heap.size w w1) => (prodT_c ra ca A n1 d1 rb cb B n2 d2 L M g1 g2 s1 m1 m2 kx nx e w1 (z1.on hw) (z2.on hw)).2
  have HQ := fun w1 (hw : Below w.heap.size w w1) => (prodT_c rb cb B n2 d2 ra ca A n1 d1 M L g2 g1 s2 m2 m1 ky ny e2 w1 (z2.on hw) (z1.on hw)).1
  by_cases h4 : kx = 4
  · subst h4
    exact products_law_fault ra ca A n1 d1 rb cb B n2 d2 nx ky ny w H1 H2 HP HQ HR hL
  · have hc := prodT_comm ra ca rb cb L M
    rw [e, e2] at hc
    rcases hc with h | h
    · exact absurd h h4
    · obtain ⟨rfl, rfl⟩ := Prod.mk.inj h
      exact products_law_same ra ca A n1 d1 rb cb B n2 d2 kx nx (by rw [beq_eq_false_iff_ne]; exact h4) w H1 H2 HP HQ HR hL
end Go.Proofs.YtbjomidkeignjaaGreatDoor.Lok

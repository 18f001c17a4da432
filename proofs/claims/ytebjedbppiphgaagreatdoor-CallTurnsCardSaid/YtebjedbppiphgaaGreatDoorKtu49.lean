/- CallTurns of two values, the whole way: d is none, s is none. Written by wip/gen21n.py. -/
import Derived.Test.YtebjedbppiphgaaGreatDoorKtu44
import Derived.Test.YtebjedbppiphgaaGreatDoorKtu43
namespace Go.Proofs.YtebjedbppiphgaaGreatDoor.Cal
open Go.RowKit Kit Reg Dec Dig Val Fld
open Crt (CLibs)
set_option maxRecDepth 100000 in
set_option maxHeartbeats 16000000 in
theorem turns_5nn (ak an : Int) (at_ : ByteArray) (bk bn : Int) (bt : ByteArray) (dk dn : Int) (dt : ByteArray) (ek en : Int) (et : ByteArray) (sk sn : Int) (st : ByteArray) (pk pn : Int) (pt : ByteArray) (w : World) (h : mayV ak an at_ = true) (h2 : mayV bk bn bt = true) (g4 : ¬ ak = 4) (h4 : ¬ bk = 4)
    (HD : ∀ w1, CLibs w1 → Calls Tryz.prog 9 #[.int .i64 2, .agg #[.int .i64 bk, .int .i64 bn, .string bt], .agg #[.int .i64 ak, .int .i64 an, .string at_]] w1 (ValIs dk dn dt w1)) (HE : ∀ w1, CLibs w1 → Calls Tryz.prog 9 #[.int .i64 2, .agg #[.int .i64 ak, .int .i64 an, .string at_], .agg #[.int .i64 bk, .int .i64 bn, .string bt]] w1 (ValIs ek en et w1)) (HS : ∀ w1, CLibs w1 → Calls Tryz.prog 9 #[.int .i64 1, .agg #[.int .i64 ak, .int .i64 an, .string at_], .agg #[.int .i64 bk, .int .i64 bn, .string bt]] w1 (ValIs sk sn st w1)) (HP : ∀ w1, CLibs w1 → Calls Tryz.prog 9 #[.int .i64 3, .agg #[.int .i64 ak, .int .i64 an, .string at_], .agg #[.int .i64 bk, .int .i64 bn, .string bt]] w1 (ValIs pk pn pt w1))
    (HM : dk = 1 → ∀ w1, CLibs w1 → Calls Tryz.prog 11 #[.agg #[.int .i64 dk, .int .i64 dn, .string dt]] w1 (ValIs ek en et w1))
    (HS2 : sk = 1 → ∀ w1, CLibs w1 → Calls Tryz.prog 9 #[.int .i64 1, .agg #[.int .i64 bk, .int .i64 bn, .string bt], .agg #[.int .i64 ak, .int .i64 an, .string at_]] w1 (ValIs sk sn st w1))
    (HP2 : pk = 1 → ∀ w1, CLibs w1 → Calls Tryz.prog 9 #[.int .i64 3, .agg #[.int .i64 bk, .int .i64 bn, .string bt], .agg #[.int .i64 ak, .int .i64 an, .string at_]] w1 (ValIs pk pn pt w1))
    (HT : ∀ k : Nat, k < 3 → ∃ o0 o1 nx ny : Int, ([7, 8, 9, 12, 11, 10] : List Int)[k * 2]? = some o0 ∧ ([7, 8, 9, 12, 11, 10] : List Int)[k * 2 + 1]? = some o1 ∧ nx + ny = 1 ∧ (-1 ≤ nx ∧ nx ≤ 1 ∧ -1 ≤ ny ∧ ny ≤ 1) ∧
      (∀ w1, CLibs w1 → Calls Tryz.prog 9 #[.int .i64 o0, .agg #[.int .i64 ak, .int .i64 an, .string at_], .agg #[.int .i64 bk, .int .i64 bn, .string bt]] w1 (ValIs 3 nx ⟨#[]⟩ w1)) ∧ (∀ w1, CLibs w1 → Calls Tryz.prog 9 #[.int .i64 o1, .agg #[.int .i64 ak, .int .i64 an, .string at_], .agg #[.int .i64 bk, .int .i64 bn, .string bt]] w1 (ValIs 3 ny ⟨#[]⟩ w1)))
    (hd1 : ¬ dk = 1) (hs1 : ¬ sk = 1)
    (hL : CLibs w) :
    Calls Tryz.prog 6 #[.agg #[.int .i64 ak, .int .i64 an, .string at_], .agg #[.int .i64 bk, .int .i64 bn, .string bt]] w (LawEnd w) := by
  have ht0 := (CellsAt.new w [.int .i64 ak, .int .i64 an, .string at_] 23).on_alloc (.cells #[.int .i64 bk, .int .i64 bn, .string bt] 23)
  have hx0 := Lok.newAt (w0 := w.alloc (.cells #[.int .i64 ak, .int .i64 an, .string at_] 23)) (g := w.heap.size + 1) (by simp) [.int .i64 bk, .int .i64 bn, .string bt] 23
  have hb0 := below2 w (.cells #[.int .i64 ak, .int .i64 an, .string at_] 23) (.cells #[.int .i64 bk, .int .i64 bn, .string bt] 23)
  have HL := Lib.hid hL
  clear hL
  obtain ⟨t0, t1, t2, -⟩ := ht0.three
  obtain ⟨x0, x1, x2, -⟩ := hx0.three
  have q4 : (ak == 4) = false := beq_eq_false_iff_ne.2 g4
  have q5 : (bk == 4) = false := beq_eq_false_iff_ne.2 h4
  have H1 := Lib.hid (fun w1 => rmayv_c ak an at_ true h w1)
  have H2 := Lib.hid (fun w1 => rmayv_c bk bn bt true h2 w1)
  replace hd1 := Lib.hid hd1
  replace hs1 := Lib.hid hs1
  replace HD := Lib.hid HD
  replace HE := Lib.hid HE
  replace HS := Lib.hid HS
  replace HP := Lib.hid HP
  replace HM := Lib.hid HM
  replace HS2 := Lib.hid HS2
  replace HP2 := Lib.hid HP2
  replace HT := Lib.hid HT
  clear h h2 g4 h4
  go_enter Tryz.func6, Tryz.ntmps6
  go_wp2_with fail
  refine (H1.out _).mono ?_
  rintro e w1 ⟨rfl, hb1⟩
  clear t0 t1 t2 x0 x1 x2
  replace ht0 := ht0.on hb1
  replace hx0 := hx0.on hb1
  replace hb0 := on hb0 hb1
  clear hb1
  obtain ⟨t0, t1, t2, -⟩ := ht0.three
  obtain ⟨x0, x1, x2, -⟩ := hx0.three
  go_wp2_with fail
  refine (H2.out _).mono ?_
  rintro e w2 ⟨rfl, hb1⟩
  clear t0 t1 t2 x0 x1 x2
  replace ht0 := ht0.on hb1
  replace hx0 := hx0.on hb1
  replace hb0 := on hb0 hb1
  clear hb1
  obtain ⟨t0, t1, t2, -⟩ := ht0.three
  obtain ⟨x0, x1, x2, -⟩ := hx0.three
  clear H1 H2
  have HL1 := Lib.hid (HL.out.grown hb0)
  go_wp2_with fail
  refine (HD.out _ HL1.out).mono ?_
  rintro e w3 ⟨rfl, hb1⟩
  clear t0 t1 t2 x0 x1 x2 HD HL1
  replace ht0 := (ht0.on hb1).on_alloc (.cells #[.int .i64 dk, .int .i64 dn, .string dt] 23)
  replace hx0 := (hx0.on hb1).on_alloc (.cells #[.int .i64 dk, .int .i64 dn, .string dt] 23)
  replace hb0 := on_alloc (on hb0 hb1) (.cells #[.int .i64 dk, .int .i64 dn, .string dt] 23)
  clear hb1
  have hd0 := CellsAt.new w3 [.int .i64 dk, .int .i64 dn, .string dt] 23
  obtain ⟨t0, t1, t2, -⟩ := ht0.three
  obtain ⟨x0, x1, x2, -⟩ := hx0.three
  obtain ⟨d0, d1, d2, -⟩ := hd0.three
  go_wp2_with fail
  generalize w3.alloc (.cells #[.int .i64 dk, .int .i64 dn, .string dt] 23) = W at *
  clear hd0
  replace hd1 := hd1.out
  have q6 : (dk == 1) = false := beq_eq_false_iff_ne.2 hd1
  have T0 := fun d os => cell_regrown t0 d os
  have T1 := fun d os => cell_regrown t1 d os
  have T2 := fun d os => cell_regrown t2 d os
  have X0 := fun d os => cell_regrown x0 d os
  have X1 := fun d os => cell_regrown x1 d os
  have X2 := fun d os => cell_regrown x2 d os
  have D0 := fun d os => cell_regrown d0 d os
  have D1 := fun d os => cell_regrown d1 d os
  have D2 := fun d os => cell_regrown d2 d os
  clear t0 t1 t2 x0 x1 x2 d0 d1 d2
  refine wp_region_mem 11 (fun d => match d with
    | 39 => some (Is (.agg #[.int .i64 ek, .int .i64 en, .string et]))
    | 42 => some (Is (.agg #[.int .i64 ek, .int .i64 en, .string et]))
    | _ => none) (by kernel_rfl) (by kernel_rfl) ?_
  simp only [List.take_succ_cons, List.take_zero, List.drop_succ_cons, List.drop_zero]
  repeat (first | ((with_reducible refine wpM_calm ?_ ?_ ?_ ?_); exact rfl; exact rfl; exact rfl; intro K hK; go_big_quiet_op; go_big_quiet_on) | ((with_reducible refine wpM_skip ?_ ?_); exact rfl; simp only [Act.put, List.setIfInBounds_toArray, List.set_cons_succ, List.set_cons_zero]))
  refine wpM_nil ?_
  intro w4 hw4 _
  replace ht0 := ht0.on hw4
  replace hx0 := hx0.on hw4
  replace hb0 := on hb0 hw4
  clear D0 D1 D2 HM HE q6 hd1
  clear hw4 T0 T1 T2 X0 X1 X2
  obtain ⟨t0, t1, t2, -⟩ := ht0.three
  obtain ⟨x0, x1, x2, -⟩ := hx0.three
  go_wp2_with fail
  have T0 := fun d os => cell_regrown t0 d os
  have T1 := fun d os => cell_regrown t1 d os
  have T2 := fun d os => cell_regrown t2 d os
  have X0 := fun d os => cell_regrown x0 d os
  have X1 := fun d os => cell_regrown x1 d os
  have X2 := fun d os => cell_regrown x2 d os
  clear t0 t1 t2 x0 x1 x2
  refine wp_region_new 8 (fun d => match d with
    | 47 => some (Is (.agg #[.int .i64 sk, .int .i64 sn, .string st]))
    | 50 => some (Is (.agg #[.int .i64 pk, .int .i64 pn, .string pt]))
    | 6 => some (NewCells w4.heap.size [.int .i64 0, .int .i64 0, .string ⟨#[]⟩])
    | 7 => some (NewCells w4.heap.size [.int .i64 0, .int .i64 0, .string ⟨#[]⟩])
    | _ => none) (fun d => d == 6 || d == 7) (by kernel_rfl) (by kernel_rfl) ?_
  simp only [List.take_succ_cons, List.take_zero, List.drop_succ_cons, List.drop_zero]
  repeat (first | ((with_reducible refine wpM_calm ?_ ?_ ?_ ?_); exact rfl; exact rfl; exact rfl; intro K hK; go_big_quiet_op; go_big_quiet_on) | ((with_reducible refine wpM_skip ?_ ?_); exact rfl; simp only [Act.put, List.setIfInBounds_toArray, List.set_cons_succ, List.set_cons_zero]))
  refine wpM_exact rfl rfl rfl Tryz.func9 (by kernel_rfl) (by kernel_rfl) (fun w1 hw1 _ => HS.out w1 (HL.out.grown (on hb0 hw1))) rfl (by simp only [Act.put, List.setIfInBounds_toArray, List.set_cons_succ, List.set_cons_zero]; rfl) ?_
  repeat (first | ((with_reducible refine wpM_calm ?_ ?_ ?_ ?_); exact rfl; exact rfl; exact rfl; intro K hK; go_big_quiet_op; go_big_quiet_on) | ((with_reducible refine wpM_skip ?_ ?_); exact rfl; simp only [Act.put, List.setIfInBounds_toArray, List.set_cons_succ, List.set_cons_zero]))
  refine wpM_exact rfl rfl rfl Tryz.func9 (by kernel_rfl) (by kernel_rfl) (fun w1 hw1 _ => HP.out w1 (HL.out.grown (on hb0 hw1))) rfl (by simp only [Act.put, List.setIfInBounds_toArray, List.set_cons_succ, List.set_cons_zero]; rfl) ?_
  repeat (first | ((with_reducible refine wpM_calm ?_ ?_ ?_ ?_); exact rfl; exact rfl; exact rfl; intro K hK; go_big_quiet_op; go_big_quiet_on) | ((with_reducible refine wpM_skip ?_ ?_); exact rfl; simp only [Act.put, List.setIfInBounds_toArray, List.set_cons_succ, List.set_cons_zero]))
  refine wpM_alloc _ (.cells #[.int .i64 0, .int .i64 0, .string ⟨#[]⟩] 23) rfl rfl rfl (fun w1 => by simp [go_sem]) (fun w1 h1 => (NewCells.mk w1 _ _ h1.size).2) ?_ (by rintro v ⟨_, b, rfl, _⟩; exact ⟨b, rfl⟩)
  intro b8 a' ha'
  simp only [Act.put, List.setIfInBounds_toArray, List.set_cons_succ, List.set_cons_zero] at ha'
  subst ha'
  refine wpM_alloc _ (.cells #[.int .i64 0, .int .i64 0, .string ⟨#[]⟩] 23) rfl rfl rfl (fun w1 => by simp [go_sem]) (fun w1 h1 => (NewCells.mk w1 _ _ h1.size).2) ?_ (by rintro v ⟨_, b, rfl, _⟩; exact ⟨b, rfl⟩)
  intro b9 a' ha'
  simp only [Act.put, List.setIfInBounds_toArray, List.set_cons_succ, List.set_cons_zero] at ha'
  subst ha'
  refine wpM_nil ?_
  intro w5 hw5 hG
  have hne : b8 ≠ b9 := hG.2.1 6 b8 7 b9 (.inl (.inr ⟨rfl, rfl⟩)) (.inr ⟨rfl, rfl⟩) (by decide)
  obtain ⟨hB9, k9⟩ := NewCells.at (Fct.put_at (hG.2.2.1 7))
  obtain ⟨hB8, k8⟩ := NewCells.at (Fct.put_at (Fct.put_old (hG.2.2.1 6)))
  have hs2 := hb0.size
  have l1 := ht0.1
  have l2 := hx0.1
  clear hG T0 T1 T2 X0 X1 X2 HS HP
  replace ht0 := ((ht0.on hw5).put3_far (c := b8) (by omega) (.int .i64 sk) (.int .i64 sn) (.string st)).put3_far (c := b9) (by omega) (.int .i64 pk) (.int .i64 pn) (.string pt)
  replace hx0 := ((hx0.on hw5).put3_far (c := b8) (by omega) (.int .i64 sk) (.int .i64 sn) (.string st)).put3_far (c := b9) (by omega) (.int .i64 pk) (.int .i64 pn) (.string pt)
  obtain ⟨m0, m1, m2, f0, f1, f2⟩ := k8.three
  obtain ⟨j0, j1, j2, y0, y1, y2⟩ := (k9.put3_far hne (.int .i64 sk) (.int .i64 sn) (.string st)).three
  have q8 := (k8.put3 (.int .i64 sk) (.int .i64 sn) (.string st)).put3_far hne.symm (.int .i64 pk) (.int .i64 pn) (.string pt)
  have q9 := (k9.put3_far hne (.int .i64 sk) (.int .i64 sn) (.string st)).put3 (.int .i64 pk) (.int .i64 pn) (.string pt)
  have l8 := k8.1
  have l9 := k9.1
  replace hb0 := set3 (set3 (on hb0 hw5) (b := b8) (by omega) (.int .i64 sk) (.int .i64 sn) (.string st)) (b := b9) (by omega) (.int .i64 pk) (.int .i64 pn) (.string pt)
  simp only [put3] at ht0 hx0 q8 q9
  clear k8 k9 hw5
  rename_i aK
  replace aK := Lib.hid aK
  go_wp2_with fail
  generalize (((((w5.setCell ⟨b8, 0, none⟩ (.int .i64 sk)).setCell ⟨b8, 1, none⟩ (.int .i64 sn)).setCell ⟨b8, 2, none⟩ (.string st)).setCell ⟨b9, 0, none⟩ (.int .i64 pk)).setCell ⟨b9, 1, none⟩ (.int .i64 pn)).setCell ⟨b9, 2, none⟩ (.string pt) = W5 at *
  clear m0 m1 m2 f0 f1 f2 j0 j1 j2 y0 y1 y2
  refine aK.out _ _ ?_
  clear aK
  obtain ⟨t0, t1, t2, -⟩ := ht0.three
  obtain ⟨x0, x1, x2, -⟩ := hx0.three
  obtain ⟨s0, s1, s2, -⟩ := q8.three
  obtain ⟨p0, p1, p2, -⟩ := q9.three
  go_wp2_with fail
  have T0 := fun d os => cell_regrown t0 d os
  have T1 := fun d os => cell_regrown t1 d os
  have T2 := fun d os => cell_regrown t2 d os
  have X0 := fun d os => cell_regrown x0 d os
  have X1 := fun d os => cell_regrown x1 d os
  have X2 := fun d os => cell_regrown x2 d os
  have S0 := fun d os => cell_regrown s0 d os
  have S1 := fun d os => cell_regrown s1 d os
  have S2 := fun d os => cell_regrown s2 d os
  have P0 := fun d os => cell_regrown p0 d os
  have P1 := fun d os => cell_regrown p1 d os
  have P2 := fun d os => cell_regrown p2 d os
  clear t0 t1 t2 x0 x1 x2 s0 s1 s2 p0 p1 p2
  replace hs1 := hs1.out
  have q7 : (sk == 1) = false := beq_eq_false_iff_ne.2 hs1
  by_cases hp1 : pk = 1
  subst hp1
  have HP3 := Lib.hid (HP2.out rfl)
  refine wp_region_mem 22 (fun d => match d with
    | 57 => some (Is (.agg #[.int .i64 sk, .int .i64 sn, .string st]))
    | 68 => some (Is (.agg #[.int .i64 1, .int .i64 pn, .string pt]))
    | _ => none) (by kernel_rfl) (by kernel_rfl) ?_
  simp only [List.take_succ_cons, List.take_zero, List.drop_succ_cons, List.drop_zero]
  repeat (first | ((with_reducible refine wpM_calm ?_ ?_ ?_ ?_); exact rfl; exact rfl; exact rfl; intro K hK; go_big_quiet_op; go_big_quiet_on) | ((with_reducible refine wpM_skip ?_ ?_); exact rfl; simp only [Act.put, List.setIfInBounds_toArray, List.set_cons_succ, List.set_cons_zero]))
  refine wpM_exact rfl rfl rfl Tryz.func9 (by kernel_rfl) (by kernel_rfl) (fun w1 hw1 _ => HP3.out w1 (HL.out.grown (on hb0 hw1))) rfl (by simp only [Act.put, List.setIfInBounds_toArray, List.set_cons_succ, List.set_cons_zero]; rfl) ?_
  repeat (first | ((with_reducible refine wpM_calm ?_ ?_ ?_ ?_); exact rfl; exact rfl; exact rfl; intro K hK; go_big_quiet_op; go_big_quiet_on) | ((with_reducible refine wpM_skip ?_ ?_); exact rfl; simp only [Act.put, List.setIfInBounds_toArray, List.set_cons_succ, List.set_cons_zero]))
  refine wpM_nil ?_
  intro w6 hw6 _
  replace ht0 := ht0.on hw6
  replace hx0 := hx0.on hw6
  replace hb0 := on hb0 hw6
  clear hw6 T0 T1 T2 X0 X1 X2 S0 S1 S2 P0 P1 P2 q8 q9 HS2 HP2 q7 hs1 HP3
  rotate_left
  have q8b : (pk == 1) = false := beq_eq_false_iff_ne.2 hp1
  refine wp_region_mem 22 (fun d => match d with
    | 57 => some (Is (.agg #[.int .i64 sk, .int .i64 sn, .string st]))
    | 68 => some (Is (.agg #[.int .i64 pk, .int .i64 pn, .string pt]))
    | _ => none) (by kernel_rfl) (by kernel_rfl) ?_
  simp only [List.take_succ_cons, List.take_zero, List.drop_succ_cons, List.drop_zero]
  repeat (first | ((with_reducible refine wpM_calm ?_ ?_ ?_ ?_); exact rfl; exact rfl; exact rfl; intro K hK; go_big_quiet_op; go_big_quiet_on) | ((with_reducible refine wpM_skip ?_ ?_); exact rfl; simp only [Act.put, List.setIfInBounds_toArray, List.set_cons_succ, List.set_cons_zero]))
  refine wpM_nil ?_
  intro w6 hw6 _
  replace ht0 := ht0.on hw6
  replace hx0 := hx0.on hw6
  replace hb0 := on hb0 hw6
  clear hw6 T0 T1 T2 X0 X1 X2 S0 S1 S2 P0 P1 P2 q8 q9 HS2 HP2 q7 hs1 q8b hp1
  rotate_left
  all_goals
    have hs0 := CellsAt.new w6 [.int .i64 7, .int .i64 8, .int .i64 9, .int .i64 12, .int .i64 11, .int .i64 10] 37
    replace ht0 := ht0.on_alloc (.cells #[.int .i64 7, .int .i64 8, .int .i64 9, .int .i64 12, .int .i64 11, .int .i64 10] 37)
    replace hx0 := hx0.on_alloc (.cells #[.int .i64 7, .int .i64 8, .int .i64 9, .int .i64 12, .int .i64 11, .int .i64 10] 37)
    replace hb0 := on_alloc hb0 (.cells #[.int .i64 7, .int .i64 8, .int .i64 9, .int .i64 12, .int .i64 11, .int .i64 10] 37)
    go_wp2_with fail
    generalize w6.alloc (.cells #[.int .i64 7, .int .i64 8, .int .i64 9, .int .i64 12, .int .i64 11, .int .i64 10] 37) = W6 at *
    generalize w6.heap.size = g6 at *
    go_loopw [78] (fun i wr => ∃ k : Nat, k ≤ 3 ∧ i = .int .i64 k ∧ CellsAt wr g6 [.int .i64 7, .int .i64 8, .int .i64 9, .int .i64 12, .int .i64 11, .int .i64 10] ∧ CellsAt wr w.heap.size [.int .i64 ak, .int .i64 an, .string at_] ∧ CellsAt wr (w.heap.size + 1) [.int .i64 bk, .int .i64 bn, .string bt] ∧ Below w.heap.size w wr) (fun i _ => 3 - (intOf i).toNat)
    case atStart => exact ⟨0, Nat.zero_le _, rfl, hs0, ht0, hx0, hb0⟩
    case round =>
      clear hs0 ht0 hx0 hb0
      obtain ⟨k, hk, rfl, hs0, ht0, hx0, hb0⟩ := hrel
      by_cases hlt : k < 3
      · obtain ⟨o0, o1, nx, ny, e0, e1, hone, hr4, HX, HY⟩ := HT.out k hlt
        replace HX := Lib.hid HX
        replace HY := Lib.hid HY
        have c0 : wr.cell? ⟨g6, k * 2, none⟩ = some (.int .i64 o0) := (hs0.2 (k * 2) _ (by rw [show ([.int .i64 7, .int .i64 8, .int .i64 9, .int .i64 12, .int .i64 11, .int .i64 10] : List Value) = ([7, 8, 9, 12, 11, 10] : List Int).map (Value.int .i64) from rfl, List.getElem?_map, e0]; rfl)).1
        have c1 : wr.cell? ⟨g6, k * 2 + 1, none⟩ = some (.int .i64 o1) := (hs0.2 (k * 2 + 1) _ (by rw [show ([.int .i64 7, .int .i64 8, .int .i64 9, .int .i64 12, .int .i64 11, .int .i64 10] : List Value) = ([7, 8, 9, 12, 11, 10] : List Int).map (Value.int .i64) from rfl, List.getElem?_map, e1]; rfl)).1
        have hg6 := hs0.1
        have ho0 := CellsAt.new wr [.int .i64 o0, .int .i64 o1] 37
        replace hs0 := hs0.on_alloc (.cells #[.int .i64 o0, .int .i64 o1] 37)
        replace ht0 := ht0.on_alloc (.cells #[.int .i64 o0, .int .i64 o1] 37)
        replace hx0 := hx0.on_alloc (.cells #[.int .i64 o0, .int .i64 o1] 37)
        replace hb0 := on_alloc hb0 (.cells #[.int .i64 o0, .int .i64 o1] 37)
        obtain ⟨t0, t1, t2, -⟩ := ht0.three
        obtain ⟨x0, x1, x2, -⟩ := hx0.three
        obtain ⟨u0, u1, -⟩ := ho0.two
        clear e0 e1
        go_wp2_with fail
        generalize wr.alloc (.cells #[.int .i64 o0, .int .i64 o1] 37) = W7 at *
        generalize wr.heap.size = g7 at *
        clear c0 c1
        have T0 := fun d os => cell_regrown t0 d os
        have T1 := fun d os => cell_regrown t1 d os
        have T2 := fun d os => cell_regrown t2 d os
        have X0 := fun d os => cell_regrown x0 d os
        have X1 := fun d os => cell_regrown x1 d os
        have X2 := fun d os => cell_regrown x2 d os
        have U0 := fun d os => cell_regrown u0 d os
        have U1 := fun d os => cell_regrown u1 d os
        clear t0 t1 t2 x0 x1 x2 u0 u1
        refine wp_region_new 12 (fun d => match d with
          | 86 => some (Is (.agg #[.int .i64 3, .int .i64 nx, .string ⟨#[]⟩]))
          | 91 => some (Is (.agg #[.int .i64 3, .int .i64 ny, .string ⟨#[]⟩]))
          | 10 => some (NewCells W7.heap.size [.int .i64 0, .int .i64 0, .string ⟨#[]⟩])
          | 11 => some (NewCells W7.heap.size [.int .i64 0, .int .i64 0, .string ⟨#[]⟩])
          | _ => none) (fun d => d == 10 || d == 11) (by kernel_rfl) (by kernel_rfl) ?_
        simp only [List.take_succ_cons, List.take_zero, List.drop_succ_cons, List.drop_zero]
        repeat (first | ((with_reducible refine wpM_calm ?_ ?_ ?_ ?_); exact rfl; exact rfl; exact rfl; intro K hK; go_big_quiet_op; go_big_quiet_on) | ((with_reducible refine wpM_skip ?_ ?_); exact rfl; simp only [Act.put, List.setIfInBounds_toArray, List.set_cons_succ, List.set_cons_zero]))
        refine wpM_exact rfl rfl rfl Tryz.func9 (by kernel_rfl) (by kernel_rfl) (fun w1 hw1 _ => HX.out w1 (HL.out.grown (on hb0 hw1))) rfl (by simp only [Act.put, List.setIfInBounds_toArray, List.set_cons_succ, List.set_cons_zero]; rfl) ?_
        repeat (first | ((with_reducible refine wpM_calm ?_ ?_ ?_ ?_); exact rfl; exact rfl; exact rfl; intro K hK; go_big_quiet_op; go_big_quiet_on) | ((with_reducible refine wpM_skip ?_ ?_); exact rfl; simp only [Act.put, List.setIfInBounds_toArray, List.set_cons_succ, List.set_cons_zero]))
        refine wpM_exact rfl rfl rfl Tryz.func9 (by kernel_rfl) (by kernel_rfl) (fun w1 hw1 _ => HY.out w1 (HL.out.grown (on hb0 hw1))) rfl (by simp only [Act.put, List.setIfInBounds_toArray, List.set_cons_succ, List.set_cons_zero]; rfl) ?_
        repeat (first | ((with_reducible refine wpM_calm ?_ ?_ ?_ ?_); exact rfl; exact rfl; exact rfl; intro K hK; go_big_quiet_op; go_big_quiet_on) | ((with_reducible refine wpM_skip ?_ ?_); exact rfl; simp only [Act.put, List.setIfInBounds_toArray, List.set_cons_succ, List.set_cons_zero]))
        refine wpM_alloc _ (.cells #[.int .i64 0, .int .i64 0, .string ⟨#[]⟩] 23) rfl rfl rfl (fun w1 => by simp [go_sem]) (fun w1 h1 => (NewCells.mk w1 _ _ h1.size).2) ?_ (by rintro v ⟨_, b, rfl, _⟩; exact ⟨b, rfl⟩)
        intro b8 a' ha'
        simp only [Act.put, List.setIfInBounds_toArray, List.set_cons_succ, List.set_cons_zero] at ha'
        subst ha'
        refine wpM_alloc _ (.cells #[.int .i64 0, .int .i64 0, .string ⟨#[]⟩] 23) rfl rfl rfl (fun w1 => by simp [go_sem]) (fun w1 h1 => (NewCells.mk w1 _ _ h1.size).2) ?_ (by rintro v ⟨_, b, rfl, _⟩; exact ⟨b, rfl⟩)
        intro b9 a' ha'
        simp only [Act.put, List.setIfInBounds_toArray, List.set_cons_succ, List.set_cons_zero] at ha'
        subst ha'
        refine wpM_nil ?_
        intro w5 hw5 hG
        have hne : b8 ≠ b9 := hG.2.1 10 b8 11 b9 (.inl (.inr ⟨rfl, rfl⟩)) (.inr ⟨rfl, rfl⟩) (by decide)
        obtain ⟨hB9, k9⟩ := NewCells.at (Fct.put_at (hG.2.2.1 11))
        obtain ⟨hB8, k8⟩ := NewCells.at (Fct.put_at (Fct.put_old (hG.2.2.1 10)))
        have hs2 := hb0.size
        have l1 := ht0.1
        have l2 := hx0.1
        have l3 := hs0.1
        have l4 := ho0.1
        clear hG T0 T1 T2 X0 X1 X2 U0 U1 HX HY
        replace ht0 := ((ht0.on hw5).put3_far (c := b8) (by omega) (.int .i64 3) (.int .i64 nx) (.string ⟨#[]⟩)).put3_far (c := b9) (by omega) (.int .i64 3) (.int .i64 ny) (.string ⟨#[]⟩)
        replace hx0 := ((hx0.on hw5).put3_far (c := b8) (by omega) (.int .i64 3) (.int .i64 nx) (.string ⟨#[]⟩)).put3_far (c := b9) (by omega) (.int .i64 3) (.int .i64 ny) (.string ⟨#[]⟩)
        replace hs0 := ((hs0.on hw5).put3_far (c := b8) (by omega) (.int .i64 3) (.int .i64 nx) (.string ⟨#[]⟩)).put3_far (c := b9) (by omega) (.int .i64 3) (.int .i64 ny) (.string ⟨#[]⟩)
        replace ho0 := ((ho0.on hw5).put3_far (c := b8) (by omega) (.int .i64 3) (.int .i64 nx) (.string ⟨#[]⟩)).put3_far (c := b9) (by omega) (.int .i64 3) (.int .i64 ny) (.string ⟨#[]⟩)
        obtain ⟨m0, m1, m2, f0, f1, f2⟩ := k8.three
        obtain ⟨j0, j1, j2, y0, y1, y2⟩ := (k9.put3_far hne (.int .i64 3) (.int .i64 nx) (.string ⟨#[]⟩)).three
        have q8 := (k8.put3 (.int .i64 3) (.int .i64 nx) (.string ⟨#[]⟩)).put3_far hne.symm (.int .i64 3) (.int .i64 ny) (.string ⟨#[]⟩)
        have q9 := (k9.put3_far hne (.int .i64 3) (.int .i64 nx) (.string ⟨#[]⟩)).put3 (.int .i64 3) (.int .i64 ny) (.string ⟨#[]⟩)
        have l8 := k8.1
        have l9 := k9.1
        replace hb0 := set3 (set3 (on hb0 hw5) (b := b8) (by omega) (.int .i64 3) (.int .i64 nx) (.string ⟨#[]⟩)) (b := b9) (by omega) (.int .i64 3) (.int .i64 ny) (.string ⟨#[]⟩)
        simp only [put3] at ht0 hx0 hs0 ho0 q8 q9
        clear k8 k9 hw5
        rename_i aK
        replace aK := Lib.hid aK
        go_wp2_with fail
        generalize (((((w5.setCell ⟨b8, 0, none⟩ (.int .i64 3)).setCell ⟨b8, 1, none⟩ (.int .i64 nx)).setCell ⟨b8, 2, none⟩ (.string ⟨#[]⟩)).setCell ⟨b9, 0, none⟩ (.int .i64 3)).setCell ⟨b9, 1, none⟩ (.int .i64 ny)).setCell ⟨b9, 2, none⟩ (.string ⟨#[]⟩) = W8 at *
        clear m0 m1 m2 f0 f1 f2 j0 j1 j2 y0 y1 y2
        refine aK.out _ _ ?_
        clear aK
        obtain ⟨m0, m1, m2, -⟩ := q8.three
        obtain ⟨j0, j1, j2, -⟩ := q9.three
        have hsum : (nx + ny != 1) = false := by rw [hone]; rfl
        go_wp2
        go_roundw
        case rel => exact ⟨k + 1, by omega, by go_num, hs0, ht0, hx0, hb0⟩
        case measure => simp [intOf]; omega
      · obtain rfl : k = 3 := by omega
        have HL1 := Lib.hid (HL.out.grown hb0)
        go_wp2_with fail
        refine (alive_c _ HL1.out).mono ?_
        rintro e w9 ⟨rfl, hb9⟩
        clear ht0 hx0 hs0
        go_wp2
        go_ret
        exact ⟨rfl, on hb0 hb9⟩
end Go.Proofs.YtebjedbppiphgaaGreatDoor.Cal

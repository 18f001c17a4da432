/- NodeTells: how deep any tree is, how many nodes it has, which, and whether it is right, and a formula, is as the document says. Written by wip/gen22law.py. -/
import Derived.Test.YtcgpggknmhlnkaaGreatDoorPt44
import Derived.Test.YtcgpggknmhlnkaaGreatDoorPt48
import Derived.Test.YtcgpggknmhlnkaaGreatDoorPt49
namespace Go.Proofs.YtcgpggknmhlnkaaGreatDoor.Nod
open Go.RowKit Kit Reg
open Go.Proofs.YtcgpggknmhlnkaaGreatDoor.Cats (Errs)
set_option maxRecDepth 100000 in
set_option maxHeartbeats 8000000 in
theorem few_c (h : Hd) (A : Option Addr) (n c : Nat) (F : Fo) (r : Bool) (hr : decide (1 + count F ≤ 200) = r) (w : World) (hz : KidsR w A n F) : Calls Tryz.prog 4 #[.agg #[.int .i64 h.k, .int .i64 h.op, .int .i64 h.vk, .int .i64 h.vn, .string h.vt, .int .i64 h.ar, .int .i64 h.ac, .bool h.ah, .bool h.al, .int .i64 h.br, .int .i64 h.bc, .bool h.bh, .bool h.bl, .slice A n c], .int .i64 200] w fun e w' => e = .returned (.bool r) ∧ Below w.heap.size w w' := by
  have HH := Lib.hid (fun w1 (hw : Below w.heap.size w w1) => rfew_c h A n c F 200 (by decide) r hr w1 (hz.on hw))
  have hb0 := below1 w (.cells #[.int .i64 h.k, .int .i64 h.op, .int .i64 h.vk, .int .i64 h.vn, .string h.vt, .int .i64 h.ar, .int .i64 h.ac, .bool h.ah, .bool h.al, .int .i64 h.br, .int .i64 h.bc, .bool h.bh, .bool h.bl, .slice A n c] 28)
  clear hr hz
  go_enter Tryz.func4, Tryz.ntmps4
  go_wp2_with fail
  refine (HH.out _ hb0).mono ?_
  rintro e w2 ⟨rfl, hb2⟩
  go_wp2_with fail
  go_ret
  exact ⟨rfl, on hb0 hb2⟩

theorem count_in {F : Fo} {h : Hd} {x : Nd} (hx : x ∈ (h, F) :: flat F) : count x.2 ≤ count F := by
  rcases List.mem_cons.1 hx with rfl | hx
  · exact Nat.le_refl _
  · have : ∀ (F : Fo), x ∈ flat F → 1 + count x.2 ≤ count F := by
      intro F
      induction F with
      | nil => intro h; cases h
      | cons h k r ihk ihr =>
        intro hx
        rw [count]
        rcases List.mem_cons.1 hx with rfl | hx
        · show 1 + count k ≤ _; omega
        · rcases List.mem_append.1 hx with hx | hx
          · have := ihk hx; omega
          · have := ihr hx; omega
    have := this F hx
    omega

set_option maxRecDepth 100000 in
set_option maxHeartbeats 8000000 in
theorem tells_few (h : Hd) (A : Option Addr) (n c : Nat) (F : Fo) (f1 : decide (1 + count F ≤ 200) = false) (w : World) (hz : KidsR w A n F) (hE : Errs w) : Calls Tryz.prog 3 #[.agg #[.int .i64 h.k, .int .i64 h.op, .int .i64 h.vk, .int .i64 h.vn, .string h.vt, .int .i64 h.ar, .int .i64 h.ac, .bool h.ah, .bool h.al, .int .i64 h.br, .int .i64 h.bc, .bool h.bh, .bool h.bl, .slice A n c]] w fun e w' => e = .returned (.bool true) ∧ Below w.heap.size w w' := by
  have HE := Lib.hid hE
  have HZ := Lib.hid hz
  have hb0 := below1 w (.cells #[.int .i64 h.k, .int .i64 h.op, .int .i64 h.vk, .int .i64 h.vn, .string h.vt, .int .i64 h.ar, .int .i64 h.ac, .bool h.ah, .bool h.al, .int .i64 h.br, .int .i64 h.bc, .bool h.bh, .bool h.bl, .slice A n c] 28)
  have HB := Lib.hid hb0
  clear hE hz
  go_enter Tryz.func3, Tryz.ntmps3
  go_wp2_with fail
  refine (few_c h A n c F false f1 _ (HZ.out.on HB.out)).mono ?_
  rintro e w2 ⟨rfl, hb2⟩
  replace HB := Lib.hid (on HB.out hb2)
  clear hb0 hb2
  go_wp2_with fail
  refine (alive_c _ (HE.out.grown HB.out)).mono ?_
  rintro e w3 ⟨rfl, hb3⟩
  go_wp2_with fail
  go_ret
  exact ⟨rfl, on HB.out hb3⟩
set_option maxRecDepth 100000 in
set_option maxHeartbeats 8000000 in
theorem tells_yes (h : Hd) (A : Option Addr) (n c : Nat) (F : Fo) (f1 : decide (1 + count F ≤ 200) = true) (hs : ∀ x ∈ (h, F) :: flat F, x.1.vt.size ≤ 140737488351232) (w : World) (hz : KidsR w A n F) (hE : Errs w) : Calls Tryz.prog 3 #[.agg #[.int .i64 h.k, .int .i64 h.op, .int .i64 h.vk, .int .i64 h.vn, .string h.vt, .int .i64 h.ar, .int .i64 h.ac, .bool h.ah, .bool h.al, .int .i64 h.br, .int .i64 h.bc, .bool h.bh, .bool h.bl, .slice A n c]] w fun e w' => e = .returned (.bool true) ∧ Below w.heap.size w w' := by
  have HE := Lib.hid hE
  have HZ := Lib.hid hz
  have hs2 : ∀ x ∈ flat F, x.1.vt.size ≤ 281474976710656 := fun x hx => Nat.le_trans (hs x (List.mem_cons_of_mem _ hx)) (by decide)
  have hb0 := below1 w (.cells #[.int .i64 h.k, .int .i64 h.op, .int .i64 h.vk, .int .i64 h.vn, .string h.vt, .int .i64 h.ar, .int .i64 h.ac, .bool h.ah, .bool h.al, .int .i64 h.br, .int .i64 h.bc, .bool h.bh, .bool h.bl, .slice A n c] 28)
  have HB := Lib.hid hb0
  have hX := CellsAt.new w [.int .i64 h.k, .int .i64 h.op, .int .i64 h.vk, .int .i64 h.vn, .string h.vt, .int .i64 h.ar, .int .i64 h.ac, .bool h.ah, .bool h.al, .int .i64 h.br, .int .i64 h.bc, .bool h.bh, .bool h.bl, .slice A n c] 28
  have hF : count F ≤ 199 := by have := of_decide_eq_true f1; omega
  have HF := Lib.hid f1
  clear f1
  have HL := Lib.hid (fun w1 (hw : Below w.heap.size w w1) => list_c h A n c F (by omega) w1 (hz.on hw))
  have HM := Lib.hid (fun w1 (hw : Below w.heap.size w w1) => rlist_c w (count F) h A n c F (by omega) (Nat.le_refl _) w1 hw hz)
  have C1 := Lib.hid (fun w1 (hw : Below w.heap.size w w1) => count_c (count F) h A n c F (by omega) (Nat.le_refl _) w1 (hz.on hw))
  have C2 := Lib.hid (fun w1 (hw : Below w.heap.size w w1) => deep_c (count F) h A n c F (by omega) (Nat.le_refl _) w1 (hz.on hw))
  have C3 := Lib.hid (fun w1 (hw : Below w.heap.size w w1) => rdeep_c (count F) h A n c F (by omega) (Nat.le_refl _) w1 (hz.on hw))
  obtain ⟨vr, hvr⟩ : ∃ vr, ((h, F) :: flat F).all oneV = vr := ⟨_, rfl⟩
  obtain ⟨vf, hvf⟩ : ∃ vf, fmlV (h, F) = vf := ⟨_, rfl⟩
  have C4 := Lib.hid (fun w1 (hw : Below w.heap.size w w1) => right_c (count F) h A n c F (Nat.le_refl _) hs2 vr hvr w1 (hz.on hw) (hE.grown hw))
  have C5 := Lib.hid (fun w1 (hw : Below w.heap.size w w1) => rright_c oneV OkH rone_c h A n c F (by omega) (fun x hx => ⟨hs x hx, fun y hy => hs y (below_mem hx hy)⟩) vr hvr w1 (hz.on hw))
  have C6 := Lib.hid (fun w1 (hw : Below w.heap.size w w1) => formula_c h A n c F (by omega) hs2 vf hvf w1 (hz.on hw) (hE.grown hw))
  have C7 := Lib.hid (fun w1 (hw : Below w.heap.size w w1) => rformula_c h A n c F (by omega) hs vf hvf w1 (hz.on hw))
  obtain ⟨dn, hdn⟩ : ∃ dn, dn = 1 + deep F := ⟨_, rfl⟩
  have hdn9 : dn ≤ 200 := by have := deep_le F; omega
  obtain ⟨q, hq⟩ : ∃ q, q = 1 + count F := ⟨_, rfl⟩
  have hq9 : q ≤ 200 := by omega
  have HQ := Lib.hid hq
  rw [← hq] at C1
  rw [← hdn] at C2 C3
  clear hE hz hs hs2 hvr hvf hdn hq
  have drr : (vr != vr) = false := by cases vr <;> rfl
  have dff : (vf != vf) = false := by cases vf <;> rfl
  go_enter Tryz.func3, Tryz.ntmps3
  go_wp2_with fail
  refine (few_c h A n c F true HF.out _ (HZ.out.on HB.out)).mono ?_
  rintro e w2 ⟨rfl, hb2⟩
  replace HB := Lib.hid (on HB.out hb2)
  replace hX := hX.on hb2
  clear hb2 hb0
  go_wp2_with fail
  have X0 := fun d os => cell_regrown (hX.2 0 _ rfl).1 d os
  have X1 := fun d os => cell_regrown (hX.2 1 _ rfl).1 d os
  have X2 := fun d os => cell_regrown (hX.2 2 _ rfl).1 d os
  have X3 := fun d os => cell_regrown (hX.2 3 _ rfl).1 d os
  have X4 := fun d os => cell_regrown (hX.2 4 _ rfl).1 d os
  have X5 := fun d os => cell_regrown (hX.2 5 _ rfl).1 d os
  have X6 := fun d os => cell_regrown (hX.2 6 _ rfl).1 d os
  have X7 := fun d os => cell_regrown (hX.2 7 _ rfl).1 d os
  have X8 := fun d os => cell_regrown (hX.2 8 _ rfl).1 d os
  have X9 := fun d os => cell_regrown (hX.2 9 _ rfl).1 d os
  have X10 := fun d os => cell_regrown (hX.2 10 _ rfl).1 d os
  have X11 := fun d os => cell_regrown (hX.2 11 _ rfl).1 d os
  have X12 := fun d os => cell_regrown (hX.2 12 _ rfl).1 d os
  have X13 := fun d os => cell_regrown (hX.2 13 _ rfl).1 d os
  refine wp_region_mem 6 (fun d => match d with
      | 12 => some (fun v w' => ∃ A c L, v = .slice A q c ∧ ElsR w' A q L ∧ Good w' L ∧ L.map El.nd = (h, F) :: flat F)
      | 14 => some (fun v w' => ∃ A c L, v = .slice A q c ∧ ElsR w' A q L ∧ Good w L ∧ L.map El.nd = (h, F) :: flat F)
      | _ => none) (by kernel_rfl) (by kernel_rfl) ?_
  simp only [List.take_succ_cons, List.take_zero, List.drop_succ_cons, List.drop_zero]
  repeat (first | ((with_reducible refine wpM_calm ?_ ?_ ?_ ?_); exact rfl; exact rfl; exact rfl; intro K hK; go_big_quiet_op; go_big_quiet_on) | ((with_reducible refine wpM_skip ?_ ?_); exact rfl; simp only [Act.put, List.setIfInBounds_toArray, List.set_cons_succ, List.set_cons_zero]))
  refine wpM_call _ rfl rfl rfl Tryz.func6 (by kernel_rfl) (by kernel_rfl) (fun w1 hw1 _ => (HL.out w1 (on HB.out hw1)).mono fun e w2 ⟨A1, c1, L1, e1, h1, h2, h3, h4⟩ => by
    rw [show 1 + count (h, F).2 = q from HQ.out.symm] at e1 h1
    exact ⟨_, e1, h4, A1, c1, L1, rfl, h1, h2, h3⟩) rfl ?_
  rintro v1 ⟨_, A1, c1, L1, rfl, _⟩ a1 ha1
  simp only [Act.put, List.setIfInBounds_toArray, List.set_cons_succ, List.set_cons_zero] at ha1
  subst ha1
  repeat (first | ((with_reducible refine wpM_calm ?_ ?_ ?_ ?_); exact rfl; exact rfl; exact rfl; intro K hK; go_big_quiet_op; go_big_quiet_on) | ((with_reducible refine wpM_skip ?_ ?_); exact rfl; simp only [Act.put, List.setIfInBounds_toArray, List.set_cons_succ, List.set_cons_zero]))
  refine wpM_call _ rfl rfl rfl Tryz.func7 (by kernel_rfl) (by kernel_rfl) (fun w1 hw1 _ => (HM.out w1 (on HB.out hw1)).mono fun e w2 ⟨A1, c1, L1, e1, h1, h2, h3, h4⟩ => by
    rw [show 1 + count (h, F).2 = q from HQ.out.symm] at e1 h1
    exact ⟨_, e1, h4, A1, c1, L1, rfl, h1, h2, h3⟩) rfl ?_
  rintro v2 ⟨_, A2, c2, L2, rfl, _⟩ a2 ha2
  simp only [Act.put, List.setIfInBounds_toArray, List.set_cons_succ, List.set_cons_zero] at ha2
  subst ha2
  repeat (first | ((with_reducible refine wpM_calm ?_ ?_ ?_ ?_); exact rfl; exact rfl; exact rfl; intro K hK; go_big_quiet_op; go_big_quiet_on) | ((with_reducible refine wpM_skip ?_ ?_); exact rfl; simp only [Act.put, List.setIfInBounds_toArray, List.set_cons_succ, List.set_cons_zero]))
  refine wpM_nil ?_
  intro w9 hw9 hF9
  obtain ⟨u1, ⟨A3, c3, L3, e3, g3, k3, m3⟩, hb3⟩ := Fct.put_at (Fct.put_old (hF9 1))
  obtain ⟨u2, ⟨A4, c4, L4, e4, g4, k4, m4⟩, hb4⟩ := Fct.put_at (hF9 3)
  simp only [Value.slice.injEq, true_and] at e3 e4
  obtain ⟨rfl, rfl⟩ := e3
  obtain ⟨rfl, rfl⟩ := e4
  replace HB := Lib.hid (on HB.out hw9)
  replace hX := hX.on hw9
  have HZ3 := Lib.hid (g3.on hb3)
  have HZ4 := Lib.hid (g4.on hb4)
  have HK3 := Lib.hid (k3.on hb3)
  have HK4 := Lib.hid k4
  have HM3 := Lib.hid m3
  have HM4 := Lib.hid m4
  clear hF9 hb3 hb4 g3 g4 k3 k4 m3 m4 X0 X1 X2 X3 X4 X5 X6 X7 X8 X9 X10 X11 X12 X13
  clear hw9
  go_wp2_with fail
  have X0 := fun d os => cell_regrown (hX.2 0 _ rfl).1 d os
  have X1 := fun d os => cell_regrown (hX.2 1 _ rfl).1 d os
  have X2 := fun d os => cell_regrown (hX.2 2 _ rfl).1 d os
  have X3 := fun d os => cell_regrown (hX.2 3 _ rfl).1 d os
  have X4 := fun d os => cell_regrown (hX.2 4 _ rfl).1 d os
  have X5 := fun d os => cell_regrown (hX.2 5 _ rfl).1 d os
  have X6 := fun d os => cell_regrown (hX.2 6 _ rfl).1 d os
  have X7 := fun d os => cell_regrown (hX.2 7 _ rfl).1 d os
  have X8 := fun d os => cell_regrown (hX.2 8 _ rfl).1 d os
  have X9 := fun d os => cell_regrown (hX.2 9 _ rfl).1 d os
  have X10 := fun d os => cell_regrown (hX.2 10 _ rfl).1 d os
  have X11 := fun d os => cell_regrown (hX.2 11 _ rfl).1 d os
  have X12 := fun d os => cell_regrown (hX.2 12 _ rfl).1 d os
  have X13 := fun d os => cell_regrown (hX.2 13 _ rfl).1 d os
  refine wp_region_mem 33 (fun d => match d with
      | 22 => some (Is (.int .i64 (q : Int)))
      | 29 => some (Is (.int .i64 (dn : Int)))
      | 31 => some (Is (.int .i64 (dn : Int)))
      | 36 => some (Is (.bool vr))
      | 38 => some (Is (.bool vr))
      | 43 => some (Is (.bool vf))
      | 45 => some (Is (.bool vf))
      | _ => none) (by kernel_rfl) (by kernel_rfl) ?_
  simp only [List.take_succ_cons, List.take_zero, List.drop_succ_cons, List.drop_zero]
  repeat (first | ((with_reducible refine wpM_calm ?_ ?_ ?_ ?_); exact rfl; exact rfl; exact rfl; intro K hK; go_big_quiet_op; go_big_quiet_on) | ((with_reducible refine wpM_skip ?_ ?_); exact rfl; simp only [Act.put, List.setIfInBounds_toArray, List.set_cons_succ, List.set_cons_zero]))
  refine wpM_exact rfl rfl rfl Tryz.func8 (by kernel_rfl) (by kernel_rfl) (fun w1 hw1 _ => C1.out w1 (on HB.out hw1)) rfl (by simp only [Act.put, List.setIfInBounds_toArray, List.set_cons_succ, List.set_cons_zero]; rfl) ?_
  repeat (first | ((with_reducible refine wpM_calm ?_ ?_ ?_ ?_); exact rfl; exact rfl; exact rfl; intro K hK; go_big_quiet_op; go_big_quiet_on) | ((with_reducible refine wpM_skip ?_ ?_); exact rfl; simp only [Act.put, List.setIfInBounds_toArray, List.set_cons_succ, List.set_cons_zero]))
  refine wpM_exact rfl rfl rfl Tryz.func9 (by kernel_rfl) (by kernel_rfl) (fun w1 hw1 _ => C2.out w1 (on HB.out hw1)) rfl (by simp only [Act.put, List.setIfInBounds_toArray, List.set_cons_succ, List.set_cons_zero]; rfl) ?_
  repeat (first | ((with_reducible refine wpM_calm ?_ ?_ ?_ ?_); exact rfl; exact rfl; exact rfl; intro K hK; go_big_quiet_op; go_big_quiet_on) | ((with_reducible refine wpM_skip ?_ ?_); exact rfl; simp only [Act.put, List.setIfInBounds_toArray, List.set_cons_succ, List.set_cons_zero]))
  refine wpM_exact rfl rfl rfl Tryz.func10 (by kernel_rfl) (by kernel_rfl) (fun w1 hw1 _ => C3.out w1 (on HB.out hw1)) rfl (by simp only [Act.put, List.setIfInBounds_toArray, List.set_cons_succ, List.set_cons_zero]; rfl) ?_
  repeat (first | ((with_reducible refine wpM_calm ?_ ?_ ?_ ?_); exact rfl; exact rfl; exact rfl; intro K hK; go_big_quiet_op; go_big_quiet_on) | ((with_reducible refine wpM_skip ?_ ?_); exact rfl; simp only [Act.put, List.setIfInBounds_toArray, List.set_cons_succ, List.set_cons_zero]))
  refine wpM_exact rfl rfl rfl Tryz.func11 (by kernel_rfl) (by kernel_rfl) (fun w1 hw1 _ => C4.out w1 (on HB.out hw1)) rfl (by simp only [Act.put, List.setIfInBounds_toArray, List.set_cons_succ, List.set_cons_zero]; rfl) ?_
  repeat (first | ((with_reducible refine wpM_calm ?_ ?_ ?_ ?_); exact rfl; exact rfl; exact rfl; intro K hK; go_big_quiet_op; go_big_quiet_on) | ((with_reducible refine wpM_skip ?_ ?_); exact rfl; simp only [Act.put, List.setIfInBounds_toArray, List.set_cons_succ, List.set_cons_zero]))
  refine wpM_exact rfl rfl rfl Tryz.func12 (by kernel_rfl) (by kernel_rfl) (fun w1 hw1 _ => C5.out w1 (on HB.out hw1)) rfl (by simp only [Act.put, List.setIfInBounds_toArray, List.set_cons_succ, List.set_cons_zero]; rfl) ?_
  repeat (first | ((with_reducible refine wpM_calm ?_ ?_ ?_ ?_); exact rfl; exact rfl; exact rfl; intro K hK; go_big_quiet_op; go_big_quiet_on) | ((with_reducible refine wpM_skip ?_ ?_); exact rfl; simp only [Act.put, List.setIfInBounds_toArray, List.set_cons_succ, List.set_cons_zero]))
  refine wpM_exact rfl rfl rfl Tryz.func13 (by kernel_rfl) (by kernel_rfl) (fun w1 hw1 _ => C6.out w1 (on HB.out hw1)) rfl (by simp only [Act.put, List.setIfInBounds_toArray, List.set_cons_succ, List.set_cons_zero]; rfl) ?_
  repeat (first | ((with_reducible refine wpM_calm ?_ ?_ ?_ ?_); exact rfl; exact rfl; exact rfl; intro K hK; go_big_quiet_op; go_big_quiet_on) | ((with_reducible refine wpM_skip ?_ ?_); exact rfl; simp only [Act.put, List.setIfInBounds_toArray, List.set_cons_succ, List.set_cons_zero]))
  refine wpM_exact rfl rfl rfl Tryz.func14 (by kernel_rfl) (by kernel_rfl) (fun w1 hw1 _ => C7.out w1 (on HB.out hw1)) rfl (by simp only [Act.put, List.setIfInBounds_toArray, List.set_cons_succ, List.set_cons_zero]; rfl) ?_
  repeat (first | ((with_reducible refine wpM_calm ?_ ?_ ?_ ?_); exact rfl; exact rfl; exact rfl; intro K hK; go_big_quiet_op; go_big_quiet_on) | ((with_reducible refine wpM_skip ?_ ?_); exact rfl; simp only [Act.put, List.setIfInBounds_toArray, List.set_cons_succ, List.set_cons_zero]))
  refine wpM_nil ?_
  intro w8 hw8 _
  have HB8 := Lib.hid (on HB.out hw8)
  have HX8 := Lib.hid (hX.on hw8)
  replace HZ3 := Lib.hid (HZ3.out.on hw8)
  replace HZ4 := Lib.hid (HZ4.out.on hw8)
  replace HK3 := Lib.hid (HK3.out.on hw8)
  clear hX hw8 X0 X1 X2 X3 X4 X5 X6 X7 X8 X9 X10 X11 X12 X13 C1 C2 C3 C4 C5 C6 C7 HL HM
  go_wp2_with fail
  go_loopw [50] (fun x wr => ∃ i : Nat, i ≤ q ∧ x = .int .i64 i ∧ Below w8.heap.size w8 wr) (fun x _ => q - (intOf x).toNat)
  case atStart => exact ⟨0, Nat.zero_le _, rfl, Below.refl _ _⟩
  case round =>
    obtain ⟨i, hi, rfl, hbr⟩ := hrel
    by_cases hlt : i < q
    · obtain ⟨⟨eh, eA, en, ec, ef⟩, he⟩ : ∃ e, L3[i]? = some e := ⟨_, List.getElem?_eq_getElem (by rw [HZ3.out.1]; exact hlt)⟩
      obtain ⟨⟨fh, fA, fn, fc, ff⟩, hf⟩ : ∃ e, L4[i]? = some e := ⟨_, List.getElem?_eq_getElem (by rw [HZ4.out.1]; exact hlt)⟩
      have hx : ((h, F) :: flat F)[i]? = some (eh, ef) := by rw [← HM3.out, List.getElem?_map, he]; rfl
      have hy : ((h, F) :: flat F)[i]? = some (fh, ff) := by rw [← HM4.out, List.getElem?_map, hf]; rfl
      have hxy : (eh, ef) = (fh, ff) := Option.some.inj (hx.symm.trans hy)
      obtain ⟨rfl, rfl⟩ := Prod.mk.inj hxy
      have hce := count_in (List.mem_of_getElem? hx)
      obtain ⟨b, o, rfl, hblt, hcell⟩ := (HZ3.out.on hbr).at he
      obtain ⟨b2, o2, rfl, hblt2, hcell2⟩ := (HZ4.out.on hbr).at hf
      have hk1 := (HK3.out _ (List.mem_of_getElem? he)).on hbr
      have hk2 := (HK4.out _ (List.mem_of_getElem? hf)).on (on HB8.out hbr)
      have y0 : wr.cell? ⟨b, o + i * 14, none⟩ = some (.int .i64 eh.k) := hcell 0 _ rfl
      have y1 := hcell 1 _ rfl
      have y2 := hcell 2 _ rfl
      have y3 := hcell 3 _ rfl
      have y4 := hcell 4 _ rfl
      have y5 := hcell 5 _ rfl
      have y6 := hcell 6 _ rfl
      have y7 := hcell 7 _ rfl
      have y8 := hcell 8 _ rfl
      have y9 := hcell 9 _ rfl
      have y10 := hcell 10 _ rfl
      have y11 := hcell 11 _ rfl
      have y12 := hcell 12 _ rfl
      have y13 := hcell 13 _ rfl
      have z0 : wr.cell? ⟨b2, o2 + i * 14, none⟩ = some (.int .i64 eh.k) := hcell2 0 _ rfl
      have z1 := hcell2 1 _ rfl
      have z2 := hcell2 2 _ rfl
      have z3 := hcell2 3 _ rfl
      have z4 := hcell2 4 _ rfl
      have z5 := hcell2 5 _ rfl
      have z6 := hcell2 6 _ rfl
      have z7 := hcell2 7 _ rfl
      have z8 := hcell2 8 _ rfl
      have z9 := hcell2 9 _ rfl
      have z10 := hcell2 10 _ rfl
      have z11 := hcell2 11 _ rfl
      have z12 := hcell2 12 _ rfl
      have z13 := hcell2 13 _ rfl
      have hbb := below1 wr (.cells #[.int .i64 eh.k, .int .i64 eh.op, .int .i64 eh.vk, .int .i64 eh.vn, .string eh.vt, .int .i64 eh.ar, .int .i64 eh.ac, .bool eh.ah, .bool eh.al, .int .i64 eh.br, .int .i64 eh.bc, .bool eh.bh, .bool eh.bl, .slice eA en ec] 28)
      have hE9 := CellsAt.new wr [.int .i64 eh.k, .int .i64 eh.op, .int .i64 eh.vk, .int .i64 eh.vn, .string eh.vt, .int .i64 eh.ar, .int .i64 eh.ac, .bool eh.ah, .bool eh.al, .int .i64 eh.br, .int .i64 eh.bc, .bool eh.bh, .bool eh.bl, .slice eA en ec] 28
      have HSM := Lib.hid (fun w1 (hw : Below wr.heap.size wr w1) => rsame_c eh eA en ec ef eh fA fn fc ef (by have : count ef ≤ count F := hce; omega) (by have : count ef ≤ count F := hce; omega) true (samB_yes rfl) w1 (hk1.on hw) (hk2.on hw))
      have Z0 := kept hbb z0
      have Z1 := kept hbb z1
      have Z2 := kept hbb z2
      have Z3 := kept hbb z3
      have Z4 := kept hbb z4
      have Z5 := kept hbb z5
      have Z6 := kept hbb z6
      have Z7 := kept hbb z7
      have Z8 := kept hbb z8
      have Z9 := kept hbb z9
      have Z10 := kept hbb z10
      have Z11 := kept hbb z11
      have Z12 := kept hbb z12
      have Z13 := kept hbb z13
      clear hcell hcell2 he hf hx hy hxy hce hk1 hk2 z0 z1 z2 z3 z4 z5 z6 z7 z8 z9 z10 z11 z12 z13
      go_wp2_with fail
      generalize wr.alloc (.cells #[.int .i64 eh.k, .int .i64 eh.op, .int .i64 eh.vk, .int .i64 eh.vn, .string eh.vt, .int .i64 eh.ar, .int .i64 eh.ac, .bool eh.ah, .bool eh.al, .int .i64 eh.br, .int .i64 eh.bc, .bool eh.bh, .bool eh.bl, .slice eA en ec] 28) = Wb at *
      clear y0 y1 y2 y3 y4 y5 y6 y7 y8 y9 y10 y11 y12 y13
      have E0 := fun d os => cell_regrown (hE9.2 0 _ rfl).1 d os
      have E1 := fun d os => cell_regrown (hE9.2 1 _ rfl).1 d os
      have E2 := fun d os => cell_regrown (hE9.2 2 _ rfl).1 d os
      have E3 := fun d os => cell_regrown (hE9.2 3 _ rfl).1 d os
      have E4 := fun d os => cell_regrown (hE9.2 4 _ rfl).1 d os
      have E5 := fun d os => cell_regrown (hE9.2 5 _ rfl).1 d os
      have E6 := fun d os => cell_regrown (hE9.2 6 _ rfl).1 d os
      have E7 := fun d os => cell_regrown (hE9.2 7 _ rfl).1 d os
      have E8 := fun d os => cell_regrown (hE9.2 8 _ rfl).1 d os
      have E9 := fun d os => cell_regrown (hE9.2 9 _ rfl).1 d os
      have E10 := fun d os => cell_regrown (hE9.2 10 _ rfl).1 d os
      have E11 := fun d os => cell_regrown (hE9.2 11 _ rfl).1 d os
      have E12 := fun d os => cell_regrown (hE9.2 12 _ rfl).1 d os
      have E13 := fun d os => cell_regrown (hE9.2 13 _ rfl).1 d os
      have V0 := fun d os => cell_regrown Z0 d os
      have V1 := fun d os => cell_regrown Z1 d os
      have V2 := fun d os => cell_regrown Z2 d os
      have V3 := fun d os => cell_regrown Z3 d os
      have V4 := fun d os => cell_regrown Z4 d os
      have V5 := fun d os => cell_regrown Z5 d os
      have V6 := fun d os => cell_regrown Z6 d os
      have V7 := fun d os => cell_regrown Z7 d os
      have V8 := fun d os => cell_regrown Z8 d os
      have V9 := fun d os => cell_regrown Z9 d os
      have V10 := fun d os => cell_regrown Z10 d os
      have V11 := fun d os => cell_regrown Z11 d os
      have V12 := fun d os => cell_regrown Z12 d os
      have V13 := fun d os => cell_regrown Z13 d os
      refine wp_region_mem 7 (fun d => match d with
          | 60 => some (Is (.bool true))
          | _ => none) (by kernel_rfl) (by kernel_rfl) ?_
      simp only [List.take_succ_cons, List.take_zero, List.drop_succ_cons, List.drop_zero]
      repeat (first | ((with_reducible refine wpM_calm ?_ ?_ ?_ ?_); exact rfl; exact rfl; exact rfl; intro K hK; go_big_quiet_op; go_big_quiet_on) | ((with_reducible refine wpM_skip ?_ ?_); exact rfl; simp only [Act.put, List.setIfInBounds_toArray, List.set_cons_succ, List.set_cons_zero]))
      refine wpM_exact rfl rfl rfl Tryz.func15 (by kernel_rfl) (by kernel_rfl) (fun w1 hw1 _ => HSM.out w1 (on hbb hw1)) rfl (by simp only [Act.put, List.setIfInBounds_toArray, List.set_cons_succ, List.set_cons_zero]; rfl) ?_
      repeat (first | ((with_reducible refine wpM_calm ?_ ?_ ?_ ?_); exact rfl; exact rfl; exact rfl; intro K hK; go_big_quiet_op; go_big_quiet_on) | ((with_reducible refine wpM_skip ?_ ?_); exact rfl; simp only [Act.put, List.setIfInBounds_toArray, List.set_cons_succ, List.set_cons_zero]))
      refine wpM_nil ?_
      intro w9 hw9 _
      replace hbr := on hbr (on hbb hw9)
      clear hw9 hE9 E0 E1 E2 E3 E4 E5 E6 E7 E8 E9 E10 E11 E12 E13 V0 V1 V2 V3 V4 V5 V6 V7 V8 V9 V10 V11 V12 V13 Z0 Z1 Z2 Z3 Z4 Z5 Z6 Z7 Z8 Z9 Z10 Z11 Z12 Z13 HSM hbb
      go_wp2_with fail
      go_roundw
      case rel => exact ⟨i + 1, by omega, by go_num, hbr⟩
      case measure => simp [intOf]; omega
    · obtain rfl : q = i := by omega
      go_wp2_with fail
      refine (alive_c _ (HE.out.grown (on HB8.out hbr))).mono ?_
      rintro e w6 ⟨rfl, hb6⟩
      go_wp2_with fail
      go_ret
      exact ⟨rfl, on HB8.out (on hbr hb6)⟩
theorem tells_law (h : Hd) (A : Option Addr) (n c : Nat) (F : Fo) (hs : ∀ x ∈ (h, F) :: flat F, x.1.vt.size ≤ 140737488351232) (w : World) (hz : KidsR w A n F) (hE : Errs w) : Calls Tryz.prog 3 #[.agg #[.int .i64 h.k, .int .i64 h.op, .int .i64 h.vk, .int .i64 h.vn, .string h.vt, .int .i64 h.ar, .int .i64 h.ac, .bool h.ah, .bool h.al, .int .i64 h.br, .int .i64 h.bc, .bool h.bh, .bool h.bl, .slice A n c]] w fun e w' => e = .returned (.bool true) ∧ Below w.heap.size w w' := by
  cases f1 : decide (1 + count F ≤ 200) with
  | false => exact tells_few h A n c F f1 w hz hE
  | true => exact tells_yes h A n c F f1 hs w hz hE
end Go.Proofs.YtcgpggknmhlnkaaGreatDoor.Nod

/- NodeParts: all in the list of a tree that is right are right, and none is deeper than the whole. Written by wip/gen22law.py. -/
import Derived.Test.YtcgpggknmhlnkaaDoorPp49
import Derived.Test.YtcgpggknmhlnkaaDoorPp42
namespace Go.Proofs.YtcgpggknmhlnkaaDoor.Nod
open Go.RowKit Kit Reg
open Go.Proofs.YtcgpggknmhlnkaaDoor.Cats (Errs)
set_option maxRecDepth 100000 in
set_option maxHeartbeats 8000000 in
theorem few_c (h : Hd) (A : Option Addr) (n c : Nat) (F : Fo) (r : Bool) (hr : decide (1 + count F ≤ 200) = r) (w : World) (hz : KidsR w A n F) : Calls Tryd.prog 5 #[.agg #[.int .i64 h.k, .int .i64 h.op, .int .i64 h.vk, .int .i64 h.vn, .string h.vt, .int .i64 h.ar, .int .i64 h.ac, .bool h.ah, .bool h.al, .int .i64 h.br, .int .i64 h.bc, .bool h.bh, .bool h.bl, .slice A n c], .int .i64 200] w fun e w' => e = .returned (.bool r) ∧ Below w.heap.size w w' := by
  have HH := Lib.hid (fun w1 (hw : Below w.heap.size w w1) => rfew_c h A n c F 200 (by decide) r hr w1 (hz.on hw))
  have hb0 := below1 w (.cells #[.int .i64 h.k, .int .i64 h.op, .int .i64 h.vk, .int .i64 h.vn, .string h.vt, .int .i64 h.ar, .int .i64 h.ac, .bool h.ah, .bool h.al, .int .i64 h.br, .int .i64 h.bc, .bool h.bh, .bool h.bl, .slice A n c] 28)
  clear hr hz
  go_enter Tryd.func5, Tryd.ntmps5
  go_wp2_with fail
  refine (HH.out _ hb0).mono ?_
  rintro e w2 ⟨rfl, hb2⟩
  go_wp2_with fail
  go_ret
  exact ⟨rfl, on hb0 hb2⟩

theorem mem_in {F : Fo} {h : Hd} {x y : Nd} (hx : x ∈ (h, F) :: flat F) (hy : y ∈ x :: flat x.2) : y ∈ (h, F) :: flat F := by
  rcases List.mem_cons.1 hx with rfl | hx
  · exact hy
  · rcases List.mem_cons.1 hy with rfl | hy
    · exact List.mem_cons_of_mem _ hx
    · exact List.mem_cons_of_mem _ (flat_flat hx hy)
theorem count_in {F : Fo} {h : Hd} {x : Nd} (hx : x ∈ (h, F) :: flat F) : count x.2 ≤ count F := by
  rcases List.mem_cons.1 hx with rfl | hx
  · exact Nat.le_refl _
  · have : ∀ (F : Fo), x ∈ flat F → 1 + count x.2 ≤ count F := by
      intro F
      induction F with
      | nil => intro h; cases h
      | cons h k r ihk ihr =>
        intro hx
        rw [count]
        rcases List.mem_cons.1 hx with rfl | hx
        · show 1 + count k ≤ _; omega
        · rcases List.mem_append.1 hx with hx | hx
          · have := ihk hx; omega
          · have := ihr hx; omega
    have := this F hx
    omega

set_option maxRecDepth 100000 in
set_option maxHeartbeats 8000000 in
theorem parts_law (h : Hd) (A : Option Addr) (n c : Nat) (F : Fo) (hs : ∀ x ∈ (h, F) :: flat F, x.1.vt.size ≤ 140737488351232) (w : World) (hz : KidsR w A n F) (hE : Errs w) : Calls Tryd.prog 3 #[.agg #[.int .i64 h.k, .int .i64 h.op, .int .i64 h.vk, .int .i64 h.vn, .string h.vt, .int .i64 h.ar, .int .i64 h.ac, .bool h.ah, .bool h.al, .int .i64 h.br, .int .i64 h.bc, .bool h.bh, .bool h.bl, .slice A n c]] w fun e w' => e = .returned (.bool true) ∧ Below w.heap.size w w' := by
  have HE := Lib.hid hE
  have HZ := Lib.hid hz
  have HS := Lib.hid (fun x hx => Nat.le_trans (hs x hx) (show 140737488351232 ≤ 281474976710656 by decide))
  have hb0 := below1 w (.cells #[.int .i64 h.k, .int .i64 h.op, .int .i64 h.vk, .int .i64 h.vn, .string h.vt, .int .i64 h.ar, .int .i64 h.ac, .bool h.ah, .bool h.al, .int .i64 h.br, .int .i64 h.bc, .bool h.bh, .bool h.bl, .slice A n c] 28)
  have HB := Lib.hid hb0
  have hX := CellsAt.new w [.int .i64 h.k, .int .i64 h.op, .int .i64 h.vk, .int .i64 h.vn, .string h.vt, .int .i64 h.ar, .int .i64 h.ac, .bool h.ah, .bool h.al, .int .i64 h.br, .int .i64 h.bc, .bool h.bh, .bool h.bl, .slice A n c] 28
  clear hE hz hs
  cases f1 : decide (1 + count F ≤ 200) with
  | false =>
    go_enter Tryd.func3, Tryd.ntmps3
    go_wp2_with fail
    refine (few_c h A n c F false f1 _ (HZ.out.on HB.out)).mono ?_
    rintro e w2 ⟨rfl, hb2⟩
    replace HB := Lib.hid (on HB.out hb2)
    clear hb0 hb2
    go_wp2_with fail
    refine (alive_c _ (HE.out.grown HB.out)).mono ?_
    rintro e w3 ⟨rfl, hb3⟩
    go_wp2_with fail
    go_ret
    exact ⟨rfl, on HB.out hb3⟩
  | true =>
    have hF : count F ≤ 199 := by have := of_decide_eq_true f1; omega
    have HF := Lib.hid f1
    clear f1
    have HRT := Lib.hid (fun v (hv : ((h, F) :: flat F).all oneV = v) => fun w1 (hw : Below w.heap.size w w1) => right_c (count F) h A n c F (Nat.le_refl _) (fun x hx => HS.out x (List.mem_cons_of_mem _ hx)) v hv w1 (HZ.out.on hw) (HE.out.grown hw))
    cases f2 : ((h, F) :: flat F).all oneV with
    | false =>
      replace HRT := Lib.hid (HRT.out false f2)
      clear f2
      go_enter Tryd.func3, Tryd.ntmps3
      go_wp2_with fail
      refine (few_c h A n c F true HF.out _ (HZ.out.on HB.out)).mono ?_
      rintro e w2 ⟨rfl, hb2⟩
      replace HB := Lib.hid (on HB.out hb2)
      replace hX := hX.on hb2
      have x0 := (hX.2 0 _ rfl).1
      have x1 := (hX.2 1 _ rfl).1
      have x2 := (hX.2 2 _ rfl).1
      have x3 := (hX.2 3 _ rfl).1
      have x4 := (hX.2 4 _ rfl).1
      have x5 := (hX.2 5 _ rfl).1
      have x6 := (hX.2 6 _ rfl).1
      have x7 := (hX.2 7 _ rfl).1
      have x8 := (hX.2 8 _ rfl).1
      have x9 := (hX.2 9 _ rfl).1
      have x10 := (hX.2 10 _ rfl).1
      have x11 := (hX.2 11 _ rfl).1
      have x12 := (hX.2 12 _ rfl).1
      have x13 := (hX.2 13 _ rfl).1
      clear hb2 hb0
      go_wp2_with fail
      refine (HRT.out _ HB.out).mono ?_
      rintro e w4 ⟨rfl, hb2⟩
      replace HB := Lib.hid (on HB.out hb2)
      clear hX x0 x1 x2 x3 x4 x5 x6 x7 x8 x9 x10 x11 x12 x13 hb2
      go_wp2_with fail
      refine (alive_c _ (HE.out.grown HB.out)).mono ?_
      rintro e w3 ⟨rfl, hb3⟩
      go_wp2_with fail
      go_ret
      exact ⟨rfl, on HB.out hb3⟩
    | true =>
      replace HRT := Lib.hid (HRT.out true f2)
      have HALL := Lib.hid (List.all_eq_true.1 f2)
      have HDN := Lib.hid (fun w1 (hw : Below w.heap.size w w1) => deep_c (count F) h A n c F (by omega) (Nat.le_refl _) w1 (HZ.out.on hw))
      have HL := Lib.hid (fun w1 (hw : Below w.heap.size w w1) => list_c h A n c F (by omega) w1 (HZ.out.on hw))
      obtain ⟨dn, hdn⟩ : ∃ dn, dn = 1 + deep F := ⟨_, rfl⟩
      have hdn9 : dn ≤ 200 := by have := deep_le F; omega
      have HDD := Lib.hid hdn
      rw [← hdn] at HDN
      obtain ⟨q, hq⟩ : ∃ q, q = 1 + count F := ⟨_, rfl⟩
      have hq9 : q ≤ 200 := by omega
      have HQ := Lib.hid hq
      clear f2 hdn hq
      go_enter Tryd.func3, Tryd.ntmps3
      go_wp2_with fail
      refine (few_c h A n c F true HF.out _ (HZ.out.on HB.out)).mono ?_
      rintro e w2 ⟨rfl, hb2⟩
      replace HB := Lib.hid (on HB.out hb2)
      replace hX := hX.on hb2
      have x0 := (hX.2 0 _ rfl).1
      have x1 := (hX.2 1 _ rfl).1
      have x2 := (hX.2 2 _ rfl).1
      have x3 := (hX.2 3 _ rfl).1
      have x4 := (hX.2 4 _ rfl).1
      have x5 := (hX.2 5 _ rfl).1
      have x6 := (hX.2 6 _ rfl).1
      have x7 := (hX.2 7 _ rfl).1
      have x8 := (hX.2 8 _ rfl).1
      have x9 := (hX.2 9 _ rfl).1
      have x10 := (hX.2 10 _ rfl).1
      have x11 := (hX.2 11 _ rfl).1
      have x12 := (hX.2 12 _ rfl).1
      have x13 := (hX.2 13 _ rfl).1
      clear hb2 hb0
      go_wp2_with fail
      refine (HRT.out _ HB.out).mono ?_
      rintro e w4 ⟨rfl, hb2⟩
      replace HB := Lib.hid (on HB.out hb2)
      replace hX := hX.on hb2
      clear x0 x1 x2 x3 x4 x5 x6 x7 x8 x9 x10 x11 x12 x13 hb2
      have x0 := (hX.2 0 _ rfl).1
      have x1 := (hX.2 1 _ rfl).1
      have x2 := (hX.2 2 _ rfl).1
      have x3 := (hX.2 3 _ rfl).1
      have x4 := (hX.2 4 _ rfl).1
      have x5 := (hX.2 5 _ rfl).1
      have x6 := (hX.2 6 _ rfl).1
      have x7 := (hX.2 7 _ rfl).1
      have x8 := (hX.2 8 _ rfl).1
      have x9 := (hX.2 9 _ rfl).1
      have x10 := (hX.2 10 _ rfl).1
      have x11 := (hX.2 11 _ rfl).1
      have x12 := (hX.2 12 _ rfl).1
      have x13 := (hX.2 13 _ rfl).1
      go_wp2_with fail
      refine (HL.out _ HB.out).mono ?_
      rintro e w5 ⟨A5, c5, L, rfl, hz5, hg5, hm5, hb2⟩
      replace HB := Lib.hid (on HB.out hb2)
      have HX := Lib.hid (hX.on hb2)
      have HZ5 := Lib.hid (show ElsR w5 A5 q L by rw [HQ.out]; exact hz5)
      have HG5 := Lib.hid hg5
      have HM5 := Lib.hid hm5
      rw [show 1 + count (h, F).2 = q from HQ.out.symm]
      clear hX hb2 hz5 hg5 hm5 x0 x1 x2 x3 x4 x5 x6 x7 x8 x9 x10 x11 x12 x13
      go_wp2_with fail
      go_loopw [17] (fun x wr => ∃ i : Nat, i ≤ q ∧ x = .int .i64 i ∧ Below w5.heap.size w5 wr) (fun x _ => q - (intOf x).toNat)
      case atStart => exact ⟨0, Nat.zero_le _, rfl, Below.refl _ _⟩
      case round =>
        obtain ⟨i, hi, rfl, hbr⟩ := hrel
        by_cases hlt : i < q
        · obtain ⟨⟨eh, eA, en, ec, ef⟩, he⟩ : ∃ e, L[i]? = some e := ⟨_, List.getElem?_eq_getElem (by rw [HZ5.out.1]; exact hlt)⟩
          have hx : ((h, F) :: flat F)[i]? = some (eh, ef) := by rw [← HM5.out, List.getElem?_map, he]; rfl
          have hin := List.mem_of_getElem? hx
          obtain ⟨b, o, rfl, hblt, hcell⟩ := (HZ5.out.on hbr).at he
          have hkid := (HG5.out _ (List.mem_of_getElem? he)).on hbr
          have hce := count_in hin
          have hde := deep_le ef
          obtain ⟨dx, hdx⟩ : ∃ dx, dx = 1 + deep ef := ⟨_, rfl⟩
          have hdx9 : dx ≤ 200 := by have : count ef ≤ count F := hce; omega
          have hle : dx ≤ dn := by
            have := HDD.out
            rcases List.mem_cons.1 hin with e | hf
            · have e2 : ef = F := congrArg Prod.snd e
              rw [hdx, e2]; omega
            · have := flat_deep hf
              have h3 : deep ef + 1 ≤ deep F := this
              omega
          have hlt2 : i ≠ 0 → dx ≠ dn := by
            intro h0
            cases i with
            | zero => exact absurd rfl h0
            | succ k =>
              have h1 : (flat F)[k]? = some (eh, ef) := by simpa using hx
              have h3 : deep ef + 1 ≤ deep F := flat_deep (List.mem_of_getElem? h1)
              have := HDD.out
              omega
          have hall : ((eh, ef) :: flat ef).all oneV = true := List.all_eq_true.2 fun y hy => HALL.out y (mem_in hin hy)
          have y0 : wr.cell? ⟨b, o + i * 14, none⟩ = some (.int .i64 eh.k) := hcell 0 _ rfl
          have y1 := hcell 1 _ rfl
          have y2 := hcell 2 _ rfl
          have y3 := hcell 3 _ rfl
          have y4 := hcell 4 _ rfl
          have y5 := hcell 5 _ rfl
          have y6 := hcell 6 _ rfl
          have y7 := hcell 7 _ rfl
          have y8 := hcell 8 _ rfl
          have y9 := hcell 9 _ rfl
          have y10 := hcell 10 _ rfl
          have y11 := hcell 11 _ rfl
          have y12 := hcell 12 _ rfl
          have y13 := hcell 13 _ rfl
          have hbb := below1 wr (.cells #[.int .i64 eh.k, .int .i64 eh.op, .int .i64 eh.vk, .int .i64 eh.vn, .string eh.vt, .int .i64 eh.ar, .int .i64 eh.ac, .bool eh.ah, .bool eh.al, .int .i64 eh.br, .int .i64 eh.bc, .bool eh.bh, .bool eh.bl, .slice eA en ec] 28)
          have hE9 := CellsAt.new wr [.int .i64 eh.k, .int .i64 eh.op, .int .i64 eh.vk, .int .i64 eh.vn, .string eh.vt, .int .i64 eh.ar, .int .i64 eh.ac, .bool eh.ah, .bool eh.al, .int .i64 eh.br, .int .i64 eh.bc, .bool eh.bh, .bool eh.bl, .slice eA en ec] 28
          have hX9 := (HX.out.on hbr).on hbb
          have HRX0 := Lib.hid (fun w1 (hw : Below wr.heap.size wr w1) => right_c (count ef) eh eA en ec ef (Nat.le_refl _) (fun y hy => HS.out y (mem_in hin (List.mem_cons_of_mem _ hy))) true hall w1 (hkid.on hw) (HE.out.grown (on HB.out (on hbr hw))))
          have HDX0 := Lib.hid (fun w1 (hw : Below wr.heap.size wr w1) => deep_c (count ef) eh eA en ec ef (by have : count ef ≤ count F := hce; omega) (Nat.le_refl _) w1 (hkid.on hw))
          rw [← hdx] at HDX0
          have d1 : decide (dn < dx) = false := decide_eq_false (by omega)
          clear hcell he hx hin hkid hall hce hde hdx
          by_cases h0 : i = 0
          · have d2 : decide (0 < i) = false := decide_eq_false (by omega)
            have HI := Lib.hid h0
            clear h0 hlt2
            go_wp2_with fail
            generalize wr.alloc (.cells #[.int .i64 eh.k, .int .i64 eh.op, .int .i64 eh.vk, .int .i64 eh.vn, .string eh.vt, .int .i64 eh.ar, .int .i64 eh.ac, .bool eh.ah, .bool eh.al, .int .i64 eh.br, .int .i64 eh.bc, .bool eh.bh, .bool eh.bl, .slice eA en ec] 28) = Wb at *
            have HRX := Lib.hid (fun w1 (hw : Below Wb.heap.size Wb w1) => HRX0.out w1 (on hbb hw))
            have HDX := Lib.hid (fun w1 (hw : Below Wb.heap.size Wb w1) => HDX0.out w1 (on hbb hw))
            clear y0 y1 y2 y3 y4 y5 y6 y7 y8 y9 y10 y11 y12 y13
            have X0 := fun d os => cell_regrown (hX9.2 0 _ rfl).1 d os
            have X1 := fun d os => cell_regrown (hX9.2 1 _ rfl).1 d os
            have X2 := fun d os => cell_regrown (hX9.2 2 _ rfl).1 d os
            have X3 := fun d os => cell_regrown (hX9.2 3 _ rfl).1 d os
            have X4 := fun d os => cell_regrown (hX9.2 4 _ rfl).1 d os
            have X5 := fun d os => cell_regrown (hX9.2 5 _ rfl).1 d os
            have X6 := fun d os => cell_regrown (hX9.2 6 _ rfl).1 d os
            have X7 := fun d os => cell_regrown (hX9.2 7 _ rfl).1 d os
            have X8 := fun d os => cell_regrown (hX9.2 8 _ rfl).1 d os
            have X9 := fun d os => cell_regrown (hX9.2 9 _ rfl).1 d os
            have X10 := fun d os => cell_regrown (hX9.2 10 _ rfl).1 d os
            have X11 := fun d os => cell_regrown (hX9.2 11 _ rfl).1 d os
            have X12 := fun d os => cell_regrown (hX9.2 12 _ rfl).1 d os
            have X13 := fun d os => cell_regrown (hX9.2 13 _ rfl).1 d os
            have E0 := fun d os => cell_regrown (hE9.2 0 _ rfl).1 d os
            have E1 := fun d os => cell_regrown (hE9.2 1 _ rfl).1 d os
            have E2 := fun d os => cell_regrown (hE9.2 2 _ rfl).1 d os
            have E3 := fun d os => cell_regrown (hE9.2 3 _ rfl).1 d os
            have E4 := fun d os => cell_regrown (hE9.2 4 _ rfl).1 d os
            have E5 := fun d os => cell_regrown (hE9.2 5 _ rfl).1 d os
            have E6 := fun d os => cell_regrown (hE9.2 6 _ rfl).1 d os
            have E7 := fun d os => cell_regrown (hE9.2 7 _ rfl).1 d os
            have E8 := fun d os => cell_regrown (hE9.2 8 _ rfl).1 d os
            have E9 := fun d os => cell_regrown (hE9.2 9 _ rfl).1 d os
            have E10 := fun d os => cell_regrown (hE9.2 10 _ rfl).1 d os
            have E11 := fun d os => cell_regrown (hE9.2 11 _ rfl).1 d os
            have E12 := fun d os => cell_regrown (hE9.2 12 _ rfl).1 d os
            have E13 := fun d os => cell_regrown (hE9.2 13 _ rfl).1 d os
            refine wp_region_mem 21 (fun d => match d with
                | 23 => some (Is (.bool true))
                | 27 => some (Is (.int .i64 (dx : Int)))
                | 29 => some (Is (.int .i64 (dn : Int)))
                | _ => none) (by kernel_rfl) (by kernel_rfl) ?_
            simp only [List.take_succ_cons, List.take_zero, List.drop_succ_cons, List.drop_zero]
            repeat (first | ((with_reducible refine wpM_calm ?_ ?_ ?_ ?_); exact rfl; exact rfl; exact rfl; intro K hK; go_big_quiet_op; go_big_quiet_on) | ((with_reducible refine wpM_skip ?_ ?_); exact rfl; simp only [Act.put, List.setIfInBounds_toArray, List.set_cons_succ, List.set_cons_zero]))
            refine wpM_exact rfl rfl rfl Tryd.func6 (by kernel_rfl) (by kernel_rfl) (fun w1 hw1 _ => HRX.out w1 hw1) rfl (by simp only [Act.put, List.setIfInBounds_toArray, List.set_cons_succ, List.set_cons_zero]; rfl) ?_
            repeat (first | ((with_reducible refine wpM_calm ?_ ?_ ?_ ?_); exact rfl; exact rfl; exact rfl; intro K hK; go_big_quiet_op; go_big_quiet_on) | ((with_reducible refine wpM_skip ?_ ?_); exact rfl; simp only [Act.put, List.setIfInBounds_toArray, List.set_cons_succ, List.set_cons_zero]))
            refine wpM_exact rfl rfl rfl Tryd.func9 (by kernel_rfl) (by kernel_rfl) (fun w1 hw1 _ => HDX.out w1 hw1) rfl (by simp only [Act.put, List.setIfInBounds_toArray, List.set_cons_succ, List.set_cons_zero]; rfl) ?_
            repeat (first | ((with_reducible refine wpM_calm ?_ ?_ ?_ ?_); exact rfl; exact rfl; exact rfl; intro K hK; go_big_quiet_op; go_big_quiet_on) | ((with_reducible refine wpM_skip ?_ ?_); exact rfl; simp only [Act.put, List.setIfInBounds_toArray, List.set_cons_succ, List.set_cons_zero]))
            refine wpM_exact rfl rfl rfl Tryd.func9 (by kernel_rfl) (by kernel_rfl) (fun w1 hw1 _ => HDN.out w1 (on HB.out (on hbr (on hbb hw1)))) rfl (by simp only [Act.put, List.setIfInBounds_toArray, List.set_cons_succ, List.set_cons_zero]; rfl) ?_
            repeat (first | ((with_reducible refine wpM_calm ?_ ?_ ?_ ?_); exact rfl; exact rfl; exact rfl; intro K hK; go_big_quiet_op; go_big_quiet_on) | ((with_reducible refine wpM_skip ?_ ?_); exact rfl; simp only [Act.put, List.setIfInBounds_toArray, List.set_cons_succ, List.set_cons_zero]))
            refine wpM_nil ?_
            intro w9 hw9 _
            replace hbr := on hbr (on hbb hw9)
            clear hw9 hX9 hE9 X0 X1 X2 X3 X4 X5 X6 X7 X8 X9 X10 X11 X12 X13 E0 E1 E2 E3 E4 E5 E6 E7 E8 E9 E10 E11 E12 E13 HRX HDX HRX0 HDX0 hbb
            go_wp2_with fail
            go_roundw
            case rel => exact ⟨i + 1, by omega, by go_num, hbr⟩
            case measure => simp [intOf]; omega
          · have d2 : decide (0 < i) = true := decide_eq_true (by omega)
            have hne := hlt2 h0
            have d3 : (dx == dn) = false := beq_eq_false_iff_ne.2 (by omega)
            have d4 : ((dx : Int) == (dn : Int)) = false := beq_eq_false_iff_ne.2 (by omega)
            have HI := Lib.hid h0
            clear h0 hlt2 hne
            go_wp2_with fail
            generalize wr.alloc (.cells #[.int .i64 eh.k, .int .i64 eh.op, .int .i64 eh.vk, .int .i64 eh.vn, .string eh.vt, .int .i64 eh.ar, .int .i64 eh.ac, .bool eh.ah, .bool eh.al, .int .i64 eh.br, .int .i64 eh.bc, .bool eh.bh, .bool eh.bl, .slice eA en ec] 28) = Wb at *
            have HRX := Lib.hid (fun w1 (hw : Below Wb.heap.size Wb w1) => HRX0.out w1 (on hbb hw))
            have HDX := Lib.hid (fun w1 (hw : Below Wb.heap.size Wb w1) => HDX0.out w1 (on hbb hw))
            clear y0 y1 y2 y3 y4 y5 y6 y7 y8 y9 y10 y11 y12 y13
            have X0 := fun d os => cell_regrown (hX9.2 0 _ rfl).1 d os
            have X1 := fun d os => cell_regrown (hX9.2 1 _ rfl).1 d os
            have X2 := fun d os => cell_regrown (hX9.2 2 _ rfl).1 d os
            have X3 := fun d os => cell_regrown (hX9.2 3 _ rfl).1 d os
            have X4 := fun d os => cell_regrown (hX9.2 4 _ rfl).1 d os
            have X5 := fun d os => cell_regrown (hX9.2 5 _ rfl).1 d os
            have X6 := fun d os => cell_regrown (hX9.2 6 _ rfl).1 d os
            have X7 := fun d os => cell_regrown (hX9.2 7 _ rfl).1 d os
            have X8 := fun d os => cell_regrown (hX9.2 8 _ rfl).1 d os
            have X9 := fun d os => cell_regrown (hX9.2 9 _ rfl).1 d os
            have X10 := fun d os => cell_regrown (hX9.2 10 _ rfl).1 d os
            have X11 := fun d os => cell_regrown (hX9.2 11 _ rfl).1 d os
            have X12 := fun d os => cell_regrown (hX9.2 12 _ rfl).1 d os
            have X13 := fun d os => cell_regrown (hX9.2 13 _ rfl).1 d os
            have E0 := fun d os => cell_regrown (hE9.2 0 _ rfl).1 d os
            have E1 := fun d os => cell_regrown (hE9.2 1 _ rfl).1 d os
            have E2 := fun d os => cell_regrown (hE9.2 2 _ rfl).1 d os
            have E3 := fun d os => cell_regrown (hE9.2 3 _ rfl).1 d os
            have E4 := fun d os => cell_regrown (hE9.2 4 _ rfl).1 d os
            have E5 := fun d os => cell_regrown (hE9.2 5 _ rfl).1 d os
            have E6 := fun d os => cell_regrown (hE9.2 6 _ rfl).1 d os
            have E7 := fun d os => cell_regrown (hE9.2 7 _ rfl).1 d os
            have E8 := fun d os => cell_regrown (hE9.2 8 _ rfl).1 d os
            have E9 := fun d os => cell_regrown (hE9.2 9 _ rfl).1 d os
            have E10 := fun d os => cell_regrown (hE9.2 10 _ rfl).1 d os
            have E11 := fun d os => cell_regrown (hE9.2 11 _ rfl).1 d os
            have E12 := fun d os => cell_regrown (hE9.2 12 _ rfl).1 d os
            have E13 := fun d os => cell_regrown (hE9.2 13 _ rfl).1 d os
            refine wp_region_mem 21 (fun d => match d with
                | 23 => some (Is (.bool true))
                | 27 => some (Is (.int .i64 (dx : Int)))
                | 29 => some (Is (.int .i64 (dn : Int)))
                | 37 => some (Is (.int .i64 (dx : Int)))
                | 39 => some (Is (.int .i64 (dn : Int)))
                | _ => none) (by kernel_rfl) (by kernel_rfl) ?_
            simp only [List.take_succ_cons, List.take_zero, List.drop_succ_cons, List.drop_zero]
            repeat (first | ((with_reducible refine wpM_calm ?_ ?_ ?_ ?_); exact rfl; exact rfl; exact rfl; intro K hK; go_big_quiet_op; go_big_quiet_on) | ((with_reducible refine wpM_skip ?_ ?_); exact rfl; simp only [Act.put, List.setIfInBounds_toArray, List.set_cons_succ, List.set_cons_zero]))
            refine wpM_exact rfl rfl rfl Tryd.func6 (by kernel_rfl) (by kernel_rfl) (fun w1 hw1 _ => HRX.out w1 hw1) rfl (by simp only [Act.put, List.setIfInBounds_toArray, List.set_cons_succ, List.set_cons_zero]; rfl) ?_
            repeat (first | ((with_reducible refine wpM_calm ?_ ?_ ?_ ?_); exact rfl; exact rfl; exact rfl; intro K hK; go_big_quiet_op; go_big_quiet_on) | ((with_reducible refine wpM_skip ?_ ?_); exact rfl; simp only [Act.put, List.setIfInBounds_toArray, List.set_cons_succ, List.set_cons_zero]))
            refine wpM_exact rfl rfl rfl Tryd.func9 (by kernel_rfl) (by kernel_rfl) (fun w1 hw1 _ => HDX.out w1 hw1) rfl (by simp only [Act.put, List.setIfInBounds_toArray, List.set_cons_succ, List.set_cons_zero]; rfl) ?_
            repeat (first | ((with_reducible refine wpM_calm ?_ ?_ ?_ ?_); exact rfl; exact rfl; exact rfl; intro K hK; go_big_quiet_op; go_big_quiet_on) | ((with_reducible refine wpM_skip ?_ ?_); exact rfl; simp only [Act.put, List.setIfInBounds_toArray, List.set_cons_succ, List.set_cons_zero]))
            refine wpM_exact rfl rfl rfl Tryd.func9 (by kernel_rfl) (by kernel_rfl) (fun w1 hw1 _ => HDN.out w1 (on HB.out (on hbr (on hbb hw1)))) rfl (by simp only [Act.put, List.setIfInBounds_toArray, List.set_cons_succ, List.set_cons_zero]; rfl) ?_
            repeat (first | ((with_reducible refine wpM_calm ?_ ?_ ?_ ?_); exact rfl; exact rfl; exact rfl; intro K hK; go_big_quiet_op; go_big_quiet_on) | ((with_reducible refine wpM_skip ?_ ?_); exact rfl; simp only [Act.put, List.setIfInBounds_toArray, List.set_cons_succ, List.set_cons_zero]))
            refine wpM_exact rfl rfl rfl Tryd.func9 (by kernel_rfl) (by kernel_rfl) (fun w1 hw1 _ => HDX.out w1 hw1) rfl (by simp only [Act.put, List.setIfInBounds_toArray, List.set_cons_succ, List.set_cons_zero]; rfl) ?_
            repeat (first | ((with_reducible refine wpM_calm ?_ ?_ ?_ ?_); exact rfl; exact rfl; exact rfl; intro K hK; go_big_quiet_op; go_big_quiet_on) | ((with_reducible refine wpM_skip ?_ ?_); exact rfl; simp only [Act.put, List.setIfInBounds_toArray, List.set_cons_succ, List.set_cons_zero]))
            refine wpM_exact rfl rfl rfl Tryd.func9 (by kernel_rfl) (by kernel_rfl) (fun w1 hw1 _ => HDN.out w1 (on HB.out (on hbr (on hbb hw1)))) rfl (by simp only [Act.put, List.setIfInBounds_toArray, List.set_cons_succ, List.set_cons_zero]; rfl) ?_
            repeat (first | ((with_reducible refine wpM_calm ?_ ?_ ?_ ?_); exact rfl; exact rfl; exact rfl; intro K hK; go_big_quiet_op; go_big_quiet_on) | ((with_reducible refine wpM_skip ?_ ?_); exact rfl; simp only [Act.put, List.setIfInBounds_toArray, List.set_cons_succ, List.set_cons_zero]))
            refine wpM_nil ?_
            intro w9 hw9 _
            replace hbr := on hbr (on hbb hw9)
            clear hw9 hX9 hE9 X0 X1 X2 X3 X4 X5 X6 X7 X8 X9 X10 X11 X12 X13 E0 E1 E2 E3 E4 E5 E6 E7 E8 E9 E10 E11 E12 E13 HRX HDX HRX0 HDX0 hbb
            go_wp2_with fail
            go_roundw
            case rel => exact ⟨i + 1, by omega, by go_num, hbr⟩
            case measure => simp [intOf]; omega
        · obtain rfl : q = i := by omega
          go_wp2_with fail
          refine (alive_c _ (HE.out.grown (on HB.out hbr))).mono ?_
          rintro e w6 ⟨rfl, hb6⟩
          go_wp2_with fail
          go_ret
          exact ⟨rfl, on HB.out (on hbr hb6)⟩
end Go.Proofs.YtcgpggknmhlnkaaDoor.Nod

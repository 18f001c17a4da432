/- The reference's Same: the lists of two trees compared, piece by piece. Written by wip/gen22rsame.py. -/
import Derived.Test.YtcgpggknmhlnkaaDoorPs47
import Derived.Test.YtcgpggknmhlnkaaDoorPs26
import Derived.Test.YtcgpggknmhlnkaaDoorPs27
namespace Go.Proofs.YtcgpggknmhlnkaaDoor.Nod
open Go.RowKit Kit Reg
set_option maxRecDepth 100000 in
set_option maxHeartbeats 4000000 in
theorem rsame_c (h : Hd) (A : Option Addr) (n c : Nat) (F : Fo) (g : Hd) (B : Option Addr) (m d : Nat) (G : Fo) (hF : count F ≤ 1000) (hG : count G ≤ 1000)
    (r : Bool) (hr : samB (h, F) (g, G) = r) (w : World) (hz : KidsR w A n F) (hy : KidsR w B m G) : Calls Tryd.prog 11 #[.agg #[.int .i64 h.k, .int .i64 h.op, .int .i64 h.vk, .int .i64 h.vn, .string h.vt, .int .i64 h.ar, .int .i64 h.ac, .bool h.ah, .bool h.al, .int .i64 h.br, .int .i64 h.bc, .bool h.bh, .bool h.bl, .slice A n c], .agg #[.int .i64 g.k, .int .i64 g.op, .int .i64 g.vk, .int .i64 g.vn, .string g.vt, .int .i64 g.ar, .int .i64 g.ac, .bool g.ah, .bool g.al, .int .i64 g.br, .int .i64 g.bc, .bool g.bh, .bool g.bl, .slice B m d]] w fun e w' => e = .returned (.bool r) ∧ Below w.heap.size w w' := by
  have HR := Lib.hid hr
  have HF := Lib.hid (fun w1 hw => rlist_c w (count F) h A n c F hF (Nat.le_refl _) w1 hw hz)
  have HG := Lib.hid (fun w1 hw => rlist_c w (count G) g B m d G hG (Nat.le_refl _) w1 hw hy)
  have hb0 := below2 w (.cells #[.int .i64 h.k, .int .i64 h.op, .int .i64 h.vk, .int .i64 h.vn, .string h.vt, .int .i64 h.ar, .int .i64 h.ac, .bool h.ah, .bool h.al, .int .i64 h.br, .int .i64 h.bc, .bool h.bh, .bool h.bl, .slice A n c] 28) (.cells #[.int .i64 g.k, .int .i64 g.op, .int .i64 g.vk, .int .i64 g.vn, .string g.vt, .int .i64 g.ar, .int .i64 g.ac, .bool g.ah, .bool g.al, .int .i64 g.br, .int .i64 g.bc, .bool g.bh, .bool g.bl, .slice B m d] 28)
  have hX := (CellsAt.new w [.int .i64 h.k, .int .i64 h.op, .int .i64 h.vk, .int .i64 h.vn, .string h.vt, .int .i64 h.ar, .int .i64 h.ac, .bool h.ah, .bool h.al, .int .i64 h.br, .int .i64 h.bc, .bool h.bh, .bool h.bl, .slice A n c] 28).on_alloc (.cells #[.int .i64 g.k, .int .i64 g.op, .int .i64 g.vk, .int .i64 g.vn, .string g.vt, .int .i64 g.ar, .int .i64 g.ac, .bool g.ah, .bool g.al, .int .i64 g.br, .int .i64 g.bc, .bool g.bh, .bool g.bl, .slice B m d] 28)
  have hY := CellsAt.new (w.alloc (.cells #[.int .i64 h.k, .int .i64 h.op, .int .i64 h.vk, .int .i64 h.vn, .string h.vt, .int .i64 h.ar, .int .i64 h.ac, .bool h.ah, .bool h.al, .int .i64 h.br, .int .i64 h.bc, .bool h.bh, .bool h.bl, .slice A n c] 28)) [.int .i64 g.k, .int .i64 g.op, .int .i64 g.vk, .int .i64 g.vn, .string g.vt, .int .i64 g.ar, .int .i64 g.ac, .bool g.ah, .bool g.al, .int .i64 g.br, .int .i64 g.bc, .bool g.bh, .bool g.bl, .slice B m d] 28
  rw [show (w.alloc (.cells #[.int .i64 h.k, .int .i64 h.op, .int .i64 h.vk, .int .i64 h.vn, .string h.vt, .int .i64 h.ar, .int .i64 h.ac, .bool h.ah, .bool h.al, .int .i64 h.br, .int .i64 h.bc, .bool h.bh, .bool h.bl, .slice A n c] 28)).heap.size = w.heap.size + 1 from by simp] at hY
  clear hr hz hy
  go_enter Tryd.func11, Tryd.ntmps11
  go_wp2_with fail
  generalize (w.alloc (.cells #[.int .i64 h.k, .int .i64 h.op, .int .i64 h.vk, .int .i64 h.vn, .string h.vt, .int .i64 h.ar, .int .i64 h.ac, .bool h.ah, .bool h.al, .int .i64 h.br, .int .i64 h.bc, .bool h.bh, .bool h.bl, .slice A n c] 28)).alloc (.cells #[.int .i64 g.k, .int .i64 g.op, .int .i64 g.vk, .int .i64 g.vn, .string g.vt, .int .i64 g.ar, .int .i64 g.ac, .bool g.ah, .bool g.al, .int .i64 g.br, .int .i64 g.bc, .bool g.bh, .bool g.bl, .slice B m d] 28) = W at *
  have Q0 := fun d os => cell_regrown (hX.2 0 _ rfl).1 d os
  have Q1 := fun d os => cell_regrown (hX.2 1 _ rfl).1 d os
  have Q2 := fun d os => cell_regrown (hX.2 2 _ rfl).1 d os
  have Q3 := fun d os => cell_regrown (hX.2 3 _ rfl).1 d os
  have Q4 := fun d os => cell_regrown (hX.2 4 _ rfl).1 d os
  have Q5 := fun d os => cell_regrown (hX.2 5 _ rfl).1 d os
  have Q6 := fun d os => cell_regrown (hX.2 6 _ rfl).1 d os
  have Q7 := fun d os => cell_regrown (hX.2 7 _ rfl).1 d os
  have Q8 := fun d os => cell_regrown (hX.2 8 _ rfl).1 d os
  have Q9 := fun d os => cell_regrown (hX.2 9 _ rfl).1 d os
  have Q10 := fun d os => cell_regrown (hX.2 10 _ rfl).1 d os
  have Q11 := fun d os => cell_regrown (hX.2 11 _ rfl).1 d os
  have Q12 := fun d os => cell_regrown (hX.2 12 _ rfl).1 d os
  have Q13 := fun d os => cell_regrown (hX.2 13 _ rfl).1 d os
  have R0 := fun d os => cell_regrown (hY.2 0 _ rfl).1 d os
  have R1 := fun d os => cell_regrown (hY.2 1 _ rfl).1 d os
  have R2 := fun d os => cell_regrown (hY.2 2 _ rfl).1 d os
  have R3 := fun d os => cell_regrown (hY.2 3 _ rfl).1 d os
  have R4 := fun d os => cell_regrown (hY.2 4 _ rfl).1 d os
  have R5 := fun d os => cell_regrown (hY.2 5 _ rfl).1 d os
  have R6 := fun d os => cell_regrown (hY.2 6 _ rfl).1 d os
  have R7 := fun d os => cell_regrown (hY.2 7 _ rfl).1 d os
  have R8 := fun d os => cell_regrown (hY.2 8 _ rfl).1 d os
  have R9 := fun d os => cell_regrown (hY.2 9 _ rfl).1 d os
  have R10 := fun d os => cell_regrown (hY.2 10 _ rfl).1 d os
  have R11 := fun d os => cell_regrown (hY.2 11 _ rfl).1 d os
  have R12 := fun d os => cell_regrown (hY.2 12 _ rfl).1 d os
  have R13 := fun d os => cell_regrown (hY.2 13 _ rfl).1 d os
  refine wp_region_mem 6 (fun d => match d with
      | 9 => some (fun v w' => ∃ A c L, v = .slice A (1 + count F) c ∧ ElsR w' A (1 + count F) L ∧ Good w L ∧ L.map El.nd = (h, F) :: flat F)
      | 11 => some (fun v w' => ∃ A c L, v = .slice A (1 + count G) c ∧ ElsR w' A (1 + count G) L ∧ Good w L ∧ L.map El.nd = (g, G) :: flat G)
      | _ => none) (by kernel_rfl) (by kernel_rfl) ?_
  simp only [List.take_succ_cons, List.take_zero, List.drop_succ_cons, List.drop_zero]
  repeat (first | ((with_reducible refine wpM_calm ?_ ?_ ?_ ?_); exact rfl; exact rfl; exact rfl; intro K hK; go_big_quiet_op; go_big_quiet_on) | ((with_reducible refine wpM_skip ?_ ?_); exact rfl; simp only [Act.put, List.setIfInBounds_toArray, List.set_cons_succ, List.set_cons_zero]))
  refine wpM_call _ rfl rfl rfl Tryd.func20 (by kernel_rfl) (by kernel_rfl) (fun w1 hw1 _ => (HF.out w1 (on hb0 hw1)).mono fun e w2 ⟨A1, c1, L1, e1, h1, h2, h3, h4⟩ => ⟨_, e1, h4, A1, c1, L1, rfl, h1, h2, h3⟩) rfl ?_
  rintro v1 ⟨_, A1, c1, L1, rfl, _⟩ a1 ha1
  simp only [Act.put, List.setIfInBounds_toArray, List.set_cons_succ, List.set_cons_zero] at ha1
  subst ha1
  repeat (first | ((with_reducible refine wpM_calm ?_ ?_ ?_ ?_); exact rfl; exact rfl; exact rfl; intro K hK; go_big_quiet_op; go_big_quiet_on) | ((with_reducible refine wpM_skip ?_ ?_); exact rfl; simp only [Act.put, List.setIfInBounds_toArray, List.set_cons_succ, List.set_cons_zero]))
  refine wpM_call _ rfl rfl rfl Tryd.func20 (by kernel_rfl) (by kernel_rfl) (fun w1 hw1 _ => (HG.out w1 (on hb0 hw1)).mono fun e w2 ⟨A1, c1, L1, e1, h1, h2, h3, h4⟩ => ⟨_, e1, h4, A1, c1, L1, rfl, h1, h2, h3⟩) rfl ?_
  rintro v2 ⟨_, A2, c2, L2, rfl, _⟩ a2 ha2
  simp only [Act.put, List.setIfInBounds_toArray, List.set_cons_succ, List.set_cons_zero] at ha2
  subst ha2
  repeat (first | ((with_reducible refine wpM_calm ?_ ?_ ?_ ?_); exact rfl; exact rfl; exact rfl; intro K hK; go_big_quiet_op; go_big_quiet_on) | ((with_reducible refine wpM_skip ?_ ?_); exact rfl; simp only [Act.put, List.setIfInBounds_toArray, List.set_cons_succ, List.set_cons_zero]))
  refine wpM_nil ?_
  intro w9 hw9 hF9
  obtain ⟨u1, ⟨A3, c3, L3, e3, g3, k3, m3⟩, hb3⟩ := Fct.put_at (Fct.put_old (hF9 1))
  obtain ⟨u2, ⟨A4, c4, L4, e4, g4, k4, m4⟩, hb4⟩ := Fct.put_at (hF9 3)
  simp only [Value.slice.injEq, true_and] at e3 e4
  obtain ⟨rfl, rfl⟩ := e3
  obtain ⟨rfl, rfl⟩ := e4
  have hb := on hb0 hw9
  have HZ := Lib.hid (g3.on hb3)
  have HY := Lib.hid (g4.on hb4)
  have HM3 := Lib.hid m3
  have HM4 := Lib.hid m4
  have HK3 := Lib.hid k3
  have HK4 := Lib.hid k4
  clear hF9 hb3 hb4 g3 g4 k3 k4 m3 m4 hX hY hb0 hw9 HF HG Q0 R0 Q1 R1 Q2 R2 Q3 R3 Q4 R4 Q5 R5 Q6 R6 Q7 R7 Q8 R8 Q9 R9 Q10 R10 Q11 R11 Q12 R12 Q13 R13
  by_cases hq : 1 + count F = 1 + count G
  · obtain ⟨q, hqF⟩ : ∃ q, q = 1 + count F := ⟨_, rfl⟩
    have hqG : q = 1 + count G := by omega
    have HqF := Lib.hid hqF
    have HqG := Lib.hid hqG
    rw [← hqG]
    rw [← hqF]
    rw [← hqF] at HZ
    rw [← hqG] at HY
    have hq9 : q ≤ 1001 := by omega
    clear hq hqF hqG hF hG
    go_wp2_with fail
    go_loopw [7] (fun x wr => ∃ i : Nat, i ≤ q ∧ x = .int .i64 i ∧ Hid (((L3.map El.nd).map key).take i = ((L4.map El.nd).map key).take i) ∧ Below w9.heap.size w9 wr) (fun x _ => q - (intOf x).toNat)
    case atStart => exact ⟨0, Nat.zero_le _, rfl, Lib.hid rfl, Below.refl _ _⟩
    case round =>
      obtain ⟨i, hi, rfl, HA, hbr⟩ := hrel
      by_cases hlt : i < q
      · obtain ⟨⟨eh, eA, en, ec, ef⟩, he⟩ : ∃ e, L3[i]? = some e := ⟨_, List.getElem?_eq_getElem (by rw [HZ.out.1]; exact hlt)⟩
        obtain ⟨⟨fh, fA, fn, fc, ff⟩, hf⟩ : ∃ e, L4[i]? = some e := ⟨_, List.getElem?_eq_getElem (by rw [HY.out.1]; exact hlt)⟩
        obtain ⟨b, o, rfl, hblt, hcell⟩ := (HZ.out.on hbr).at he
        obtain ⟨b2, o2, rfl, hblt2, hcell2⟩ := (HY.out.on hbr).at hf
        have a1 : arity ef = en := (HK3.out _ (List.mem_of_getElem? he)).1.1
        have a2 : arity ff = fn := (HK4.out _ (List.mem_of_getElem? hf)).1.1
        have n1 : en ≤ 9223372036854775807 := by have := (HK3.out _ (List.mem_of_getElem? he)).1.2; unfold maxLen at this; exact this
        have n2 : fn ≤ 9223372036854775807 := by have := (HK4.out _ (List.mem_of_getElem? hf)).1.2; unfold maxLen at this; exact this
        have x1 : ((L3.map El.nd).map key)[i]? = some (eh, en) := by rw [List.getElem?_map, List.getElem?_map, he, ← a1]; rfl
        have x2 : ((L4.map El.nd).map key)[i]? = some (fh, fn) := by rw [List.getElem?_map, List.getElem?_map, hf, ← a2]; rfl
        have HX1 := Lib.hid x1
        have HX2 := Lib.hid x2
        have HNO : Hid ((eh, en) ≠ (fh, fn) → r = false) := Lib.hid (fun hne => by
          rw [← HR.out]
          refine samB_no fun e => hne ?_
          have h1 := (same_iff _ _).1 e
          have h2 := HX1.out
          rw [HM3.out] at h2
          rw [show ((h, F) :: flat F).map key = ((g, G) :: flat G).map key from h1, ← HM4.out, HX2.out] at h2
          exact (Option.some.inj h2).symm)
        have y0 : wr.cell? ⟨b, o + i * 14, none⟩ = some (.int .i64 eh.k) := hcell 0 _ rfl
        have y1 := hcell 1 _ rfl
        have y2 := hcell 2 _ rfl
        have y3 := hcell 3 _ rfl
        have y4 := hcell 4 _ rfl
        have y5 := hcell 5 _ rfl
        have y6 := hcell 6 _ rfl
        have y7 := hcell 7 _ rfl
        have y8 := hcell 8 _ rfl
        have y9 := hcell 9 _ rfl
        have y10 := hcell 10 _ rfl
        have y11 := hcell 11 _ rfl
        have y12 := hcell 12 _ rfl
        have y13 := hcell 13 _ rfl
        have z0 : wr.cell? ⟨b2, o2 + i * 14, none⟩ = some (.int .i64 fh.k) := hcell2 0 _ rfl
        have z1 := hcell2 1 _ rfl
        have z2 := hcell2 2 _ rfl
        have z3 := hcell2 3 _ rfl
        have z4 := hcell2 4 _ rfl
        have z5 := hcell2 5 _ rfl
        have z6 := hcell2 6 _ rfl
        have z7 := hcell2 7 _ rfl
        have z8 := hcell2 8 _ rfl
        have z9 := hcell2 9 _ rfl
        have z10 := hcell2 10 _ rfl
        have z11 := hcell2 11 _ rfl
        have z12 := hcell2 12 _ rfl
        have z13 := hcell2 13 _ rfl
        clear he hf hcell hcell2 a1 a2 x1 x2
        have qV := run_neqV eh.vk eh.vn eh.vt fh.vk fh.vn fh.vt _ rfl
        have qA := run_neqF eh.ar eh.ac eh.ah eh.al fh.ar fh.ac fh.ah fh.al _ rfl
        have qB := run_neqF eh.br eh.bc eh.bh eh.bl fh.br fh.bc fh.bh fh.bl _ rfl
        rcases Bool.eq_false_or_eq_true (eh.k != fh.k) with d0 | d0
        ·
          have H0 : Hid (r = false) := Lib.hid (HNO.out fun e => by
            have e1 := congrArg Prod.fst e
            simp only at e1
            rw [e1] at d0
            simp at d0)
          go_wp2_with fail
          have Q0 := fun d os => cell_regrown y0 d os
          have R0 := fun d os => cell_regrown z0 d os
          have Q1 := fun d os => cell_regrown y1 d os
          have R1 := fun d os => cell_regrown z1 d os
          have Q2 := fun d os => cell_regrown y2 d os
          have R2 := fun d os => cell_regrown z2 d os
          have Q3 := fun d os => cell_regrown y3 d os
          have R3 := fun d os => cell_regrown z3 d os
          have Q4 := fun d os => cell_regrown y4 d os
          have R4 := fun d os => cell_regrown z4 d os
          have Q5 := fun d os => cell_regrown y5 d os
          have R5 := fun d os => cell_regrown z5 d os
          have Q6 := fun d os => cell_regrown y6 d os
          have R6 := fun d os => cell_regrown z6 d os
          have Q7 := fun d os => cell_regrown y7 d os
          have R7 := fun d os => cell_regrown z7 d os
          have Q8 := fun d os => cell_regrown y8 d os
          have R8 := fun d os => cell_regrown z8 d os
          have Q9 := fun d os => cell_regrown y9 d os
          have R9 := fun d os => cell_regrown z9 d os
          have Q10 := fun d os => cell_regrown y10 d os
          have R10 := fun d os => cell_regrown z10 d os
          have Q11 := fun d os => cell_regrown y11 d os
          have R11 := fun d os => cell_regrown z11 d os
          have Q12 := fun d os => cell_regrown y12 d os
          have R12 := fun d os => cell_regrown z12 d os
          have Q13 := fun d os => cell_regrown y13 d os
          have R13 := fun d os => cell_regrown z13 d os
          clear y0 z0 y1 z1 y2 z2 y3 z3 y4 z4 y5 z5 y6 z6 y7 z7 y8 z8 y9 z9 y10 z10 y11 z11 y12 z12 y13 z13
          refine wp_region_mem 78 (fun _ => none) (by kernel_rfl) (by kernel_rfl) ?_
          simp only [List.take_succ_cons, List.take_zero, List.drop_succ_cons, List.drop_zero]
          repeat (first | ((with_reducible refine wpM_calm ?_ ?_ ?_ ?_); exact rfl; exact rfl; exact rfl; intro K hK; go_big_quiet_op; go_big_quiet_on) | ((with_reducible refine wpM_skip ?_ ?_); exact rfl; simp only [Act.put, List.setIfInBounds_toArray, List.set_cons_succ, List.set_cons_zero]))
          refine wpM_nil ?_
          intro w8 hw8 _
          replace hbr := on hbr hw8
          clear hw8 Q0 R0 Q1 R1 Q2 R2 Q3 R3 Q4 R4 Q5 R5 Q6 R6 Q7 R7 Q8 R8 Q9 R9 Q10 R10 Q11 R11 Q12 R12 Q13 R13
          go_wp2_with fail
          go_ret
          exact ⟨ret_bool H0.out.symm, on hb hbr⟩
        ·
          rcases Bool.eq_false_or_eq_true (eh.op != fh.op) with d1 | d1
          ·
            have H0 : Hid (r = false) := Lib.hid (HNO.out fun e => by
              have e1 := congrArg Prod.fst e
              simp only at e1
              rw [e1] at d1
              simp at d1)
            go_wp2_with fail
            have Q0 := fun d os => cell_regrown y0 d os
            have R0 := fun d os => cell_regrown z0 d os
            have Q1 := fun d os => cell_regrown y1 d os
            have R1 := fun d os => cell_regrown z1 d os
            have Q2 := fun d os => cell_regrown y2 d os
            have R2 := fun d os => cell_regrown z2 d os
            have Q3 := fun d os => cell_regrown y3 d os
            have R3 := fun d os => cell_regrown z3 d os
            have Q4 := fun d os => cell_regrown y4 d os
            have R4 := fun d os => cell_regrown z4 d os
            have Q5 := fun d os => cell_regrown y5 d os
            have R5 := fun d os => cell_regrown z5 d os
            have Q6 := fun d os => cell_regrown y6 d os
            have R6 := fun d os => cell_regrown z6 d os
            have Q7 := fun d os => cell_regrown y7 d os
            have R7 := fun d os => cell_regrown z7 d os
            have Q8 := fun d os => cell_regrown y8 d os
            have R8 := fun d os => cell_regrown z8 d os
            have Q9 := fun d os => cell_regrown y9 d os
            have R9 := fun d os => cell_regrown z9 d os
            have Q10 := fun d os => cell_regrown y10 d os
            have R10 := fun d os => cell_regrown z10 d os
            have Q11 := fun d os => cell_regrown y11 d os
            have R11 := fun d os => cell_regrown z11 d os
            have Q12 := fun d os => cell_regrown y12 d os
            have R12 := fun d os => cell_regrown z12 d os
            have Q13 := fun d os => cell_regrown y13 d os
            have R13 := fun d os => cell_regrown z13 d os
            clear y0 z0 y1 z1 y2 z2 y3 z3 y4 z4 y5 z5 y6 z6 y7 z7 y8 z8 y9 z9 y10 z10 y11 z11 y12 z12 y13 z13
            refine wp_region_mem 78 (fun _ => none) (by kernel_rfl) (by kernel_rfl) ?_
            simp only [List.take_succ_cons, List.take_zero, List.drop_succ_cons, List.drop_zero]
            repeat (first | ((with_reducible refine wpM_calm ?_ ?_ ?_ ?_); exact rfl; exact rfl; exact rfl; intro K hK; go_big_quiet_op; go_big_quiet_on) | ((with_reducible refine wpM_skip ?_ ?_); exact rfl; simp only [Act.put, List.setIfInBounds_toArray, List.set_cons_succ, List.set_cons_zero]))
            refine wpM_nil ?_
            intro w8 hw8 _
            replace hbr := on hbr hw8
            clear hw8 Q0 R0 Q1 R1 Q2 R2 Q3 R3 Q4 R4 Q5 R5 Q6 R6 Q7 R7 Q8 R8 Q9 R9 Q10 R10 Q11 R11 Q12 R12 Q13 R13
            go_wp2_with fail
            go_ret
            exact ⟨ret_bool H0.out.symm, on hb hbr⟩
          ·
            rcases Bool.eq_false_or_eq_true (eh.vk == fh.vk && (eh.vn == fh.vn && eh.vt.toList == fh.vt.toList)) with d2 | d2
            ·
              rw [d2] at qV
              rcases Bool.eq_false_or_eq_true (eh.ar == fh.ar && (eh.ac == fh.ac && (eh.ah == fh.ah && eh.al == fh.al))) with d3 | d3
              ·
                rw [d3] at qA
                rcases Bool.eq_false_or_eq_true (eh.br == fh.br && (eh.bc == fh.bc && (eh.bh == fh.bh && eh.bl == fh.bl))) with d4 | d4
                ·
                  rw [d4] at qB
                  rcases Bool.eq_false_or_eq_true ((en : Int) != (fn : Int)) with d5 | d5
                  ·
                    have H0 : Hid (r = false) := Lib.hid (HNO.out fun e => by
                      have e1 := congrArg Prod.snd e
                      simp only at e1
                      rw [e1] at d5
                      simp at d5)
                    go_wp2_with fail
                    have Q0 := fun d os => cell_regrown y0 d os
                    have R0 := fun d os => cell_regrown z0 d os
                    have Q1 := fun d os => cell_regrown y1 d os
                    have R1 := fun d os => cell_regrown z1 d os
                    have Q2 := fun d os => cell_regrown y2 d os
                    have R2 := fun d os => cell_regrown z2 d os
                    have Q3 := fun d os => cell_regrown y3 d os
                    have R3 := fun d os => cell_regrown z3 d os
                    have Q4 := fun d os => cell_regrown y4 d os
                    have R4 := fun d os => cell_regrown z4 d os
                    have Q5 := fun d os => cell_regrown y5 d os
                    have R5 := fun d os => cell_regrown z5 d os
                    have Q6 := fun d os => cell_regrown y6 d os
                    have R6 := fun d os => cell_regrown z6 d os
                    have Q7 := fun d os => cell_regrown y7 d os
                    have R7 := fun d os => cell_regrown z7 d os
                    have Q8 := fun d os => cell_regrown y8 d os
                    have R8 := fun d os => cell_regrown z8 d os
                    have Q9 := fun d os => cell_regrown y9 d os
                    have R9 := fun d os => cell_regrown z9 d os
                    have Q10 := fun d os => cell_regrown y10 d os
                    have R10 := fun d os => cell_regrown z10 d os
                    have Q11 := fun d os => cell_regrown y11 d os
                    have R11 := fun d os => cell_regrown z11 d os
                    have Q12 := fun d os => cell_regrown y12 d os
                    have R12 := fun d os => cell_regrown z12 d os
                    have Q13 := fun d os => cell_regrown y13 d os
                    have R13 := fun d os => cell_regrown z13 d os
                    clear y0 z0 y1 z1 y2 z2 y3 z3 y4 z4 y5 z5 y6 z6 y7 z7 y8 z8 y9 z9 y10 z10 y11 z11 y12 z12 y13 z13
                    refine wp_region_mem 78 (fun _ => none) (by kernel_rfl) (by kernel_rfl) ?_
                    simp only [List.take_succ_cons, List.take_zero, List.drop_succ_cons, List.drop_zero]
                    repeat (first | ((with_reducible refine wpM_calm ?_ ?_ ?_ ?_); exact rfl; exact rfl; exact rfl; intro K hK; go_big_quiet_op; go_big_quiet_on) | ((with_reducible refine wpM_skip ?_ ?_); exact rfl; simp only [Act.put, List.setIfInBounds_toArray, List.set_cons_succ, List.set_cons_zero]))
                    refine wpM_nil ?_
                    intro w8 hw8 _
                    replace hbr := on hbr hw8
                    clear hw8 Q0 R0 Q1 R1 Q2 R2 Q3 R3 Q4 R4 Q5 R5 Q6 R6 Q7 R7 Q8 R8 Q9 R9 Q10 R10 Q11 R11 Q12 R12 Q13 R13
                    go_wp2_with fail
                    go_ret
                    exact ⟨ret_bool H0.out.symm, on hb hbr⟩
                  ·
                    have ek : (eh, en) = (fh, fn) := by
                      clear qV qA qB HNO HX1 HX2
                      simp only [bne_eq_false_iff_eq, Bool.and_eq_true, beq_iff_eq] at d0 d1 d2 d3 d4 d5
                      have e5 : eh.vt = fh.vt := bytes_ext d2.2.2
                      have e6 : en = fn := by omega
                      subst e6
                      congr 1
                      clear y0 y1 y2 y3 y4 y5 y6 y7 y8 y9 y10 y11 y12 y13 z0 z1 z2 z3 z4 z5 z6 z7 z8 z9 z10 z11 z12 z13
                      obtain ⟨⟩ := eh
                      obtain ⟨⟩ := fh
                      simp_all
                    have HN2 : Hid (((L3.map El.nd).map key).take (i + 1) = ((L4.map El.nd).map key).take (i + 1)) := Lib.hid (by rw [take_snoc HX1.out, take_snoc HX2.out, HA.out, ek])
                    clear ek d2 d3 d4
                    go_wp2_with fail
                    have Q0 := fun d os => cell_regrown y0 d os
                    have R0 := fun d os => cell_regrown z0 d os
                    have Q1 := fun d os => cell_regrown y1 d os
                    have R1 := fun d os => cell_regrown z1 d os
                    have Q2 := fun d os => cell_regrown y2 d os
                    have R2 := fun d os => cell_regrown z2 d os
                    have Q3 := fun d os => cell_regrown y3 d os
                    have R3 := fun d os => cell_regrown z3 d os
                    have Q4 := fun d os => cell_regrown y4 d os
                    have R4 := fun d os => cell_regrown z4 d os
                    have Q5 := fun d os => cell_regrown y5 d os
                    have R5 := fun d os => cell_regrown z5 d os
                    have Q6 := fun d os => cell_regrown y6 d os
                    have R6 := fun d os => cell_regrown z6 d os
                    have Q7 := fun d os => cell_regrown y7 d os
                    have R7 := fun d os => cell_regrown z7 d os
                    have Q8 := fun d os => cell_regrown y8 d os
                    have R8 := fun d os => cell_regrown z8 d os
                    have Q9 := fun d os => cell_regrown y9 d os
                    have R9 := fun d os => cell_regrown z9 d os
                    have Q10 := fun d os => cell_regrown y10 d os
                    have R10 := fun d os => cell_regrown z10 d os
                    have Q11 := fun d os => cell_regrown y11 d os
                    have R11 := fun d os => cell_regrown z11 d os
                    have Q12 := fun d os => cell_regrown y12 d os
                    have R12 := fun d os => cell_regrown z12 d os
                    have Q13 := fun d os => cell_regrown y13 d os
                    have R13 := fun d os => cell_regrown z13 d os
                    clear y0 z0 y1 z1 y2 z2 y3 z3 y4 z4 y5 z5 y6 z6 y7 z7 y8 z8 y9 z9 y10 z10 y11 z11 y12 z12 y13 z13
                    refine wp_region_mem 78 (fun _ => none) (by kernel_rfl) (by kernel_rfl) ?_
                    simp only [List.take_succ_cons, List.take_zero, List.drop_succ_cons, List.drop_zero]
                    repeat (first | ((with_reducible refine wpM_calm ?_ ?_ ?_ ?_); exact rfl; exact rfl; exact rfl; intro K hK; go_big_quiet_op; go_big_quiet_on) | ((with_reducible refine wpM_skip ?_ ?_); exact rfl; simp only [Act.put, List.setIfInBounds_toArray, List.set_cons_succ, List.set_cons_zero]))
                    refine wpM_nil ?_
                    intro w8 hw8 _
                    replace hbr := on hbr hw8
                    clear hw8 Q0 R0 Q1 R1 Q2 R2 Q3 R3 Q4 R4 Q5 R5 Q6 R6 Q7 R7 Q8 R8 Q9 R9 Q10 R10 Q11 R11 Q12 R12 Q13 R13
                    go_wp2_with fail
                    go_roundw
                    case rel => exact ⟨i + 1, by omega, by go_num, HN2, hbr⟩
                    case measure => simp [intOf]; omega
                ·
                  rw [d4] at qB
                  have H0 : Hid (r = false) := Lib.hid (HNO.out fun e => by
                    have e1 := congrArg Prod.fst e
                    simp only at e1
                    rw [e1] at d4
                    simp at d4)
                  go_wp2_with fail
                  have Q0 := fun d os => cell_regrown y0 d os
                  have R0 := fun d os => cell_regrown z0 d os
                  have Q1 := fun d os => cell_regrown y1 d os
                  have R1 := fun d os => cell_regrown z1 d os
                  have Q2 := fun d os => cell_regrown y2 d os
                  have R2 := fun d os => cell_regrown z2 d os
                  have Q3 := fun d os => cell_regrown y3 d os
                  have R3 := fun d os => cell_regrown z3 d os
                  have Q4 := fun d os => cell_regrown y4 d os
                  have R4 := fun d os => cell_regrown z4 d os
                  have Q5 := fun d os => cell_regrown y5 d os
                  have R5 := fun d os => cell_regrown z5 d os
                  have Q6 := fun d os => cell_regrown y6 d os
                  have R6 := fun d os => cell_regrown z6 d os
                  have Q7 := fun d os => cell_regrown y7 d os
                  have R7 := fun d os => cell_regrown z7 d os
                  have Q8 := fun d os => cell_regrown y8 d os
                  have R8 := fun d os => cell_regrown z8 d os
                  have Q9 := fun d os => cell_regrown y9 d os
                  have R9 := fun d os => cell_regrown z9 d os
                  have Q10 := fun d os => cell_regrown y10 d os
                  have R10 := fun d os => cell_regrown z10 d os
                  have Q11 := fun d os => cell_regrown y11 d os
                  have R11 := fun d os => cell_regrown z11 d os
                  have Q12 := fun d os => cell_regrown y12 d os
                  have R12 := fun d os => cell_regrown z12 d os
                  have Q13 := fun d os => cell_regrown y13 d os
                  have R13 := fun d os => cell_regrown z13 d os
                  clear y0 z0 y1 z1 y2 z2 y3 z3 y4 z4 y5 z5 y6 z6 y7 z7 y8 z8 y9 z9 y10 z10 y11 z11 y12 z12 y13 z13
                  refine wp_region_mem 78 (fun _ => none) (by kernel_rfl) (by kernel_rfl) ?_
                  simp only [List.take_succ_cons, List.take_zero, List.drop_succ_cons, List.drop_zero]
                  repeat (first | ((with_reducible refine wpM_calm ?_ ?_ ?_ ?_); exact rfl; exact rfl; exact rfl; intro K hK; go_big_quiet_op; go_big_quiet_on) | ((with_reducible refine wpM_skip ?_ ?_); exact rfl; simp only [Act.put, List.setIfInBounds_toArray, List.set_cons_succ, List.set_cons_zero]))
                  refine wpM_nil ?_
                  intro w8 hw8 _
                  replace hbr := on hbr hw8
                  clear hw8 Q0 R0 Q1 R1 Q2 R2 Q3 R3 Q4 R4 Q5 R5 Q6 R6 Q7 R7 Q8 R8 Q9 R9 Q10 R10 Q11 R11 Q12 R12 Q13 R13
                  go_wp2_with fail
                  go_ret
                  exact ⟨ret_bool H0.out.symm, on hb hbr⟩
              ·
                rw [d3] at qA
                have H0 : Hid (r = false) := Lib.hid (HNO.out fun e => by
                  have e1 := congrArg Prod.fst e
                  simp only at e1
                  rw [e1] at d3
                  simp at d3)
                go_wp2_with fail
                have Q0 := fun d os => cell_regrown y0 d os
                have R0 := fun d os => cell_regrown z0 d os
                have Q1 := fun d os => cell_regrown y1 d os
                have R1 := fun d os => cell_regrown z1 d os
                have Q2 := fun d os => cell_regrown y2 d os
                have R2 := fun d os => cell_regrown z2 d os
                have Q3 := fun d os => cell_regrown y3 d os
                have R3 := fun d os => cell_regrown z3 d os
                have Q4 := fun d os => cell_regrown y4 d os
                have R4 := fun d os => cell_regrown z4 d os
                have Q5 := fun d os => cell_regrown y5 d os
                have R5 := fun d os => cell_regrown z5 d os
                have Q6 := fun d os => cell_regrown y6 d os
                have R6 := fun d os => cell_regrown z6 d os
                have Q7 := fun d os => cell_regrown y7 d os
                have R7 := fun d os => cell_regrown z7 d os
                have Q8 := fun d os => cell_regrown y8 d os
                have R8 := fun d os => cell_regrown z8 d os
                have Q9 := fun d os => cell_regrown y9 d os
                have R9 := fun d os => cell_regrown z9 d os
                have Q10 := fun d os => cell_regrown y10 d os
                have R10 := fun d os => cell_regrown z10 d os
                have Q11 := fun d os => cell_regrown y11 d os
                have R11 := fun d os => cell_regrown z11 d os
                have Q12 := fun d os => cell_regrown y12 d os
                have R12 := fun d os => cell_regrown z12 d os
                have Q13 := fun d os => cell_regrown y13 d os
                have R13 := fun d os => cell_regrown z13 d os
                clear y0 z0 y1 z1 y2 z2 y3 z3 y4 z4 y5 z5 y6 z6 y7 z7 y8 z8 y9 z9 y10 z10 y11 z11 y12 z12 y13 z13
                refine wp_region_mem 78 (fun _ => none) (by kernel_rfl) (by kernel_rfl) ?_
                simp only [List.take_succ_cons, List.take_zero, List.drop_succ_cons, List.drop_zero]
                repeat (first | ((with_reducible refine wpM_calm ?_ ?_ ?_ ?_); exact rfl; exact rfl; exact rfl; intro K hK; go_big_quiet_op; go_big_quiet_on) | ((with_reducible refine wpM_skip ?_ ?_); exact rfl; simp only [Act.put, List.setIfInBounds_toArray, List.set_cons_succ, List.set_cons_zero]))
                refine wpM_nil ?_
                intro w8 hw8 _
                replace hbr := on hbr hw8
                clear hw8 Q0 R0 Q1 R1 Q2 R2 Q3 R3 Q4 R4 Q5 R5 Q6 R6 Q7 R7 Q8 R8 Q9 R9 Q10 R10 Q11 R11 Q12 R12 Q13 R13
                go_wp2_with fail
                go_ret
                exact ⟨ret_bool H0.out.symm, on hb hbr⟩
            ·
              rw [d2] at qV
              have H0 : Hid (r = false) := Lib.hid (HNO.out fun e => by
                have e1 := congrArg Prod.fst e
                simp only at e1
                rw [e1] at d2
                simp at d2)
              go_wp2_with fail
              have Q0 := fun d os => cell_regrown y0 d os
              have R0 := fun d os => cell_regrown z0 d os
              have Q1 := fun d os => cell_regrown y1 d os
              have R1 := fun d os => cell_regrown z1 d os
              have Q2 := fun d os => cell_regrown y2 d os
              have R2 := fun d os => cell_regrown z2 d os
              have Q3 := fun d os => cell_regrown y3 d os
              have R3 := fun d os => cell_regrown z3 d os
              have Q4 := fun d os => cell_regrown y4 d os
              have R4 := fun d os => cell_regrown z4 d os
              have Q5 := fun d os => cell_regrown y5 d os
              have R5 := fun d os => cell_regrown z5 d os
              have Q6 := fun d os => cell_regrown y6 d os
              have R6 := fun d os => cell_regrown z6 d os
              have Q7 := fun d os => cell_regrown y7 d os
              have R7 := fun d os => cell_regrown z7 d os
              have Q8 := fun d os => cell_regrown y8 d os
              have R8 := fun d os => cell_regrown z8 d os
              have Q9 := fun d os => cell_regrown y9 d os
              have R9 := fun d os => cell_regrown z9 d os
              have Q10 := fun d os => cell_regrown y10 d os
              have R10 := fun d os => cell_regrown z10 d os
              have Q11 := fun d os => cell_regrown y11 d os
              have R11 := fun d os => cell_regrown z11 d os
              have Q12 := fun d os => cell_regrown y12 d os
              have R12 := fun d os => cell_regrown z12 d os
              have Q13 := fun d os => cell_regrown y13 d os
              have R13 := fun d os => cell_regrown z13 d os
              clear y0 z0 y1 z1 y2 z2 y3 z3 y4 z4 y5 z5 y6 z6 y7 z7 y8 z8 y9 z9 y10 z10 y11 z11 y12 z12 y13 z13
              refine wp_region_mem 78 (fun _ => none) (by kernel_rfl) (by kernel_rfl) ?_
              simp only [List.take_succ_cons, List.take_zero, List.drop_succ_cons, List.drop_zero]
              repeat (first | ((with_reducible refine wpM_calm ?_ ?_ ?_ ?_); exact rfl; exact rfl; exact rfl; intro K hK; go_big_quiet_op; go_big_quiet_on) | ((with_reducible refine wpM_skip ?_ ?_); exact rfl; simp only [Act.put, List.setIfInBounds_toArray, List.set_cons_succ, List.set_cons_zero]))
              refine wpM_nil ?_
              intro w8 hw8 _
              replace hbr := on hbr hw8
              clear hw8 Q0 R0 Q1 R1 Q2 R2 Q3 R3 Q4 R4 Q5 R5 Q6 R6 Q7 R7 Q8 R8 Q9 R9 Q10 R10 Q11 R11 Q12 R12 Q13 R13
              go_wp2_with fail
              go_ret
              exact ⟨ret_bool H0.out.symm, on hb hbr⟩
      · obtain rfl : q = i := by omega
        have H0 : Hid (true = r) := Lib.hid (by
          rw [← HR.out]
          refine (samB_yes ((same_iff _ _).2 ?_)).symm
          have h1 := HA.out
          rw [List.take_of_length_le (by rw [List.length_map, List.length_map, HZ.out.1]; exact Nat.le_refl _), List.take_of_length_le (by rw [List.length_map, List.length_map, HY.out.1]; exact Nat.le_refl _), HM3.out, HM4.out] at h1
          exact h1)
        go_wp2_with fail
        go_ret
        exact ⟨ret_bool H0.out, on hb hbr⟩
  · have H0 : Hid (r = false) := Lib.hid (by
      rw [← HR.out]
      exact samB_no fun e => hq (by rw [show F = G from congrArg Prod.snd e]))
    have hqq : 1 + count F ≤ 1001 ∧ 1 + count G ≤ 1001 := by omega
    generalize 1 + count F = q1 at *
    generalize 1 + count G = q2 at *
    have d0 : ((q1 : Int) != (q2 : Int)) = true := by simp; omega
    clear hq
    go_wp2_with fail
    go_ret
    exact ⟨ret_bool H0.out.symm, hb⟩
end Go.Proofs.YtcgpggknmhlnkaaDoor.Nod

/- The program's called, formed, Right and Formula: a node is right where it is as told, and all below it are. Written by wip/gen22pright.py. -/
import Derived.Test.YtcgpggknmhlnkaaDoorPs39
namespace Go.Proofs.YtcgpggknmhlnkaaDoor.Nod
open Go.RowKit Kit Reg
open Go.Proofs.YtcgpggknmhlnkaaDoor.Cats (Errs)
set_option maxRecDepth 100000 in
set_option maxHeartbeats 4000000 in
theorem called_c (fn : Int) (A : Option Addr) (n c : Nat) (F : Fo) (hs : ∀ x ∈ tops F, x.1.vt.size ≤ 281474976710656) (r : Bool) (hr : (Fnm.fitsF fn (n : Int) && argsB (fun i => Fnm.kindF fn (i : Int)) (tops F)) = r) (w : World) (hz : KidsR w A n F) (hE : Errs w) : Calls Tryd.prog 25 #[.int .i64 fn, .slice A n c] w fun e w' => e = .returned (.bool r) ∧ Below w.heap.size w w' := by
  have HR := Lib.hid hr
  have HZ := Lib.hid hz
  have HN := Lib.hid hz.1.1
  have HE := Lib.hid hE
  have HS := Lib.hid hs
  have hn : n ≤ 9223372036854775807 := by have := hz.1.2; unfold maxLen at this; omega
  clear hr hz hE hs
  cases d1 : Fnm.fitsF fn (n : Int) with
  | false =>
    have HF := Lib.hid (fun w1 => Fnm.fits_c fn (n : Int) false d1 w1)
    go_enter Tryd.func25, Tryd.ntmps25
    go_wp2_with fail
    refine (HF.out _).mono ?_
    rintro e w2 ⟨rfl, hb2⟩
    go_wp2_with fail
    go_ret
    exact ⟨ret_bool (by rw [← HR.out, d1]; rfl), hb2⟩
  | true =>
    have HF := Lib.hid (fun w1 => Fnm.fits_c fn (n : Int) true d1 w1)
    have HD := Lib.hid d1
    rw [d1] at HR
    clear d1
    go_enter Tryd.func25, Tryd.ntmps25
    go_wp2_with fail
    refine (HF.out _).mono ?_
    rintro e w2 ⟨rfl, hb2⟩
    have HB := Lib.hid hb2
    clear hb2 HF
    go_wp2_with fail
    go_loopw [14] (fun x wr => ∃ i : Nat, i ≤ n ∧ x = .int .i64 i ∧ Hid (∀ (j : Nat) (y : Nd), j < i → (tops F)[j]? = some y → argV (Fnm.kindF fn (j : Int)) y.1 = true) ∧ Below w2.heap.size w2 wr) (fun x _ => n - (intOf x).toNat)
    case atStart => exact ⟨0, Nat.zero_le _, rfl, Lib.hid (fun j y hj => absurd hj (Nat.not_lt_zero j)), Below.refl _ _⟩
    case round =>
      obtain ⟨i, hi, rfl, HA, hbr⟩ := hrel
      by_cases hlt : i < n
      · obtain ⟨x, hx⟩ := HZ.out.get hlt
        obtain ⟨b, o, rfl, hblt, hcell, B, m2, c2, y13, hk⟩ := (HZ.out.on (on HB.out hbr)).at hx
        have y0 : wr.cell? ⟨b, o + i * 14, none⟩ = some (.int .i64 x.1.k) := hcell 0 _ rfl
        have y1 := hcell 1 _ rfl
        have y2 := hcell 2 _ rfl
        have y3 := hcell 3 _ rfl
        have y4 := hcell 4 _ rfl
        have y5 := hcell 5 _ rfl
        have y6 := hcell 6 _ rfl
        have y7 := hcell 7 _ rfl
        have y8 := hcell 8 _ rfl
        have y9 := hcell 9 _ rfl
        have y10 := hcell 10 _ rfl
        have y11 := hcell 11 _ rfl
        have y12 := hcell 12 _ rfl
        have HXX := Lib.hid hx
        have hkd := kind_in HD.out (show (i : Int) < (n : Int) by omega)
        have hXb := CellsAt.new wr [.int .i64 x.1.k, .int .i64 x.1.op, .int .i64 x.1.vk, .int .i64 x.1.vn, .string x.1.vt, .int .i64 x.1.ar, .int .i64 x.1.ac, .bool x.1.ah, .bool x.1.al, .int .i64 x.1.br, .int .i64 x.1.bc, .bool x.1.bh, .bool x.1.bl, .slice B m2 c2] 28
        have hbb := below1 wr (.cells #[.int .i64 x.1.k, .int .i64 x.1.op, .int .i64 x.1.vk, .int .i64 x.1.vn, .string x.1.vt, .int .i64 x.1.ar, .int .i64 x.1.ac, .bool x.1.ah, .bool x.1.al, .int .i64 x.1.br, .int .i64 x.1.bc, .bool x.1.bh, .bool x.1.bl, .slice B m2 c2] 28)
        cases hv : argV (Fnm.kindF fn (i : Int)) x.1 with
        | true =>
          have HC := Lib.hid (fun w1 (hw : Below wr.heap.size wr w1) => taken_c (Fnm.kindF fn (i : Int)) x.1 B m2 c2 (HS.out x (List.mem_of_getElem? hx)) true ((tak_arg hkd x.1).trans hv) w1 (HE.out.grown (on HB.out (on hbr hw))))
          have HN2 : Hid (∀ (j : Nat) (y : Nd), j < i + 1 → (tops F)[j]? = some y → argV (Fnm.kindF fn (j : Int)) y.1 = true) := Lib.hid fun j y hj hy => by
            by_cases e : j = i
            · subst e
              rw [HXX.out] at hy
              cases hy
              exact hv
            · exact HA.out j y (by omega) hy
          clear hx hv hkd hk hcell
          go_wp2_with fail
          clear y0 y1 y2 y3 y4 y5 y6 y7 y8 y9 y10 y11 y12 y13
          generalize wr.alloc (.cells #[.int .i64 x.1.k, .int .i64 x.1.op, .int .i64 x.1.vk, .int .i64 x.1.vn, .string x.1.vt, .int .i64 x.1.ar, .int .i64 x.1.ac, .bool x.1.ah, .bool x.1.al, .int .i64 x.1.br, .int .i64 x.1.bc, .bool x.1.bh, .bool x.1.bl, .slice B m2 c2] 28) = Wb at *
          have Q0 := fun d os => cell_regrown (hXb.2 0 _ rfl).1 d os
          have Q1 := fun d os => cell_regrown (hXb.2 1 _ rfl).1 d os
          have Q2 := fun d os => cell_regrown (hXb.2 2 _ rfl).1 d os
          have Q3 := fun d os => cell_regrown (hXb.2 3 _ rfl).1 d os
          have Q4 := fun d os => cell_regrown (hXb.2 4 _ rfl).1 d os
          have Q5 := fun d os => cell_regrown (hXb.2 5 _ rfl).1 d os
          have Q6 := fun d os => cell_regrown (hXb.2 6 _ rfl).1 d os
          have Q7 := fun d os => cell_regrown (hXb.2 7 _ rfl).1 d os
          have Q8 := fun d os => cell_regrown (hXb.2 8 _ rfl).1 d os
          have Q9 := fun d os => cell_regrown (hXb.2 9 _ rfl).1 d os
          have Q10 := fun d os => cell_regrown (hXb.2 10 _ rfl).1 d os
          have Q11 := fun d os => cell_regrown (hXb.2 11 _ rfl).1 d os
          have Q12 := fun d os => cell_regrown (hXb.2 12 _ rfl).1 d os
          have Q13 := fun d os => cell_regrown (hXb.2 13 _ rfl).1 d os
          refine wp_region_mem 6 (fun d => match d with
              | 21 => some (Is (.int .u8 ((Fnm.kindF fn (i : Int)).toNat : Int)))
              | 23 => some (Is (.bool true))
              | _ => none) (by kernel_rfl) (by kernel_rfl) ?_
          simp only [List.take_succ_cons, List.take_zero, List.drop_succ_cons, List.drop_zero]
          repeat (first | ((with_reducible refine wpM_calm ?_ ?_ ?_ ?_); exact rfl; exact rfl; exact rfl; intro K hK; go_big_quiet_op; go_big_quiet_on) | ((with_reducible refine wpM_skip ?_ ?_); exact rfl; simp only [Act.put, List.setIfInBounds_toArray, List.set_cons_succ, List.set_cons_zero]))
          refine wpM_exact rfl rfl rfl Tryd.func32 (by kernel_rfl) (by kernel_rfl) (fun w1 _ _ => Fnm.kind_c fn (i : Int) _ rfl w1) rfl (by simp only [Act.put, List.setIfInBounds_toArray, List.set_cons_succ, List.set_cons_zero]; rfl) ?_
          repeat (first | ((with_reducible refine wpM_calm ?_ ?_ ?_ ?_); exact rfl; exact rfl; exact rfl; intro K hK; go_big_quiet_op; go_big_quiet_on) | ((with_reducible refine wpM_skip ?_ ?_); exact rfl; simp only [Act.put, List.setIfInBounds_toArray, List.set_cons_succ, List.set_cons_zero]))
          refine wpM_exact rfl rfl rfl Tryd.func31 (by kernel_rfl) (by kernel_rfl) (fun w1 hw1 _ => HC.out w1 (on hbb hw1)) rfl (by simp only [Act.put, List.setIfInBounds_toArray, List.set_cons_succ, List.set_cons_zero]; rfl) ?_
          repeat (first | ((with_reducible refine wpM_calm ?_ ?_ ?_ ?_); exact rfl; exact rfl; exact rfl; intro K hK; go_big_quiet_op; go_big_quiet_on) | ((with_reducible refine wpM_skip ?_ ?_); exact rfl; simp only [Act.put, List.setIfInBounds_toArray, List.set_cons_succ, List.set_cons_zero]))
          refine wpM_nil ?_
          intro w9 hw9 _
          replace hbr := on hbr (on hbb hw9)
          clear hw9 hXb hbb HC Q0 Q1 Q2 Q3 Q4 Q5 Q6 Q7 Q8 Q9 Q10 Q11 Q12 Q13
          go_wp2_with fail
          go_roundw
          case rel => exact ⟨i + 1, by omega, by go_num, HN2, hbr⟩
          case measure => simp [intOf]; omega
        | false =>
          have HC := Lib.hid (fun w1 (hw : Below wr.heap.size wr w1) => taken_c (Fnm.kindF fn (i : Int)) x.1 B m2 c2 (HS.out x (List.mem_of_getElem? hx)) false ((tak_arg hkd x.1).trans hv) w1 (HE.out.grown (on HB.out (on hbr hw))))
          have HG : Hid (argsB (fun i => Fnm.kindF fn (i : Int)) (tops F) = false) := Lib.hid (argsB_no (kd := fun i => Fnm.kindF fn (i : Int)) hx hv)
          clear hx hv hkd hk hcell
          go_wp2_with fail
          clear y0 y1 y2 y3 y4 y5 y6 y7 y8 y9 y10 y11 y12 y13
          generalize wr.alloc (.cells #[.int .i64 x.1.k, .int .i64 x.1.op, .int .i64 x.1.vk, .int .i64 x.1.vn, .string x.1.vt, .int .i64 x.1.ar, .int .i64 x.1.ac, .bool x.1.ah, .bool x.1.al, .int .i64 x.1.br, .int .i64 x.1.bc, .bool x.1.bh, .bool x.1.bl, .slice B m2 c2] 28) = Wb at *
          have Q0 := fun d os => cell_regrown (hXb.2 0 _ rfl).1 d os
          have Q1 := fun d os => cell_regrown (hXb.2 1 _ rfl).1 d os
          have Q2 := fun d os => cell_regrown (hXb.2 2 _ rfl).1 d os
          have Q3 := fun d os => cell_regrown (hXb.2 3 _ rfl).1 d os
          have Q4 := fun d os => cell_regrown (hXb.2 4 _ rfl).1 d os
          have Q5 := fun d os => cell_regrown (hXb.2 5 _ rfl).1 d os
          have Q6 := fun d os => cell_regrown (hXb.2 6 _ rfl).1 d os
          have Q7 := fun d os => cell_regrown (hXb.2 7 _ rfl).1 d os
          have Q8 := fun d os => cell_regrown (hXb.2 8 _ rfl).1 d os
          have Q9 := fun d os => cell_regrown (hXb.2 9 _ rfl).1 d os
          have Q10 := fun d os => cell_regrown (hXb.2 10 _ rfl).1 d os
          have Q11 := fun d os => cell_regrown (hXb.2 11 _ rfl).1 d os
          have Q12 := fun d os => cell_regrown (hXb.2 12 _ rfl).1 d os
          have Q13 := fun d os => cell_regrown (hXb.2 13 _ rfl).1 d os
          refine wp_region_mem 6 (fun d => match d with
              | 21 => some (Is (.int .u8 ((Fnm.kindF fn (i : Int)).toNat : Int)))
              | 23 => some (Is (.bool false))
              | _ => none) (by kernel_rfl) (by kernel_rfl) ?_
          simp only [List.take_succ_cons, List.take_zero, List.drop_succ_cons, List.drop_zero]
          repeat (first | ((with_reducible refine wpM_calm ?_ ?_ ?_ ?_); exact rfl; exact rfl; exact rfl; intro K hK; go_big_quiet_op; go_big_quiet_on) | ((with_reducible refine wpM_skip ?_ ?_); exact rfl; simp only [Act.put, List.setIfInBounds_toArray, List.set_cons_succ, List.set_cons_zero]))
          refine wpM_exact rfl rfl rfl Tryd.func32 (by kernel_rfl) (by kernel_rfl) (fun w1 _ _ => Fnm.kind_c fn (i : Int) _ rfl w1) rfl (by simp only [Act.put, List.setIfInBounds_toArray, List.set_cons_succ, List.set_cons_zero]; rfl) ?_
          repeat (first | ((with_reducible refine wpM_calm ?_ ?_ ?_ ?_); exact rfl; exact rfl; exact rfl; intro K hK; go_big_quiet_op; go_big_quiet_on) | ((with_reducible refine wpM_skip ?_ ?_); exact rfl; simp only [Act.put, List.setIfInBounds_toArray, List.set_cons_succ, List.set_cons_zero]))
          refine wpM_exact rfl rfl rfl Tryd.func31 (by kernel_rfl) (by kernel_rfl) (fun w1 hw1 _ => HC.out w1 (on hbb hw1)) rfl (by simp only [Act.put, List.setIfInBounds_toArray, List.set_cons_succ, List.set_cons_zero]; rfl) ?_
          repeat (first | ((with_reducible refine wpM_calm ?_ ?_ ?_ ?_); exact rfl; exact rfl; exact rfl; intro K hK; go_big_quiet_op; go_big_quiet_on) | ((with_reducible refine wpM_skip ?_ ?_); exact rfl; simp only [Act.put, List.setIfInBounds_toArray, List.set_cons_succ, List.set_cons_zero]))
          refine wpM_nil ?_
          intro w9 hw9 _
          replace hbr := on hbr (on hbb hw9)
          clear hw9 hXb hbb HC Q0 Q1 Q2 Q3 Q4 Q5 Q6 Q7 Q8 Q9 Q10 Q11 Q12 Q13
          go_wp2_with fail
          go_ret
          exact ⟨ret_bool (by rw [← HR.out, HG.out]; rfl), on HB.out hbr⟩
      · obtain rfl : n = i := by omega
        have HG : Hid (argsB (fun i => Fnm.kindF fn (i : Int)) (tops F) = true) := Lib.hid (argsB_yes (kd := fun i => Fnm.kindF fn (i : Int)) fun j y hy => HA.out j y (by
          have := (List.getElem?_eq_some_iff.1 hy).1
          have := HN.out
          unfold arity at this
          omega) hy)
        go_wp2_with fail
        go_ret
        exact ⟨ret_bool (by rw [← HR.out, HG.out]; rfl), on HB.out hbr⟩
/-- is what a node of its kind has as it should be? -/
noncomputable def formV (x : Nd) : Bool :=
  if x.1.k = 1 then litW x.1 else if x.1.k = 2 then true else if x.1.k = 3 then Addr.mayB x.1.ar x.1.ac
  else if x.1.k = 4 then Addr.mayB x.1.ar x.1.ac && Addr.mayB x.1.br x.1.bc
  else if x.1.k = 5 then ((arity x.2 : Int) == 1) && argsB (fun _ => 118) (tops x.2)
  else if x.1.k = 6 then decide (1 ≤ x.1.op) && (decide (x.1.op ≤ 12) && (((arity x.2 : Int) == 2) && argsB (fun _ => 118) (tops x.2)))
  else if x.1.k = 7 then Fnm.fitsF x.1.op (arity x.2 : Int) && argsB (fun i => Fnm.kindF x.1.op (i : Int)) (tops x.2)
  else false
theorem single_arg (h : Hd) : argV 118 h = (h.k != 4) := by simp [argV, bne]

set_option maxRecDepth 100000 in
set_option maxHeartbeats 4000000 in
theorem form_1 (h : Hd) (A : Option Addr) (n c : Nat) (F : Fo) (hk : h.k = 1) (hs : ∀ x ∈ tops F, x.1.vt.size ≤ 281474976710656) (r : Bool) (hr : formV (h, F) = r) (w : World) (hz : KidsR w A n F) (hE : Errs w) : Calls Tryd.prog 16 #[.agg #[.int .i64 h.k, .int .i64 h.op, .int .i64 h.vk, .int .i64 h.vn, .string h.vt, .int .i64 h.ar, .int .i64 h.ac, .bool h.ah, .bool h.al, .int .i64 h.br, .int .i64 h.bc, .bool h.bh, .bool h.bl, .slice A n c]] w fun e w' => e = .returned (.bool r) ∧ Below w.heap.size w w' := by
  have HR := Lib.hid hr
  have HZ := Lib.hid hz
  have HN := Lib.hid hz.1.1
  have HE := Lib.hid hE
  have HS := Lib.hid hs
  have HK := Lib.hid hk
  have hn : n ≤ 9223372036854775807 := by have := hz.1.2; unfold maxLen at this; omega
  have HB := Lib.hid (below1 w (.cells #[.int .i64 h.k, .int .i64 h.op, .int .i64 h.vk, .int .i64 h.vn, .string h.vt, .int .i64 h.ar, .int .i64 h.ac, .bool h.ah, .bool h.al, .int .i64 h.br, .int .i64 h.bc, .bool h.bh, .bool h.bl, .slice A n c] 28))
  have HX := Lib.hid (CellsAt.new w [.int .i64 h.k, .int .i64 h.op, .int .i64 h.vk, .int .i64 h.vn, .string h.vt, .int .i64 h.ar, .int .i64 h.ac, .bool h.ah, .bool h.al, .int .i64 h.br, .int .i64 h.bc, .bool h.bh, .bool h.bl, .slice A n c] 28)
  clear hz hr hk hE hs
  go_enter Tryd.func16, Tryd.ntmps16
  have k1 : (h.k == 1) = true := by rw [HK.out]; rfl
  go_wp2_with fail
  refine (written_c h _ rfl _).mono ?_
  rintro e w2 ⟨rfl, hb2⟩
  replace HB := Lib.hid (on HB.out hb2)
  go_wp2_with fail
  go_ret
  exact ⟨ret_bool (by rw [← HR.out]; simp [formV, HK.out]), HB.out⟩

set_option maxRecDepth 100000 in
set_option maxHeartbeats 4000000 in
theorem form_2 (h : Hd) (A : Option Addr) (n c : Nat) (F : Fo) (hk : h.k = 2) (hs : ∀ x ∈ tops F, x.1.vt.size ≤ 281474976710656) (r : Bool) (hr : formV (h, F) = r) (w : World) (hz : KidsR w A n F) (hE : Errs w) : Calls Tryd.prog 16 #[.agg #[.int .i64 h.k, .int .i64 h.op, .int .i64 h.vk, .int .i64 h.vn, .string h.vt, .int .i64 h.ar, .int .i64 h.ac, .bool h.ah, .bool h.al, .int .i64 h.br, .int .i64 h.bc, .bool h.bh, .bool h.bl, .slice A n c]] w fun e w' => e = .returned (.bool r) ∧ Below w.heap.size w w' := by
  have HR := Lib.hid hr
  have HZ := Lib.hid hz
  have HN := Lib.hid hz.1.1
  have HE := Lib.hid hE
  have HS := Lib.hid hs
  have HK := Lib.hid hk
  have hn : n ≤ 9223372036854775807 := by have := hz.1.2; unfold maxLen at this; omega
  have HB := Lib.hid (below1 w (.cells #[.int .i64 h.k, .int .i64 h.op, .int .i64 h.vk, .int .i64 h.vn, .string h.vt, .int .i64 h.ar, .int .i64 h.ac, .bool h.ah, .bool h.al, .int .i64 h.br, .int .i64 h.bc, .bool h.bh, .bool h.bl, .slice A n c] 28))
  have HX := Lib.hid (CellsAt.new w [.int .i64 h.k, .int .i64 h.op, .int .i64 h.vk, .int .i64 h.vn, .string h.vt, .int .i64 h.ar, .int .i64 h.ac, .bool h.ah, .bool h.al, .int .i64 h.br, .int .i64 h.bc, .bool h.bh, .bool h.bl, .slice A n c] 28)
  clear hz hr hk hE hs
  go_enter Tryd.func16, Tryd.ntmps16
  have k1 : (h.k == 1) = false := by rw [HK.out]; rfl
  have k2 : (h.k == 2) = true := by rw [HK.out]; rfl
  go_wp2_with fail
  go_ret
  exact ⟨ret_bool (by rw [← HR.out]; simp [formV, HK.out]), HB.out⟩

set_option maxRecDepth 100000 in
set_option maxHeartbeats 4000000 in
theorem form_3 (h : Hd) (A : Option Addr) (n c : Nat) (F : Fo) (hk : h.k = 3) (hs : ∀ x ∈ tops F, x.1.vt.size ≤ 281474976710656) (r : Bool) (hr : formV (h, F) = r) (w : World) (hz : KidsR w A n F) (hE : Errs w) : Calls Tryd.prog 16 #[.agg #[.int .i64 h.k, .int .i64 h.op, .int .i64 h.vk, .int .i64 h.vn, .string h.vt, .int .i64 h.ar, .int .i64 h.ac, .bool h.ah, .bool h.al, .int .i64 h.br, .int .i64 h.bc, .bool h.bh, .bool h.bl, .slice A n c]] w fun e w' => e = .returned (.bool r) ∧ Below w.heap.size w w' := by
  have HR := Lib.hid hr
  have HZ := Lib.hid hz
  have HN := Lib.hid hz.1.1
  have HE := Lib.hid hE
  have HS := Lib.hid hs
  have HK := Lib.hid hk
  have hn : n ≤ 9223372036854775807 := by have := hz.1.2; unfold maxLen at this; omega
  have HB := Lib.hid (below1 w (.cells #[.int .i64 h.k, .int .i64 h.op, .int .i64 h.vk, .int .i64 h.vn, .string h.vt, .int .i64 h.ar, .int .i64 h.ac, .bool h.ah, .bool h.al, .int .i64 h.br, .int .i64 h.bc, .bool h.bh, .bool h.bl, .slice A n c] 28))
  have HX := Lib.hid (CellsAt.new w [.int .i64 h.k, .int .i64 h.op, .int .i64 h.vk, .int .i64 h.vn, .string h.vt, .int .i64 h.ar, .int .i64 h.ac, .bool h.ah, .bool h.al, .int .i64 h.br, .int .i64 h.bc, .bool h.bh, .bool h.bl, .slice A n c] 28)
  clear hz hr hk hE hs
  go_enter Tryd.func16, Tryd.ntmps16
  have k1 : (h.k == 1) = false := by rw [HK.out]; rfl
  have k2 : (h.k == 2) = false := by rw [HK.out]; rfl
  have k3 : (h.k == 3) = true := by rw [HK.out]; rfl
  go_wp2_with fail
  refine (cell_c h.ar h.ac h.ah h.al _ rfl _).mono ?_
  rintro e w2 ⟨rfl, hb2⟩
  replace HB := Lib.hid (on HB.out hb2)
  go_wp2_with fail
  go_ret
  exact ⟨ret_bool (by rw [← HR.out]; simp [formV, HK.out]), HB.out⟩

set_option maxRecDepth 100000 in
set_option maxHeartbeats 4000000 in
theorem form_4 (h : Hd) (A : Option Addr) (n c : Nat) (F : Fo) (hk : h.k = 4) (hs : ∀ x ∈ tops F, x.1.vt.size ≤ 281474976710656) (r : Bool) (hr : formV (h, F) = r) (w : World) (hz : KidsR w A n F) (hE : Errs w) : Calls Tryd.prog 16 #[.agg #[.int .i64 h.k, .int .i64 h.op, .int .i64 h.vk, .int .i64 h.vn, .string h.vt, .int .i64 h.ar, .int .i64 h.ac, .bool h.ah, .bool h.al, .int .i64 h.br, .int .i64 h.bc, .bool h.bh, .bool h.bl, .slice A n c]] w fun e w' => e = .returned (.bool r) ∧ Below w.heap.size w w' := by
  have HR := Lib.hid hr
  have HZ := Lib.hid hz
  have HN := Lib.hid hz.1.1
  have HE := Lib.hid hE
  have HS := Lib.hid hs
  have HK := Lib.hid hk
  have hn : n ≤ 9223372036854775807 := by have := hz.1.2; unfold maxLen at this; omega
  have HB := Lib.hid (below1 w (.cells #[.int .i64 h.k, .int .i64 h.op, .int .i64 h.vk, .int .i64 h.vn, .string h.vt, .int .i64 h.ar, .int .i64 h.ac, .bool h.ah, .bool h.al, .int .i64 h.br, .int .i64 h.bc, .bool h.bh, .bool h.bl, .slice A n c] 28))
  have HX := Lib.hid (CellsAt.new w [.int .i64 h.k, .int .i64 h.op, .int .i64 h.vk, .int .i64 h.vn, .string h.vt, .int .i64 h.ar, .int .i64 h.ac, .bool h.ah, .bool h.al, .int .i64 h.br, .int .i64 h.bc, .bool h.bh, .bool h.bl, .slice A n c] 28)
  clear hz hr hk hE hs
  go_enter Tryd.func16, Tryd.ntmps16
  have k1 : (h.k == 1) = false := by rw [HK.out]; rfl
  have k2 : (h.k == 2) = false := by rw [HK.out]; rfl
  have k3 : (h.k == 3) = false := by rw [HK.out]; rfl
  have k4 : (h.k == 4) = true := by rw [HK.out]; rfl
  cases d1 : Addr.mayB h.ar h.ac with
  | false =>
    go_wp2_with fail
    refine (cell_c h.ar h.ac h.ah h.al _ d1 _).mono ?_
    rintro e w2 ⟨rfl, hb2⟩
    replace HB := Lib.hid (on HB.out hb2)
    go_wp2_with fail
    go_ret
    exact ⟨ret_bool (by rw [← HR.out]; simp [formV, HK.out, d1]), HB.out⟩
  | true =>
    go_wp2_with fail
    refine (cell_c h.ar h.ac h.ah h.al _ d1 _).mono ?_
    rintro e w2 ⟨rfl, hb2⟩
    replace HB := Lib.hid (on HB.out hb2)
    have x9 := ((HX.out.on hb2).2 9 _ rfl).1
    have x10 := ((HX.out.on hb2).2 10 _ rfl).1
    have x11 := ((HX.out.on hb2).2 11 _ rfl).1
    have x12 := ((HX.out.on hb2).2 12 _ rfl).1
    go_wp2_with fail
    refine (cell_c h.br h.bc h.bh h.bl _ rfl _).mono ?_
    rintro e w2 ⟨rfl, hb2⟩
    replace HB := Lib.hid (on HB.out hb2)
    go_wp2_with fail
    go_ret
    exact ⟨ret_bool (by rw [← HR.out]; simp [formV, HK.out, d1]), HB.out⟩

set_option maxRecDepth 100000 in
set_option maxHeartbeats 4000000 in
theorem form_5 (h : Hd) (A : Option Addr) (n c : Nat) (F : Fo) (hk : h.k = 5) (hs : ∀ x ∈ tops F, x.1.vt.size ≤ 281474976710656) (r : Bool) (hr : formV (h, F) = r) (w : World) (hz : KidsR w A n F) (hE : Errs w) : Calls Tryd.prog 16 #[.agg #[.int .i64 h.k, .int .i64 h.op, .int .i64 h.vk, .int .i64 h.vn, .string h.vt, .int .i64 h.ar, .int .i64 h.ac, .bool h.ah, .bool h.al, .int .i64 h.br, .int .i64 h.bc, .bool h.bh, .bool h.bl, .slice A n c]] w fun e w' => e = .returned (.bool r) ∧ Below w.heap.size w w' := by
  have HR := Lib.hid hr
  have HZ := Lib.hid hz
  have HN := Lib.hid hz.1.1
  have HE := Lib.hid hE
  have HS := Lib.hid hs
  have HK := Lib.hid hk
  have hn : n ≤ 9223372036854775807 := by have := hz.1.2; unfold maxLen at this; omega
  have HB := Lib.hid (below1 w (.cells #[.int .i64 h.k, .int .i64 h.op, .int .i64 h.vk, .int .i64 h.vn, .string h.vt, .int .i64 h.ar, .int .i64 h.ac, .bool h.ah, .bool h.al, .int .i64 h.br, .int .i64 h.bc, .bool h.bh, .bool h.bl, .slice A n c] 28))
  have HX := Lib.hid (CellsAt.new w [.int .i64 h.k, .int .i64 h.op, .int .i64 h.vk, .int .i64 h.vn, .string h.vt, .int .i64 h.ar, .int .i64 h.ac, .bool h.ah, .bool h.al, .int .i64 h.br, .int .i64 h.bc, .bool h.bh, .bool h.bl, .slice A n c] 28)
  clear hz hr hk hE hs
  go_enter Tryd.func16, Tryd.ntmps16
  have k1 : (h.k == 1) = false := by rw [HK.out]; rfl
  have k2 : (h.k == 2) = false := by rw [HK.out]; rfl
  have k3 : (h.k == 3) = false := by rw [HK.out]; rfl
  have k4 : (h.k == 4) = false := by rw [HK.out]; rfl
  have k5 : (h.k == 5) = true := by rw [HK.out]; rfl
  cases d3 : ((n : Int) == 1) with
  | false =>
    go_wp2_with fail
    go_ret
    exact ⟨ret_bool (by rw [← HR.out]; simp [formV, HK.out, HN.out, d3]), HB.out⟩
  | true =>
    have en : 0 < n := by have := eq_of_beq d3; omega
    obtain ⟨x, hx⟩ := HZ.out.get (show 0 < n by omega)
    obtain ⟨b0, o0, rfl, bl0, hc0, B0, m0, c0, z0, hk0⟩ := HZ.out.at hx
    have xc0 := hc0 0 _ rfl
    simp only [Nat.zero_mul, Nat.add_zero] at xc0
    have xc1 := hc0 1 _ rfl
    simp only [Nat.zero_mul, Nat.add_zero] at xc1
    have xc2 := hc0 2 _ rfl
    simp only [Nat.zero_mul, Nat.add_zero] at xc2
    have xc3 := hc0 3 _ rfl
    simp only [Nat.zero_mul, Nat.add_zero] at xc3
    have xc4 := hc0 4 _ rfl
    simp only [Nat.zero_mul, Nat.add_zero] at xc4
    have xc5 := hc0 5 _ rfl
    simp only [Nat.zero_mul, Nat.add_zero] at xc5
    have xc6 := hc0 6 _ rfl
    simp only [Nat.zero_mul, Nat.add_zero] at xc6
    have xc7 := hc0 7 _ rfl
    simp only [Nat.zero_mul, Nat.add_zero] at xc7
    have xc8 := hc0 8 _ rfl
    simp only [Nat.zero_mul, Nat.add_zero] at xc8
    have xc9 := hc0 9 _ rfl
    simp only [Nat.zero_mul, Nat.add_zero] at xc9
    have xc10 := hc0 10 _ rfl
    simp only [Nat.zero_mul, Nat.add_zero] at xc10
    have xc11 := hc0 11 _ rfl
    simp only [Nat.zero_mul, Nat.add_zero] at xc11
    have xc12 := hc0 12 _ rfl
    simp only [Nat.zero_mul, Nat.add_zero] at xc12
    have xc13 := z0
    simp only [Nat.zero_mul, Nat.add_zero] at xc13
    clear hc0 z0 hk0
    have HA : Hid (argsB (fun _ => 118) (tops F) = (x.1.k != 4)) := Lib.hid ((argsB_one (kd := fun _ => 118) hx (by have := HN.out; have := eq_of_beq d3; unfold arity at *; omega)).trans (single_arg x.1))
    go_wp2_with fail
    refine (single_c x.1 B0 m0 c0 _ rfl _).mono ?_
    rintro e w2 ⟨rfl, hb2⟩
    replace HB := Lib.hid (on HB.out hb2)
    go_wp2_with fail
    go_ret
    exact ⟨ret_bool (by rw [← HR.out]; simp [formV, HK.out, HN.out, d3, HA.out]), HB.out⟩

set_option maxRecDepth 100000 in
set_option maxHeartbeats 4000000 in
theorem form_6 (h : Hd) (A : Option Addr) (n c : Nat) (F : Fo) (hk : h.k = 6) (hs : ∀ x ∈ tops F, x.1.vt.size ≤ 281474976710656) (r : Bool) (hr : formV (h, F) = r) (w : World) (hz : KidsR w A n F) (hE : Errs w) : Calls Tryd.prog 16 #[.agg #[.int .i64 h.k, .int .i64 h.op, .int .i64 h.vk, .int .i64 h.vn, .string h.vt, .int .i64 h.ar, .int .i64 h.ac, .bool h.ah, .bool h.al, .int .i64 h.br, .int .i64 h.bc, .bool h.bh, .bool h.bl, .slice A n c]] w fun e w' => e = .returned (.bool r) ∧ Below w.heap.size w w' := by
  have HR := Lib.hid hr
  have HZ := Lib.hid hz
  have HN := Lib.hid hz.1.1
  have HE := Lib.hid hE
  have HS := Lib.hid hs
  have HK := Lib.hid hk
  have hn : n ≤ 9223372036854775807 := by have := hz.1.2; unfold maxLen at this; omega
  have HB := Lib.hid (below1 w (.cells #[.int .i64 h.k, .int .i64 h.op, .int .i64 h.vk, .int .i64 h.vn, .string h.vt, .int .i64 h.ar, .int .i64 h.ac, .bool h.ah, .bool h.al, .int .i64 h.br, .int .i64 h.bc, .bool h.bh, .bool h.bl, .slice A n c] 28))
  have HX := Lib.hid (CellsAt.new w [.int .i64 h.k, .int .i64 h.op, .int .i64 h.vk, .int .i64 h.vn, .string h.vt, .int .i64 h.ar, .int .i64 h.ac, .bool h.ah, .bool h.al, .int .i64 h.br, .int .i64 h.bc, .bool h.bh, .bool h.bl, .slice A n c] 28)
  clear hz hr hk hE hs
  go_enter Tryd.func16, Tryd.ntmps16
  have k1 : (h.k == 1) = false := by rw [HK.out]; rfl
  have k2 : (h.k == 2) = false := by rw [HK.out]; rfl
  have k3 : (h.k == 3) = false := by rw [HK.out]; rfl
  have k4 : (h.k == 4) = false := by rw [HK.out]; rfl
  have k5 : (h.k == 5) = false := by rw [HK.out]; rfl
  have k6 : (h.k == 6) = true := by rw [HK.out]; rfl
  cases d1 : decide (1 ≤ h.op) with
  | false =>
    go_wp2_with fail
    go_ret
    exact ⟨ret_bool (by rw [← HR.out]; simp [formV, HK.out, HN.out, d1]), HB.out⟩
  | true =>
    cases d2 : decide (h.op ≤ 12) with
    | false =>
      go_wp2_with fail
      go_ret
      exact ⟨ret_bool (by rw [← HR.out]; simp [formV, HK.out, HN.out, d1, d2]), HB.out⟩
    | true =>
      cases d4 : ((n : Int) == 2) with
      | false =>
        go_wp2_with fail
        go_ret
        exact ⟨ret_bool (by rw [← HR.out]; simp [formV, HK.out, HN.out, d1, d2, d4]), HB.out⟩
      | true =>
        have en : 1 < n := by have := eq_of_beq d4; omega
        obtain ⟨x, hx⟩ := HZ.out.get (show 0 < n by omega)
        obtain ⟨b0, o0, rfl, bl0, hc0, B0, m0, c0, z0, hk0⟩ := HZ.out.at hx
        have xc0 := hc0 0 _ rfl
        simp only [Nat.zero_mul, Nat.add_zero] at xc0
        have xc1 := hc0 1 _ rfl
        simp only [Nat.zero_mul, Nat.add_zero] at xc1
        have xc2 := hc0 2 _ rfl
        simp only [Nat.zero_mul, Nat.add_zero] at xc2
        have xc3 := hc0 3 _ rfl
        simp only [Nat.zero_mul, Nat.add_zero] at xc3
        have xc4 := hc0 4 _ rfl
        simp only [Nat.zero_mul, Nat.add_zero] at xc4
        have xc5 := hc0 5 _ rfl
        simp only [Nat.zero_mul, Nat.add_zero] at xc5
        have xc6 := hc0 6 _ rfl
        simp only [Nat.zero_mul, Nat.add_zero] at xc6
        have xc7 := hc0 7 _ rfl
        simp only [Nat.zero_mul, Nat.add_zero] at xc7
        have xc8 := hc0 8 _ rfl
        simp only [Nat.zero_mul, Nat.add_zero] at xc8
        have xc9 := hc0 9 _ rfl
        simp only [Nat.zero_mul, Nat.add_zero] at xc9
        have xc10 := hc0 10 _ rfl
        simp only [Nat.zero_mul, Nat.add_zero] at xc10
        have xc11 := hc0 11 _ rfl
        simp only [Nat.zero_mul, Nat.add_zero] at xc11
        have xc12 := hc0 12 _ rfl
        simp only [Nat.zero_mul, Nat.add_zero] at xc12
        have xc13 := z0
        simp only [Nat.zero_mul, Nat.add_zero] at xc13
        clear hc0 z0 hk0
        obtain ⟨y, hy⟩ := HZ.out.get (show 1 < n by omega)
        obtain ⟨b1, o1, e1, bl1, hc1, B1, m1, c1, z1, hk1⟩ := HZ.out.at hy
        simp only [Option.some.injEq, Addr.mk.injEq, and_true] at e1
        obtain ⟨rfl, rfl⟩ := e1
        have HA : Hid (argsB (fun _ => 118) (tops F) = ((x.1.k != 4) && (y.1.k != 4))) := Lib.hid (by rw [argsB_two (kd := fun _ => 118) hx hy (by have := HN.out; have := eq_of_beq d4; unfold arity at *; omega), single_arg, single_arg])
        cases d5 : (x.1.k != 4) with
        | false =>
          go_wp2_with fail
          refine (single_c x.1 B0 m0 c0 _ d5 _).mono ?_
          rintro e w2 ⟨rfl, hb2⟩
          replace HB := Lib.hid (on HB.out hb2)
          go_wp2_with fail
          go_ret
          exact ⟨ret_bool (by rw [← HR.out]; simp [formV, HK.out, HN.out, d1, d2, d4, HA.out, d5]), HB.out⟩
        | true =>
          go_wp2_with fail
          refine (single_c x.1 B0 m0 c0 _ d5 _).mono ?_
          rintro e w2 ⟨rfl, hb2⟩
          replace HB := Lib.hid (on HB.out hb2)
          have q13 := ((HX.out.on hb2).2 13 _ rfl).1
          have yc0 := kept HB.out (hc1 0 _ rfl)
          simp only [Nat.one_mul, Nat.add_zero] at yc0
          have yc1 := kept HB.out (hc1 1 _ rfl)
          simp only [Nat.one_mul] at yc1
          have yc2 := kept HB.out (hc1 2 _ rfl)
          simp only [Nat.one_mul] at yc2
          have yc3 := kept HB.out (hc1 3 _ rfl)
          simp only [Nat.one_mul] at yc3
          have yc4 := kept HB.out (hc1 4 _ rfl)
          simp only [Nat.one_mul] at yc4
          have yc5 := kept HB.out (hc1 5 _ rfl)
          simp only [Nat.one_mul] at yc5
          have yc6 := kept HB.out (hc1 6 _ rfl)
          simp only [Nat.one_mul] at yc6
          have yc7 := kept HB.out (hc1 7 _ rfl)
          simp only [Nat.one_mul] at yc7
          have yc8 := kept HB.out (hc1 8 _ rfl)
          simp only [Nat.one_mul] at yc8
          have yc9 := kept HB.out (hc1 9 _ rfl)
          simp only [Nat.one_mul] at yc9
          have yc10 := kept HB.out (hc1 10 _ rfl)
          simp only [Nat.one_mul] at yc10
          have yc11 := kept HB.out (hc1 11 _ rfl)
          simp only [Nat.one_mul] at yc11
          have yc12 := kept HB.out (hc1 12 _ rfl)
          simp only [Nat.one_mul] at yc12
          have yc13 := kept HB.out z1
          simp only [Nat.one_mul] at yc13
          go_wp2_with fail
          refine (single_c y.1 B1 m1 c1 _ rfl _).mono ?_
          rintro e w2 ⟨rfl, hb2⟩
          replace HB := Lib.hid (on HB.out hb2)
          go_wp2_with fail
          go_ret
          exact ⟨ret_bool (by rw [← HR.out]; simp [formV, HK.out, HN.out, d1, d2, d4, HA.out, d5]), HB.out⟩

set_option maxRecDepth 100000 in
set_option maxHeartbeats 4000000 in
theorem form_7 (h : Hd) (A : Option Addr) (n c : Nat) (F : Fo) (hk : h.k = 7) (hs : ∀ x ∈ tops F, x.1.vt.size ≤ 281474976710656) (r : Bool) (hr : formV (h, F) = r) (w : World) (hz : KidsR w A n F) (hE : Errs w) : Calls Tryd.prog 16 #[.agg #[.int .i64 h.k, .int .i64 h.op, .int .i64 h.vk, .int .i64 h.vn, .string h.vt, .int .i64 h.ar, .int .i64 h.ac, .bool h.ah, .bool h.al, .int .i64 h.br, .int .i64 h.bc, .bool h.bh, .bool h.bl, .slice A n c]] w fun e w' => e = .returned (.bool r) ∧ Below w.heap.size w w' := by
  have HR := Lib.hid hr
  have HZ := Lib.hid hz
  have HN := Lib.hid hz.1.1
  have HE := Lib.hid hE
  have HS := Lib.hid hs
  have HK := Lib.hid hk
  have hn : n ≤ 9223372036854775807 := by have := hz.1.2; unfold maxLen at this; omega
  have HB := Lib.hid (below1 w (.cells #[.int .i64 h.k, .int .i64 h.op, .int .i64 h.vk, .int .i64 h.vn, .string h.vt, .int .i64 h.ar, .int .i64 h.ac, .bool h.ah, .bool h.al, .int .i64 h.br, .int .i64 h.bc, .bool h.bh, .bool h.bl, .slice A n c] 28))
  have HX := Lib.hid (CellsAt.new w [.int .i64 h.k, .int .i64 h.op, .int .i64 h.vk, .int .i64 h.vn, .string h.vt, .int .i64 h.ar, .int .i64 h.ac, .bool h.ah, .bool h.al, .int .i64 h.br, .int .i64 h.bc, .bool h.bh, .bool h.bl, .slice A n c] 28)
  clear hz hr hk hE hs
  go_enter Tryd.func16, Tryd.ntmps16
  have k1 : (h.k == 1) = false := by rw [HK.out]; rfl
  have k2 : (h.k == 2) = false := by rw [HK.out]; rfl
  have k3 : (h.k == 3) = false := by rw [HK.out]; rfl
  have k4 : (h.k == 4) = false := by rw [HK.out]; rfl
  have k5 : (h.k == 5) = false := by rw [HK.out]; rfl
  have k6 : (h.k == 6) = false := by rw [HK.out]; rfl
  have k7 : (h.k == 7) = true := by rw [HK.out]; rfl
  go_wp2_with fail
  refine (called_c h.op A n c F HS.out _ rfl _ (HZ.out.on HB.out) (HE.out.grown HB.out)).mono ?_
  rintro e w2 ⟨rfl, hb2⟩
  replace HB := Lib.hid (on HB.out hb2)
  go_wp2_with fail
  go_ret
  exact ⟨ret_bool (by rw [← HR.out]; simp [formV, HK.out, HN.out]), HB.out⟩

set_option maxRecDepth 100000 in
set_option maxHeartbeats 4000000 in
theorem form_0 (h : Hd) (A : Option Addr) (n c : Nat) (F : Fo) (hk : h.k ≠ 1 ∧ h.k ≠ 2 ∧ h.k ≠ 3 ∧ h.k ≠ 4 ∧ h.k ≠ 5 ∧ h.k ≠ 6 ∧ h.k ≠ 7) (hs : ∀ x ∈ tops F, x.1.vt.size ≤ 281474976710656) (r : Bool) (hr : formV (h, F) = r) (w : World) (hz : KidsR w A n F) (hE : Errs w) : Calls Tryd.prog 16 #[.agg #[.int .i64 h.k, .int .i64 h.op, .int .i64 h.vk, .int .i64 h.vn, .string h.vt, .int .i64 h.ar, .int .i64 h.ac, .bool h.ah, .bool h.al, .int .i64 h.br, .int .i64 h.bc, .bool h.bh, .bool h.bl, .slice A n c]] w fun e w' => e = .returned (.bool r) ∧ Below w.heap.size w w' := by
  have HR := Lib.hid hr
  have HZ := Lib.hid hz
  have HN := Lib.hid hz.1.1
  have HE := Lib.hid hE
  have HS := Lib.hid hs
  have HK := Lib.hid hk
  have hn : n ≤ 9223372036854775807 := by have := hz.1.2; unfold maxLen at this; omega
  have HB := Lib.hid (below1 w (.cells #[.int .i64 h.k, .int .i64 h.op, .int .i64 h.vk, .int .i64 h.vn, .string h.vt, .int .i64 h.ar, .int .i64 h.ac, .bool h.ah, .bool h.al, .int .i64 h.br, .int .i64 h.bc, .bool h.bh, .bool h.bl, .slice A n c] 28))
  have HX := Lib.hid (CellsAt.new w [.int .i64 h.k, .int .i64 h.op, .int .i64 h.vk, .int .i64 h.vn, .string h.vt, .int .i64 h.ar, .int .i64 h.ac, .bool h.ah, .bool h.al, .int .i64 h.br, .int .i64 h.bc, .bool h.bh, .bool h.bl, .slice A n c] 28)
  clear hz hr hk hE hs
  go_enter Tryd.func16, Tryd.ntmps16
  have k1 : (h.k == 1) = false := beq_eq_false_iff_ne.2 HK.out.1
  have k2 : (h.k == 2) = false := beq_eq_false_iff_ne.2 HK.out.2.1
  have k3 : (h.k == 3) = false := beq_eq_false_iff_ne.2 HK.out.2.2.1
  have k4 : (h.k == 4) = false := beq_eq_false_iff_ne.2 HK.out.2.2.2.1
  have k5 : (h.k == 5) = false := beq_eq_false_iff_ne.2 HK.out.2.2.2.2.1
  have k6 : (h.k == 6) = false := beq_eq_false_iff_ne.2 HK.out.2.2.2.2.2.1
  have k7 : (h.k == 7) = false := beq_eq_false_iff_ne.2 HK.out.2.2.2.2.2.2
  go_wp2_with fail
  go_ret
  exact ⟨ret_bool (by rw [← HR.out]; simp [formV, HK.out.1, HK.out.2.1, HK.out.2.2.1, HK.out.2.2.2.1, HK.out.2.2.2.2.1, HK.out.2.2.2.2.2.1, HK.out.2.2.2.2.2.2]), HB.out⟩

theorem formed_c (h : Hd) (A : Option Addr) (n c : Nat) (F : Fo) (hs : ∀ x ∈ tops F, x.1.vt.size ≤ 281474976710656) (r : Bool) (hr : formV (h, F) = r) (w : World) (hz : KidsR w A n F) (hE : Errs w) : Calls Tryd.prog 16 #[.agg #[.int .i64 h.k, .int .i64 h.op, .int .i64 h.vk, .int .i64 h.vn, .string h.vt, .int .i64 h.ar, .int .i64 h.ac, .bool h.ah, .bool h.al, .int .i64 h.br, .int .i64 h.bc, .bool h.bh, .bool h.bl, .slice A n c]] w fun e w' => e = .returned (.bool r) ∧ Below w.heap.size w w' := by
  by_cases h1 : h.k = 1
  · exact form_1 h A n c F h1 hs r hr w hz hE
  by_cases h2 : h.k = 2
  · exact form_2 h A n c F h2 hs r hr w hz hE
  by_cases h3 : h.k = 3
  · exact form_3 h A n c F h3 hs r hr w hz hE
  by_cases h4 : h.k = 4
  · exact form_4 h A n c F h4 hs r hr w hz hE
  by_cases h5 : h.k = 5
  · exact form_5 h A n c F h5 hs r hr w hz hE
  by_cases h6 : h.k = 6
  · exact form_6 h A n c F h6 hs r hr w hz hE
  by_cases h7 : h.k = 7
  · exact form_7 h A n c F h7 hs r hr w hz hE
  exact form_0 h A n c F ⟨h1, h2, h3, h4, h5, h6, h7⟩ hs r hr w hz hE
/-- has a node nothing that one of its kind may not have? -/
def okP (h : Hd) (n : Nat) : Bool :=
  if h.k = 1 then !hasF h n 0 && (!hasF h n 2 && (!hasF h n 3 && !hasF h n 4)) else if h.k = 3 then !hasF h n 0 && (!hasF h n 1 && (!hasF h n 3 && !hasF h n 4))
  else if h.k = 4 then !hasF h n 0 && (!hasF h n 1 && !hasF h n 4) else if h.k = 5 then !hasF h n 0 && (!hasF h n 1 && (!hasF h n 2 && !hasF h n 3))
  else if h.k = 6 ∨ h.k = 7 then !hasF h n 1 && (!hasF h n 2 && !hasF h n 3) else !hasF h n 0 && (!hasF h n 1 && (!hasF h n 2 && (!hasF h n 3 && !hasF h n 4)))
theorem and_ok (h : Hd) (n : Nat) : (bits .andNot .i64 (setF (hasF h n) 5) (ownN h.k) != 0) = !okP h n := by
  unfold okP ownN setF
  generalize hasF h n 0 = b0
  generalize hasF h n 1 = b1
  generalize hasF h n 2 = b2
  generalize hasF h n 3 = b3
  generalize hasF h n 4 = b4
  by_cases h1 : h.k = 1
  · rw [if_pos h1, if_pos h1]; cases b0 <;> cases b1 <;> cases b2 <;> cases b3 <;> cases b4 <;> rfl
  rw [if_neg h1, if_neg h1]
  by_cases h3 : h.k = 3
  · rw [if_pos h3, if_pos h3]; cases b0 <;> cases b1 <;> cases b2 <;> cases b3 <;> cases b4 <;> rfl
  rw [if_neg h3, if_neg h3]
  by_cases h4 : h.k = 4
  · rw [if_pos h4, if_pos h4]; cases b0 <;> cases b1 <;> cases b2 <;> cases b3 <;> cases b4 <;> rfl
  rw [if_neg h4, if_neg h4]
  by_cases h5 : h.k = 5
  · rw [if_pos h5, if_pos h5]; cases b0 <;> cases b1 <;> cases b2 <;> cases b3 <;> cases b4 <;> rfl
  rw [if_neg h5, if_neg h5]
  by_cases h6 : h.k = 6
  · rw [if_pos h6, if_pos (.inl h6)]; cases b0 <;> cases b1 <;> cases b2 <;> cases b3 <;> cases b4 <;> rfl
  rw [if_neg h6]
  by_cases h7 : h.k = 7
  · rw [if_pos h7, if_pos (.inr h7)]; cases b0 <;> cases b1 <;> cases b2 <;> cases b3 <;> cases b4 <;> rfl
  rw [if_neg h7, if_neg (by simp [h6, h7])]; cases b0 <;> cases b1 <;> cases b2 <;> cases b3 <;> cases b4 <;> rfl
theorem lit_same (h : Hd) : (plainT h && litB h) = litW h := by
  have empty : h.vt.size = 0 → plainT h = true := fun e => by
    unfold plainT
    rw [show h.vt.data.toList = [] from List.length_eq_zero_iff.1 (by rw [Array.length_toList]; exact e)]
    rfl
  unfold litB litW
  by_cases h2 : h.vk = 2
  · rw [if_pos h2, h2]
    cases hm : Val.mayV 2 h.vn h.vt with
    | false => simp
    | true =>
      have : h.vn = 0 := by simp [Val.mayV] at hm; exact hm.1
      simp [this]
  rw [if_neg h2]
  by_cases h1 : h.vk = 1
  · rw [if_pos h1, h1]
    cases hm : Val.mayV 1 h.vn h.vt with
    | false => simp
    | true =>
      have : h.vt.size = 0 := by simp [Val.mayV] at hm; rw [hm.1]; rfl
      simp [empty this]
  rw [if_neg h1]
  by_cases h3 : h.vk = 3
  · rw [if_pos h3, h3]
    cases hm : Val.mayV 3 h.vn h.vt with
    | false => simp
    | true =>
      have hm2 : h.vt.size = 0 ∧ (h.vn = 0 ∨ h.vn = 1) := by simpa [Val.mayV] using hm
      have h0 : 0 ≤ h.vn := by rcases hm2.2 with e | e <;> omega
      simp [empty hm2.1, h0]
  rw [if_neg h3]
  by_cases h0 : 1 ≤ h.vk
  · rw [decide_eq_false (show ¬ h.vk ≤ 3 by omega)]; simp
  · rw [decide_eq_false h0]; simp
theorem one_split (x : Nd) : oneV x = (okP x.1 (arity x.2) && formV x) := by
  have e0 : hasF x.1 (arity x.2) 0 = !(x.1.op == 0) := rfl
  have e1 : hasF x.1 (arity x.2) 1 = !zV x.1 := rfl
  have e2 : hasF x.1 (arity x.2) 2 = !zA x.1 := rfl
  have e3 : hasF x.1 (arity x.2) 3 = !zB x.1 := rfl
  have e4 : hasF x.1 (arity x.2) 4 = !((arity x.2 : Int) == 0) := rfl
  unfold oneV okP formV bareB
  rw [e0, e1, e2, e3, e4, ← lit_same]
  generalize (x.1.op == 0) = b0
  generalize zV x.1 = b1
  generalize zA x.1 = b2
  generalize zB x.1 = b3
  generalize ((arity x.2 : Int) == 0) = b4
  by_cases h1 : x.1.k = 1
  · simp only [if_pos h1]; cases b0 <;> cases b2 <;> cases b3 <;> cases b4 <;> simp
  simp only [if_neg h1]
  by_cases h2 : x.1.k = 2
  · simp only [h2]; cases b0 <;> cases b1 <;> cases b2 <;> cases b3 <;> cases b4 <;> simp
  simp only [if_neg h2]
  by_cases h3 : x.1.k = 3
  · simp only [if_pos h3]; cases b0 <;> cases b1 <;> cases b3 <;> cases b4 <;> simp
  simp only [if_neg h3]
  by_cases h4 : x.1.k = 4
  · simp only [if_pos h4]; cases b0 <;> cases b1 <;> cases b4 <;> simp
  simp only [if_neg h4]
  by_cases h5 : x.1.k = 5
  · simp only [if_pos h5]; cases b0 <;> cases b1 <;> cases b2 <;> cases b3 <;> simp
  simp only [if_neg h5]
  by_cases h6 : x.1.k = 6
  · simp only [h6]; cases b1 <;> cases b2 <;> cases b3 <;> simp
  simp only [if_neg h6]
  by_cases h7 : x.1.k = 7
  · simp only [h7]; cases b1 <;> cases b2 <;> cases b3 <;> simp
  simp only [if_neg h7]
  simp

set_option maxRecDepth 100000 in
set_option maxHeartbeats 4000000 in
theorem right_step (h : Hd) (A : Option Addr) (n c : Nat) (F : Fo) (hs : ∀ x ∈ tops F, x.1.vt.size ≤ 281474976710656)
    (HC : ∀ x ∈ tops F, ∀ (A : Option Addr) (n c : Nat) (w : World), KidsR w A n x.2 → Errs w → Calls Tryd.prog 6 #[.agg #[.int .i64 x.1.k, .int .i64 x.1.op, .int .i64 x.1.vk, .int .i64 x.1.vn, .string x.1.vt, .int .i64 x.1.ar, .int .i64 x.1.ac, .bool x.1.ah, .bool x.1.al, .int .i64 x.1.br, .int .i64 x.1.bc, .bool x.1.bh, .bool x.1.bl, .slice A n c]] w fun e w' => e = .returned (.bool ((x :: flat x.2).all oneV)) ∧ Below w.heap.size w w')
    (r : Bool) (hr : ((h, F) :: flat F).all oneV = r) (w : World) (hz : KidsR w A n F) (hE : Errs w) : Calls Tryd.prog 6 #[.agg #[.int .i64 h.k, .int .i64 h.op, .int .i64 h.vk, .int .i64 h.vn, .string h.vt, .int .i64 h.ar, .int .i64 h.ac, .bool h.ah, .bool h.al, .int .i64 h.br, .int .i64 h.bc, .bool h.bh, .bool h.bl, .slice A n c]] w fun e w' => e = .returned (.bool r) ∧ Below w.heap.size w w' := by
  have HR := Lib.hid hr
  have HZ := Lib.hid hz
  have HC := Lib.hid HC
  have HN := Lib.hid hz.1.1
  have HE := Lib.hid hE
  have hn : n ≤ 9223372036854775807 := by have := hz.1.2; unfold maxLen at this; omega
  have HP := Lib.hid (fun w1 => parts_c h A n c w1)
  have HO := Lib.hid (fun w1 => (own_c h.k w1).mono fun e w2 h2 => (⟨h2.1, h2.2 ▸ Below.refl _ _⟩ : e = .returned (.int .i64 (ownN h.k)) ∧ Below w1.heap.size w1 w2))
  have HFV := fun v (hv : formV (h, F) = v) => fun w1 (hw : Below w.heap.size w w1) => formed_c h A n c F hs v hv w1 (hz.on hw) (hE.grown hw)
  have hd := and_ok h n
  have hsplit := one_split (h, F)
  rw [show arity (h, F).2 = n from hz.1.1] at hsplit
  have hbb := below1 w (.cells #[.int .i64 h.k, .int .i64 h.op, .int .i64 h.vk, .int .i64 h.vn, .string h.vt, .int .i64 h.ar, .int .i64 h.ac, .bool h.ah, .bool h.al, .int .i64 h.br, .int .i64 h.bc, .bool h.bh, .bool h.bl, .slice A n c] 28)
  have hX := CellsAt.new w [.int .i64 h.k, .int .i64 h.op, .int .i64 h.vk, .int .i64 h.vn, .string h.vt, .int .i64 h.ar, .int .i64 h.ac, .bool h.ah, .bool h.al, .int .i64 h.br, .int .i64 h.bc, .bool h.bh, .bool h.bl, .slice A n c] 28
  generalize setF (hasF h n) 5 = z at *
  generalize ownN h.k = y at *
  clear hz hr hE hs
  cases hP : okP h n with
  | false =>
    have dP : (bits .andNot .i64 z y != 0) = true := by rw [hd, hP]; rfl
    have H0 : Hid (r = false) := Lib.hid (by rw [← HR.out, List.all_cons, hsplit]; simp [hP])
    clear hd hsplit hP HFV
    go_enter Tryd.func6, Tryd.ntmps6
    go_wp2_with fail
    generalize w.alloc (.cells #[.int .i64 h.k, .int .i64 h.op, .int .i64 h.vk, .int .i64 h.vn, .string h.vt, .int .i64 h.ar, .int .i64 h.ac, .bool h.ah, .bool h.al, .int .i64 h.br, .int .i64 h.bc, .bool h.bh, .bool h.bl, .slice A n c] 28) = W at *
    have Q0 := fun d os => cell_regrown (hX.2 0 _ rfl).1 d os
    have Q1 := fun d os => cell_regrown (hX.2 1 _ rfl).1 d os
    have Q2 := fun d os => cell_regrown (hX.2 2 _ rfl).1 d os
    have Q3 := fun d os => cell_regrown (hX.2 3 _ rfl).1 d os
    have Q4 := fun d os => cell_regrown (hX.2 4 _ rfl).1 d os
    have Q5 := fun d os => cell_regrown (hX.2 5 _ rfl).1 d os
    have Q6 := fun d os => cell_regrown (hX.2 6 _ rfl).1 d os
    have Q7 := fun d os => cell_regrown (hX.2 7 _ rfl).1 d os
    have Q8 := fun d os => cell_regrown (hX.2 8 _ rfl).1 d os
    have Q9 := fun d os => cell_regrown (hX.2 9 _ rfl).1 d os
    have Q10 := fun d os => cell_regrown (hX.2 10 _ rfl).1 d os
    have Q11 := fun d os => cell_regrown (hX.2 11 _ rfl).1 d os
    have Q12 := fun d os => cell_regrown (hX.2 12 _ rfl).1 d os
    have Q13 := fun d os => cell_regrown (hX.2 13 _ rfl).1 d os
    refine wp_region_mem 12 (fun d => match d with
        | 6 => some (Is (.int .i64 z))
        | 9 => some (Is (.int .i64 y))
        | 14 => some (Is (.bool false))
        | _ => none) (by kernel_rfl) (by kernel_rfl) ?_
    simp only [List.take_succ_cons, List.take_zero, List.drop_succ_cons, List.drop_zero]
    repeat (first | ((with_reducible refine wpM_calm ?_ ?_ ?_ ?_); exact rfl; exact rfl; exact rfl; intro K hK; go_big_quiet_op; go_big_quiet_on) | ((with_reducible refine wpM_skip ?_ ?_); exact rfl; simp only [Act.put, List.setIfInBounds_toArray, List.set_cons_succ, List.set_cons_zero]))
    refine wpM_exact rfl rfl rfl Tryd.func14 (by kernel_rfl) (by kernel_rfl) (fun w1 _ _ => HP.out w1) rfl (by simp only [Act.put, List.setIfInBounds_toArray, List.set_cons_succ, List.set_cons_zero]; rfl) ?_
    repeat (first | ((with_reducible refine wpM_calm ?_ ?_ ?_ ?_); exact rfl; exact rfl; exact rfl; intro K hK; go_big_quiet_op; go_big_quiet_on) | ((with_reducible refine wpM_skip ?_ ?_); exact rfl; simp only [Act.put, List.setIfInBounds_toArray, List.set_cons_succ, List.set_cons_zero]))
    refine wpM_exact rfl rfl rfl Tryd.func15 (by kernel_rfl) (by kernel_rfl) (fun w1 _ _ => HO.out w1) rfl (by simp only [Act.put, List.setIfInBounds_toArray, List.set_cons_succ, List.set_cons_zero]; rfl) ?_
    repeat (first | ((with_reducible refine wpM_calm ?_ ?_ ?_ ?_); exact rfl; exact rfl; exact rfl; intro K hK; go_big_quiet_op; go_big_quiet_on) | ((with_reducible refine wpM_skip ?_ ?_); exact rfl; simp only [Act.put, List.setIfInBounds_toArray, List.set_cons_succ, List.set_cons_zero]))
    refine wpM_nil ?_
    intro w9 hw9 _
    have hb := on hbb hw9
    have hX9 := hX.on hw9
    clear Q0 Q1 Q2 Q3 Q4 Q5 Q6 Q7 Q8 Q9 Q10 Q11 Q12 Q13
    clear hX hX9 hbb HP HO hw9
    go_wp2_with fail
    go_ret
    exact ⟨ret_bool H0.out.symm, hb⟩
  | true =>
    have dP : (bits .andNot .i64 z y != 0) = false := by rw [hd, hP]; rfl
    cases hV : formV (h, F) with
    | false =>
      have H0 : Hid (r = false) := Lib.hid (by rw [← HR.out, List.all_cons, hsplit]; simp [hV])
      have HQ := Lib.hid (HFV false hV)
      clear hd hsplit hP HFV hV
      go_enter Tryd.func6, Tryd.ntmps6
      go_wp2_with fail
      generalize w.alloc (.cells #[.int .i64 h.k, .int .i64 h.op, .int .i64 h.vk, .int .i64 h.vn, .string h.vt, .int .i64 h.ar, .int .i64 h.ac, .bool h.ah, .bool h.al, .int .i64 h.br, .int .i64 h.bc, .bool h.bh, .bool h.bl, .slice A n c] 28) = W at *
      have Q0 := fun d os => cell_regrown (hX.2 0 _ rfl).1 d os
      have Q1 := fun d os => cell_regrown (hX.2 1 _ rfl).1 d os
      have Q2 := fun d os => cell_regrown (hX.2 2 _ rfl).1 d os
      have Q3 := fun d os => cell_regrown (hX.2 3 _ rfl).1 d os
      have Q4 := fun d os => cell_regrown (hX.2 4 _ rfl).1 d os
      have Q5 := fun d os => cell_regrown (hX.2 5 _ rfl).1 d os
      have Q6 := fun d os => cell_regrown (hX.2 6 _ rfl).1 d os
      have Q7 := fun d os => cell_regrown (hX.2 7 _ rfl).1 d os
      have Q8 := fun d os => cell_regrown (hX.2 8 _ rfl).1 d os
      have Q9 := fun d os => cell_regrown (hX.2 9 _ rfl).1 d os
      have Q10 := fun d os => cell_regrown (hX.2 10 _ rfl).1 d os
      have Q11 := fun d os => cell_regrown (hX.2 11 _ rfl).1 d os
      have Q12 := fun d os => cell_regrown (hX.2 12 _ rfl).1 d os
      have Q13 := fun d os => cell_regrown (hX.2 13 _ rfl).1 d os
      refine wp_region_mem 12 (fun d => match d with
          | 6 => some (Is (.int .i64 z))
          | 9 => some (Is (.int .i64 y))
          | 14 => some (Is (.bool false))
          | _ => none) (by kernel_rfl) (by kernel_rfl) ?_
      simp only [List.take_succ_cons, List.take_zero, List.drop_succ_cons, List.drop_zero]
      repeat (first | ((with_reducible refine wpM_calm ?_ ?_ ?_ ?_); exact rfl; exact rfl; exact rfl; intro K hK; go_big_quiet_op; go_big_quiet_on) | ((with_reducible refine wpM_skip ?_ ?_); exact rfl; simp only [Act.put, List.setIfInBounds_toArray, List.set_cons_succ, List.set_cons_zero]))
      refine wpM_exact rfl rfl rfl Tryd.func14 (by kernel_rfl) (by kernel_rfl) (fun w1 _ _ => HP.out w1) rfl (by simp only [Act.put, List.setIfInBounds_toArray, List.set_cons_succ, List.set_cons_zero]; rfl) ?_
      repeat (first | ((with_reducible refine wpM_calm ?_ ?_ ?_ ?_); exact rfl; exact rfl; exact rfl; intro K hK; go_big_quiet_op; go_big_quiet_on) | ((with_reducible refine wpM_skip ?_ ?_); exact rfl; simp only [Act.put, List.setIfInBounds_toArray, List.set_cons_succ, List.set_cons_zero]))
      refine wpM_exact rfl rfl rfl Tryd.func15 (by kernel_rfl) (by kernel_rfl) (fun w1 _ _ => HO.out w1) rfl (by simp only [Act.put, List.setIfInBounds_toArray, List.set_cons_succ, List.set_cons_zero]; rfl) ?_
      repeat (first | ((with_reducible refine wpM_calm ?_ ?_ ?_ ?_); exact rfl; exact rfl; exact rfl; intro K hK; go_big_quiet_op; go_big_quiet_on) | ((with_reducible refine wpM_skip ?_ ?_); exact rfl; simp only [Act.put, List.setIfInBounds_toArray, List.set_cons_succ, List.set_cons_zero]))
      refine wpM_exact rfl rfl rfl Tryd.func16 (by kernel_rfl) (by kernel_rfl) (fun w1 hw1 _ => HQ.out w1 (on hbb hw1)) rfl (by simp only [Act.put, List.setIfInBounds_toArray, List.set_cons_succ, List.set_cons_zero]; rfl) ?_
      repeat (first | ((with_reducible refine wpM_calm ?_ ?_ ?_ ?_); exact rfl; exact rfl; exact rfl; intro K hK; go_big_quiet_op; go_big_quiet_on) | ((with_reducible refine wpM_skip ?_ ?_); exact rfl; simp only [Act.put, List.setIfInBounds_toArray, List.set_cons_succ, List.set_cons_zero]))
      refine wpM_nil ?_
      intro w9 hw9 _
      have hb := on hbb hw9
      have hX9 := hX.on hw9
      clear Q0 Q1 Q2 Q3 Q4 Q5 Q6 Q7 Q8 Q9 Q10 Q11 Q12 Q13
      clear hX hX9 hbb HP HO HQ hw9
      go_wp2_with fail
      go_ret
      exact ⟨ret_bool H0.out.symm, hb⟩
    | true =>
      have H1 : Hid ((flat F).all oneV = r) := Lib.hid (by rw [← HR.out, List.all_cons, hsplit]; simp [hP, hV])
      have HQ := Lib.hid (HFV true hV)
      clear hd hsplit hP HFV hV
      go_enter Tryd.func6, Tryd.ntmps6
      go_wp2_with fail
      generalize w.alloc (.cells #[.int .i64 h.k, .int .i64 h.op, .int .i64 h.vk, .int .i64 h.vn, .string h.vt, .int .i64 h.ar, .int .i64 h.ac, .bool h.ah, .bool h.al, .int .i64 h.br, .int .i64 h.bc, .bool h.bh, .bool h.bl, .slice A n c] 28) = W at *
      have Q0 := fun d os => cell_regrown (hX.2 0 _ rfl).1 d os
      have Q1 := fun d os => cell_regrown (hX.2 1 _ rfl).1 d os
      have Q2 := fun d os => cell_regrown (hX.2 2 _ rfl).1 d os
      have Q3 := fun d os => cell_regrown (hX.2 3 _ rfl).1 d os
      have Q4 := fun d os => cell_regrown (hX.2 4 _ rfl).1 d os
      have Q5 := fun d os => cell_regrown (hX.2 5 _ rfl).1 d os
      have Q6 := fun d os => cell_regrown (hX.2 6 _ rfl).1 d os
      have Q7 := fun d os => cell_regrown (hX.2 7 _ rfl).1 d os
      have Q8 := fun d os => cell_regrown (hX.2 8 _ rfl).1 d os
      have Q9 := fun d os => cell_regrown (hX.2 9 _ rfl).1 d os
      have Q10 := fun d os => cell_regrown (hX.2 10 _ rfl).1 d os
      have Q11 := fun d os => cell_regrown (hX.2 11 _ rfl).1 d os
      have Q12 := fun d os => cell_regrown (hX.2 12 _ rfl).1 d os
      have Q13 := fun d os => cell_regrown (hX.2 13 _ rfl).1 d os
      refine wp_region_mem 12 (fun d => match d with
          | 6 => some (Is (.int .i64 z))
          | 9 => some (Is (.int .i64 y))
          | 14 => some (Is (.bool true))
          | _ => none) (by kernel_rfl) (by kernel_rfl) ?_
      simp only [List.take_succ_cons, List.take_zero, List.drop_succ_cons, List.drop_zero]
      repeat (first | ((with_reducible refine wpM_calm ?_ ?_ ?_ ?_); exact rfl; exact rfl; exact rfl; intro K hK; go_big_quiet_op; go_big_quiet_on) | ((with_reducible refine wpM_skip ?_ ?_); exact rfl; simp only [Act.put, List.setIfInBounds_toArray, List.set_cons_succ, List.set_cons_zero]))
      refine wpM_exact rfl rfl rfl Tryd.func14 (by kernel_rfl) (by kernel_rfl) (fun w1 _ _ => HP.out w1) rfl (by simp only [Act.put, List.setIfInBounds_toArray, List.set_cons_succ, List.set_cons_zero]; rfl) ?_
      repeat (first | ((with_reducible refine wpM_calm ?_ ?_ ?_ ?_); exact rfl; exact rfl; exact rfl; intro K hK; go_big_quiet_op; go_big_quiet_on) | ((with_reducible refine wpM_skip ?_ ?_); exact rfl; simp only [Act.put, List.setIfInBounds_toArray, List.set_cons_succ, List.set_cons_zero]))
      refine wpM_exact rfl rfl rfl Tryd.func15 (by kernel_rfl) (by kernel_rfl) (fun w1 _ _ => HO.out w1) rfl (by simp only [Act.put, List.setIfInBounds_toArray, List.set_cons_succ, List.set_cons_zero]; rfl) ?_
      repeat (first | ((with_reducible refine wpM_calm ?_ ?_ ?_ ?_); exact rfl; exact rfl; exact rfl; intro K hK; go_big_quiet_op; go_big_quiet_on) | ((with_reducible refine wpM_skip ?_ ?_); exact rfl; simp only [Act.put, List.setIfInBounds_toArray, List.set_cons_succ, List.set_cons_zero]))
      refine wpM_exact rfl rfl rfl Tryd.func16 (by kernel_rfl) (by kernel_rfl) (fun w1 hw1 _ => HQ.out w1 (on hbb hw1)) rfl (by simp only [Act.put, List.setIfInBounds_toArray, List.set_cons_succ, List.set_cons_zero]; rfl) ?_
      repeat (first | ((with_reducible refine wpM_calm ?_ ?_ ?_ ?_); exact rfl; exact rfl; exact rfl; intro K hK; go_big_quiet_op; go_big_quiet_on) | ((with_reducible refine wpM_skip ?_ ?_); exact rfl; simp only [Act.put, List.setIfInBounds_toArray, List.set_cons_succ, List.set_cons_zero]))
      refine wpM_nil ?_
      intro w9 hw9 _
      have hb := on hbb hw9
      have hX9 := hX.on hw9
      clear Q0 Q1 Q2 Q3 Q4 Q5 Q6 Q7 Q8 Q9 Q10 Q11 Q12 Q13
      have p13 := (hX9.2 13 _ rfl).1
      clear hX hX9 hbb HP HO HQ hw9
      go_wp2_with fail
      go_loopw [20] (fun x wr => ∃ i : Nat, i ≤ n ∧ x = .int .i64 i ∧ Hid ((flt ((tops F).take i)).all oneV = true) ∧ Below w9.heap.size w9 wr) (fun x _ => n - (intOf x).toNat)
      case atStart => exact ⟨0, Nat.zero_le _, rfl, Lib.hid rfl, Below.refl _ _⟩
      case round =>
        clear p13
        obtain ⟨i, hi, rfl, HA, hbr⟩ := hrel
        by_cases hlt : i < n
        · obtain ⟨x, hx⟩ := HZ.out.get hlt
          obtain ⟨b, o, rfl, hblt, hcell, B, m2, c2, y13, hk⟩ := (HZ.out.on (on hb hbr)).at hx
          have y0 : wr.cell? ⟨b, o + i * 14, none⟩ = some (.int .i64 x.1.k) := hcell 0 _ rfl
          have y1 := hcell 1 _ rfl
          have y2 := hcell 2 _ rfl
          have y3 := hcell 3 _ rfl
          have y4 := hcell 4 _ rfl
          have y5 := hcell 5 _ rfl
          have y6 := hcell 6 _ rfl
          have y7 := hcell 7 _ rfl
          have y8 := hcell 8 _ rfl
          have y9 := hcell 9 _ rfl
          have y10 := hcell 10 _ rfl
          have y11 := hcell 11 _ rfl
          have y12 := hcell 12 _ rfl
          have HXX := Lib.hid hx
          have HH := Lib.hid (fun w1 (hw : Below wr.heap.size wr w1) => HC.out x (List.mem_of_getElem? hx) B m2 c2 w1 (hk.on hw) (HE.out.grown (on hb (on hbr hw))))
          have HF2 : Hid (flt ((tops F).take (i + 1)) = flt ((tops F).take i) ++ (x :: flat x.2)) := Lib.hid (by rw [take_snoc hx, flt_snoc])
          clear hx hcell hk
          cases hv : (x :: flat x.2).all oneV with
          | true =>
            rw [hv] at HH
            have HN2 : Hid ((flt ((tops F).take (i + 1))).all oneV = true) := Lib.hid (by rw [HF2.out, List.all_append, HA.out, hv]; rfl)
            clear hv
            go_wp2_with fail
            refine (HH.out _ (below1 _ _)).mono ?_
            rintro e w2 ⟨rfl, hb2⟩
            replace hbr := on (on_alloc hbr _) hb2
            go_wp2_with fail
            go_roundw
            case rel => exact ⟨i + 1, by omega, by go_num, HN2, hbr⟩
            case measure => simp [intOf]; omega
          | false =>
            rw [hv] at HH
            have H0 : Hid (r = false) := Lib.hid (by
              rw [← H1.out, ← flt_tops]
              have e : flt (tops F) = flt ((tops F).take (i + 1)) ++ flt ((tops F).drop (i + 1)) := by
                unfold flt
                rw [← List.flatten_append, ← List.map_append, List.take_append_drop]
              rw [e, HF2.out, List.all_append, List.all_append, hv]
              simp)
            clear hv
            go_wp2_with fail
            refine (HH.out _ (below1 _ _)).mono ?_
            rintro e w2 ⟨rfl, hb2⟩
            replace hbr := on (on_alloc hbr _) hb2
            go_wp2_with fail
            go_ret
            exact ⟨ret_bool H0.out.symm, on hb hbr⟩
        · obtain rfl : n = i := by omega
          have H0 : Hid (true = r) := Lib.hid (by
            rw [← H1.out, ← flt_tops]
            have h1 := HA.out
            rw [List.take_of_length_le (by have := HN.out; unfold arity at this; omega)] at h1
            exact h1.symm)
          go_wp2_with fail
          go_ret
          exact ⟨ret_bool H0.out, on hb hbr⟩
theorem right_c : ∀ (N : Nat) (h : Hd) (A : Option Addr) (n c : Nat) (F : Fo), count F ≤ N → (∀ x ∈ flat F, x.1.vt.size ≤ 281474976710656) → ∀ (r : Bool), ((h, F) :: flat F).all oneV = r → ∀ (w : World), KidsR w A n F → Errs w → Calls Tryd.prog 6 #[.agg #[.int .i64 h.k, .int .i64 h.op, .int .i64 h.vk, .int .i64 h.vn, .string h.vt, .int .i64 h.ar, .int .i64 h.ac, .bool h.ah, .bool h.al, .int .i64 h.br, .int .i64 h.bc, .bool h.bh, .bool h.bl, .slice A n c]] w fun e w' => e = .returned (.bool r) ∧ Below w.heap.size w w'
  | 0, h, A, n, c, F, hN, hs, r, hr, w, hz, hE => right_step h A n c F (fun x hx => hs x (top_flat hx)) (fun x hx => absurd (top_count hx) (by omega)) r hr w hz hE
  | N + 1, h, A, n, c, F, hN, hs, r, hr, w, hz, hE => right_step h A n c F (fun x hx => hs x (top_flat hx)) (fun x hx A' n' c' w' hz' hE' => right_c N x.1 A' n' c' x.2 (by have := top_count hx; omega) (fun y hy => hs y (flat_flat (top_flat hx) hy)) _ rfl w' hz' hE') r hr w hz hE
end Go.Proofs.YtcgpggknmhlnkaaDoor.Nod

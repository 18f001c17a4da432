/- The sum of the products, the reference's way: its Products. Written by wip/gen18j.py. -/
import Derived.Test.YtbjomidkeignjaaGreatDoorL6
import Derived.Test.YtbjomidkeignjaaGreatDoorG3
import Derived.Test.YtbjomidkeignjaaGreatDoorG8
namespace Go.Proofs.YtbjomidkeignjaaGreatDoor.Lok
open Go.RowKit Kit Reg Dec Dig Val Fld

set_option maxRecDepth 100000 in
set_option maxHeartbeats 4000000 in
theorem rproducts_rows (ra ca : Int) (A : Option Addr) (n1 d1 : Nat) (rb cb : Int) (B : Option Addr) (n2 d2 : Nat) (hne : ¬ ra = rb) (w : World) :
    Calls Tryz.prog 29 #[.agg #[.int .i64 ra, .int .i64 ca, .slice A n1 d1], .agg #[.int .i64 rb, .int .i64 cb, .slice B n2 d2]] w (ValIs 4 2 ⟨#[]⟩ w) := by
  have qura4 : (ra == rb) = false := by rw [beq_eq_false_iff_ne]; exact hne
  have qura5 : (ra != rb) = true := by simp only [bne, qura4]; rfl
  have HB : Hid (∀ w1, Calls Tryz.prog 41 #[.int .i64 2] w1 (ValIs 4 2 ⟨#[]⟩ w1)) := Lib.hid (fun w1 => rbad_c 2 w1)
  have ha0 := ((CellsAt.new w [.int .i64 ra, .int .i64 ca, .slice A n1 d1] 24).on_alloc (.cells #[.int .i64 rb, .int .i64 cb, .slice B n2 d2] 24)).on_alloc (.cells #[.int .i64 0, .int .i64 0, .string ⟨#[]⟩] 26)
  have ht0 := (newAt (w0 := w.alloc (.cells #[.int .i64 ra, .int .i64 ca, .slice A n1 d1] 24)) (g := w.heap.size + 1) (by simp) [.int .i64 rb, .int .i64 cb, .slice B n2 d2] 24).on_alloc (.cells #[.int .i64 0, .int .i64 0, .string ⟨#[]⟩] 26)
  have hr0 := newAt (w0 := (w.alloc (.cells #[.int .i64 ra, .int .i64 ca, .slice A n1 d1] 24)).alloc (.cells #[.int .i64 rb, .int .i64 cb, .slice B n2 d2] 24)) (g := w.heap.size + 2) (by simp) [.int .i64 0, .int .i64 0, .string ⟨#[]⟩] 26
  have hb0 := below3 w (.cells #[.int .i64 ra, .int .i64 ca, .slice A n1 d1] 24) (.cells #[.int .i64 rb, .int .i64 cb, .slice B n2 d2] 24) (.cells #[.int .i64 0, .int .i64 0, .string ⟨#[]⟩] 26)
  obtain ⟨a0, a1, a2, _⟩ := ha0.three
  obtain ⟨t0, t1, t2, _⟩ := ht0.three
  go_enter Tryz.func29, Tryz.ntmps29
  go_wp2_with fail
  generalize ((w.alloc (.cells #[.int .i64 ra, .int .i64 ca, .slice A n1 d1] 24)).alloc (.cells #[.int .i64 rb, .int .i64 cb, .slice B n2 d2] 24)).alloc (.cells #[.int .i64 0, .int .i64 0, .string ⟨#[]⟩] 26) = W at *
  refine (HB.out _).mono ?_
  rintro e w3 ⟨rfl, hb3⟩
  clear a0 a1 a2 t0 t1 t2
  replace ha0 := ha0.on hb3
  replace ht0 := ht0.on hb3
  replace hr0 := hr0.on hb3
  replace hb0 := on hb0 hb3
  clear HB hb3
  obtain ⟨p0, p1, p2, f0, f1, f2⟩ := hr0.three
  have hl := hr0.1
  obtain ⟨z0, z1, z2⟩ := three_set (u := .int .i64 4) (v := .int .i64 2) (r := .string ⟨#[]⟩) p0 p1 p2
  have hb5 := set3 hb0 (b := w.heap.size + 2) (by omega) (.int .i64 4) (.int .i64 2) (.string ⟨#[]⟩)
  clear hb0 hr0 ha0 ht0
  go_wp2_with fail
  exact bodyPost_ret (v := .agg #[.int .i64 4, .int .i64 2, .string ⟨#[]⟩]) (by simp [results, Tryz.results29, go_sem, z0, z1, z2]) rfl ⟨rfl, hb5⟩
set_option maxRecDepth 100000 in
set_option maxHeartbeats 4000000 in
theorem rproducts_cols (ra ca : Int) (A : Option Addr) (n1 d1 : Nat) (cb : Int) (B : Option Addr) (n2 d2 : Nat) (hne : ¬ ca = cb) (w : World) :
    Calls Tryz.prog 29 #[.agg #[.int .i64 ra, .int .i64 ca, .slice A n1 d1], .agg #[.int .i64 ra, .int .i64 cb, .slice B n2 d2]] w (ValIs 4 2 ⟨#[]⟩ w) := by
  have quca4 : (ca == cb) = false := by rw [beq_eq_false_iff_ne]; exact hne
  have quca5 : (ca != cb) = true := by simp only [bne, quca4]; rfl
  have HB : Hid (∀ w1, Calls Tryz.prog 41 #[.int .i64 2] w1 (ValIs 4 2 ⟨#[]⟩ w1)) := Lib.hid (fun w1 => rbad_c 2 w1)
  have ha0 := ((CellsAt.new w [.int .i64 ra, .int .i64 ca, .slice A n1 d1] 24).on_alloc (.cells #[.int .i64 ra, .int .i64 cb, .slice B n2 d2] 24)).on_alloc (.cells #[.int .i64 0, .int .i64 0, .string ⟨#[]⟩] 26)
  have ht0 := (newAt (w0 := w.alloc (.cells #[.int .i64 ra, .int .i64 ca, .slice A n1 d1] 24)) (g := w.heap.size + 1) (by simp) [.int .i64 ra, .int .i64 cb, .slice B n2 d2] 24).on_alloc (.cells #[.int .i64 0, .int .i64 0, .string ⟨#[]⟩] 26)
  have hr0 := newAt (w0 := (w.alloc (.cells #[.int .i64 ra, .int .i64 ca, .slice A n1 d1] 24)).alloc (.cells #[.int .i64 ra, .int .i64 cb, .slice B n2 d2] 24)) (g := w.heap.size + 2) (by simp) [.int .i64 0, .int .i64 0, .string ⟨#[]⟩] 26
  have hb0 := below3 w (.cells #[.int .i64 ra, .int .i64 ca, .slice A n1 d1] 24) (.cells #[.int .i64 ra, .int .i64 cb, .slice B n2 d2] 24) (.cells #[.int .i64 0, .int .i64 0, .string ⟨#[]⟩] 26)
  obtain ⟨a0, a1, a2, _⟩ := ha0.three
  obtain ⟨t0, t1, t2, _⟩ := ht0.three
  go_enter Tryz.func29, Tryz.ntmps29
  go_wp2_with fail
  generalize ((w.alloc (.cells #[.int .i64 ra, .int .i64 ca, .slice A n1 d1] 24)).alloc (.cells #[.int .i64 ra, .int .i64 cb, .slice B n2 d2] 24)).alloc (.cells #[.int .i64 0, .int .i64 0, .string ⟨#[]⟩] 26) = W at *
  refine (HB.out _).mono ?_
  rintro e w3 ⟨rfl, hb3⟩
  clear a0 a1 a2 t0 t1 t2
  replace ha0 := ha0.on hb3
  replace ht0 := ht0.on hb3
  replace hr0 := hr0.on hb3
  replace hb0 := on hb0 hb3
  clear HB hb3
  obtain ⟨p0, p1, p2, f0, f1, f2⟩ := hr0.three
  have hl := hr0.1
  obtain ⟨z0, z1, z2⟩ := three_set (u := .int .i64 4) (v := .int .i64 2) (r := .string ⟨#[]⟩) p0 p1 p2
  have hb5 := set3 hb0 (b := w.heap.size + 2) (by omega) (.int .i64 4) (.int .i64 2) (.string ⟨#[]⟩)
  clear hb0 hr0 ha0 ht0
  go_wp2_with fail
  exact bodyPost_ret (v := .agg #[.int .i64 4, .int .i64 2, .string ⟨#[]⟩]) (by simp [results, Tryz.results29, go_sem, z0, z1, z2]) rfl ⟨rfl, hb5⟩
set_option maxRecDepth 100000 in
set_option maxHeartbeats 4000000 in
theorem rproducts_fa (r c : Int) (n : Nat) (A : Option Addr) (d1 : Nat) (B : Option Addr) (d2 : Nat) (L M : List Vl) (p : Nat) (x : Vl) (hf : FirstF L p x) (q : Int) (hq : ∀ w1, ValsR w1 B n M → Calls Tryz.prog 55 #[.slice B n d2] w1 fun e w' => e = .returned (.int .i64 q) ∧ w1 = w') (w : World) (hz1 : ValsR w A n L) (hz2 : ValsR w B n M) :
    Calls Tryz.prog 29 #[.agg #[.int .i64 r, .int .i64 c, .slice A n d1], .agg #[.int .i64 r, .int .i64 c, .slice B n d2]] w (ValIs x.k x.n x.t w) := by
  have HF1 := Lib.hid (fun w1 hz => rfault_yes A n d1 L p x hf w1 hz)
  have HF2 := Lib.hid hq
  have hn9 := hz1.2.1
  have hpn : p < n := by have := hf.lt; rw [hz1.1] at this; exact this
  have e1 : decide ((0 : Int) ≤ (p : Int)) = true := decide_eq_true (by omega)
  have HX := Lib.hid hf.1
  obtain ⟨xk, xn, xt⟩ := x
  dsimp only
  have ha0 := ((CellsAt.new w [.int .i64 r, .int .i64 c, .slice A n d1] 24).on_alloc (.cells #[.int .i64 r, .int .i64 c, .slice B n d2] 24)).on_alloc (.cells #[.int .i64 0, .int .i64 0, .string ⟨#[]⟩] 26)
  have ht0 := (newAt (w0 := w.alloc (.cells #[.int .i64 r, .int .i64 c, .slice A n d1] 24)) (g := w.heap.size + 1) (by simp) [.int .i64 r, .int .i64 c, .slice B n d2] 24).on_alloc (.cells #[.int .i64 0, .int .i64 0, .string ⟨#[]⟩] 26)
  have hr0 := newAt (w0 := (w.alloc (.cells #[.int .i64 r, .int .i64 c, .slice A n d1] 24)).alloc (.cells #[.int .i64 r, .int .i64 c, .slice B n d2] 24)) (g := w.heap.size + 2) (by simp) [.int .i64 0, .int .i64 0, .string ⟨#[]⟩] 26
  have hb0 := below3 w (.cells #[.int .i64 r, .int .i64 c, .slice A n d1] 24) (.cells #[.int .i64 r, .int .i64 c, .slice B n d2] 24) (.cells #[.int .i64 0, .int .i64 0, .string ⟨#[]⟩] 26)
  obtain ⟨a0, a1, a2, _⟩ := ha0.three
  obtain ⟨t0, t1, t2, _⟩ := ht0.three
  clear hf
  have HZ1 := Lib.hid (hz1.on hb0)
  have HZ2 := Lib.hid (hz2.on hb0)
  clear hz1 hz2
  go_enter Tryz.func29, Tryz.ntmps29
  go_wp2_with fail
  generalize ((w.alloc (.cells #[.int .i64 r, .int .i64 c, .slice A n d1] 24)).alloc (.cells #[.int .i64 r, .int .i64 c, .slice B n d2] 24)).alloc (.cells #[.int .i64 0, .int .i64 0, .string ⟨#[]⟩] 26) = W at *
  go_wp2_with fail
  have A0 := fun d os => cell_regrown a0 d os
  have A1 := fun d os => cell_regrown a1 d os
  have A2 := fun d os => cell_regrown a2 d os
  have T0 := fun d os => cell_regrown t0 d os
  have T1 := fun d os => cell_regrown t1 d os
  have T2 := fun d os => cell_regrown t2 d os
  clear a0 a1 a2 t0 t1 t2
  refine wp_region_mem 8 (fun d => match d with
    | 25 => some (Is (.int .i64 (p : Int)))
    | 28 => some (Is (.int .i64 (q)))
    | _ => none) (by kernel_rfl) (by kernel_rfl) ?_
  simp only [List.take_succ_cons, List.take_zero, List.drop_succ_cons, List.drop_zero]
  repeat (first | ((with_reducible refine wpM_calm ?_ ?_ ?_ ?_); exact rfl; exact rfl; exact rfl; intro K hK; go_big_quiet_op; go_big_quiet_on) | ((with_reducible refine wpM_skip ?_ ?_); exact rfl; simp only [Act.put, List.setIfInBounds_toArray, List.set_cons_succ, List.set_cons_zero]))
  refine wpM_exact rfl rfl rfl Tryz.func55 (by kernel_rfl) (by kernel_rfl) (fun w1 hw1 _ => (HF1.out w1 (HZ1.out.on hw1)).mono fun e w' h => ⟨h.1, h.2 ▸ Below.refl _ _⟩) rfl (by simp only [Act.put, List.setIfInBounds_toArray, List.set_cons_succ, List.set_cons_zero]; rfl) ?_
  repeat (first | ((with_reducible refine wpM_calm ?_ ?_ ?_ ?_); exact rfl; exact rfl; exact rfl; intro K hK; go_big_quiet_op; go_big_quiet_on) | ((with_reducible refine wpM_skip ?_ ?_); exact rfl; simp only [Act.put, List.setIfInBounds_toArray, List.set_cons_succ, List.set_cons_zero]))
  refine wpM_exact rfl rfl rfl Tryz.func55 (by kernel_rfl) (by kernel_rfl) (fun w1 hw1 _ => (HF2.out w1 (HZ2.out.on hw1)).mono fun e w' h => ⟨h.1, h.2 ▸ Below.refl _ _⟩) rfl (by simp only [Act.put, List.setIfInBounds_toArray, List.set_cons_succ, List.set_cons_zero]; rfl) ?_
  repeat (first | ((with_reducible refine wpM_calm ?_ ?_ ?_ ?_); exact rfl; exact rfl; exact rfl; intro K hK; go_big_quiet_op; go_big_quiet_on) | ((with_reducible refine wpM_skip ?_ ?_); exact rfl; simp only [Act.put, List.setIfInBounds_toArray, List.set_cons_succ, List.set_cons_zero]))
  refine wpM_nil ?_
  intro w1 hw1 _
  clear A0 A1 A2 T0 T1 T2 HF1 HF2
  replace ha0 := ha0.on hw1
  replace ht0 := ht0.on hw1
  replace hr0 := hr0.on hw1
  replace hb0 := on hb0 hw1
  obtain ⟨a0, a1, a2, _⟩ := ha0.three
  obtain ⟨t0, t1, t2, _⟩ := ht0.three
  obtain ⟨b, o, rfl, hb, c0, c1, c2⟩ := (HZ1.out.on hw1).at HX.out
  dsimp only at c0 c1 c2
  obtain ⟨p0, p1, p2, f0, f1, f2⟩ := hr0.three
  have hl := hr0.1
  obtain ⟨z0, z1, z2⟩ := three_set (u := .int .i64 xk) (v := .int .i64 xn) (r := .string xt) p0 p1 p2
  have hb5 := set3 hb0 (b := w.heap.size + 2) (by omega) (.int .i64 xk) (.int .i64 xn) (.string xt)
  clear hb0 hr0 ha0 ht0 hw1
  go_wp2_with fail
  exact bodyPost_ret (v := .agg #[.int .i64 xk, .int .i64 xn, .string xt]) (by simp [results, Tryz.results29, go_sem, z0, z1, z2]) rfl ⟨rfl, hb5⟩
set_option maxRecDepth 100000 in
set_option maxHeartbeats 4000000 in
theorem rproducts_fb (r c : Int) (n : Nat) (A : Option Addr) (d1 : Nat) (B : Option Addr) (d2 : Nat) (L M : List Vl) (hl : NoF L) (p : Nat) (x : Vl) (hf : FirstF M p x) (w : World) (hz1 : ValsR w A n L) (hz2 : ValsR w B n M) :
    Calls Tryz.prog 29 #[.agg #[.int .i64 r, .int .i64 c, .slice A n d1], .agg #[.int .i64 r, .int .i64 c, .slice B n d2]] w (ValIs x.k x.n x.t w) := by
  have HF1 := Lib.hid (fun w1 hz => rfault_no A n d1 L hl w1 hz)
  have HF2 := Lib.hid (fun w1 hz => rfault_yes B n d2 M p x hf w1 hz)
  have hn9 := hz1.2.1
  have hpn : p < n := by have := hf.lt; rw [hz2.1] at this; exact this
  have e1 : decide ((0 : Int) ≤ (p : Int)) = true := decide_eq_true (by omega)
  have HX := Lib.hid hf.1
  obtain ⟨xk, xn, xt⟩ := x
  dsimp only
  have ha0 := ((CellsAt.new w [.int .i64 r, .int .i64 c, .slice A n d1] 24).on_alloc (.cells #[.int .i64 r, .int .i64 c, .slice B n d2] 24)).on_alloc (.cells #[.int .i64 0, .int .i64 0, .string ⟨#[]⟩] 26)
  have ht0 := (newAt (w0 := w.alloc (.cells #[.int .i64 r, .int .i64 c, .slice A n d1] 24)) (g := w.heap.size + 1) (by simp) [.int .i64 r, .int .i64 c, .slice B n d2] 24).on_alloc (.cells #[.int .i64 0, .int .i64 0, .string ⟨#[]⟩] 26)
  have hr0 := newAt (w0 := (w.alloc (.cells #[.int .i64 r, .int .i64 c, .slice A n d1] 24)).alloc (.cells #[.int .i64 r, .int .i64 c, .slice B n d2] 24)) (g := w.heap.size + 2) (by simp) [.int .i64 0, .int .i64 0, .string ⟨#[]⟩] 26
  have hb0 := below3 w (.cells #[.int .i64 r, .int .i64 c, .slice A n d1] 24) (.cells #[.int .i64 r, .int .i64 c, .slice B n d2] 24) (.cells #[.int .i64 0, .int .i64 0, .string ⟨#[]⟩] 26)
  obtain ⟨a0, a1, a2, _⟩ := ha0.three
  obtain ⟨t0, t1, t2, _⟩ := ht0.three
  clear hf
  have HZ1 := Lib.hid (hz1.on hb0)
  have HZ2 := Lib.hid (hz2.on hb0)
  clear hz1 hz2
  go_enter Tryz.func29, Tryz.ntmps29
  go_wp2_with fail
  generalize ((w.alloc (.cells #[.int .i64 r, .int .i64 c, .slice A n d1] 24)).alloc (.cells #[.int .i64 r, .int .i64 c, .slice B n d2] 24)).alloc (.cells #[.int .i64 0, .int .i64 0, .string ⟨#[]⟩] 26) = W at *
  go_wp2_with fail
  have A0 := fun d os => cell_regrown a0 d os
  have A1 := fun d os => cell_regrown a1 d os
  have A2 := fun d os => cell_regrown a2 d os
  have T0 := fun d os => cell_regrown t0 d os
  have T1 := fun d os => cell_regrown t1 d os
  have T2 := fun d os => cell_regrown t2 d os
  clear a0 a1 a2 t0 t1 t2
  refine wp_region_mem 8 (fun d => match d with
    | 25 => some (Is (.int .i64 (-1)))
    | 28 => some (Is (.int .i64 (p : Int)))
    | _ => none) (by kernel_rfl) (by kernel_rfl) ?_
  simp only [List.take_succ_cons, List.take_zero, List.drop_succ_cons, List.drop_zero]
  repeat (first | ((with_reducible refine wpM_calm ?_ ?_ ?_ ?_); exact rfl; exact rfl; exact rfl; intro K hK; go_big_quiet_op; go_big_quiet_on) | ((with_reducible refine wpM_skip ?_ ?_); exact rfl; simp only [Act.put, List.setIfInBounds_toArray, List.set_cons_succ, List.set_cons_zero]))
  refine wpM_exact rfl rfl rfl Tryz.func55 (by kernel_rfl) (by kernel_rfl) (fun w1 hw1 _ => (HF1.out w1 (HZ1.out.on hw1)).mono fun e w' h => ⟨h.1, h.2 ▸ Below.refl _ _⟩) rfl (by simp only [Act.put, List.setIfInBounds_toArray, List.set_cons_succ, List.set_cons_zero]; rfl) ?_
  repeat (first | ((with_reducible refine wpM_calm ?_ ?_ ?_ ?_); exact rfl; exact rfl; exact rfl; intro K hK; go_big_quiet_op; go_big_quiet_on) | ((with_reducible refine wpM_skip ?_ ?_); exact rfl; simp only [Act.put, List.setIfInBounds_toArray, List.set_cons_succ, List.set_cons_zero]))
  refine wpM_exact rfl rfl rfl Tryz.func55 (by kernel_rfl) (by kernel_rfl) (fun w1 hw1 _ => (HF2.out w1 (HZ2.out.on hw1)).mono fun e w' h => ⟨h.1, h.2 ▸ Below.refl _ _⟩) rfl (by simp only [Act.put, List.setIfInBounds_toArray, List.set_cons_succ, List.set_cons_zero]; rfl) ?_
  repeat (first | ((with_reducible refine wpM_calm ?_ ?_ ?_ ?_); exact rfl; exact rfl; exact rfl; intro K hK; go_big_quiet_op; go_big_quiet_on) | ((with_reducible refine wpM_skip ?_ ?_); exact rfl; simp only [Act.put, List.setIfInBounds_toArray, List.set_cons_succ, List.set_cons_zero]))
  refine wpM_nil ?_
  intro w1 hw1 _
  clear A0 A1 A2 T0 T1 T2 HF1 HF2
  replace ha0 := ha0.on hw1
  replace ht0 := ht0.on hw1
  replace hr0 := hr0.on hw1
  replace hb0 := on hb0 hw1
  obtain ⟨a0, a1, a2, _⟩ := ha0.three
  obtain ⟨t0, t1, t2, _⟩ := ht0.three
  obtain ⟨b, o, rfl, hb, c0, c1, c2⟩ := (HZ2.out.on hw1).at HX.out
  dsimp only at c0 c1 c2
  obtain ⟨p0, p1, p2, f0, f1, f2⟩ := hr0.three
  have hl := hr0.1
  obtain ⟨z0, z1, z2⟩ := three_set (u := .int .i64 xk) (v := .int .i64 xn) (r := .string xt) p0 p1 p2
  have hb5 := set3 hb0 (b := w.heap.size + 2) (by omega) (.int .i64 xk) (.int .i64 xn) (.string xt)
  clear hb0 hr0 ha0 ht0 hw1
  go_wp2_with fail
  exact bodyPost_ret (v := .agg #[.int .i64 xk, .int .i64 xn, .string xt]) (by simp [results, Tryz.results29, go_sem, z0, z1, z2]) rfl ⟨rfl, hb5⟩
set_option maxRecDepth 100000 in
set_option maxHeartbeats 8000000 in
theorem rproducts_sum (r c : Int) (n : Nat) (A : Option Addr) (d1 : Nat) (B : Option Addr) (d2 : Nat) (L M : List Vl) (hl : NoF L) (hm : NoF M) (k0 n0 : Int) (hv : refP 0 (L.zip M) = (k0, n0)) (w : World) (hz1 : ValsR w A n L) (hz2 : ValsR w B n M) :
    Calls Tryz.prog 29 #[.agg #[.int .i64 r, .int .i64 c, .slice A n d1], .agg #[.int .i64 r, .int .i64 c, .slice B n d2]] w (ValIs k0 n0 ⟨#[]⟩ w) := by
  have HF1 := Lib.hid (fun w1 hz => rfault_no A n d1 L hl w1 hz)
  have HF2 := Lib.hid (fun w1 hz => rfault_no B n d2 M hm w1 hz)
  have HR := Lib.hid hv
  have hn9 := hz1.2.1
  have HB : Hid (∀ w1, Calls Tryz.prog 41 #[.int .i64 4] w1 (ValIs 4 4 ⟨#[]⟩ w1)) := Lib.hid (fun w1 => rbad_c 4 w1)
  have hlz : Hid ((L.zip M).length = n) := Lib.hid (by rw [List.length_zip, hz1.1, hz2.1, Nat.min_self])
  have ha0 := ((CellsAt.new w [.int .i64 r, .int .i64 c, .slice A n d1] 24).on_alloc (.cells #[.int .i64 r, .int .i64 c, .slice B n d2] 24)).on_alloc (.cells #[.int .i64 0, .int .i64 0, .string ⟨#[]⟩] 26)
  have ht0 := (newAt (w0 := w.alloc (.cells #[.int .i64 r, .int .i64 c, .slice A n d1] 24)) (g := w.heap.size + 1) (by simp) [.int .i64 r, .int .i64 c, .slice B n d2] 24).on_alloc (.cells #[.int .i64 0, .int .i64 0, .string ⟨#[]⟩] 26)
  have hr0 := newAt (w0 := (w.alloc (.cells #[.int .i64 r, .int .i64 c, .slice A n d1] 24)).alloc (.cells #[.int .i64 r, .int .i64 c, .slice B n d2] 24)) (g := w.heap.size + 2) (by simp) [.int .i64 0, .int .i64 0, .string ⟨#[]⟩] 26
  have hb0 := below3 w (.cells #[.int .i64 r, .int .i64 c, .slice A n d1] 24) (.cells #[.int .i64 r, .int .i64 c, .slice B n d2] 24) (.cells #[.int .i64 0, .int .i64 0, .string ⟨#[]⟩] 26)
  obtain ⟨a0, a1, a2, _⟩ := ha0.three
  obtain ⟨t0, t1, t2, _⟩ := ht0.three
  clear hl hm hv
  have HZ1 := Lib.hid (hz1.on hb0)
  have HZ2 := Lib.hid (hz2.on hb0)
  clear hz1 hz2
  go_enter Tryz.func29, Tryz.ntmps29
  go_wp2_with fail
  generalize ((w.alloc (.cells #[.int .i64 r, .int .i64 c, .slice A n d1] 24)).alloc (.cells #[.int .i64 r, .int .i64 c, .slice B n d2] 24)).alloc (.cells #[.int .i64 0, .int .i64 0, .string ⟨#[]⟩] 26) = W at *
  go_wp2_with fail
  have A0 := fun d os => cell_regrown a0 d os
  have A1 := fun d os => cell_regrown a1 d os
  have A2 := fun d os => cell_regrown a2 d os
  have T0 := fun d os => cell_regrown t0 d os
  have T1 := fun d os => cell_regrown t1 d os
  have T2 := fun d os => cell_regrown t2 d os
  clear a0 a1 a2 t0 t1 t2
  refine wp_region_mem 8 (fun d => match d with
    | 25 => some (Is (.int .i64 (-1)))
    | 28 => some (Is (.int .i64 (-1)))
    | _ => none) (by kernel_rfl) (by kernel_rfl) ?_
  simp only [List.take_succ_cons, List.take_zero, List.drop_succ_cons, List.drop_zero]
  repeat (first | ((with_reducible refine wpM_calm ?_ ?_ ?_ ?_); exact rfl; exact rfl; exact rfl; intro K hK; go_big_quiet_op; go_big_quiet_on) | ((with_reducible refine wpM_skip ?_ ?_); exact rfl; simp only [Act.put, List.setIfInBounds_toArray, List.set_cons_succ, List.set_cons_zero]))
  refine wpM_exact rfl rfl rfl Tryz.func55 (by kernel_rfl) (by kernel_rfl) (fun w1 hw1 _ => (HF1.out w1 (HZ1.out.on hw1)).mono fun e w' h => ⟨h.1, h.2 ▸ Below.refl _ _⟩) rfl (by simp only [Act.put, List.setIfInBounds_toArray, List.set_cons_succ, List.set_cons_zero]; rfl) ?_
  repeat (first | ((with_reducible refine wpM_calm ?_ ?_ ?_ ?_); exact rfl; exact rfl; exact rfl; intro K hK; go_big_quiet_op; go_big_quiet_on) | ((with_reducible refine wpM_skip ?_ ?_); exact rfl; simp only [Act.put, List.setIfInBounds_toArray, List.set_cons_succ, List.set_cons_zero]))
  refine wpM_exact rfl rfl rfl Tryz.func55 (by kernel_rfl) (by kernel_rfl) (fun w1 hw1 _ => (HF2.out w1 (HZ2.out.on hw1)).mono fun e w' h => ⟨h.1, h.2 ▸ Below.refl _ _⟩) rfl (by simp only [Act.put, List.setIfInBounds_toArray, List.set_cons_succ, List.set_cons_zero]; rfl) ?_
  repeat (first | ((with_reducible refine wpM_calm ?_ ?_ ?_ ?_); exact rfl; exact rfl; exact rfl; intro K hK; go_big_quiet_op; go_big_quiet_on) | ((with_reducible refine wpM_skip ?_ ?_); exact rfl; simp only [Act.put, List.setIfInBounds_toArray, List.set_cons_succ, List.set_cons_zero]))
  refine wpM_nil ?_
  intro w1 hw1 _
  clear A0 A1 A2 T0 T1 T2 HF1 HF2
  replace ha0 := ha0.on hw1
  replace ht0 := ht0.on hw1
  replace hr0 := hr0.on hw1
  replace hb0 := on hb0 hw1
  replace HZ1 := Lib.hid (HZ1.out.on hw1)
  replace HZ2 := Lib.hid (HZ2.out.on hw1)
  clear hw1
  have hg0 := CellsAt.new w1 [.int .i64 0, .bool true] 70
  have hgs := hr0.1
  replace ha0 := ha0.on_alloc (.cells #[.int .i64 0, .bool true] 70)
  replace ht0 := ht0.on_alloc (.cells #[.int .i64 0, .bool true] 70)
  replace hr0 := hr0.on_alloc (.cells #[.int .i64 0, .bool true] 70)
  have hs1 := hb0.size
  have hbw := below1 w1 (.cells #[.int .i64 0, .bool true] 70)
  replace hb0 := on_alloc hb0 (.cells #[.int .i64 0, .bool true] 70)
  go_wp2_with fail
  generalize w1.alloc (.cells #[.int .i64 0, .bool true] 70) = W2 at *
  go_loopw [8] (fun i wr => ∃ (k : Nat) (s : Int) (ok : Bool), k ≤ n ∧ i = .int .i64 k ∧ CellsAt wr w1.heap.size [.int .i64 s, .bool ok] ∧ Below w.heap.size w wr ∧ Below w1.heap.size w1 wr ∧ CellsAt wr w.heap.size [.int .i64 r, .int .i64 c, .slice A n d1] ∧ CellsAt wr (w.heap.size + 1) [.int .i64 r, .int .i64 c, .slice B n d2] ∧ CellsAt wr (w.heap.size + 2) [.int .i64 0, .int .i64 0, .string ⟨#[]⟩] ∧
    Hid ((ok = true ∧ -9223372036854775807 ≤ s ∧ s ≤ 9223372036854775807 ∧ refP s ((L.zip M).drop k) = (k0, n0)) ∨ (ok = false ∧ k0 = 4 ∧ n0 = 4))) (fun i _ => n - (intOf i).toNat)
  case atStart => exact ⟨0, 0, true, Nat.zero_le _, rfl, hg0, hb0, hbw, ha0, ht0, hr0, Lib.hid (.inl ⟨rfl, by omega, by omega, by rw [List.drop_zero]; exact HR.out⟩)⟩
  case round =>
    clear hb0 hg0 ha0 ht0 hr0 hbw HR
    obtain ⟨k, s, ok, hk, rfl, hg0, hb0, hbw, ha0, ht0, hr0, hst⟩ := hrel
    have hs0 := hb0.size
    have hsw := hbw.size
    have hgl := hg0.1
    obtain ⟨g0, g1, fg0, fg1⟩ := hg0.two
    obtain ⟨a0, a1, a2, _⟩ := ha0.three
    obtain ⟨t0, t1, t2, _⟩ := ht0.three
    cases ok
    · have HO := Lib.hid (fun w1 => rof_c s false 4 4 rfl w1)
      obtain ⟨rfl, rfl⟩ : k0 = 4 ∧ n0 = 4 := by
        rcases hst.out with ⟨h, _⟩ | ⟨_, h1, h2⟩
        · cases h
        · exact ⟨h1, h2⟩
      by_cases hlt : k < n
      · have d : decide ((k : Int) < (n : Int)) = true := decide_eq_true (by omega)
        clear hst HZ1 HZ2 HB
        go_wp2_with fail
        refine (HO.out _).mono ?_
        rintro e w5 ⟨rfl, hb5'⟩
        replace hr0 := hr0.on hb5'
        replace hb0 := on hb0 hb5'
        clear HO hb5' g0 g1 hg0 ha0 ht0 hbw a0 a1 a2 t0 t1 t2
        obtain ⟨p0, p1, p2, f0, f1, f2⟩ := hr0.three
        have hl := hr0.1
        obtain ⟨z0, z1, z2⟩ := three_set (u := .int .i64 4) (v := .int .i64 4) (r := .string ⟨#[]⟩) p0 p1 p2
        have hb5 := set3 hb0 (b := w.heap.size + 2) (by omega) (.int .i64 4) (.int .i64 4) (.string ⟨#[]⟩)
        clear hb0 hr0
        go_wp2_with fail
        exact bodyPost_ret (v := .agg #[.int .i64 4, .int .i64 4, .string ⟨#[]⟩]) (by simp [results, Tryz.results29, go_sem, z0, z1, z2]) rfl ⟨rfl, hb5⟩
      · have d : decide ((k : Int) < (n : Int)) = false := decide_eq_false (by omega)
        obtain rfl : k = n := by omega
        clear hst HZ1 HZ2 HB
        go_wp2_with fail
        refine (HO.out _).mono ?_
        rintro e w5 ⟨rfl, hb5'⟩
        replace hr0 := hr0.on hb5'
        replace hb0 := on hb0 hb5'
        clear HO hb5' g0 g1 hg0 ha0 ht0 hbw a0 a1 a2 t0 t1 t2
        obtain ⟨p0, p1, p2, f0, f1, f2⟩ := hr0.three
        have hl := hr0.1
        obtain ⟨z0, z1, z2⟩ := three_set (u := .int .i64 4) (v := .int .i64 4) (r := .string ⟨#[]⟩) p0 p1 p2
        have hb5 := set3 hb0 (b := w.heap.size + 2) (by omega) (.int .i64 4) (.int .i64 4) (.string ⟨#[]⟩)
        clear hb0 hr0
        go_wp2_with fail
        exact bodyPost_ret (v := .agg #[.int .i64 4, .int .i64 4, .string ⟨#[]⟩]) (by simp [results, Tryz.results29, go_sem, z0, z1, z2]) rfl ⟨rfl, hb5⟩
    · obtain ⟨s1, s2, hst2⟩ : -9223372036854775807 ≤ s ∧ s ≤ 9223372036854775807 ∧ refP s ((L.zip M).drop k) = (k0, n0) := by
        rcases hst.out with ⟨_, h⟩ | ⟨h, _⟩
        · exact h
        · cases h
      have HST := Lib.hid hst2
      clear hst hst2
      by_cases hlt : k < n
      · obtain ⟨u, hu⟩ := HZ1.out.get hlt
        obtain ⟨v, hv⟩ := HZ2.out.get hlt
        have hz := Lib.hid (zip_at hu hv)
        obtain ⟨g1', o1, rfl, hg1, u0, u1, u2⟩ := (HZ1.out.on hbw).at hu
        obtain ⟨g2', o2, rfl, hg2, v0, v1, v2⟩ := (HZ2.out.on hbw).at hv
        have hu9 := (HZ1.out.2.2.1 u (List.mem_of_getElem? hu)).2
        have hv9 := (HZ2.out.2.2.1 v (List.mem_of_getElem? hv)).2
        by_cases hu1 : u.k = 1
        · by_cases hv1 : v.k = 1
          · rcases hsc : scaledD u.n v.n 10000 with ⟨m, okm⟩
            have HM := Lib.hid (fun w1 => rmul_c u.n v.n hu9 hv9 m okm hsc w1)
            have HOut : Hid (okm = false → (k0, n0) = ((4 : Int), (4 : Int))) := Lib.hid fun h => by subst h; exact HST.out.symm.trans (ref_out hz.out hu1 hv1 hsc)
            rcases had : addD s m with ⟨t, okt⟩
            have HOver : Hid (okm = true → okt = false → (k0, n0) = ((4 : Int), (4 : Int))) := Lib.hid fun h h2 => by subst h; subst h2; exact HST.out.symm.trans (ref_over hz.out hu1 hv1 hsc had)
            have HOn : Hid (okm = true → okt = true → refP t ((L.zip M).drop (k + 1)) = (k0, n0)) := Lib.hid fun h h2 => by subst h; subst h2; exact (ref_on hz.out hu1 hv1 hsc had).symm.trans HST.out
            have HTr : Hid (okt = true → -9223372036854775807 ≤ t ∧ t ≤ 9223372036854775807) := Lib.hid fun h => by subst h; exact add_ok had
            have HAd : Hid (okm = true → ∀ w1, Calls Tryz.prog 57 #[.int .i64 s, .int .i64 m] w1 (GotIs t okt w1)) := Lib.hid fun h w1 => by subst h; exact radd_c s m s2 (scaled_ok hsc).2 t okt had w1
            obtain ⟨uk, un, ut⟩ := u
            obtain ⟨vk, vn, vt⟩ := v
            obtain rfl : uk = 1 := hu1
            obtain rfl : vk = 1 := hv1
            dsimp only at u0 u1 u2 v0 v1 v2 HM
            clear hu hv hz hsc had hu9 hv9 HST HZ1 HZ2
            go_wp2_with fail
            have A0 := fun d os => cell_regrown a0 d os
            have A1 := fun d os => cell_regrown a1 d os
            have A2 := fun d os => cell_regrown a2 d os
            have T0 := fun d os => cell_regrown t0 d os
            have T1 := fun d os => cell_regrown t1 d os
            have T2 := fun d os => cell_regrown t2 d os
            have U1 := fun d os => cell_regrown u1 d os
            have V1 := fun d os => cell_regrown v1 d os
            clear a0 a1 a2 t0 t1 t2 u0 u1 u2 v0 v1 v2 g0 g1 fg0 fg1
            refine wp_region_mem 14 (fun d => match d with
              | 83 => some (Is (.agg #[.int .i64 m, .bool okm]))
              | 9 => some (NewCells wr.heap.size [.int .i64 0, .bool false])
              | _ => none) (by kernel_rfl) (by kernel_rfl) ?_
            simp only [List.take_succ_cons, List.take_zero, List.drop_succ_cons, List.drop_zero]
            repeat (first | ((with_reducible refine wpM_calm ?_ ?_ ?_ ?_); exact rfl; exact rfl; exact rfl; intro K hK; go_big_quiet_op; go_big_quiet_on) | ((with_reducible refine wpM_skip ?_ ?_); exact rfl; simp only [Act.put, List.setIfInBounds_toArray, List.set_cons_succ, List.set_cons_zero]))
            refine wpM_exact rfl rfl rfl Tryz.func56 (by kernel_rfl) (by kernel_rfl) (fun w1 _ _ => HM.out w1) rfl (by simp only [Act.put, List.setIfInBounds_toArray, List.set_cons_succ, List.set_cons_zero]; rfl) ?_
            refine wpM_makes _ rfl rfl (fun w5 hw5 _ => ?_) ?_
            · simp [go_sem, variesUpon]
              exact ⟨below1 _ _, (NewCells.mk w5 [.int .i64 0, .bool false] _ hw5.size).2⟩
            rintro v9 ⟨_, b9, rfl, _⟩ a9 ha9
            simp only [Act.put, List.setIfInBounds_toArray, List.set_cons_succ, List.set_cons_zero] at ha9
            subst ha9
            refine wpM_nil ?_
            intro w5 hw5 hF
            obtain ⟨hB9, k9⟩ := NewCells.at ((hF 13).2 rfl)
            clear hF A0 A1 A2 T0 T1 T2 U1 V1 HM
            have hra := hr0.1
            replace ha0 := (ha0.on hw5).put2_far (c := b9) (by omega) (.int .i64 m) (.bool okm)
            replace ht0 := (ht0.on hw5).put2_far (c := b9) (by omega) (.int .i64 m) (.bool okm)
            replace hr0 := (hr0.on hw5).put2_far (c := b9) (by omega) (.int .i64 m) (.bool okm)
            replace hg0 := (hg0.on hw5).put2_far (c := b9) (by omega) (.int .i64 m) (.bool okm)
            replace hb0 := set2 (on hb0 hw5) (b := b9) (by omega) (.int .i64 m) (.bool okm)
            replace hbw := set2 (on hbw hw5) (b := b9) (by omega) (.int .i64 m) (.bool okm)
            obtain ⟨n0', n1', fn0, fn1⟩ := k9.two
            have q9 := k9.put2 (.int .i64 m) (.bool okm)
            simp only [put2] at ha0 ht0 hr0 hg0 q9
            obtain ⟨q0, q1, _⟩ := q9.two
            obtain ⟨g0, g1, fg0, fg1⟩ := hg0.two
            have hl9 := q9.1
            have hs5 := hb0.size
            clear k9 hw5
            cases okm
            · obtain ⟨rfl, rfl⟩ := Prod.mk.inj (HOut.out rfl)
              clear HOut HOver HOn HTr HAd
              go_wp2_with fail
              generalize (w5.setCell ⟨b9, 0, none⟩ (.int .i64 m)).setCell ⟨b9, 1, none⟩ (.bool false) = W5 at *
              refine (HB.out _).mono ?_
              rintro e w6 ⟨rfl, hb6⟩
              replace hr0 := hr0.on hb6
              replace hb0 := on hb0 hb6
              clear HB hb6 g0 g1 q0 q1 q9 n0' n1' hg0 ha0 ht0 hbw
              obtain ⟨p0, p1, p2, f0, f1, f2⟩ := hr0.three
              have hl := hr0.1
              obtain ⟨z0, z1, z2⟩ := three_set (u := .int .i64 4) (v := .int .i64 4) (r := .string ⟨#[]⟩) p0 p1 p2
              have hb5 := set3 hb0 (b := w.heap.size + 2) (by omega) (.int .i64 4) (.int .i64 4) (.string ⟨#[]⟩)
              clear hb0 hr0
              go_wp2_with fail
              exact bodyPost_ret (v := .agg #[.int .i64 4, .int .i64 4, .string ⟨#[]⟩]) (by simp [results, Tryz.results29, go_sem, z0, z1, z2]) rfl ⟨rfl, hb5⟩
            · have HAd2 := Lib.hid (HAd.out rfl)
              clear HOut HAd
              go_wp2_with fail
              generalize (w5.setCell ⟨b9, 0, none⟩ (.int .i64 m)).setCell ⟨b9, 1, none⟩ (.bool true) = W5 at *
              refine (HAd2.out _).mono ?_
              rintro e w6 ⟨rfl, hb6⟩
              clear n0' n1' q0 q1 q9 g0 g1 fg0 fg1 HAd2
              have hg6 := hg0.on hb6
              obtain ⟨g0, g1, fg0, fg1⟩ := hg6.two
              have hg7 := hg6.put2 (.int .i64 t) (.bool okt)
              have ha7 := (ha0.on hb6).put2_far (c := w1.heap.size) (by omega) (.int .i64 t) (.bool okt)
              have ht7 := (ht0.on hb6).put2_far (c := w1.heap.size) (by omega) (.int .i64 t) (.bool okt)
              have hr7 := (hr0.on hb6).put2_far (c := w1.heap.size) (by omega) (.int .i64 t) (.bool okt)
              have hb7 := set2 (on hb0 hb6) (b := w1.heap.size) (by omega) (.int .i64 t) (.bool okt)
              have hbw7 := set2 (on hbw hb6) (b := w1.heap.size) (by omega) (.int .i64 t) (.bool okt)
              simp only [put2] at hg7 ha7 ht7 hr7
              clear ha0 ht0 hr0 hg0 hb0 hbw hb6 hg6
              go_wp2_with fail
              go_roundw
              case rel =>
                refine ⟨k + 1, t, okt, by omega, by go_num, hg7, hb7, hbw7, ha7, ht7, hr7, Lib.hid ?_⟩
                cases okt
                · obtain ⟨rfl, rfl⟩ := Prod.mk.inj (HOver.out (by first | rfl | trivial) rfl)
                  exact .inr ⟨rfl, rfl, rfl⟩
                · exact .inl ⟨rfl, (HTr.out rfl).1, (HTr.out rfl).2, HOn.out (by first | rfl | trivial) rfl⟩
              case measure => simp [intOf]; omega
          · have HS := Lib.hid ((ref_skip hz.out (.inr hv1)).symm.trans HST.out)
            obtain ⟨uk, un, ut⟩ := u
            obtain ⟨vk, vn, vt⟩ := v
            obtain rfl : uk = 1 := hu1
            dsimp only at u0 u1 u2 v0 v1 v2 hv1
            have y4 : (vk == 1) = false := by rw [beq_eq_false_iff_ne]; exact hv1
            have y5 : (vk != 1) = true := by simp only [bne, y4]; rfl
            clear hu hv hz hu9 hv9 HST HZ1 HZ2 hv1 HB
            go_wp2_with fail
            go_roundw
            case rel => exact ⟨k + 1, s, true, by omega, by go_num, hg0, hb0, hbw, ha0, ht0, hr0, Lib.hid (.inl ⟨rfl, s1, s2, HS.out⟩)⟩
            case measure => simp [intOf]; omega
        · have HS := Lib.hid ((ref_skip hz.out (.inl hu1)).symm.trans HST.out)
          obtain ⟨uk, un, ut⟩ := u
          dsimp only at u0 u1 u2 hu1
          have y4 : (uk == 1) = false := by rw [beq_eq_false_iff_ne]; exact hu1
          have y5 : (uk != 1) = true := by simp only [bne, y4]; rfl
          clear hu hv hz hu9 hv9 HST HZ1 HZ2 hu1 HB v0 v1 v2
          go_wp2_with fail
          go_roundw
          case rel => exact ⟨k + 1, s, true, by omega, by go_num, hg0, hb0, hbw, ha0, ht0, hr0, Lib.hid (.inl ⟨rfl, s1, s2, HS.out⟩)⟩
          case measure => simp [intOf]; omega
      · have d : decide ((k : Int) < (n : Int)) = false := decide_eq_false (by omega)
        obtain rfl : k = n := by omega
        have hst3 := HST.out
        rw [← hlz.out, ref_end] at hst3
        have HO := Lib.hid (fun w1 => rof_c s true k0 n0 hst3 w1)
        clear HST hst3 HZ1 HZ2 HB
        go_wp2_with fail
        refine (HO.out _).mono ?_
        rintro e w5 ⟨rfl, hb5'⟩
        replace hr0 := hr0.on hb5'
        replace hb0 := on hb0 hb5'
        clear HO hb5' g0 g1 hg0 ha0 ht0 hbw a0 a1 a2 t0 t1 t2
        obtain ⟨p0, p1, p2, f0, f1, f2⟩ := hr0.three
        have hl := hr0.1
        obtain ⟨z0, z1, z2⟩ := three_set (u := .int .i64 k0) (v := .int .i64 n0) (r := .string ⟨#[]⟩) p0 p1 p2
        have hb5 := set3 hb0 (b := w.heap.size + 2) (by omega) (.int .i64 k0) (.int .i64 n0) (.string ⟨#[]⟩)
        clear hb0 hr0
        go_wp2_with fail
        exact bodyPost_ret (v := .agg #[.int .i64 k0, .int .i64 n0, .string ⟨#[]⟩]) (by simp [results, Tryz.results29, go_sem, z0, z1, z2]) rfl ⟨rfl, hb5⟩

theorem rproducts_c (r c : Int) (n : Nat) (A : Option Addr) (d1 : Nat) (B : Option Addr) (d2 : Nat) (L M : List Vl) (hL : ∀ v ∈ L, v.may) (hM : ∀ v ∈ M, v.may) (k0 n0 : Int) (hv : sumP L M = (k0, n0)) (w : World) (hz1 : ValsR w A n L) (hz2 : ValsR w B n M) :
    Calls Tryz.prog 29 #[.agg #[.int .i64 r, .int .i64 c, .slice A n d1], .agg #[.int .i64 r, .int .i64 c, .slice B n d2]] w (ValIs k0 n0 ⟨#[]⟩ w) := by
  rcases fault_ways L with ha | ⟨p, x, ha⟩
  · rcases fault_ways M with hb | ⟨p, x, hb⟩
    · rw [sumP_in ha hb, sum_ref _ (fun q hq => ⟨hL _ (List.of_mem_zip hq).1, hM _ (List.of_mem_zip hq).2⟩)] at hv
      exact rproducts_sum r c n A d1 B d2 L M ha hb k0 n0 hv w hz1 hz2
    · rw [sumP_b ha hb] at hv
      obtain ⟨rfl, rfl⟩ := Prod.mk.inj hv
      have h := rproducts_fb r c n A d1 B d2 L M ha _ x hb w hz1 hz2
      have hx := may_fault (hM x (List.mem_of_getElem? hb.1)) hb.2.1
      rw [hx] at h
      exact h
  · rw [sumP_a M ha] at hv
    obtain ⟨rfl, rfl⟩ := Prod.mk.inj hv
    have h : Calls Tryz.prog 29 #[.agg #[.int .i64 r, .int .i64 c, .slice A n d1], .agg #[.int .i64 r, .int .i64 c, .slice B n d2]] w (ValIs x.k x.n x.t w) := by
      rcases fault_ways M with hb | ⟨q, y, hb⟩
      · exact rproducts_fa r c n A d1 B d2 L M _ x ha (-1) (fun w1 hz => rfault_no B n d2 M hb w1 hz) w hz1 hz2
      · exact rproducts_fa r c n A d1 B d2 L M _ x ha (q : Int) (fun w1 hz => rfault_yes B n d2 M q y hb w1 hz) w hz1 hz2
    have hx := may_fault (hL x (List.mem_of_getElem? ha.1)) ha.2.1
    rw [hx] at h
    exact h
end Go.Proofs.YtbjomidkeignjaaGreatDoor.Lok

/- What package crit's holds and Hits answer: for whatever Of makes, and every value that may be. Written by wip/gen17c.py. -/
import Derived.Test.YtbjomidkeignjaaGreatDoorCrtOf
import Derived.Test.YtbjomidkeignjaaGreatDoorG15
import Derived.Test.YtbjomidkeignjaaGreatDoorG14
namespace Go.Proofs.YtbjomidkeignjaaGreatDoor.Crt
open Go.RowKit Kit Reg Dec Dig Val

set_option maxRecDepth 100000 in
set_option maxHeartbeats 1000000 in
theorem holds_c (op way : Int) (h1 : 7 ≤ op) (h2 : op ≤ 12) (b : Bool) (hb : holdsD op (way == 0) way = b) (w : World) : Calls Tryz.prog 86 #[.int .i64 op, .int .i64 way] w fun e w' => e = .returned (.bool b) ∧ w = w' := by
  obtain rfl | rfl | rfl | rfl | rfl | rfl : op = 7 ∨ op = 8 ∨ op = 9 ∨ op = 10 ∨ op = 11 ∨ op = 12 := by omega
  · replace hb : (way == 0) = b := hb
    subst hb
    clear h1 h2
    go_enter Tryz.func86, Tryz.ntmps86
    go_wp2
    go_ret
    exact ⟨by first | rfl | simp [bne], rfl⟩
  · replace hb : (!(way == 0)) = b := hb
    subst hb
    clear h1 h2
    go_enter Tryz.func86, Tryz.ntmps86
    go_wp2
    go_ret
    exact ⟨by first | rfl | simp [bne], rfl⟩
  · replace hb : decide (way < 0) = b := hb
    subst hb
    clear h1 h2
    go_enter Tryz.func86, Tryz.ntmps86
    go_wp2
    go_ret
    exact ⟨by first | rfl | simp [bne], rfl⟩
  · replace hb : decide (way ≤ 0) = b := hb
    subst hb
    clear h1 h2
    go_enter Tryz.func86, Tryz.ntmps86
    go_wp2
    go_ret
    exact ⟨by first | rfl | simp [bne], rfl⟩
  · replace hb : decide (0 < way) = b := hb
    subst hb
    clear h1 h2
    go_enter Tryz.func86, Tryz.ntmps86
    go_wp2
    go_ret
    exact ⟨by first | rfl | simp [bne], rfl⟩
  · replace hb : decide (0 ≤ way) = b := hb
    subst hb
    clear h1 h2
    go_enter Tryz.func86, Tryz.ntmps86
    go_wp2
    go_ret
    exact ⟨by first | rfl | simp [bne], rfl⟩
set_option maxRecDepth 100000 in
set_option maxHeartbeats 2000000 in
theorem hits_fault (op k2 n2 k n nf : Int) (t2 t tf : ByteArray) (HF : ∀ w1, Calls Tryz.prog 84 #[.agg #[.int .i64 k, .int .i64 n, .string t]] w1 (ValIs 4 nf tf w1)) (w : World) :
    Calls Tryz.prog 65 #[.agg #[.int .i64 op, .int .i64 k2, .int .i64 n2, .string t2], .agg #[.int .i64 k, .int .i64 n, .string t]] w (Bit false w) := by
  have HF := Lib.hid HF
  have hc0 := CellsAt.new w [.int .i64 op, .int .i64 k2, .int .i64 n2, .string t2] 77
  have ha0 := hc0.on_alloc (.cells #[.int .i64 k, .int .i64 n, .string t] 26)
  have hz0 := cells_new (w0 := w.alloc (.cells #[.int .i64 op, .int .i64 k2, .int .i64 n2, .string t2] 77)) (g := w.heap.size + 1) (by simp) [.int .i64 k, .int .i64 n, .string t] 26
  have hb0 := below2 w (.cells #[.int .i64 op, .int .i64 k2, .int .i64 n2, .string t2] 77) (.cells #[.int .i64 k, .int .i64 n, .string t] 26)
  clear hc0
  go_enter Tryz.func65, Tryz.ntmps65
  go_wp2_with fail
  refine (HF.out _).mono ?_
  rintro e w1 ⟨rfl, hb1⟩
  have ha1 := ha0.on hb1
  have hz1 := hz0.on hb1
  replace hb0 := on hb0 hb1
  obtain ⟨p0, p1, p2, q0, q1, q2⟩ := hz1.three
  obtain ⟨c0, c1, c2, c3, _⟩ := (ha1.put3_far (c := w.heap.size + 1) (by omega) (.int .i64 4) (.int .i64 nf) (.string tf)).four
  obtain ⟨z0, z1, z2, _⟩ := (hz1.put3 (.int .i64 4) (.int .i64 nf) (.string tf)).three
  have ha2 := Lib.hid (ha1.put3_far (c := w.heap.size + 1) (by omega) (.int .i64 4) (.int .i64 nf) (.string tf))
  have hz2 := Lib.hid (hz1.put3 (.int .i64 4) (.int .i64 nf) (.string tf))
  have hb2 := set3 hb0 (b := w.heap.size + 1) (by omega) (.int .i64 4) (.int .i64 nf) (.string tf)
  simp only [put3] at c0 c1 c2 c3 z0 z1 z2 ha2 hz2
  clear ha0 hz0 hb1 ha1 hz1 hb0 HF
  clear ha2 hz2
  go_wp2
  go_ret
  exact ⟨rfl, hb2⟩
set_option maxRecDepth 100000 in
set_option maxHeartbeats 2000000 in
theorem hits_unlike (op k2 n2 k n kf nf : Int) (t2 t tf : ByteArray) (HF : ∀ w1, Calls Tryz.prog 84 #[.agg #[.int .i64 k, .int .i64 n, .string t]] w1 (ValIs kf nf tf w1)) (h4 : (kf == 4) = false) (hk : (kf == k2) = false) (b : Bool) (hb : (op == 8) = b) (w : World) :
    Calls Tryz.prog 65 #[.agg #[.int .i64 op, .int .i64 k2, .int .i64 n2, .string t2], .agg #[.int .i64 k, .int .i64 n, .string t]] w (Bit b w) := by
  have hk2 : (kf != k2) = true := by simp only [bne, hk]; rfl
  subst hb
  have HF := Lib.hid HF
  have hc0 := CellsAt.new w [.int .i64 op, .int .i64 k2, .int .i64 n2, .string t2] 77
  have ha0 := hc0.on_alloc (.cells #[.int .i64 k, .int .i64 n, .string t] 26)
  have hz0 := cells_new (w0 := w.alloc (.cells #[.int .i64 op, .int .i64 k2, .int .i64 n2, .string t2] 77)) (g := w.heap.size + 1) (by simp) [.int .i64 k, .int .i64 n, .string t] 26
  have hb0 := below2 w (.cells #[.int .i64 op, .int .i64 k2, .int .i64 n2, .string t2] 77) (.cells #[.int .i64 k, .int .i64 n, .string t] 26)
  clear hc0
  go_enter Tryz.func65, Tryz.ntmps65
  go_wp2_with fail
  refine (HF.out _).mono ?_
  rintro e w1 ⟨rfl, hb1⟩
  have ha1 := ha0.on hb1
  have hz1 := hz0.on hb1
  replace hb0 := on hb0 hb1
  obtain ⟨p0, p1, p2, q0, q1, q2⟩ := hz1.three
  obtain ⟨c0, c1, c2, c3, _⟩ := (ha1.put3_far (c := w.heap.size + 1) (by omega) (.int .i64 kf) (.int .i64 nf) (.string tf)).four
  obtain ⟨z0, z1, z2, _⟩ := (hz1.put3 (.int .i64 kf) (.int .i64 nf) (.string tf)).three
  have ha2 := Lib.hid (ha1.put3_far (c := w.heap.size + 1) (by omega) (.int .i64 kf) (.int .i64 nf) (.string tf))
  have hz2 := Lib.hid (hz1.put3 (.int .i64 kf) (.int .i64 nf) (.string tf))
  have hb2 := set3 hb0 (b := w.heap.size + 1) (by omega) (.int .i64 kf) (.int .i64 nf) (.string tf)
  simp only [put3] at c0 c1 c2 c3 z0 z1 z2 ha2 hz2
  clear ha0 hz0 hb1 ha1 hz1 hb0 HF
  clear ha2 hz2
  go_wp2
  go_ret
  exact ⟨rfl, hb2⟩
set_option maxRecDepth 100000 in
set_option maxHeartbeats 2000000 in
theorem hits_text_eq (HTS : TrimsStars) (n2 k n nf : Int) (t2 t tf : ByteArray) (h1 : t2.size ≤ 1000) (h2 : tf.size ≤ 1000) (r : Bool) (hr : fitL t2.data.toList tf.data.toList = r) (HF : ∀ w1, Calls Tryz.prog 84 #[.agg #[.int .i64 k, .int .i64 n, .string t]] w1 (ValIs 2 nf tf w1)) (w : World) :
    Calls Tryz.prog 65 #[.agg #[.int .i64 7, .int .i64 2, .int .i64 n2, .string t2], .agg #[.int .i64 k, .int .i64 n, .string t]] w (Bit r w) := by
  have HL := Lib.hid (fun w1 => like_c HTS t2 tf h1 h2 r hr w1)
  clear HTS hr
  have HF := Lib.hid HF
  have hc0 := CellsAt.new w [.int .i64 7, .int .i64 2, .int .i64 n2, .string t2] 77
  have ha0 := hc0.on_alloc (.cells #[.int .i64 k, .int .i64 n, .string t] 26)
  have hz0 := cells_new (w0 := w.alloc (.cells #[.int .i64 7, .int .i64 2, .int .i64 n2, .string t2] 77)) (g := w.heap.size + 1) (by simp) [.int .i64 k, .int .i64 n, .string t] 26
  have hb0 := below2 w (.cells #[.int .i64 7, .int .i64 2, .int .i64 n2, .string t2] 77) (.cells #[.int .i64 k, .int .i64 n, .string t] 26)
  clear hc0
  go_enter Tryz.func65, Tryz.ntmps65
  go_wp2_with fail
  refine (HF.out _).mono ?_
  rintro e w1 ⟨rfl, hb1⟩
  have ha1 := ha0.on hb1
  have hz1 := hz0.on hb1
  replace hb0 := on hb0 hb1
  obtain ⟨p0, p1, p2, q0, q1, q2⟩ := hz1.three
  obtain ⟨c0, c1, c2, c3, _⟩ := (ha1.put3_far (c := w.heap.size + 1) (by omega) (.int .i64 2) (.int .i64 nf) (.string tf)).four
  obtain ⟨z0, z1, z2, _⟩ := (hz1.put3 (.int .i64 2) (.int .i64 nf) (.string tf)).three
  have ha2 := Lib.hid (ha1.put3_far (c := w.heap.size + 1) (by omega) (.int .i64 2) (.int .i64 nf) (.string tf))
  have hz2 := Lib.hid (hz1.put3 (.int .i64 2) (.int .i64 nf) (.string tf))
  have hb2 := set3 hb0 (b := w.heap.size + 1) (by omega) (.int .i64 2) (.int .i64 nf) (.string tf)
  simp only [put3] at c0 c1 c2 c3 z0 z1 z2 ha2 hz2
  clear ha0 hz0 hb1 ha1 hz1 hb0 HF
  clear ha2 hz2
  go_wp2_with fail
  refine (HL.out _).mono ?_
  rintro e w2 ⟨rfl, hb3⟩
  replace hb2 := on hb2 hb3
  clear p0 p1 p2 q0 q1 q2 c0 c1 c2 c3 z0 z1 z2 hb3 HL
  go_wp2
  go_ret
  exact ⟨rfl, hb2⟩
set_option maxRecDepth 100000 in
set_option maxHeartbeats 2000000 in
theorem hits_text_ne (HTS : TrimsStars) (n2 k n nf : Int) (t2 t tf : ByteArray) (h1 : t2.size ≤ 1000) (h2 : tf.size ≤ 1000) (r : Bool) (hr : fitL t2.data.toList tf.data.toList = r) (HF : ∀ w1, Calls Tryz.prog 84 #[.agg #[.int .i64 k, .int .i64 n, .string t]] w1 (ValIs 2 nf tf w1)) (w : World) :
    Calls Tryz.prog 65 #[.agg #[.int .i64 8, .int .i64 2, .int .i64 n2, .string t2], .agg #[.int .i64 k, .int .i64 n, .string t]] w (Bit (!r) w) := by
  have HL := Lib.hid (fun w1 => like_c HTS t2 tf h1 h2 r hr w1)
  clear HTS hr
  have HF := Lib.hid HF
  have hc0 := CellsAt.new w [.int .i64 8, .int .i64 2, .int .i64 n2, .string t2] 77
  have ha0 := hc0.on_alloc (.cells #[.int .i64 k, .int .i64 n, .string t] 26)
  have hz0 := cells_new (w0 := w.alloc (.cells #[.int .i64 8, .int .i64 2, .int .i64 n2, .string t2] 77)) (g := w.heap.size + 1) (by simp) [.int .i64 k, .int .i64 n, .string t] 26
  have hb0 := below2 w (.cells #[.int .i64 8, .int .i64 2, .int .i64 n2, .string t2] 77) (.cells #[.int .i64 k, .int .i64 n, .string t] 26)
  clear hc0
  go_enter Tryz.func65, Tryz.ntmps65
  go_wp2_with fail
  refine (HF.out _).mono ?_
  rintro e w1 ⟨rfl, hb1⟩
  have ha1 := ha0.on hb1
  have hz1 := hz0.on hb1
  replace hb0 := on hb0 hb1
  obtain ⟨p0, p1, p2, q0, q1, q2⟩ := hz1.three
  obtain ⟨c0, c1, c2, c3, _⟩ := (ha1.put3_far (c := w.heap.size + 1) (by omega) (.int .i64 2) (.int .i64 nf) (.string tf)).four
  obtain ⟨z0, z1, z2, _⟩ := (hz1.put3 (.int .i64 2) (.int .i64 nf) (.string tf)).three
  have ha2 := Lib.hid (ha1.put3_far (c := w.heap.size + 1) (by omega) (.int .i64 2) (.int .i64 nf) (.string tf))
  have hz2 := Lib.hid (hz1.put3 (.int .i64 2) (.int .i64 nf) (.string tf))
  have hb2 := set3 hb0 (b := w.heap.size + 1) (by omega) (.int .i64 2) (.int .i64 nf) (.string tf)
  simp only [put3] at c0 c1 c2 c3 z0 z1 z2 ha2 hz2
  clear ha0 hz0 hb1 ha1 hz1 hb0 HF
  clear ha2 hz2
  go_wp2_with fail
  refine (HL.out _).mono ?_
  rintro e w2 ⟨rfl, hb3⟩
  replace hb2 := on hb2 hb3
  clear p0 p1 p2 q0 q1 q2 c0 c1 c2 c3 z0 z1 z2 hb3 HL
  go_wp2
  go_ret
  exact ⟨rfl, hb2⟩
set_option maxRecDepth 100000 in
set_option maxHeartbeats 2000000 in
theorem hits_alike (op n2 k n kf nf way : Int) (t2 t tf : ByteArray) (HF : ∀ w1, Calls Tryz.prog 84 #[.agg #[.int .i64 k, .int .i64 n, .string t]] w1 (ValIs kf nf tf w1)) (h4 : (kf == 4) = false) (hways : (kf == 2) = false ∨ (kf = 2 ∧ (op == 7) = false ∧ (op == 8) = false)) (o1 : 7 ≤ op) (o2 : op ≤ 12) (b : Bool) (hb : holdsD op (way == 0) way = b)
    (HC : ∀ w1, Calls Tryz.prog 61 #[.agg #[.int .i64 kf, .int .i64 nf, .string tf], .agg #[.int .i64 kf, .int .i64 n2, .string t2]] w1 fun e w' => e = .returned (.int .i64 way) ∧ Below w1.heap.size w1 w') (w : World) :
    Calls Tryz.prog 65 #[.agg #[.int .i64 op, .int .i64 kf, .int .i64 n2, .string t2], .agg #[.int .i64 k, .int .i64 n, .string t]] w (Bit b w) := by
  have hk1 : (kf == kf) = true := by simp
  have hk2 : (kf != kf) = false := by simp
  have HH : Hid (∀ w1, Calls Tryz.prog 86 #[.int .i64 op, .int .i64 way] w1 fun e w' => e = .returned (.bool b) ∧ Below w1.heap.size w1 w') := Lib.hid (fun w1 => (holds_c op way o1 o2 b hb w1).mono fun e w' ⟨h1, h2⟩ => ⟨h1, h2 ▸ Below.refl _ _⟩)
  have HC := Lib.hid HC
  clear hb o1 o2
  rcases hways with hk3 | ⟨rfl, hk3, hk4⟩
  · have HF := Lib.hid HF
    have hc0 := CellsAt.new w [.int .i64 op, .int .i64 kf, .int .i64 n2, .string t2] 77
    have ha0 := hc0.on_alloc (.cells #[.int .i64 k, .int .i64 n, .string t] 26)
    have hz0 := cells_new (w0 := w.alloc (.cells #[.int .i64 op, .int .i64 kf, .int .i64 n2, .string t2] 77)) (g := w.heap.size + 1) (by simp) [.int .i64 k, .int .i64 n, .string t] 26
    have hb0 := below2 w (.cells #[.int .i64 op, .int .i64 kf, .int .i64 n2, .string t2] 77) (.cells #[.int .i64 k, .int .i64 n, .string t] 26)
    clear hc0
    go_enter Tryz.func65, Tryz.ntmps65
    go_wp2_with fail
    refine (HF.out _).mono ?_
    rintro e w1 ⟨rfl, hb1⟩
    have ha1 := ha0.on hb1
    have hz1 := hz0.on hb1
    replace hb0 := on hb0 hb1
    obtain ⟨p0, p1, p2, q0, q1, q2⟩ := hz1.three
    obtain ⟨c0, c1, c2, c3, _⟩ := (ha1.put3_far (c := w.heap.size + 1) (by omega) (.int .i64 kf) (.int .i64 nf) (.string tf)).four
    obtain ⟨z0, z1, z2, _⟩ := (hz1.put3 (.int .i64 kf) (.int .i64 nf) (.string tf)).three
    have ha2 := Lib.hid (ha1.put3_far (c := w.heap.size + 1) (by omega) (.int .i64 kf) (.int .i64 nf) (.string tf))
    have hz2 := Lib.hid (hz1.put3 (.int .i64 kf) (.int .i64 nf) (.string tf))
    have hb2 := set3 hb0 (b := w.heap.size + 1) (by omega) (.int .i64 kf) (.int .i64 nf) (.string tf)
    simp only [put3] at c0 c1 c2 c3 z0 z1 z2 ha2 hz2
    clear ha0 hz0 hb1 ha1 hz1 hb0 HF
    go_wp2_with fail
    generalize ((w1.setCell ⟨w.heap.size + 1, 0, none⟩ (.int .i64 kf)).setCell ⟨w.heap.size + 1, 1, none⟩ (.int .i64 nf)).setCell ⟨w.heap.size + 1, 2, none⟩ (.string tf) = W2 at *
    clear c0 c1 c2 c3 z0 z1 z2 p0 p1 p2 q0 q1 q2
    obtain ⟨c0, c1, c2, c3, _⟩ := ha2.out.four
    obtain ⟨z0, z1, z2, _⟩ := hz2.out.three
    have C0 := fun d os => cell_regrown c0 d os
    have C1 := fun d os => cell_regrown c1 d os
    have C2 := fun d os => cell_regrown c2 d os
    have C3 := fun d os => cell_regrown c3 d os
    have D0 := fun d os => cell_regrown z0 d os
    have D1 := fun d os => cell_regrown z1 d os
    have D2 := fun d os => cell_regrown z2 d os
    refine wp_region_mem 8 (fun d => match d with
      | 57 => some (Is (.int .i64 way))
      | 58 => some (Is (.bool b))
      | _ => none) (by kernel_rfl) (by kernel_rfl) ?_
    simp only [List.take_succ_cons, List.take_zero, List.drop_succ_cons, List.drop_zero]
    repeat (first | ((with_reducible refine wpM_calm ?_ ?_ ?_ ?_); exact rfl; exact rfl; exact rfl; intro K hK; go_big_quiet_op; go_big_quiet_on) | ((with_reducible refine wpM_skip ?_ ?_); exact rfl; simp only [Act.put, List.setIfInBounds_toArray, List.set_cons_succ, List.set_cons_zero]))
    refine wpM_exact rfl rfl rfl Tryz.func61 (by kernel_rfl) (by kernel_rfl) (fun w1 _ _ => HC.out w1) rfl (by simp only [Act.put, List.setIfInBounds_toArray, List.set_cons_succ, List.set_cons_zero]; rfl) ?_
    repeat (first | ((with_reducible refine wpM_calm ?_ ?_ ?_ ?_); exact rfl; exact rfl; exact rfl; intro K hK; go_big_quiet_op; go_big_quiet_on) | ((with_reducible refine wpM_skip ?_ ?_); exact rfl; simp only [Act.put, List.setIfInBounds_toArray, List.set_cons_succ, List.set_cons_zero]))
    refine wpM_exact rfl rfl rfl Tryz.func86 (by kernel_rfl) (by kernel_rfl) (fun w1 _ _ => HH.out w1) rfl (by simp only [Act.put, List.setIfInBounds_toArray, List.set_cons_succ, List.set_cons_zero]; rfl) ?_
    repeat (first | ((with_reducible refine wpM_calm ?_ ?_ ?_ ?_); exact rfl; exact rfl; exact rfl; intro K hK; go_big_quiet_op; go_big_quiet_on) | ((with_reducible refine wpM_skip ?_ ?_); exact rfl; simp only [Act.put, List.setIfInBounds_toArray, List.set_cons_succ, List.set_cons_zero]))
    refine wpM_nil ?_
    intro w9 hw9 _
    clear c0 c1 c2 c3 z0 z1 z2 C0 C1 C2 C3 D0 D1 D2 ha2 hz2
    go_wp2
    go_ret
    exact ⟨rfl, on hb2 hw9⟩
  · have HF := Lib.hid HF
    have hc0 := CellsAt.new w [.int .i64 op, .int .i64 2, .int .i64 n2, .string t2] 77
    have ha0 := hc0.on_alloc (.cells #[.int .i64 k, .int .i64 n, .string t] 26)
    have hz0 := cells_new (w0 := w.alloc (.cells #[.int .i64 op, .int .i64 2, .int .i64 n2, .string t2] 77)) (g := w.heap.size + 1) (by simp) [.int .i64 k, .int .i64 n, .string t] 26
    have hb0 := below2 w (.cells #[.int .i64 op, .int .i64 2, .int .i64 n2, .string t2] 77) (.cells #[.int .i64 k, .int .i64 n, .string t] 26)
    clear hc0
    go_enter Tryz.func65, Tryz.ntmps65
    go_wp2_with fail
    refine (HF.out _).mono ?_
    rintro e w1 ⟨rfl, hb1⟩
    have ha1 := ha0.on hb1
    have hz1 := hz0.on hb1
    replace hb0 := on hb0 hb1
    obtain ⟨p0, p1, p2, q0, q1, q2⟩ := hz1.three
    obtain ⟨c0, c1, c2, c3, _⟩ := (ha1.put3_far (c := w.heap.size + 1) (by omega) (.int .i64 2) (.int .i64 nf) (.string tf)).four
    obtain ⟨z0, z1, z2, _⟩ := (hz1.put3 (.int .i64 2) (.int .i64 nf) (.string tf)).three
    have ha2 := Lib.hid (ha1.put3_far (c := w.heap.size + 1) (by omega) (.int .i64 2) (.int .i64 nf) (.string tf))
    have hz2 := Lib.hid (hz1.put3 (.int .i64 2) (.int .i64 nf) (.string tf))
    have hb2 := set3 hb0 (b := w.heap.size + 1) (by omega) (.int .i64 2) (.int .i64 nf) (.string tf)
    simp only [put3] at c0 c1 c2 c3 z0 z1 z2 ha2 hz2
    clear ha0 hz0 hb1 ha1 hz1 hb0 HF
    go_wp2_with fail
    generalize ((w1.setCell ⟨w.heap.size + 1, 0, none⟩ (.int .i64 2)).setCell ⟨w.heap.size + 1, 1, none⟩ (.int .i64 nf)).setCell ⟨w.heap.size + 1, 2, none⟩ (.string tf) = W2 at *
    clear c0 c1 c2 c3 z0 z1 z2 p0 p1 p2 q0 q1 q2
    obtain ⟨c0, c1, c2, c3, _⟩ := ha2.out.four
    obtain ⟨z0, z1, z2, _⟩ := hz2.out.three
    have C0 := fun d os => cell_regrown c0 d os
    have C1 := fun d os => cell_regrown c1 d os
    have C2 := fun d os => cell_regrown c2 d os
    have C3 := fun d os => cell_regrown c3 d os
    have D0 := fun d os => cell_regrown z0 d os
    have D1 := fun d os => cell_regrown z1 d os
    have D2 := fun d os => cell_regrown z2 d os
    refine wp_region_mem 8 (fun d => match d with
      | 57 => some (Is (.int .i64 way))
      | 58 => some (Is (.bool b))
      | _ => none) (by kernel_rfl) (by kernel_rfl) ?_
    simp only [List.take_succ_cons, List.take_zero, List.drop_succ_cons, List.drop_zero]
    repeat (first | ((with_reducible refine wpM_calm ?_ ?_ ?_ ?_); exact rfl; exact rfl; exact rfl; intro K hK; go_big_quiet_op; go_big_quiet_on) | ((with_reducible refine wpM_skip ?_ ?_); exact rfl; simp only [Act.put, List.setIfInBounds_toArray, List.set_cons_succ, List.set_cons_zero]))
    refine wpM_exact rfl rfl rfl Tryz.func61 (by kernel_rfl) (by kernel_rfl) (fun w1 _ _ => HC.out w1) rfl (by simp only [Act.put, List.setIfInBounds_toArray, List.set_cons_succ, List.set_cons_zero]; rfl) ?_
    repeat (first | ((with_reducible refine wpM_calm ?_ ?_ ?_ ?_); exact rfl; exact rfl; exact rfl; intro K hK; go_big_quiet_op; go_big_quiet_on) | ((with_reducible refine wpM_skip ?_ ?_); exact rfl; simp only [Act.put, List.setIfInBounds_toArray, List.set_cons_succ, List.set_cons_zero]))
    refine wpM_exact rfl rfl rfl Tryz.func86 (by kernel_rfl) (by kernel_rfl) (fun w1 _ _ => HH.out w1) rfl (by simp only [Act.put, List.setIfInBounds_toArray, List.set_cons_succ, List.set_cons_zero]; rfl) ?_
    repeat (first | ((with_reducible refine wpM_calm ?_ ?_ ?_ ?_); exact rfl; exact rfl; exact rfl; intro K hK; go_big_quiet_op; go_big_quiet_on) | ((with_reducible refine wpM_skip ?_ ?_); exact rfl; simp only [Act.put, List.setIfInBounds_toArray, List.set_cons_succ, List.set_cons_zero]))
    refine wpM_nil ?_
    intro w9 hw9 _
    clear c0 c1 c2 c3 z0 z1 z2 C0 C1 C2 C3 D0 D1 D2 ha2 hz2
    go_wp2
    go_ret
    exact ⟨rfl, on hb2 hw9⟩
end Go.Proofs.YtbjomidkeignjaaGreatDoor.Crt

/- How two values stand that are no faults: package value's Compare and the reference's, of any kinds: whether they are found as one another. Written by wip/gen18c.py.
   Where a value is found: package look's found and Match, the reference's found and Match. Written by wip/gen18d.py. -/
import Derived.Test.YtbjomidkeignjaaGreatDoorL1
import Derived.Test.YtbjomidkeignjaaGreatDoorG15
import Derived.Test.YtbjomidkeignjaaGreatDoorL2
namespace Go.Proofs.YtbjomidkeignjaaGreatDoor.Lok
open Go.RowKit Kit Reg Dec Dig Val Fld
open Crt (wayI way_same way_zero way_ways cmp_int cmp_int64 or_c beside_c lessL rless_c less_cons_eq less_cons_ne less_short cmp_less cmp_ways less_none)

set_option maxRecDepth 100000 in
set_option maxHeartbeats 2000000 in
theorem beside_e (n j : Int) (t : ByteArray) (w : World) : Calls Tryz.prog 76 #[.agg #[.int .i64 0, .int .i64 n, .string t], .int .i64 j] w (ValIs j 0 ⟨#[]⟩ w) := by
  go_enter Tryz.func76, Tryz.ntmps76
  go_wp2
  exact bodyPost_ret (v := .agg #[.int .i64 j, .int .i64 0, .string ⟨#[]⟩]) (by simp [results, Tryz.results76, go_sem]) rfl ⟨rfl, below2 _ _ _⟩
set_option maxRecDepth 100000 in
set_option maxHeartbeats 2000000 in
theorem or_first (g : Nat) (c a z : Int) (hc : ¬ c = 0) (w : World) (h0 : w.cell? ⟨g, 0, none⟩ = some (.int .i64 c)) :
    Calls Tryz.prog 77 #[.slice (some ⟨g, 0, none⟩) 3 3] w fun e w' => e = .returned (.int .i64 c) ∧ Below w.heap.size w w' := by
  have H0 := Lib.hid h0
  have q : (c == 0) = false := by simp [hc]
  have q2 : (c != 0) = true := by simp [hc]
  have q3 : (a == a) = true := by simp
  have q4 : (z == z) = true := by simp
  clear h0 q3 q4
  go_enter Tryz.func77, Tryz.ntmps77
  go_wp2
  go_loopw [8] (fun i wr => i = .int .i64 ((0 : Nat) : Int) ∧ Below w.heap.size w wr) (fun i _ => 3 - (intOf i).toNat)
  case atStart => exact ⟨rfl, Below.refl _ _⟩
  case round =>
    obtain ⟨rfl, hb⟩ := hrel
    have x0 := kept hb H0.out
    clear H0
    go_wp2
    go_ret
    exact ⟨rfl, hb⟩
theorem or_any (g : Nat) (c a z r : Int) (h : (¬ c = 0 ∧ r = c) ∨ (c = 0 ∧ ((¬ a = 0 ∧ r = a) ∨ (a = 0 ∧ r = z)))) (w : World) (h0 : w.cell? ⟨g, 0, none⟩ = some (.int .i64 c)) (h1 : w.cell? ⟨g, 1, none⟩ = some (.int .i64 a)) (h2 : w.cell? ⟨g, 2, none⟩ = some (.int .i64 z)) :
    Calls Tryz.prog 77 #[.slice (some ⟨g, 0, none⟩) 3 3] w fun e w' => e = .returned (.int .i64 r) ∧ Below w.heap.size w w' := by
  rcases h with ⟨hc, rfl⟩ | ⟨rfl, h⟩
  · exact or_first g r a z hc w h0
  · exact or_c g a z r h w h0 h1 h2
set_option maxRecDepth 100000 in
set_option maxHeartbeats 4000000 in
theorem compare_any (ka kb k1 k2 na nb n m : Int) (ta tb s t : ByteArray) (a4 : (ka == 4) = false) (b4 : (kb == 4) = false)
    (HB1 : ∀ w1, Calls Tryz.prog 76 #[.agg #[.int .i64 ka, .int .i64 na, .string ta], .int .i64 kb] w1 (ValIs k1 n s w1))
    (HB2 : ∀ w1, Calls Tryz.prog 76 #[.agg #[.int .i64 kb, .int .i64 nb, .string tb], .int .i64 ka] w1 (ValIs k2 m t w1))
    (c a z r : Int) (hc : wayI k1 k2 = c) (ha : wayI n m = a) (hz : Lib.compareBytes s.data.toList t.data.toList = z) (h : (¬ c = 0 ∧ r = c) ∨ (c = 0 ∧ ((¬ a = 0 ∧ r = a) ∨ (a = 0 ∧ r = z)))) (w : World) :
    Calls Tryz.prog 61 #[.agg #[.int .i64 ka, .int .i64 na, .string ta], .agg #[.int .i64 kb, .int .i64 nb, .string tb]] w fun e w' => e = .returned (.int .i64 r) ∧ Below w.heap.size w w' := by
  have H1 := Lib.hid HB1
  have H2 := Lib.hid HB2
  have H3 : Hid (∀ w1, Calls Tryz.prog 78 #[.int .i64 k1, .int .i64 k2] w1 fun e w' => e = .returned (.int .i64 c) ∧ Below w1.heap.size w1 w') := Lib.hid (fun w1 => (cmp_int k1 k2 c hc w1).mono fun e w' ⟨h1, h2⟩ => ⟨h1, h2 ▸ Below.refl _ _⟩)
  have H4 : Hid (∀ w1, Calls Tryz.prog 79 #[.int .i64 n, .int .i64 m] w1 fun e w' => e = .returned (.int .i64 a) ∧ Below w1.heap.size w1 w') := Lib.hid (fun w1 => (cmp_int64 n m a ha w1).mono fun e w' ⟨h1, h2⟩ => ⟨h1, h2 ▸ Below.refl _ _⟩)
  have H5 : Hid (∀ w1, Calls Tryz.prog 80 #[.string s, .string t] w1 fun e w' => e = .returned (.int .i64 z) ∧ Below w1.heap.size w1 w') := Lib.hid (fun w1 => (Tryz.strings_Compare s t w1).mono fun e w' ⟨h1, h2⟩ => ⟨by rw [h1, hz], h2 ▸ Below.refl _ _⟩)
  have HO := Lib.hid (fun (g : Nat) (w1 : World) h0 h1 h2 => or_any g c a z r h w1 h0 h1 h2)
  clear ha hz hc h
  go_enter Tryz.func61, Tryz.ntmps61
  go_wp2_with fail
  have ha := (CellsAt.new w [.int .i64 ka, .int .i64 na, .string ta] 26).on_alloc (.cells #[.int .i64 kb, .int .i64 nb, .string tb] 26)
  have hz := CellsAt.new (w.alloc (.cells #[.int .i64 ka, .int .i64 na, .string ta] 26)) [.int .i64 kb, .int .i64 nb, .string tb] 26
  have hb0 := below2 w (.cells #[.int .i64 ka, .int .i64 na, .string ta] 26) (.cells #[.int .i64 kb, .int .i64 nb, .string tb] 26)
  rw [show (w.alloc (.cells #[.int .i64 ka, .int .i64 na, .string ta] 26)).heap.size = w.heap.size + 1 by simp] at hz
  generalize (w.alloc (.cells #[.int .i64 ka, .int .i64 na, .string ta] 26)).alloc (.cells #[.int .i64 kb, .int .i64 nb, .string tb] 26) = W at *
  obtain ⟨a0, a1, a2, _⟩ := ha.three
  obtain ⟨z0, z1, z2, _⟩ := hz.three
  have C0 := fun d os => cell_regrown a0 d os
  have C1 := fun d os => cell_regrown a1 d os
  have C2 := fun d os => cell_regrown a2 d os
  have D0 := fun d os => cell_regrown z0 d os
  have D1 := fun d os => cell_regrown z1 d os
  have D2 := fun d os => cell_regrown z2 d os
  clear a0 a1 a2 z0 z1 z2
  refine wp_region_mem 8 (fun d => match d with
    | 16 => some (Is (.agg #[.int .i64 k1, .int .i64 n, .string s]))
    | 20 => some (Is (.agg #[.int .i64 k2, .int .i64 m, .string t]))
    | _ => none) (by kernel_rfl) (by kernel_rfl) ?_
  simp only [List.take_succ_cons, List.take_zero, List.drop_succ_cons, List.drop_zero]
  repeat (first | ((with_reducible refine wpM_calm ?_ ?_ ?_ ?_); exact rfl; exact rfl; exact rfl; intro K hK; go_big_quiet_op; go_big_quiet_on) | ((with_reducible refine wpM_skip ?_ ?_); exact rfl; simp only [Act.put, List.setIfInBounds_toArray, List.set_cons_succ, List.set_cons_zero]))
  refine wpM_exact rfl rfl rfl Tryz.func76 (by kernel_rfl) (by kernel_rfl) (fun w1 _ _ => H1.out w1) rfl (by simp only [Act.put, List.setIfInBounds_toArray, List.set_cons_succ, List.set_cons_zero]; rfl) ?_
  repeat (first | ((with_reducible refine wpM_calm ?_ ?_ ?_ ?_); exact rfl; exact rfl; exact rfl; intro K hK; go_big_quiet_op; go_big_quiet_on) | ((with_reducible refine wpM_skip ?_ ?_); exact rfl; simp only [Act.put, List.setIfInBounds_toArray, List.set_cons_succ, List.set_cons_zero]))
  refine wpM_exact rfl rfl rfl Tryz.func76 (by kernel_rfl) (by kernel_rfl) (fun w1 _ _ => H2.out w1) rfl (by simp only [Act.put, List.setIfInBounds_toArray, List.set_cons_succ, List.set_cons_zero]; rfl) ?_
  refine wpM_nil ?_
  intro w1 hw1 _
  clear C0 C1 C2 D0 D1 D2
  replace ha := (ha.on hw1)
  replace hz := (hz.on hw1)
  obtain ⟨a0, a1, a2, f0, f1, f2⟩ := ha.three
  obtain ⟨z0, z1, z2, g0, g1, g2⟩ := (hz.put3_far (c := w.heap.size) (by omega) (.int .i64 k1) (.int .i64 n) (.string s)).three
  replace hz := (hz.put3_far (c := w.heap.size) (by omega) (.int .i64 k1) (.int .i64 n) (.string s)).put3 (.int .i64 k2) (.int .i64 m) (.string t)
  replace ha := (ha.put3 (.int .i64 k1) (.int .i64 n) (.string s)).put3_far (c := w.heap.size + 1) (by omega) (.int .i64 k2) (.int .i64 m) (.string t)
  replace hb0 := set3 (set3 (on hb0 hw1) (Nat.le_refl _) (.int .i64 k1) (.int .i64 n) (.string s)) (b := w.heap.size + 1) (by omega) (.int .i64 k2) (.int .i64 m) (.string t)
  clear hw1
  go_wp2_with fail
  clear a0 a1 a2 f0 f1 f2 z0 z1 z2 g0 g1 g2
  simp only [put3] at hz ha
  generalize (((((w1.setCell ⟨w.heap.size, 0, none⟩ (.int .i64 k1)).setCell ⟨w.heap.size, 1, none⟩ (.int .i64 n)).setCell ⟨w.heap.size, 2, none⟩ (.string s)).setCell
    ⟨w.heap.size + 1, 0, none⟩ (.int .i64 k2)).setCell ⟨w.heap.size + 1, 1, none⟩ (.int .i64 m)).setCell ⟨w.heap.size + 1, 2, none⟩ (.string t) = W2 at *
  obtain ⟨a0, a1, a2, _⟩ := ha.three
  obtain ⟨z0, z1, z2, _⟩ := hz.three
  have C0 := fun d os => cell_regrown a0 d os
  have C1 := fun d os => cell_regrown a1 d os
  have C2 := fun d os => cell_regrown a2 d os
  have D0 := fun d os => cell_regrown z0 d os
  have D1 := fun d os => cell_regrown z1 d os
  have D2 := fun d os => cell_regrown z2 d os
  clear a0 a1 a2 z0 z1 z2 ha hz
  refine wp_region_mem 17 (fun d => match d with
    | 25 => some (Is (.int .i64 c))
    | 30 => some (Is (.int .i64 a))
    | 35 => some (Is (.int .i64 z))
    | 36 => some (NewSlice [.int .i64 c, .int .i64 a, .int .i64 z])
    | 37 => some (Is (.int .i64 r))
    | _ => none) (by kernel_rfl) (by kernel_rfl) ?_
  simp only [List.take_succ_cons, List.take_zero, List.drop_succ_cons, List.drop_zero]
  repeat (first | ((with_reducible refine wpM_calm ?_ ?_ ?_ ?_); exact rfl; exact rfl; exact rfl; intro K hK; go_big_quiet_op; go_big_quiet_on) | ((with_reducible refine wpM_skip ?_ ?_); exact rfl; simp only [Act.put, List.setIfInBounds_toArray, List.set_cons_succ, List.set_cons_zero]))
  refine wpM_exact rfl rfl rfl Tryz.func78 (by kernel_rfl) (by kernel_rfl) (fun w1 _ _ => H3.out w1) rfl (by simp only [Act.put, List.setIfInBounds_toArray, List.set_cons_succ, List.set_cons_zero]; rfl) ?_
  repeat (first | ((with_reducible refine wpM_calm ?_ ?_ ?_ ?_); exact rfl; exact rfl; exact rfl; intro K hK; go_big_quiet_op; go_big_quiet_on) | ((with_reducible refine wpM_skip ?_ ?_); exact rfl; simp only [Act.put, List.setIfInBounds_toArray, List.set_cons_succ, List.set_cons_zero]))
  refine wpM_exact rfl rfl rfl Tryz.func79 (by kernel_rfl) (by kernel_rfl) (fun w1 _ _ => H4.out w1) rfl (by simp only [Act.put, List.setIfInBounds_toArray, List.set_cons_succ, List.set_cons_zero]; rfl) ?_
  repeat (first | ((with_reducible refine wpM_calm ?_ ?_ ?_ ?_); exact rfl; exact rfl; exact rfl; intro K hK; go_big_quiet_op; go_big_quiet_on) | ((with_reducible refine wpM_skip ?_ ?_); exact rfl; simp only [Act.put, List.setIfInBounds_toArray, List.set_cons_succ, List.set_cons_zero]))
  refine wpM_exact rfl rfl rfl Tryz.func80 (by kernel_rfl) (by kernel_rfl) (fun w1 _ _ => H5.out w1) rfl (by simp only [Act.put, List.setIfInBounds_toArray, List.set_cons_succ, List.set_cons_zero]; rfl) ?_
  refine wpM_makes _ rfl rfl (fun w1 hw1 _ => ?_) ?_
  · simp [go_sem, variesUpon]
    exact ⟨below1 _ _, w1.heap.size, rfl, CellsAt.new w1 [.int .i64 c, .int .i64 a, .int .i64 z] _⟩
  rintro v ⟨_, b2, rfl, _⟩ a' ha'
  simp only [Act.put, List.setIfInBounds_toArray, List.set_cons_succ, List.set_cons_zero] at ha'
  subst ha'
  refine wpM_exact rfl rfl rfl Tryz.func77 (by kernel_rfl) (by kernel_rfl) ?_ rfl (by simp only [Act.put, List.setIfInBounds_toArray, List.set_cons_succ, List.set_cons_zero]; rfl) ?_
  · intro w1 _ hl
    obtain ⟨b3, e, hl3⟩ := NewSlice.up ((looks_at (k := 15) (d := 36) hl (by kernel_rfl) (by kernel_rfl)).2 rfl)
    obtain rfl : b2 = b3 := by simpa using e
    exact HO.out _ w1 (hl3.2 0 _ rfl).1 (hl3.2 1 _ rfl).1 (hl3.2 2 _ rfl).1
  refine wpM_nil ?_
  intro w1 hw1 _
  go_wp2
  go_ret
  exact ⟨rfl, on hb0 hw1⟩
set_option maxRecDepth 100000 in
set_option maxHeartbeats 2000000 in
theorem rahead_00 (n m : Int) (s t : ByteArray) (hs : s.size ≤ 1000) (ht : t.size ≤ 1000) (r : Bool) (hr : (decide (n < m) || lessL s.data.toList t.data.toList) = r) (w : World) :
    Calls Tryz.prog 81 #[.agg #[.int .i64 0, .int .i64 n, .string s], .agg #[.int .i64 0, .int .i64 m, .string t]] w fun e w' => e = .returned (.bool r) ∧ Below w.heap.size w w' := by
  have HX : Hid (∀ q, lessL s.data.toList t.data.toList = q → ∀ w, Calls Tryz.prog 100 #[.string s, .string t] w fun e w' => e = .returned (.bool q) ∧ Below w.heap.size w w') := Lib.hid (fun q hq w => rless_c s t hs ht q hq w)
  obtain ⟨q, hq⟩ : ∃ q, lessL s.data.toList t.data.toList = q := ⟨_, rfl⟩
  rw [hq] at hr
  have HL := Lib.hid (HX.out q hq)
  clear hq HX
  have hb0 := below2 w (.cells #[.int .i64 0, .int .i64 n, .string s] 26) (.cells #[.int .i64 0, .int .i64 m, .string t] 26)
  by_cases hnm : n < m
  · have d0 : decide (n < m) = true := decide_eq_true hnm
    rw [d0] at hr
    obtain rfl : r = true := by rw [← hr]; rfl
    clear hr
    go_enter Tryz.func81, Tryz.ntmps81
    go_wp2_with fail
    go_quiet (fail)
    go_wp2
    go_ret
    exact ⟨rfl, on hb0 (drew_below rfl)⟩
  · have d0 : decide (n < m) = false := decide_eq_false hnm
    rw [d0] at hr
    obtain rfl : r = q := by rw [← hr]; rfl
    clear hr
    go_enter Tryz.func81, Tryz.ntmps81
    go_wp2_with fail
    go_quiet (fail)
    go_wp2_with fail
    refine (HL.out _).mono ?_
    rintro e w1 ⟨rfl, hb1⟩
    go_wp2
    go_ret
    exact ⟨rfl, on (on hb0 (drew_below rfl)) hb1⟩
set_option maxRecDepth 100000 in
set_option maxHeartbeats 2000000 in
theorem rahead_0k (kb n m : Int) (s t : ByteArray) (hs : s.size ≤ 1000) (ht : t.size ≤ 1000) (kb0 : (kb == 0) = false) (r : Bool) (hr : (decide (n < m) || lessL s.data.toList t.data.toList) = r) (w : World) :
    Calls Tryz.prog 81 #[.agg #[.int .i64 0, .int .i64 n, .string s], .agg #[.int .i64 kb, .int .i64 m, .string t]] w fun e w' => e = .returned (.bool r) ∧ Below w.heap.size w w' := by
  have hne : (kb != kb) = false := by simp
  have HX : Hid (∀ q, lessL s.data.toList t.data.toList = q → ∀ w, Calls Tryz.prog 100 #[.string s, .string t] w fun e w' => e = .returned (.bool q) ∧ Below w.heap.size w w') := Lib.hid (fun q hq w => rless_c s t hs ht q hq w)
  obtain ⟨q, hq⟩ : ∃ q, lessL s.data.toList t.data.toList = q := ⟨_, rfl⟩
  rw [hq] at hr
  have HL := Lib.hid (HX.out q hq)
  clear hq HX
  have hb0 := below2 w (.cells #[.int .i64 0, .int .i64 n, .string s] 26) (.cells #[.int .i64 kb, .int .i64 m, .string t] 26)
  by_cases hnm : n < m
  · have d0 : decide (n < m) = true := decide_eq_true hnm
    rw [d0] at hr
    obtain rfl : r = true := by rw [← hr]; rfl
    clear hr
    go_enter Tryz.func81, Tryz.ntmps81
    go_wp2_with fail
    go_quiet (fail)
    go_wp2
    go_ret
    exact ⟨rfl, on hb0 (drew_below rfl)⟩
  · have d0 : decide (n < m) = false := decide_eq_false hnm
    rw [d0] at hr
    obtain rfl : r = q := by rw [← hr]; rfl
    clear hr
    go_enter Tryz.func81, Tryz.ntmps81
    go_wp2_with fail
    go_quiet (fail)
    go_wp2_with fail
    refine (HL.out _).mono ?_
    rintro e w1 ⟨rfl, hb1⟩
    go_wp2
    go_ret
    exact ⟨rfl, on (on hb0 (drew_below rfl)) hb1⟩
set_option maxRecDepth 100000 in
set_option maxHeartbeats 2000000 in
theorem rahead_k0 (ka n m : Int) (s t : ByteArray) (hs : s.size ≤ 1000) (ht : t.size ≤ 1000) (ka0 : (ka == 0) = false) (r : Bool) (hr : (decide (n < m) || lessL s.data.toList t.data.toList) = r) (w : World) :
    Calls Tryz.prog 81 #[.agg #[.int .i64 ka, .int .i64 n, .string s], .agg #[.int .i64 0, .int .i64 m, .string t]] w fun e w' => e = .returned (.bool r) ∧ Below w.heap.size w w' := by
  have hne : (ka != ka) = false := by simp
  have HX : Hid (∀ q, lessL s.data.toList t.data.toList = q → ∀ w, Calls Tryz.prog 100 #[.string s, .string t] w fun e w' => e = .returned (.bool q) ∧ Below w.heap.size w w') := Lib.hid (fun q hq w => rless_c s t hs ht q hq w)
  obtain ⟨q, hq⟩ : ∃ q, lessL s.data.toList t.data.toList = q := ⟨_, rfl⟩
  rw [hq] at hr
  have HL := Lib.hid (HX.out q hq)
  clear hq HX
  have hb0 := below2 w (.cells #[.int .i64 ka, .int .i64 n, .string s] 26) (.cells #[.int .i64 0, .int .i64 m, .string t] 26)
  by_cases hnm : n < m
  · have d0 : decide (n < m) = true := decide_eq_true hnm
    rw [d0] at hr
    obtain rfl : r = true := by rw [← hr]; rfl
    clear hr
    go_enter Tryz.func81, Tryz.ntmps81
    go_wp2_with fail
    go_quiet (fail)
    go_wp2
    go_ret
    exact ⟨rfl, on hb0 (drew_below rfl)⟩
  · have d0 : decide (n < m) = false := decide_eq_false hnm
    rw [d0] at hr
    obtain rfl : r = q := by rw [← hr]; rfl
    clear hr
    go_enter Tryz.func81, Tryz.ntmps81
    go_wp2_with fail
    go_quiet (fail)
    go_wp2_with fail
    refine (HL.out _).mono ?_
    rintro e w1 ⟨rfl, hb1⟩
    go_wp2
    go_ret
    exact ⟨rfl, on (on hb0 (drew_below rfl)) hb1⟩
set_option maxRecDepth 100000 in
set_option maxHeartbeats 2000000 in
theorem rahead_kk (ka n m : Int) (s t : ByteArray) (hs : s.size ≤ 1000) (ht : t.size ≤ 1000) (ka0 : (ka == 0) = false) (r : Bool) (hr : (decide (n < m) || lessL s.data.toList t.data.toList) = r) (w : World) :
    Calls Tryz.prog 81 #[.agg #[.int .i64 ka, .int .i64 n, .string s], .agg #[.int .i64 ka, .int .i64 m, .string t]] w fun e w' => e = .returned (.bool r) ∧ Below w.heap.size w w' := by
  have hne : (ka != ka) = false := by simp
  have HX : Hid (∀ q, lessL s.data.toList t.data.toList = q → ∀ w, Calls Tryz.prog 100 #[.string s, .string t] w fun e w' => e = .returned (.bool q) ∧ Below w.heap.size w w') := Lib.hid (fun q hq w => rless_c s t hs ht q hq w)
  obtain ⟨q, hq⟩ : ∃ q, lessL s.data.toList t.data.toList = q := ⟨_, rfl⟩
  rw [hq] at hr
  have HL := Lib.hid (HX.out q hq)
  clear hq HX
  have hb0 := below2 w (.cells #[.int .i64 ka, .int .i64 n, .string s] 26) (.cells #[.int .i64 ka, .int .i64 m, .string t] 26)
  by_cases hnm : n < m
  · have d0 : decide (n < m) = true := decide_eq_true hnm
    rw [d0] at hr
    obtain rfl : r = true := by rw [← hr]; rfl
    clear hr
    go_enter Tryz.func81, Tryz.ntmps81
    go_wp2_with fail
    go_quiet (fail)
    go_wp2
    go_ret
    exact ⟨rfl, on hb0 (drew_below rfl)⟩
  · have d0 : decide (n < m) = false := decide_eq_false hnm
    rw [d0] at hr
    obtain rfl : r = q := by rw [← hr]; rfl
    clear hr
    go_enter Tryz.func81, Tryz.ntmps81
    go_wp2_with fail
    go_quiet (fail)
    go_wp2_with fail
    refine (HL.out _).mono ?_
    rintro e w1 ⟨rfl, hb1⟩
    go_wp2
    go_ret
    exact ⟨rfl, on (on hb0 (drew_below rfl)) hb1⟩
set_option maxRecDepth 100000 in
set_option maxHeartbeats 2000000 in
theorem rahead_kj (ka kb n m : Int) (s t : ByteArray) (ka0 : (ka == 0) = false) (kb0 : (kb == 0) = false) (hne : (ka == kb) = false) (r : Bool) (hr : decide (ka < kb) = r) (w : World) :
    Calls Tryz.prog 81 #[.agg #[.int .i64 ka, .int .i64 n, .string s], .agg #[.int .i64 kb, .int .i64 m, .string t]] w fun e w' => e = .returned (.bool r) ∧ Below w.heap.size w w' := by
  have hne2 : (ka != kb) = true := by simp only [bne, hne]; rfl
  have hb0 := below2 w (.cells #[.int .i64 ka, .int .i64 n, .string s] 26) (.cells #[.int .i64 kb, .int .i64 m, .string t] 26)
  go_enter Tryz.func81, Tryz.ntmps81
  go_wp2_with fail
  go_quiet (fail)
  go_wp2
  go_ret
  exact ⟨by first | rfl | rw [hr] | (simp only [hr]; rfl), on hb0 (drew_below rfl)⟩
set_option maxRecDepth 100000 in
set_option maxHeartbeats 2000000 in
theorem rcompare_any (ka kb n m : Int) (s t : ByteArray) (a4 : (ka == 4) = false) (b4 : (kb == 4) = false) (x y : Bool)
    (HX : ∀ w1, Calls Tryz.prog 81 #[.agg #[.int .i64 ka, .int .i64 n, .string s], .agg #[.int .i64 kb, .int .i64 m, .string t]] w1 fun e w' => e = .returned (.bool x) ∧ Below w1.heap.size w1 w')
    (HY : ∀ w1, Calls Tryz.prog 81 #[.agg #[.int .i64 kb, .int .i64 m, .string t], .agg #[.int .i64 ka, .int .i64 n, .string s]] w1 fun e w' => e = .returned (.bool y) ∧ Below w1.heap.size w1 w')
    (r : Int) (hr : (x = true ∧ r = -1) ∨ (x = false ∧ y = true ∧ r = 1) ∨ (x = false ∧ y = false ∧ r = 0)) (w : World) :
    Calls Tryz.prog 62 #[.agg #[.int .i64 ka, .int .i64 n, .string s], .agg #[.int .i64 kb, .int .i64 m, .string t]] w fun e w' => e = .returned (.int .i64 r) ∧ Below w.heap.size w w' := by
  have HX := Lib.hid HX
  have HY := Lib.hid HY
  obtain ⟨w0, hw0⟩ : ∃ w0, w0 = (w.alloc (.cells #[.int .i64 ka, .int .i64 n, .string s] 26)).alloc (.cells #[.int .i64 kb, .int .i64 m, .string t] 26) := ⟨_, rfl⟩
  have hb0 : Below w.heap.size w w0 := hw0 ▸ below2 _ _ _
  have ha : CellsAt w0 w.heap.size [.int .i64 ka, .int .i64 n, .string s] := hw0 ▸ (CellsAt.new w [.int .i64 ka, .int .i64 n, .string s] 26).on_alloc _
  have hz : CellsAt w0 (w.heap.size + 1) [.int .i64 kb, .int .i64 m, .string t] := by
    have h := CellsAt.new (w.alloc (.cells #[.int .i64 ka, .int .i64 n, .string s] 26)) [.int .i64 kb, .int .i64 m, .string t] 26
    rw [show (w.alloc (.cells #[.int .i64 ka, .int .i64 n, .string s] 26)).heap.size = w.heap.size + 1 by simp] at h
    exact hw0 ▸ h
  rcases hr with ⟨rfl, rfl⟩ | ⟨rfl, rfl, rfl⟩ | ⟨rfl, rfl, rfl⟩
  · clear ha hz
    go_enter Tryz.func62, Tryz.ntmps62
    go_wp2_with fail
    refine (HX.out _).mono ?_
    rintro e w1 ⟨rfl, hb1⟩
    rw [← hw0] at hb1
    go_wp2
    go_ret
    exact ⟨rfl, on hb0 hb1⟩
  all_goals
    go_enter Tryz.func62, Tryz.ntmps62
    go_wp2_with fail
    rw [← hw0]
    refine (HX.out _).mono ?_
    rintro e w1 ⟨rfl, hb1⟩
    obtain ⟨a0, a1, a2, _⟩ := (ha.on hb1).three
    obtain ⟨z0, z1, z2, _⟩ := (hz.on hb1).three
    replace hb0 := on hb0 hb1
    clear ha hz hw0 hb1
    go_wp2_with fail
    refine (HY.out _).mono ?_
    rintro e w2 ⟨rfl, hb2⟩
    clear a0 a1 a2 z0 z1 z2
    go_wp2
    go_ret
    exact ⟨rfl, on hb0 hb2⟩
/-- of any two values -/
theorem cmp_zero : ∀ {a b : List UInt8}, Lib.compareBytes a b = 0 → a = b
  | [], [], _ => rfl
  | [], y :: b, h => by simp [Lib.compareBytes] at h
  | x :: a, [], h => by simp [Lib.compareBytes] at h
  | x :: a, y :: b, h => by
    have h1 : ¬ x < y := fun e => by simp [Lib.compareBytes, e] at h
    have h2 : ¬ y < x := fun e => by simp [Lib.compareBytes, e, h1] at h
    have e : x = y := UInt8.le_antisymm (UInt8.not_lt.1 h2) (UInt8.not_lt.1 h1)
    subst e
    have h3 : Lib.compareBytes a b = 0 := by simpa [Lib.compareBytes, h1] using h
    rw [cmp_zero h3]
theorem cmp_self (a : List UInt8) : Lib.compareBytes a a = 0 := by
  have h := Crt.cmp_swap a a
  omega
theorem texts_one {s t : ByteArray} (h : s.data.toList = t.data.toList) : s = t := by
  cases s; cases t
  congr 1
  exact Array.toList_inj.1 h
/-- the kind of a value beside another one -/
def effK (k j : Int) : Int := if k = 0 then j else k
theorem eff_same (k j : Int) : (effK k j = effK j k) ↔ (k = 0 ∨ j = 0 ∨ k = j) := by
  unfold effK
  by_cases h1 : k = 0 <;> by_cases h2 : j = 0 <;> simp_all
theorem beside_v (v : Vl) (h : v.may) (j : Int) (w : World) : Calls Tryz.prog 76 #[.agg #[.int .i64 v.k, .int .i64 v.n, .string v.t], .int .i64 j] w (ValIs (effK v.k j) v.n v.t w) := by
  by_cases h0 : v.k = 0
  · rcases may_ways h with rfl | ⟨n, rfl, _⟩ | ⟨t, rfl, _⟩ | rfl | rfl | ⟨n, rfl, _⟩
    · exact beside_e 0 j ⟨#[]⟩ w
    all_goals (simp at h0; done)
  · have e : effK v.k j = v.k := by unfold effK; rw [if_neg h0]
    rw [e]
    exact beside_c v.k v.n j v.t (by rw [beq_eq_false_iff_ne]; exact h0) w
theorem k4_no {v : Vl} (h : ¬ v.k = 4) : (v.k == 4) = false := by rw [beq_eq_false_iff_ne]; exact h
theorem sames {a b : Vl} {r : Int} (h : r = 0 ↔ ((a.k = 0 ∨ b.k = 0 ∨ a.k = b.k) ∧ a.n = b.n ∧ a.t = b.t)) : (r == 0) = sameV a b := by
  unfold sameV
  by_cases h0 : r = 0
  · obtain ⟨h1, h2, h3⟩ := h.1 h0
    rw [decide_eq_true h1, decide_eq_true h2, decide_eq_true h3, h0]
    rfl
  · have : ¬ ((a.k = 0 ∨ b.k = 0 ∨ a.k = b.k) ∧ a.n = b.n ∧ a.t = b.t) := fun e => h0 (h.2 e)
    rw [beq_eq_false_iff_ne.2 h0]
    by_cases h1 : (a.k = 0 ∨ b.k = 0 ∨ a.k = b.k)
    · by_cases h2 : a.n = b.n
      · rw [decide_eq_false (fun h3 : a.t = b.t => this ⟨h1, h2, h3⟩), Bool.and_false, Bool.and_false]
      · rw [decide_eq_false h2, Bool.false_and, Bool.and_false]
    · rw [decide_eq_false h1, Bool.false_and]
theorem compare_v (a b : Vl) (ha : a.may) (hb : b.may) (a4 : ¬ a.k = 4) (b4 : ¬ b.k = 4) : ∃ r : Int, (r == 0) = sameV a b ∧ ∀ w, Calls Tryz.prog 61 #[.agg #[.int .i64 a.k, .int .i64 a.n, .string a.t], .agg #[.int .i64 b.k, .int .i64 b.n, .string b.t]] w fun e w' => e = .returned (.int .i64 r) ∧ Below w.heap.size w w' := by
  have main : ∀ r, ((¬ wayI (effK a.k b.k) (effK b.k a.k) = 0 ∧ r = wayI (effK a.k b.k) (effK b.k a.k)) ∨ (wayI (effK a.k b.k) (effK b.k a.k) = 0 ∧ ((¬ wayI a.n b.n = 0 ∧ r = wayI a.n b.n) ∨ (wayI a.n b.n = 0 ∧ r = Lib.compareBytes a.t.data.toList b.t.data.toList)))) →
      ∀ w, Calls Tryz.prog 61 #[.agg #[.int .i64 a.k, .int .i64 a.n, .string a.t], .agg #[.int .i64 b.k, .int .i64 b.n, .string b.t]] w fun e w' => e = .returned (.int .i64 r) ∧ Below w.heap.size w w' := fun r hr w =>
    compare_any a.k b.k _ _ a.n b.n a.n b.n a.t b.t a.t b.t (k4_no a4) (k4_no b4) (fun w1 => beside_v a ha b.k w1) (fun w1 => beside_v b hb a.k w1) _ _ _ r rfl rfl rfl hr w
  by_cases h1 : wayI (effK a.k b.k) (effK b.k a.k) = 0
  · by_cases h2 : wayI a.n b.n = 0
    · refine ⟨_, sames ⟨fun h => ⟨(eff_same _ _).1 (way_zero.1 h1), way_zero.1 h2, texts_one (cmp_zero h)⟩, fun h => ?_⟩, main _ (.inr ⟨h1, .inr ⟨h2, rfl⟩⟩)⟩
      rw [h.2.2]
      exact cmp_self _
    · exact ⟨_, sames ⟨fun h => absurd h h2, fun h => absurd (way_zero.2 h.2.1) h2⟩, main _ (.inr ⟨h1, .inl ⟨h2, rfl⟩⟩)⟩
  · exact ⟨_, sames ⟨fun h => absurd h h1, fun h => absurd (way_zero.2 ((eff_same _ _).2 h.1)) h1⟩, main _ (.inl ⟨h1, rfl⟩)⟩
/-- whether the reference has one ahead -/
def aheadV (a b : Vl) : Bool := if a.k = 0 ∨ b.k = 0 ∨ a.k = b.k then (decide (a.n < b.n) || lessL a.t.data.toList b.t.data.toList) else decide (a.k < b.k)
theorem rahead_v (a b : Vl) (ha : a.t.size ≤ 1000) (hb : b.t.size ≤ 1000) (r : Bool) (hr : aheadV a b = r) (w : World) : Calls Tryz.prog 81 #[.agg #[.int .i64 a.k, .int .i64 a.n, .string a.t], .agg #[.int .i64 b.k, .int .i64 b.n, .string b.t]] w fun e w' => e = .returned (.bool r) ∧ Below w.heap.size w w' := by
  obtain ⟨ka, na, ta⟩ := a
  obtain ⟨kb, nb, tb⟩ := b
  unfold aheadV at hr
  dsimp only at hr ha hb ⊢
  have no0 : ∀ {k : Int}, ¬ k = 0 → (k == 0) = false := fun h => by rw [beq_eq_false_iff_ne]; exact h
  by_cases h1 : ka = 0
  · subst h1
    rw [if_pos (.inl rfl)] at hr
    by_cases h2 : kb = 0
    · subst h2
      exact rahead_00 na nb ta tb ha hb r hr w
    · exact rahead_0k kb na nb ta tb ha hb (no0 h2) r hr w
  · by_cases h2 : kb = 0
    · subst h2
      rw [if_pos (.inr (.inl rfl))] at hr
      exact rahead_k0 ka na nb ta tb ha hb (no0 h1) r hr w
    · by_cases h3 : ka = kb
      · subst h3
        rw [if_pos (.inr (.inr rfl))] at hr
        exact rahead_kk ka na nb ta tb ha hb (no0 h1) r hr w
      · rw [if_neg (by rintro (h | h | h); exact h1 h; exact h2 h; exact h3 h)] at hr
        exact rahead_kj ka kb na nb ta tb (no0 h1) (no0 h2) (by rw [beq_eq_false_iff_ne]; exact h3) r hr w
theorem less_both {a b : List UInt8} (h1 : lessL a b = false) (h2 : lessL b a = false) : a = b := cmp_zero (by rw [cmp_less, h1, h2]; rfl)
theorem less_self (a : List UInt8) : lessL a a = false := by
  unfold lessL
  rw [cmp_self]
  rfl
theorem ahead_same (a b : Vl) : (aheadV a b = false ∧ aheadV b a = false) ↔ ((a.k = 0 ∨ b.k = 0 ∨ a.k = b.k) ∧ a.n = b.n ∧ a.t = b.t) := by
  unfold aheadV
  by_cases h : a.k = 0 ∨ b.k = 0 ∨ a.k = b.k
  · have h' : b.k = 0 ∨ a.k = 0 ∨ b.k = a.k := by rcases h with h | h | h; exact .inr (.inl h); exact .inl h; exact .inr (.inr h.symm)
    rw [if_pos h, if_pos h']
    constructor
    · rintro ⟨h1, h2⟩
      rw [Bool.or_eq_false_iff] at h1 h2
      have e1 := of_decide_eq_false h1.1
      have e2 := of_decide_eq_false h2.1
      exact ⟨h, by omega, texts_one (less_both h1.2 h2.2)⟩
    · rintro ⟨_, h1, h2⟩
      rw [h1, h2, less_self, Bool.or_false, decide_eq_false (by omega)]
      exact ⟨rfl, rfl⟩
  · have h' : ¬ (b.k = 0 ∨ a.k = 0 ∨ b.k = a.k) := by rintro (e | e | e); exact h (.inr (.inl e)); exact h (.inl e); exact h (.inr (.inr e.symm))
    rw [if_neg h, if_neg h']
    constructor
    · rintro ⟨h1, h2⟩
      have e1 := of_decide_eq_false h1
      have e2 := of_decide_eq_false h2
      exact absurd (.inr (.inr (by omega))) h
    · rintro ⟨h1, _⟩
      exact absurd h1 h
theorem may_size {v : Vl} (h : v.may) : v.t.size ≤ 256 := by
  rcases may_ways h with rfl | ⟨n, rfl, _⟩ | ⟨t, rfl, h9⟩ | rfl | rfl | ⟨n, rfl, _⟩
  all_goals first | exact h9 | (show (⟨#[]⟩ : ByteArray).size ≤ 256; decide)
theorem rcompare_v (a b : Vl) (ha : a.may) (hb : b.may) (a4 : ¬ a.k = 4) (b4 : ¬ b.k = 4) : ∃ r : Int, (r == 0) = sameV a b ∧ ∀ w, Calls Tryz.prog 62 #[.agg #[.int .i64 a.k, .int .i64 a.n, .string a.t], .agg #[.int .i64 b.k, .int .i64 b.n, .string b.t]] w fun e w' => e = .returned (.int .i64 r) ∧ Below w.heap.size w w' := by
  have sa : a.t.size ≤ 1000 := by have := may_size ha; omega
  have sb : b.t.size ≤ 1000 := by have := may_size hb; omega
  have main := fun r hr w => rcompare_any a.k b.k a.n b.n a.t b.t (k4_no a4) (k4_no b4) (aheadV a b) (aheadV b a) (fun w1 => rahead_v a b sa sb _ rfl w1) (fun w1 => rahead_v b a sb sa _ rfl w1) r hr w
  have hs := ahead_same a b
  cases h1 : aheadV a b
  · cases h2 : aheadV b a
    · rw [h1, h2] at hs main
      exact ⟨0, sames ⟨fun _ => hs.1 ⟨rfl, rfl⟩, fun _ => rfl⟩, main 0 (.inr (.inr ⟨rfl, rfl, rfl⟩))⟩
    · rw [h1, h2] at hs main
      exact ⟨1, sames ⟨fun h => absurd h (by decide), fun h => absurd (hs.2 h).2 (by decide)⟩, main 1 (.inr (.inl ⟨rfl, rfl, rfl⟩))⟩
  · rw [h1] at hs main
    exact ⟨-1, sames ⟨fun h => absurd h (by decide), fun h => absurd (hs.2 h).1 (by decide)⟩, main (-1) (.inl ⟨rfl, rfl⟩)⟩
end Go.Proofs.YtbjomidkeignjaaGreatDoor.Lok
namespace Go.Proofs.YtbjomidkeignjaaGreatDoor.Lok
open Go.RowKit Kit Reg Dec Dig Val Fld

theorem hit_no {x v : Vl} (h : hitS x v = false) : v.k = 4 ∨ (¬ v.k = 4 ∧ sameV x v = false) := by
  by_cases h4 : v.k = 4
  · exact .inl h4
  · unfold hitS at h
    rw [decide_eq_false h4] at h
    exact .inr ⟨h4, by simpa using h⟩
theorem hit_yes {x v : Vl} (h : hitS x v = true) : ¬ v.k = 4 ∧ sameV x v = true := by
  unfold hitS at h
  rw [Bool.and_eq_true] at h
  exact ⟨by simpa using h.1, h.2⟩
/-- a place and whether there is one -/
def PlaceIs (m : Int) (ok : Bool) (w : World) : Ending → World → Prop := fun e w' => e = .returned (.tuple #[.int .i64 m, .bool ok]) ∧ Below w.heap.size w w'

set_option maxRecDepth 100000 in
set_option maxHeartbeats 2000000 in
theorem found_fault (x : Vl) (h4 : x.k = 4) (A : Option Addr) (n cap : Nat) (w : World) :
    Calls Tryz.prog 35 #[.agg #[.int .i64 x.k, .int .i64 x.n, .string x.t], .slice A n cap] w (PlaceIs (0) false w) := by
  obtain ⟨xk, xn, xt⟩ := x
  obtain rfl : xk = 4 := h4
  go_enter Tryz.func35, Tryz.ntmps35
  go_wp2
  go_ret2
  exact ⟨rfl, below1 _ _⟩
set_option maxRecDepth 100000 in
set_option maxHeartbeats 2000000 in
theorem found_no (x : Vl) (hx : x.may) (x4 : ¬ x.k = 4) (A : Option Addr) (n cap : Nat) (L : List Vl) (hm : ∀ v ∈ L, v.may) (hs : NoS x L) (w : World) (hz : ValsR w A n L) :
    Calls Tryz.prog 35 #[.agg #[.int .i64 x.k, .int .i64 x.n, .string x.t], .slice A n cap] w (PlaceIs (0) false w) := by
  have HZ := Lib.hid hz
  have HM : Hid (∀ (k : Nat) (v : Vl), L[k]? = some v → v.may) := Lib.hid fun k v hv => hm v (List.mem_of_getElem? hv)
  have HC := Lib.hid (fun v (hv : Vl.may v) (v4 : ¬ v.k = 4) => compare_v v x hv hx v4 x4)
  have HS := Lib.hid (fun v => same_comm x v)
  have hn9 := hz.2.1
  have HNo : Hid (∀ (k : Nat) (v : Vl), L[k]? = some v → hitS x v = false) := Lib.hid hs
  have q4 : (x.k == 4) = false := k4_no x4
  have hxe : Hid (∀ v : Vl, hitS x v = false → v.k = 4 ∨ (¬ v.k = 4 ∧ sameV x v = false)) := Lib.hid fun v h => hit_no h
  have hxy : Hid (∀ v : Vl, hitS x v = true → ¬ v.k = 4 ∧ sameV x v = true) := Lib.hid fun v h => hit_yes h
  obtain ⟨xk, xn, xt⟩ := x
  dsimp only at q4 ⊢
  have hc0 := CellsAt.new w [.int .i64 xk, .int .i64 xn, .string xt] 26
  have hb0 := below1 w (.cells #[.int .i64 xk, .int .i64 xn, .string xt] 26)
  replace HZ := Lib.hid (HZ.out.on hb0)
  clear hz hm hs x4 hx
  go_enter Tryz.func35, Tryz.ntmps35
  go_wp2_with fail
  generalize w.alloc (.cells #[.int .i64 xk, .int .i64 xn, .string xt] 26) = W at *
  go_loopw [13] (fun i wr => ∃ k : Nat, k ≤ n ∧ i = .int .i64 k ∧ Below W.heap.size W wr) (fun i _ => n - (intOf i).toNat)
  case atStart => exact ⟨0, Nat.zero_le _, rfl, Below.refl _ _⟩
  case round =>
    obtain ⟨k, hk, rfl, hb1⟩ := hrel
    by_cases hlt : k < n
    · have HN : ∀ v, L[k]? = some v → hitS ⟨xk, xn, xt⟩ v = false := fun v hv => HNo.out k v hv
      obtain ⟨v, hv⟩ := HZ.out.get hlt
      obtain ⟨b, o, rfl, hb, c0, c1, c2⟩ := (HZ.out.on hb1).at hv
      obtain ⟨x0, x1, x2, _⟩ := (hc0.on hb1).three
      have hs1 := hb1.size
      have hl0 := hc0.1
      have hmv := HM.out k v hv
      rcases hxe.out v (HN v hv) with h4 | ⟨h4, hs⟩
      · obtain ⟨vk, vn, vt⟩ := v
        dsimp only at c0 c1 c2 h4
        have hy := CellsAt.new wr [.int .i64 vk, .int .i64 vn, .string vt] 26
        obtain ⟨y0, y1, y2, _⟩ := hy.three
        have z0 := kept_alloc (.cells #[.int .i64 vk, .int .i64 vn, .string vt] 26) x0
        have z1 := kept_alloc (.cells #[.int .i64 vk, .int .i64 vn, .string vt] 26) x1
        have z2 := kept_alloc (.cells #[.int .i64 vk, .int .i64 vn, .string vt] 26) x2
        have hb3 := on_alloc hb1 (.cells #[.int .i64 vk, .int .i64 vn, .string vt] 26)
        clear hy x0 x1 x2
        have u4 : (vk == 4) = true := by rw [beq_iff_eq]; exact h4
        have u5 : (vk != 4) = false := by simp only [bne, u4]; rfl
        clear h4 hmv hv HC HM HS hxe hxy
        go_wp2_with fail
        go_roundw
        case rel => exact ⟨k + 1, by omega, by go_num, hb3⟩
        case measure => simp [intOf]; omega
      · obtain ⟨r, hr, hcall⟩ := HC.out v hmv h4
        rw [← HS.out v, hs] at hr
        have HC2 := Lib.hid hcall
        clear hcall hs
        obtain ⟨vk, vn, vt⟩ := v
        dsimp only at c0 c1 c2 h4 HC2
        have hy := CellsAt.new wr [.int .i64 vk, .int .i64 vn, .string vt] 26
        obtain ⟨y0, y1, y2, _⟩ := hy.three
        have z0 := kept_alloc (.cells #[.int .i64 vk, .int .i64 vn, .string vt] 26) x0
        have z1 := kept_alloc (.cells #[.int .i64 vk, .int .i64 vn, .string vt] 26) x1
        have z2 := kept_alloc (.cells #[.int .i64 vk, .int .i64 vn, .string vt] 26) x2
        have hb3 := on_alloc hb1 (.cells #[.int .i64 vk, .int .i64 vn, .string vt] 26)
        clear hy x0 x1 x2
        have u4 : (vk == 4) = false := by rw [beq_eq_false_iff_ne]; exact h4
        have u5 : (vk != 4) = true := by simp only [bne, u4]; rfl
        clear h4 hmv hv HC HM HS hxe hxy
        go_wp2_with fail
        refine (HC2.out _).mono ?_
        rintro e w2 ⟨rfl, hb2⟩
        replace hb3 := on hb3 hb2
        clear hb2 HC2 c0 c1 c2 y0 y1 y2 z0 z1 z2
        go_wp2_with fail
        go_roundw
        case rel => exact ⟨k + 1, by omega, by go_num, hb3⟩
        case measure => simp [intOf]; omega
    · obtain rfl : k = n := by omega
      clear HC HM HS hxe hxy
      go_wp2_with fail
      go_ret2
      exact ⟨rfl, on hb0 hb1⟩
set_option maxRecDepth 100000 in
set_option maxHeartbeats 2000000 in
theorem found_yes (x : Vl) (hx : x.may) (x4 : ¬ x.k = 4) (A : Option Addr) (n cap : Nat) (L : List Vl) (hm : ∀ v ∈ L, v.may) (p : Nat) (u : Vl) (hs : FirstS x L p u) (w : World) (hz : ValsR w A n L) :
    Calls Tryz.prog 35 #[.agg #[.int .i64 x.k, .int .i64 x.n, .string x.t], .slice A n cap] w (PlaceIs ((p : Int) + 1) true w) := by
  have HZ := Lib.hid hz
  have HM : Hid (∀ (k : Nat) (v : Vl), L[k]? = some v → v.may) := Lib.hid fun k v hv => hm v (List.mem_of_getElem? hv)
  have HC := Lib.hid (fun v (hv : Vl.may v) (v4 : ¬ v.k = 4) => compare_v v x hv hx v4 x4)
  have HS := Lib.hid (fun v => same_comm x v)
  have hn9 := hz.2.1
  have HNo := Lib.hid hs
  have hpn : p < n := by have := hs.lt; rw [hz.1] at this; exact this
  have q4 : (x.k == 4) = false := k4_no x4
  have hxe : Hid (∀ v : Vl, hitS x v = false → v.k = 4 ∨ (¬ v.k = 4 ∧ sameV x v = false)) := Lib.hid fun v h => hit_no h
  have hxy : Hid (∀ v : Vl, hitS x v = true → ¬ v.k = 4 ∧ sameV x v = true) := Lib.hid fun v h => hit_yes h
  obtain ⟨xk, xn, xt⟩ := x
  dsimp only at q4 ⊢
  have hc0 := CellsAt.new w [.int .i64 xk, .int .i64 xn, .string xt] 26
  have hb0 := below1 w (.cells #[.int .i64 xk, .int .i64 xn, .string xt] 26)
  replace HZ := Lib.hid (HZ.out.on hb0)
  clear hz hm hs x4 hx
  go_enter Tryz.func35, Tryz.ntmps35
  go_wp2_with fail
  generalize w.alloc (.cells #[.int .i64 xk, .int .i64 xn, .string xt] 26) = W at *
  go_loopw [13] (fun i wr => ∃ k : Nat, k ≤ p ∧ i = .int .i64 k ∧ Below W.heap.size W wr) (fun i _ => n - (intOf i).toNat)
  case atStart => exact ⟨0, Nat.zero_le _, rfl, Below.refl _ _⟩
  case round =>
    obtain ⟨k, hk, rfl, hb1⟩ := hrel
    have hlt : k < n := by omega
    by_cases hkp : k < p
    · have HN : ∀ v, L[k]? = some v → hitS ⟨xk, xn, xt⟩ v = false := fun v hv => HNo.out.2.2 k v hkp hv
      obtain ⟨v, hv⟩ := HZ.out.get hlt
      obtain ⟨b, o, rfl, hb, c0, c1, c2⟩ := (HZ.out.on hb1).at hv
      obtain ⟨x0, x1, x2, _⟩ := (hc0.on hb1).three
      have hs1 := hb1.size
      have hl0 := hc0.1
      have hmv := HM.out k v hv
      rcases hxe.out v (HN v hv) with h4 | ⟨h4, hs⟩
      · obtain ⟨vk, vn, vt⟩ := v
        dsimp only at c0 c1 c2 h4
        have hy := CellsAt.new wr [.int .i64 vk, .int .i64 vn, .string vt] 26
        obtain ⟨y0, y1, y2, _⟩ := hy.three
        have z0 := kept_alloc (.cells #[.int .i64 vk, .int .i64 vn, .string vt] 26) x0
        have z1 := kept_alloc (.cells #[.int .i64 vk, .int .i64 vn, .string vt] 26) x1
        have z2 := kept_alloc (.cells #[.int .i64 vk, .int .i64 vn, .string vt] 26) x2
        have hb3 := on_alloc hb1 (.cells #[.int .i64 vk, .int .i64 vn, .string vt] 26)
        clear hy x0 x1 x2
        have u4 : (vk == 4) = true := by rw [beq_iff_eq]; exact h4
        have u5 : (vk != 4) = false := by simp only [bne, u4]; rfl
        clear h4 hmv hv HC HM HS hxe hxy
        go_wp2_with fail
        go_roundw
        case rel => exact ⟨k + 1, by omega, by go_num, hb3⟩
        case measure => simp [intOf]; omega
      · obtain ⟨r, hr, hcall⟩ := HC.out v hmv h4
        rw [← HS.out v, hs] at hr
        have HC2 := Lib.hid hcall
        clear hcall hs
        obtain ⟨vk, vn, vt⟩ := v
        dsimp only at c0 c1 c2 h4 HC2
        have hy := CellsAt.new wr [.int .i64 vk, .int .i64 vn, .string vt] 26
        obtain ⟨y0, y1, y2, _⟩ := hy.three
        have z0 := kept_alloc (.cells #[.int .i64 vk, .int .i64 vn, .string vt] 26) x0
        have z1 := kept_alloc (.cells #[.int .i64 vk, .int .i64 vn, .string vt] 26) x1
        have z2 := kept_alloc (.cells #[.int .i64 vk, .int .i64 vn, .string vt] 26) x2
        have hb3 := on_alloc hb1 (.cells #[.int .i64 vk, .int .i64 vn, .string vt] 26)
        clear hy x0 x1 x2
        have u4 : (vk == 4) = false := by rw [beq_eq_false_iff_ne]; exact h4
        have u5 : (vk != 4) = true := by simp only [bne, u4]; rfl
        clear h4 hmv hv HC HM HS hxe hxy
        go_wp2_with fail
        refine (HC2.out _).mono ?_
        rintro e w2 ⟨rfl, hb2⟩
        replace hb3 := on hb3 hb2
        clear hb2 HC2 c0 c1 c2 y0 y1 y2 z0 z1 z2
        go_wp2_with fail
        go_roundw
        case rel => exact ⟨k + 1, by omega, by go_num, hb3⟩
        case measure => simp [intOf]; omega
    · obtain rfl : k = p := by omega
      obtain ⟨v, hv⟩ := HZ.out.get hlt
      obtain ⟨b, o, rfl, hb, c0, c1, c2⟩ := (HZ.out.on hb1).at hv
      obtain ⟨x0, x1, x2, _⟩ := (hc0.on hb1).three
      have hs1 := hb1.size
      have hl0 := hc0.1
      have hmv := HM.out k v hv
      obtain rfl : v = u := Option.some.inj (hv.symm.trans HNo.out.1)
      obtain ⟨h4, hs⟩ := hxy.out v HNo.out.2.1
      obtain ⟨r, hr, hcall⟩ := HC.out v hmv h4
      rw [← HS.out v, hs] at hr
      have HC2 := Lib.hid hcall
      clear hcall hs
      obtain ⟨vk, vn, vt⟩ := v
      dsimp only at c0 c1 c2 h4 HC2
      have hy := CellsAt.new wr [.int .i64 vk, .int .i64 vn, .string vt] 26
      obtain ⟨y0, y1, y2, _⟩ := hy.three
      have z0 := kept_alloc (.cells #[.int .i64 vk, .int .i64 vn, .string vt] 26) x0
      have z1 := kept_alloc (.cells #[.int .i64 vk, .int .i64 vn, .string vt] 26) x1
      have z2 := kept_alloc (.cells #[.int .i64 vk, .int .i64 vn, .string vt] 26) x2
      have hb3 := on_alloc hb1 (.cells #[.int .i64 vk, .int .i64 vn, .string vt] 26)
      clear hy x0 x1 x2
      have u4 : (vk == 4) = false := by rw [beq_eq_false_iff_ne]; exact h4
      have u5 : (vk != 4) = true := by simp only [bne, u4]; rfl
      clear h4 hmv hv HC HM HS hxe hxy
      go_wp2_with fail
      refine (HC2.out _).mono ?_
      rintro e w2 ⟨rfl, hb2⟩
      replace hb3 := on hb3 hb2
      clear hb2 HC2 c0 c1 c2 y0 y1 y2 z0 z1 z2
      go_wp2_with fail
      go_ret2
      exact ⟨rfl, on hb0 hb3⟩
set_option maxRecDepth 100000 in
set_option maxHeartbeats 2000000 in
theorem match_c (xk xn : Int) (xt : ByteArray) (r c : Int) (A : Option Addr) (n cap : Nat) (m : Int) (ok : Bool) (w : World)
    (HF : ∀ w1, Below w.heap.size w w1 → Calls Tryz.prog 35 #[.agg #[.int .i64 xk, .int .i64 xn, .string xt], .slice A n cap] w1 (PlaceIs m ok w1)) :
    Calls Tryz.prog 14 #[.agg #[.int .i64 xk, .int .i64 xn, .string xt], .agg #[.int .i64 r, .int .i64 c, .slice A n cap]] w (PlaceIs m ok w) := by
  have HF := Lib.hid HF
  have hb0 := below2 w (.cells #[.int .i64 xk, .int .i64 xn, .string xt] 26) (.cells #[.int .i64 r, .int .i64 c, .slice A n cap] 24)
  have hx0 := (CellsAt.new w [.int .i64 xk, .int .i64 xn, .string xt] 26).on_alloc (.cells #[.int .i64 r, .int .i64 c, .slice A n cap] 24)
  have ht0 := newAt (w0 := w.alloc (.cells #[.int .i64 xk, .int .i64 xn, .string xt] 26)) (g := w.heap.size + 1) (by simp) [.int .i64 r, .int .i64 c, .slice A n cap] 24
  obtain ⟨x0, x1, x2, _⟩ := hx0.three
  obtain ⟨t0, t1, t2, _⟩ := ht0.three
  clear hx0 ht0
  go_enter Tryz.func14, Tryz.ntmps14
  go_wp2_with fail
  refine (HF.out _ hb0).mono ?_
  rintro e w1 ⟨rfl, hb1⟩
  replace hb0 := on hb0 hb1
  clear x0 x1 x2 t0 t1 t2
  go_wp2
  go_ret2
  exact ⟨rfl, hb0⟩
set_option maxRecDepth 100000 in
set_option maxHeartbeats 2000000 in
theorem rfound_x (xk xn vk vn : Int) (xt vt : ByteArray) (h : xk = 4) (w : World) :
    Calls Tryz.prog 36 #[.agg #[.int .i64 xk, .int .i64 xn, .string xt], .agg #[.int .i64 vk, .int .i64 vn, .string vt]] w (Bit false w) := by
  subst h
  go_enter Tryz.func36, Tryz.ntmps36
  go_wp2
  go_ret
  exact ⟨rfl, below2 _ _ _⟩
set_option maxRecDepth 100000 in
set_option maxHeartbeats 2000000 in
theorem rfound_v (xk xn vk vn : Int) (xt vt : ByteArray) (h4 : ¬ xk = 4) (h : vk = 4) (w : World) :
    Calls Tryz.prog 36 #[.agg #[.int .i64 xk, .int .i64 xn, .string xt], .agg #[.int .i64 vk, .int .i64 vn, .string vt]] w (Bit false w) := by
  subst h
  have u4 : (xk == 4) = false := by rw [beq_eq_false_iff_ne]; exact h4
  have u5 : (xk != 4) = true := by simp only [bne, u4]; rfl
  go_enter Tryz.func36, Tryz.ntmps36
  go_wp2
  go_ret
  exact ⟨rfl, below2 _ _ _⟩
set_option maxRecDepth 100000 in
set_option maxHeartbeats 2000000 in
theorem rfound_n (xk xn vk vn : Int) (xt vt : ByteArray) (h4 : ¬ xk = 4) (h5 : ¬ vk = 4) (m : Int) (b : Bool) (hm : (m == 0) = b) (HC : ∀ w1, Calls Tryz.prog 62 #[.agg #[.int .i64 xk, .int .i64 xn, .string xt], .agg #[.int .i64 vk, .int .i64 vn, .string vt]] w1 fun e w' => e = .returned (.int .i64 m) ∧ Below w1.heap.size w1 w') (w : World) :
    Calls Tryz.prog 36 #[.agg #[.int .i64 xk, .int .i64 xn, .string xt], .agg #[.int .i64 vk, .int .i64 vn, .string vt]] w (Bit b w) := by
  have u4 : (xk == 4) = false := by rw [beq_eq_false_iff_ne]; exact h4
  have u5 : (xk != 4) = true := by simp only [bne, u4]; rfl
  have v4 : (vk == 4) = false := by rw [beq_eq_false_iff_ne]; exact h5
  have v5 : (vk != 4) = true := by simp only [bne, v4]; rfl
  have HC := Lib.hid HC
  have hb0 := below2 w (.cells #[.int .i64 xk, .int .i64 xn, .string xt] 26) (.cells #[.int .i64 vk, .int .i64 vn, .string vt] 26)
  have hx0 := (CellsAt.new w [.int .i64 xk, .int .i64 xn, .string xt] 26).on_alloc (.cells #[.int .i64 vk, .int .i64 vn, .string vt] 26)
  have hv0 := newAt (w0 := w.alloc (.cells #[.int .i64 xk, .int .i64 xn, .string xt] 26)) (g := w.heap.size + 1) (by simp) [.int .i64 vk, .int .i64 vn, .string vt] 26
  obtain ⟨x0, x1, x2, _⟩ := hx0.three
  obtain ⟨t0, t1, t2, _⟩ := hv0.three
  clear hx0 hv0 h4 h5
  go_enter Tryz.func36, Tryz.ntmps36
  go_wp2_with fail
  refine (HC.out _).mono ?_
  rintro e w1 ⟨rfl, hb1⟩
  replace hb0 := on hb0 hb1
  clear x0 x1 x2 t0 t1 t2
  go_wp2
  go_ret
  exact ⟨by first | rfl | (simp only [hm]; rfl), hb0⟩
/-- whether a value is found as another one, the reference's way -/
def foundV (x v : Vl) : Bool := !decide (x.k = 4) && hitS x v
theorem rfound_c (x v : Vl) (hx : x.may) (hv : v.may) (b : Bool) (hb : foundV x v = b) (w : World) :
    Calls Tryz.prog 36 #[.agg #[.int .i64 x.k, .int .i64 x.n, .string x.t], .agg #[.int .i64 v.k, .int .i64 v.n, .string v.t]] w (Bit b w) := by
  subst hb
  unfold foundV
  by_cases h4 : x.k = 4
  · rw [decide_eq_true h4]
    exact rfound_x _ _ _ _ _ _ h4 w
  · by_cases h5 : v.k = 4
    · rw [decide_eq_false h4, hitS, decide_eq_true h5]
      exact rfound_v _ _ _ _ _ _ h4 h5 w
    · obtain ⟨m, hm, hcall⟩ := rcompare_v x v hx hv h4 h5
      rw [decide_eq_false h4, hitS, decide_eq_false h5]
      exact rfound_n _ _ _ _ _ _ h4 h5 m _ (by rw [hm]; simp) hcall w
set_option maxRecDepth 100000 in
set_option maxHeartbeats 2000000 in
theorem rmatch_no (x : Vl) (hx : x.may) (r c : Int) (A : Option Addr) (n cap : Nat) (L : List Vl) (hm : ∀ v ∈ L, v.may) (hs : ∀ (k : Nat) (v : Vl), L[k]? = some v → foundV x v = false) (w : World) (hz : ValsR w A n L) :
    Calls Tryz.prog 15 #[.agg #[.int .i64 x.k, .int .i64 x.n, .string x.t], .agg #[.int .i64 r, .int .i64 c, .slice A n cap]] w fun e w' => e = .returned (.int .i64 (0)) ∧ Below w.heap.size w w' := by
  have HZ := Lib.hid hz
  have HM : Hid (∀ (k : Nat) (v : Vl), L[k]? = some v → v.may) := Lib.hid fun k v hv => hm v (List.mem_of_getElem? hv)
  have HR := Lib.hid (fun v (hv : Vl.may v) b (h : foundV x v = b) w1 => rfound_c x v hx hv b h w1)
  have hn9 := hz.2.1
  have HNo := Lib.hid hs
  obtain ⟨xk, xn, xt⟩ := x
  dsimp only at HR ⊢
  have hb0 := below2 w (.cells #[.int .i64 xk, .int .i64 xn, .string xt] 26) (.cells #[.int .i64 r, .int .i64 c, .slice A n cap] 24)
  replace HZ := Lib.hid (HZ.out.on hb0)
  have hx0 := (CellsAt.new w [.int .i64 xk, .int .i64 xn, .string xt] 26).on_alloc (.cells #[.int .i64 r, .int .i64 c, .slice A n cap] 24)
  have ht0 := newAt (w0 := w.alloc (.cells #[.int .i64 xk, .int .i64 xn, .string xt] 26)) (g := w.heap.size + 1) (by simp) [.int .i64 r, .int .i64 c, .slice A n cap] 24
  clear hz hm hx hs
  go_enter Tryz.func15, Tryz.ntmps15
  go_wp2_with fail
  generalize (w.alloc (.cells #[.int .i64 xk, .int .i64 xn, .string xt] 26)).alloc (.cells #[.int .i64 r, .int .i64 c, .slice A n cap] 24) = W at *
  go_loopw [5] (fun i wr => ∃ k : Nat, k ≤ n ∧ i = .int .i64 k ∧ Below W.heap.size W wr) (fun i _ => n - (intOf i).toNat)
  case atStart => exact ⟨0, Nat.zero_le _, rfl, Below.refl _ _⟩
  case round =>
    obtain ⟨k, hk, rfl, hb1⟩ := hrel
    obtain ⟨x0, x1, x2, _⟩ := (hx0.on hb1).three
    obtain ⟨t0, t1, t2, _⟩ := (ht0.on hb1).three
    have hs1 := hb1.size
    have hl0 := hx0.1
    have hl1 := ht0.1
    by_cases hlt : k < n
    · have HN : ∀ v, L[k]? = some v → foundV ⟨xk, xn, xt⟩ v = false := fun v hv => HNo.out k v hv
      obtain ⟨v, hv⟩ := HZ.out.get hlt
      obtain ⟨b, o, rfl, hb, c0, c1, c2⟩ := (HZ.out.on hb1).at hv
      have hmv := HM.out k v hv
      have HR2 := Lib.hid (HR.out v hmv false (HN v hv))
      obtain ⟨vk, vn, vt⟩ := v
      dsimp only at c0 c1 c2 HR2
      clear HR HM hmv hv
      go_wp2_with fail
      have X0 := fun d os => cell_regrown x0 d os
      have X1 := fun d os => cell_regrown x1 d os
      have X2 := fun d os => cell_regrown x2 d os
      have T0 := fun d os => cell_regrown t0 d os
      have T1 := fun d os => cell_regrown t1 d os
      have T2 := fun d os => cell_regrown t2 d os
      have C0 := fun d os => cell_regrown c0 d os
      have C1 := fun d os => cell_regrown c1 d os
      have C2 := fun d os => cell_regrown c2 d os
      clear x0 x1 x2 t0 t1 t2 c0 c1 c2
      refine wp_region_mem 7 (fun d => match d with
        | 19 => some (Is (.bool false))
        | _ => none) (by kernel_rfl) (by kernel_rfl) ?_
      simp only [List.take_succ_cons, List.take_zero, List.drop_succ_cons, List.drop_zero]
      repeat (first | ((with_reducible refine wpM_calm ?_ ?_ ?_ ?_); exact rfl; exact rfl; exact rfl; intro K hK; go_big_quiet_op; go_big_quiet_on) | ((with_reducible refine wpM_skip ?_ ?_); exact rfl; simp only [Act.put, List.setIfInBounds_toArray, List.set_cons_succ, List.set_cons_zero]))
      refine wpM_exact rfl rfl rfl Tryz.func36 (by kernel_rfl) (by kernel_rfl) (fun w1 _ _ => HR2.out w1) rfl (by simp only [Act.put, List.setIfInBounds_toArray, List.set_cons_succ, List.set_cons_zero]; rfl) ?_
      refine wpM_nil ?_
      intro w2 hw2 _
      clear X0 X1 X2 T0 T1 T2 C0 C1 C2 HR2
      go_wp2_with fail
      go_roundw
      case rel => exact ⟨k + 1, by omega, by go_num, on hb1 hw2⟩
      case measure => simp [intOf]; omega
    · obtain rfl : k = n := by omega
      clear HR HM
      go_wp2_with fail
      go_ret
      exact ⟨rfl, on hb0 hb1⟩
set_option maxRecDepth 100000 in
set_option maxHeartbeats 2000000 in
theorem rmatch_yes (x : Vl) (hx : x.may) (r c : Int) (A : Option Addr) (n cap : Nat) (L : List Vl) (hm : ∀ v ∈ L, v.may) (p : Nat) (hpn : p < n) (hs : ∀ (k : Nat) (v : Vl), k < p → L[k]? = some v → foundV x v = false) (hy : ∀ v, L[p]? = some v → foundV x v = true) (w : World) (hz : ValsR w A n L) :
    Calls Tryz.prog 15 #[.agg #[.int .i64 x.k, .int .i64 x.n, .string x.t], .agg #[.int .i64 r, .int .i64 c, .slice A n cap]] w fun e w' => e = .returned (.int .i64 ((p : Int) + 1)) ∧ Below w.heap.size w w' := by
  have HZ := Lib.hid hz
  have HM : Hid (∀ (k : Nat) (v : Vl), L[k]? = some v → v.may) := Lib.hid fun k v hv => hm v (List.mem_of_getElem? hv)
  have HR := Lib.hid (fun v (hv : Vl.may v) b (h : foundV x v = b) w1 => rfound_c x v hx hv b h w1)
  have hn9 := hz.2.1
  have HNo := Lib.hid hs
  have HYes := Lib.hid hy
  obtain ⟨xk, xn, xt⟩ := x
  dsimp only at HR ⊢
  have hb0 := below2 w (.cells #[.int .i64 xk, .int .i64 xn, .string xt] 26) (.cells #[.int .i64 r, .int .i64 c, .slice A n cap] 24)
  replace HZ := Lib.hid (HZ.out.on hb0)
  have hx0 := (CellsAt.new w [.int .i64 xk, .int .i64 xn, .string xt] 26).on_alloc (.cells #[.int .i64 r, .int .i64 c, .slice A n cap] 24)
  have ht0 := newAt (w0 := w.alloc (.cells #[.int .i64 xk, .int .i64 xn, .string xt] 26)) (g := w.heap.size + 1) (by simp) [.int .i64 r, .int .i64 c, .slice A n cap] 24
  clear hz hm hx hs hy
  go_enter Tryz.func15, Tryz.ntmps15
  go_wp2_with fail
  generalize (w.alloc (.cells #[.int .i64 xk, .int .i64 xn, .string xt] 26)).alloc (.cells #[.int .i64 r, .int .i64 c, .slice A n cap] 24) = W at *
  go_loopw [5] (fun i wr => ∃ k : Nat, k ≤ p ∧ i = .int .i64 k ∧ Below W.heap.size W wr) (fun i _ => n - (intOf i).toNat)
  case atStart => exact ⟨0, Nat.zero_le _, rfl, Below.refl _ _⟩
  case round =>
    obtain ⟨k, hk, rfl, hb1⟩ := hrel
    obtain ⟨x0, x1, x2, _⟩ := (hx0.on hb1).three
    obtain ⟨t0, t1, t2, _⟩ := (ht0.on hb1).three
    have hs1 := hb1.size
    have hl0 := hx0.1
    have hl1 := ht0.1
    have hlt : k < n := by omega
    by_cases hkp : k < p
    · have HN : ∀ v, L[k]? = some v → foundV ⟨xk, xn, xt⟩ v = false := fun v hv => HNo.out k v hkp hv
      obtain ⟨v, hv⟩ := HZ.out.get hlt
      obtain ⟨b, o, rfl, hb, c0, c1, c2⟩ := (HZ.out.on hb1).at hv
      have hmv := HM.out k v hv
      have HR2 := Lib.hid (HR.out v hmv false (HN v hv))
      obtain ⟨vk, vn, vt⟩ := v
      dsimp only at c0 c1 c2 HR2
      clear HR HM hmv hv
      go_wp2_with fail
      have X0 := fun d os => cell_regrown x0 d os
      have X1 := fun d os => cell_regrown x1 d os
      have X2 := fun d os => cell_regrown x2 d os
      have T0 := fun d os => cell_regrown t0 d os
      have T1 := fun d os => cell_regrown t1 d os
      have T2 := fun d os => cell_regrown t2 d os
      have C0 := fun d os => cell_regrown c0 d os
      have C1 := fun d os => cell_regrown c1 d os
      have C2 := fun d os => cell_regrown c2 d os
      clear x0 x1 x2 t0 t1 t2 c0 c1 c2
      refine wp_region_mem 7 (fun d => match d with
        | 19 => some (Is (.bool false))
        | _ => none) (by kernel_rfl) (by kernel_rfl) ?_
      simp only [List.take_succ_cons, List.take_zero, List.drop_succ_cons, List.drop_zero]
      repeat (first | ((with_reducible refine wpM_calm ?_ ?_ ?_ ?_); exact rfl; exact rfl; exact rfl; intro K hK; go_big_quiet_op; go_big_quiet_on) | ((with_reducible refine wpM_skip ?_ ?_); exact rfl; simp only [Act.put, List.setIfInBounds_toArray, List.set_cons_succ, List.set_cons_zero]))
      refine wpM_exact rfl rfl rfl Tryz.func36 (by kernel_rfl) (by kernel_rfl) (fun w1 _ _ => HR2.out w1) rfl (by simp only [Act.put, List.setIfInBounds_toArray, List.set_cons_succ, List.set_cons_zero]; rfl) ?_
      refine wpM_nil ?_
      intro w2 hw2 _
      clear X0 X1 X2 T0 T1 T2 C0 C1 C2 HR2
      go_wp2_with fail
      go_roundw
      case rel => exact ⟨k + 1, by omega, by go_num, on hb1 hw2⟩
      case measure => simp [intOf]; omega
    · obtain rfl : k = p := by omega
      obtain ⟨v, hv⟩ := HZ.out.get hlt
      obtain ⟨b, o, rfl, hb, c0, c1, c2⟩ := (HZ.out.on hb1).at hv
      have hmv := HM.out k v hv
      have HR2 := Lib.hid (HR.out v hmv true (HYes.out v hv))
      obtain ⟨vk, vn, vt⟩ := v
      dsimp only at c0 c1 c2 HR2
      clear HR HM hmv hv
      go_wp2_with fail
      have X0 := fun d os => cell_regrown x0 d os
      have X1 := fun d os => cell_regrown x1 d os
      have X2 := fun d os => cell_regrown x2 d os
      have T0 := fun d os => cell_regrown t0 d os
      have T1 := fun d os => cell_regrown t1 d os
      have T2 := fun d os => cell_regrown t2 d os
      have C0 := fun d os => cell_regrown c0 d os
      have C1 := fun d os => cell_regrown c1 d os
      have C2 := fun d os => cell_regrown c2 d os
      clear x0 x1 x2 t0 t1 t2 c0 c1 c2
      refine wp_region_mem 7 (fun d => match d with
        | 19 => some (Is (.bool true))
        | _ => none) (by kernel_rfl) (by kernel_rfl) ?_
      simp only [List.take_succ_cons, List.take_zero, List.drop_succ_cons, List.drop_zero]
      repeat (first | ((with_reducible refine wpM_calm ?_ ?_ ?_ ?_); exact rfl; exact rfl; exact rfl; intro K hK; go_big_quiet_op; go_big_quiet_on) | ((with_reducible refine wpM_skip ?_ ?_); exact rfl; simp only [Act.put, List.setIfInBounds_toArray, List.set_cons_succ, List.set_cons_zero]))
      refine wpM_exact rfl rfl rfl Tryz.func36 (by kernel_rfl) (by kernel_rfl) (fun w1 _ _ => HR2.out w1) rfl (by simp only [Act.put, List.setIfInBounds_toArray, List.set_cons_succ, List.set_cons_zero]; rfl) ?_
      refine wpM_nil ?_
      intro w2 hw2 _
      clear X0 X1 X2 T0 T1 T2 C0 C1 C2 HR2
      go_wp2_with fail
      go_ret
      exact ⟨rfl, on hb0 (on hb1 hw2)⟩
/-- where it is found -/
def MatchIs (x : Vl) (L : List Vl) (m : Int) (ok : Bool) : Prop := (x.k = 4 ∧ m = 0 ∧ ok = false) ∨ (¬ x.k = 4 ∧ NoS x L ∧ m = 0 ∧ ok = false) ∨ (¬ x.k = 4 ∧ ∃ p u, FirstS x L p u ∧ m = (p : Int) + 1 ∧ ok = true)
theorem match_some (x : Vl) (L : List Vl) : ∃ m ok, MatchIs x L m ok := by
  by_cases h4 : x.k = 4
  · exact ⟨0, false, .inl ⟨h4, rfl, rfl⟩⟩
  · rcases find_ways x L with h | ⟨p, u, h⟩
    · exact ⟨0, false, .inr (.inl ⟨h4, h, rfl, rfl⟩)⟩
    · exact ⟨_, true, .inr (.inr ⟨h4, p, u, h, rfl, rfl⟩)⟩
theorem found_c (x : Vl) (hx : x.may) (A : Option Addr) (n cap : Nat) (L : List Vl) (hm : ∀ v ∈ L, v.may) (m : Int) (ok : Bool) (h : MatchIs x L m ok) (w : World) (hz : ValsR w A n L) :
    Calls Tryz.prog 35 #[.agg #[.int .i64 x.k, .int .i64 x.n, .string x.t], .slice A n cap] w (PlaceIs m ok w) := by
  rcases h with ⟨h4, rfl, rfl⟩ | ⟨h4, h, rfl, rfl⟩ | ⟨h4, p, u, h, rfl, rfl⟩
  · exact found_fault x h4 A n cap w
  · exact found_no x hx h4 A n cap L hm h w hz
  · exact found_yes x hx h4 A n cap L hm p u h w hz
theorem matchAny_c (x : Vl) (hx : x.may) (r c : Int) (A : Option Addr) (n cap : Nat) (L : List Vl) (hm : ∀ v ∈ L, v.may) (m : Int) (ok : Bool) (h : MatchIs x L m ok) (w : World) (hz : ValsR w A n L) :
    Calls Tryz.prog 14 #[.agg #[.int .i64 x.k, .int .i64 x.n, .string x.t], .agg #[.int .i64 r, .int .i64 c, .slice A n cap]] w (PlaceIs m ok w) :=
  match_c _ _ _ r c A n cap m ok w (fun w1 hb => found_c x hx A n cap L hm m ok h w1 (hz.on hb))
theorem rmatch_c (x : Vl) (hx : x.may) (r c : Int) (A : Option Addr) (n cap : Nat) (L : List Vl) (hm : ∀ v ∈ L, v.may) (m : Int) (ok : Bool) (h : MatchIs x L m ok) (w : World) (hz : ValsR w A n L) :
    Calls Tryz.prog 15 #[.agg #[.int .i64 x.k, .int .i64 x.n, .string x.t], .agg #[.int .i64 r, .int .i64 c, .slice A n cap]] w fun e w' => e = .returned (.int .i64 m) ∧ Below w.heap.size w w' := by
  rcases h with ⟨h4, rfl, rfl⟩ | ⟨h4, h, rfl, rfl⟩ | ⟨h4, p, u, h, rfl, rfl⟩
  · exact rmatch_no x hx r c A n cap L hm (fun k v _ => by unfold foundV; rw [decide_eq_true h4]; rfl) w hz
  · exact rmatch_no x hx r c A n cap L hm (fun k v hv => by unfold foundV; rw [h k v hv, Bool.and_false]) w hz
  · refine rmatch_yes x hx r c A n cap L hm p (by have := h.lt; rw [hz.1] at this; exact this) (fun k v hk hv => by unfold foundV; rw [h.2.2 k v hk hv, Bool.and_false]) (fun v hv => ?_) w hz
    obtain rfl := Option.some.inj (hv.symm.trans h.1)
    unfold foundV
    rw [h.2.1, decide_eq_false h4]
    rfl
end Go.Proofs.YtbjomidkeignjaaGreatDoor.Lok

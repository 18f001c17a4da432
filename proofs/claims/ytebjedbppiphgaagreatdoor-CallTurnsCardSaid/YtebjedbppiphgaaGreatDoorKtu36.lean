/- What package value's Compare answers at two values of one kind: by their numbers, then by their texts.
   How two values stand that are no faults: package value's Compare and the reference's, of any kinds: whether they are found as one another. Written by wip/gen18c.py. -/
import Derived.Test.YtebjedbppiphgaaGreatDoorKtu01
import Derived.Test.YtebjedbppiphgaaGreatDoorKtu11
import Derived.Test.YtebjedbppiphgaaGreatDoorKtu05
import Derived.Test.YtebjedbppiphgaaGreatDoorKtu17
import Derived.Test.YtebjedbppiphgaaGreatDoorKtu29
namespace Go.Proofs.YtebjedbppiphgaaGreatDoor.Crt
open Go.RowKit Kit Reg Dec Dig Val
set_option maxRecDepth 100000 in
set_option maxHeartbeats 1000000 in
theorem beside_c (k n j : Int) (t : ByteArray) (hk : (k == 0) = false) (w : World) : Calls Tryz.prog 191 #[.agg #[.int .i64 k, .int .i64 n, .string t], .int .i64 j] w (ValIs k n t w) := by
  go_enter Tryz.func191, Tryz.ntmps191
  go_wp2
  exact bodyPost_ret (v := .agg #[.int .i64 k, .int .i64 n, .string t]) (by simp [results, Tryz.results191, go_sem]) rfl ⟨rfl, below2 _ _ _⟩
/-- how two numbers stand to one another -/
def wayI (x y : Int) : Int := if x < y then -1 else if y < x then 1 else 0
theorem way_zero {x y : Int} : wayI x y = 0 ↔ x = y := by unfold wayI; split <;> (try split) <;> omega
set_option maxRecDepth 100000 in
set_option maxHeartbeats 1000000 in
theorem cmp_int (x y r : Int) (h : wayI x y = r) (w : World) : Calls Tryz.prog 193 #[.int .i64 x, .int .i64 y] w fun e w' => e = .returned (.int .i64 r) ∧ w = w' := by
  have HN : Hid (∀ (x : Int) (w1 : World), Calls Tryz.prog 266 #[.int .i64 x] w1 fun e w' => e = .returned (.bool false) ∧ w1 = w') := Lib.hid (fun x w1 => by
    go_enter Tryz.func266, Tryz.ntmps266
    go_wp2
    go_ret
    exact ⟨by simp, rfl⟩)
  rcases Int.lt_trichotomy x y with h1 | h1 | h1
  · obtain rfl : r = -1 := by rw [← h, wayI, if_pos h1]
    have d1 : decide (x < y) = true := decide_eq_true h1
    clear h
    go_enter Tryz.func193, Tryz.ntmps193
    go_wp2_with (go_at_call 266; refine (HN.out _ _).mono ?_; rintro e w' ⟨rfl, rfl⟩)
    go_ret
    exact ⟨rfl, rfl⟩
  · obtain rfl : r = 0 := by rw [← h, wayI, if_neg (by omega), if_neg (by omega)]
    subst h1
    clear h
    go_enter Tryz.func193, Tryz.ntmps193
    go_wp2_with (go_at_call 266; refine (HN.out _ _).mono ?_; rintro e w' ⟨rfl, rfl⟩)
    go_ret
    exact ⟨rfl, rfl⟩
  · obtain rfl : r = 1 := by rw [← h, wayI, if_neg (by omega), if_pos h1]
    have d1 : decide (x < y) = false := decide_eq_false (by omega)
    have d2 : decide (y < x) = true := decide_eq_true h1
    clear h
    go_enter Tryz.func193, Tryz.ntmps193
    go_wp2_with (go_at_call 266; refine (HN.out _ _).mono ?_; rintro e w' ⟨rfl, rfl⟩)
    go_ret
    exact ⟨rfl, rfl⟩
set_option maxRecDepth 100000 in
set_option maxHeartbeats 1000000 in
theorem cmp_int64 (x y r : Int) (h : wayI x y = r) (w : World) : Calls Tryz.prog 194 #[.int .i64 x, .int .i64 y] w fun e w' => e = .returned (.int .i64 r) ∧ w = w' := by
  have HN : Hid (∀ (x : Int) (w1 : World), Calls Tryz.prog 267 #[.int .i64 x] w1 fun e w' => e = .returned (.bool false) ∧ w1 = w') := Lib.hid (fun x w1 => by
    go_enter Tryz.func267, Tryz.ntmps267
    go_wp2
    go_ret
    exact ⟨by simp, rfl⟩)
  rcases Int.lt_trichotomy x y with h1 | h1 | h1
  · obtain rfl : r = -1 := by rw [← h, wayI, if_pos h1]
    have d1 : decide (x < y) = true := decide_eq_true h1
    clear h
    go_enter Tryz.func194, Tryz.ntmps194
    go_wp2_with (go_at_call 267; refine (HN.out _ _).mono ?_; rintro e w' ⟨rfl, rfl⟩)
    go_ret
    exact ⟨rfl, rfl⟩
  · obtain rfl : r = 0 := by rw [← h, wayI, if_neg (by omega), if_neg (by omega)]
    subst h1
    clear h
    go_enter Tryz.func194, Tryz.ntmps194
    go_wp2_with (go_at_call 267; refine (HN.out _ _).mono ?_; rintro e w' ⟨rfl, rfl⟩)
    go_ret
    exact ⟨rfl, rfl⟩
  · obtain rfl : r = 1 := by rw [← h, wayI, if_neg (by omega), if_pos h1]
    have d1 : decide (x < y) = false := decide_eq_false (by omega)
    have d2 : decide (y < x) = true := decide_eq_true h1
    clear h
    go_enter Tryz.func194, Tryz.ntmps194
    go_wp2_with (go_at_call 267; refine (HN.out _ _).mono ?_; rintro e w' ⟨rfl, rfl⟩)
    go_ret
    exact ⟨rfl, rfl⟩
set_option maxRecDepth 100000 in
set_option maxHeartbeats 2000000 in
/-- the first of three that is not 0, where the first one is 0 -/
theorem or_c (g : Nat) (a z r : Int) (h : (¬ a = 0 ∧ r = a) ∨ (a = 0 ∧ r = z)) (w : World) (h0 : w.cell? ⟨g, 0, none⟩ = some (.int .i64 0)) (h1 : w.cell? ⟨g, 1, none⟩ = some (.int .i64 a)) (h2 : w.cell? ⟨g, 2, none⟩ = some (.int .i64 z)) :
    Calls Tryz.prog 192 #[.slice (some ⟨g, 0, none⟩) 3 3] w fun e w' => e = .returned (.int .i64 r) ∧ Below w.heap.size w w' := by
  have H0 := Lib.hid h0
  have H1 := Lib.hid h1
  have H2 := Lib.hid h2
  have HH := Lib.hid h
  clear h0 h1 h2 h
  go_enter Tryz.func192, Tryz.ntmps192
  go_wp2
  go_loopw [8] (fun i wr => ∃ k : Nat, k ≤ 3 ∧ i = .int .i64 k ∧ Hid (2 ≤ k → a = 0) ∧ Hid (k = 3 → z = 0) ∧ Below w.heap.size w wr) (fun i _ => 3 - (intOf i).toNat)
  case atStart => exact ⟨0, by omega, rfl, Lib.hid (by omega), Lib.hid (by omega), Below.refl _ _⟩
  case round =>
    obtain ⟨k, hk, rfl, ha, hz, hb⟩ := hrel
    obtain rfl | rfl | rfl | rfl : k = 0 ∨ k = 1 ∨ k = 2 ∨ k = 3 := by omega
    · have x0 := kept hb H0.out
      clear ha hz H0 H1 H2 HH
      go_wp2
      go_roundw
      case rel => exact ⟨1, by omega, rfl, Lib.hid (by omega), Lib.hid (by omega), hb⟩
      case measure => simp [intOf]
    · have x0 := kept hb H1.out
      by_cases h0 : a = 0
      · subst h0
        clear ha hz H0 H1 H2 HH
        go_wp2
        go_roundw
        case rel => exact ⟨2, by omega, rfl, Lib.hid (fun _ => by first | trivial | rfl), Lib.hid (by omega), hb⟩
        case measure => simp [intOf]
      · obtain rfl : r = a := by rcases HH.out with h | h; exact h.2; exact absurd h.1 h0
        have q : (r == 0) = false := by simp [h0]
        have q2 : (r != 0) = true := by simp [h0]
        clear ha hz H0 H1 H2 HH
        go_wp2
        go_ret
        exact ⟨rfl, hb⟩
    · have x0 := kept hb H2.out
      obtain rfl := ha.out (by omega)
      obtain rfl : r = z := by rcases HH.out with h | h; exact absurd rfl h.1; exact h.2
      by_cases h0 : r = 0
      · subst h0
        clear ha hz H0 H1 H2 HH
        go_wp2
        go_roundw
        case rel => exact ⟨3, by omega, rfl, Lib.hid (fun _ => by first | trivial | rfl), Lib.hid (fun _ => by first | trivial | rfl), hb⟩
        case measure => simp [intOf]
      · have q : (r == 0) = false := by simp [h0]
        have q2 : (r != 0) = true := by simp [h0]
        clear ha hz H0 H1 H2 HH
        go_wp2
        go_ret
        exact ⟨rfl, hb⟩
    · obtain rfl := ha.out (by omega)
      obtain rfl := hz.out rfl
      obtain rfl : r = 0 := by rcases HH.out with h | h; exact absurd rfl h.1; exact h.2
      clear ha hz H0 H1 H2 HH
      go_wp2
      go_ret
      exact ⟨rfl, hb⟩
end Go.Proofs.YtebjedbppiphgaaGreatDoor.Crt
namespace Go.Proofs.YtebjedbppiphgaaGreatDoor.Lok
open Go.RowKit Kit Reg Dec Dig Val Fld
open Crt (wayI way_zero cmp_int cmp_int64 or_c beside_c lessL cmp_less cmp_ways)
set_option maxRecDepth 100000 in
set_option maxHeartbeats 2000000 in
theorem beside_e (n j : Int) (t : ByteArray) (w : World) : Calls Tryz.prog 191 #[.agg #[.int .i64 0, .int .i64 n, .string t], .int .i64 j] w (ValIs j 0 ⟨#[]⟩ w) := by
  go_enter Tryz.func191, Tryz.ntmps191
  go_wp2
  exact bodyPost_ret (v := .agg #[.int .i64 j, .int .i64 0, .string ⟨#[]⟩]) (by simp [results, Tryz.results191, go_sem]) rfl ⟨rfl, below2 _ _ _⟩
set_option maxRecDepth 100000 in
set_option maxHeartbeats 2000000 in
theorem or_first (g : Nat) (c a z : Int) (hc : ¬ c = 0) (w : World) (h0 : w.cell? ⟨g, 0, none⟩ = some (.int .i64 c)) :
    Calls Tryz.prog 192 #[.slice (some ⟨g, 0, none⟩) 3 3] w fun e w' => e = .returned (.int .i64 c) ∧ Below w.heap.size w w' := by
  have H0 := Lib.hid h0
  have q : (c == 0) = false := by simp [hc]
  have q2 : (c != 0) = true := by simp [hc]
  have q3 : (a == a) = true := by simp
  have q4 : (z == z) = true := by simp
  clear h0 q3 q4
  go_enter Tryz.func192, Tryz.ntmps192
  go_wp2
  go_loopw [8] (fun i wr => i = .int .i64 ((0 : Nat) : Int) ∧ Below w.heap.size w wr) (fun i _ => 3 - (intOf i).toNat)
  case atStart => exact ⟨rfl, Below.refl _ _⟩
  case round =>
    obtain ⟨rfl, hb⟩ := hrel
    have x0 := kept hb H0.out
    clear H0
    go_wp2
    go_ret
    exact ⟨rfl, hb⟩
theorem or_any (g : Nat) (c a z r : Int) (h : (¬ c = 0 ∧ r = c) ∨ (c = 0 ∧ ((¬ a = 0 ∧ r = a) ∨ (a = 0 ∧ r = z)))) (w : World) (h0 : w.cell? ⟨g, 0, none⟩ = some (.int .i64 c)) (h1 : w.cell? ⟨g, 1, none⟩ = some (.int .i64 a)) (h2 : w.cell? ⟨g, 2, none⟩ = some (.int .i64 z)) :
    Calls Tryz.prog 192 #[.slice (some ⟨g, 0, none⟩) 3 3] w fun e w' => e = .returned (.int .i64 r) ∧ Below w.heap.size w w' := by
  rcases h with ⟨hc, rfl⟩ | ⟨rfl, h⟩
  · exact or_first g r a z hc w h0
  · exact or_c g a z r h w h0 h1 h2
set_option maxRecDepth 100000 in
set_option maxHeartbeats 4000000 in
theorem compare_any (ka kb k1 k2 na nb n m : Int) (ta tb s t : ByteArray) (a4 : (ka == 4) = false) (b4 : (kb == 4) = false)
    (HB1 : ∀ w1, Calls Tryz.prog 191 #[.agg #[.int .i64 ka, .int .i64 na, .string ta], .int .i64 kb] w1 (ValIs k1 n s w1))
    (HB2 : ∀ w1, Calls Tryz.prog 191 #[.agg #[.int .i64 kb, .int .i64 nb, .string tb], .int .i64 ka] w1 (ValIs k2 m t w1))
    (c a z r : Int) (hc : wayI k1 k2 = c) (ha : wayI n m = a) (hz : Lib.compareBytes s.data.toList t.data.toList = z) (h : (¬ c = 0 ∧ r = c) ∨ (c = 0 ∧ ((¬ a = 0 ∧ r = a) ∨ (a = 0 ∧ r = z)))) (w : World) :
    Calls Tryz.prog 87 #[.agg #[.int .i64 ka, .int .i64 na, .string ta], .agg #[.int .i64 kb, .int .i64 nb, .string tb]] w fun e w' => e = .returned (.int .i64 r) ∧ Below w.heap.size w w' := by
  have H1 := Lib.hid HB1
  have H2 := Lib.hid HB2
  have H3 : Hid (∀ w1, Calls Tryz.prog 193 #[.int .i64 k1, .int .i64 k2] w1 fun e w' => e = .returned (.int .i64 c) ∧ Below w1.heap.size w1 w') := Lib.hid (fun w1 => (cmp_int k1 k2 c hc w1).mono fun e w' ⟨h1, h2⟩ => ⟨h1, h2 ▸ Below.refl _ _⟩)
  have H4 : Hid (∀ w1, Calls Tryz.prog 194 #[.int .i64 n, .int .i64 m] w1 fun e w' => e = .returned (.int .i64 a) ∧ Below w1.heap.size w1 w') := Lib.hid (fun w1 => (cmp_int64 n m a ha w1).mono fun e w' ⟨h1, h2⟩ => ⟨h1, h2 ▸ Below.refl _ _⟩)
  have H5 : Hid (∀ w1, Calls Tryz.prog 195 #[.string s, .string t] w1 fun e w' => e = .returned (.int .i64 z) ∧ Below w1.heap.size w1 w') := Lib.hid (fun w1 => (Tryz.strings_Compare s t w1).mono fun e w' ⟨h1, h2⟩ => ⟨by rw [h1, hz], h2 ▸ Below.refl _ _⟩)
  have HO := Lib.hid (fun (g : Nat) (w1 : World) h0 h1 h2 => or_any g c a z r h w1 h0 h1 h2)
  clear ha hz hc h
  go_enter Tryz.func87, Tryz.ntmps87
  go_wp2_with fail
  have ha := (CellsAt.new w [.int .i64 ka, .int .i64 na, .string ta] 23).on_alloc (.cells #[.int .i64 kb, .int .i64 nb, .string tb] 23)
  have hz := CellsAt.new (w.alloc (.cells #[.int .i64 ka, .int .i64 na, .string ta] 23)) [.int .i64 kb, .int .i64 nb, .string tb] 23
  have hb0 := below2 w (.cells #[.int .i64 ka, .int .i64 na, .string ta] 23) (.cells #[.int .i64 kb, .int .i64 nb, .string tb] 23)
  rw [show (w.alloc (.cells #[.int .i64 ka, .int .i64 na, .string ta] 23)).heap.size = w.heap.size + 1 by simp] at hz
  generalize (w.alloc (.cells #[.int .i64 ka, .int .i64 na, .string ta] 23)).alloc (.cells #[.int .i64 kb, .int .i64 nb, .string tb] 23) = W at *
  obtain ⟨a0, a1, a2, _⟩ := ha.three
  obtain ⟨z0, z1, z2, _⟩ := hz.three
  have C0 := fun d os => cell_regrown a0 d os
  have C1 := fun d os => cell_regrown a1 d os
  have C2 := fun d os => cell_regrown a2 d os
  have D0 := fun d os => cell_regrown z0 d os
  have D1 := fun d os => cell_regrown z1 d os
  have D2 := fun d os => cell_regrown z2 d os
  clear a0 a1 a2 z0 z1 z2
  refine wp_region_mem 8 (fun d => match d with
    | 16 => some (Is (.agg #[.int .i64 k1, .int .i64 n, .string s]))
    | 20 => some (Is (.agg #[.int .i64 k2, .int .i64 m, .string t]))
    | _ => none) (by kernel_rfl) (by kernel_rfl) ?_
  simp only [List.take_succ_cons, List.take_zero, List.drop_succ_cons, List.drop_zero]
  repeat (first | ((with_reducible refine wpM_calm ?_ ?_ ?_ ?_); exact rfl; exact rfl; exact rfl; intro K hK; go_big_quiet_op; go_big_quiet_on) | ((with_reducible refine wpM_skip ?_ ?_); exact rfl; simp only [Act.put, List.setIfInBounds_toArray, List.set_cons_succ, List.set_cons_zero]))
  refine wpM_exact rfl rfl rfl Tryz.func191 (by kernel_rfl) (by kernel_rfl) (fun w1 _ _ => H1.out w1) rfl (by simp only [Act.put, List.setIfInBounds_toArray, List.set_cons_succ, List.set_cons_zero]; rfl) ?_
  repeat (first | ((with_reducible refine wpM_calm ?_ ?_ ?_ ?_); exact rfl; exact rfl; exact rfl; intro K hK; go_big_quiet_op; go_big_quiet_on) | ((with_reducible refine wpM_skip ?_ ?_); exact rfl; simp only [Act.put, List.setIfInBounds_toArray, List.set_cons_succ, List.set_cons_zero]))
  refine wpM_exact rfl rfl rfl Tryz.func191 (by kernel_rfl) (by kernel_rfl) (fun w1 _ _ => H2.out w1) rfl (by simp only [Act.put, List.setIfInBounds_toArray, List.set_cons_succ, List.set_cons_zero]; rfl) ?_
  refine wpM_nil ?_
  intro w1 hw1 _
  clear C0 C1 C2 D0 D1 D2
  replace ha := (ha.on hw1)
  replace hz := (hz.on hw1)
  obtain ⟨a0, a1, a2, f0, f1, f2⟩ := ha.three
  obtain ⟨z0, z1, z2, g0, g1, g2⟩ := (hz.put3_far (c := w.heap.size) (by omega) (.int .i64 k1) (.int .i64 n) (.string s)).three
  replace hz := (hz.put3_far (c := w.heap.size) (by omega) (.int .i64 k1) (.int .i64 n) (.string s)).put3 (.int .i64 k2) (.int .i64 m) (.string t)
  replace ha := (ha.put3 (.int .i64 k1) (.int .i64 n) (.string s)).put3_far (c := w.heap.size + 1) (by omega) (.int .i64 k2) (.int .i64 m) (.string t)
  replace hb0 := set3 (set3 (on hb0 hw1) (Nat.le_refl _) (.int .i64 k1) (.int .i64 n) (.string s)) (b := w.heap.size + 1) (by omega) (.int .i64 k2) (.int .i64 m) (.string t)
  clear hw1
  go_wp2_with fail
  clear a0 a1 a2 f0 f1 f2 z0 z1 z2 g0 g1 g2
  simp only [put3] at hz ha
  generalize (((((w1.setCell ⟨w.heap.size, 0, none⟩ (.int .i64 k1)).setCell ⟨w.heap.size, 1, none⟩ (.int .i64 n)).setCell ⟨w.heap.size, 2, none⟩ (.string s)).setCell
    ⟨w.heap.size + 1, 0, none⟩ (.int .i64 k2)).setCell ⟨w.heap.size + 1, 1, none⟩ (.int .i64 m)).setCell ⟨w.heap.size + 1, 2, none⟩ (.string t) = W2 at *
  obtain ⟨a0, a1, a2, _⟩ := ha.three
  obtain ⟨z0, z1, z2, _⟩ := hz.three
  have C0 := fun d os => cell_regrown a0 d os
  have C1 := fun d os => cell_regrown a1 d os
  have C2 := fun d os => cell_regrown a2 d os
  have D0 := fun d os => cell_regrown z0 d os
  have D1 := fun d os => cell_regrown z1 d os
  have D2 := fun d os => cell_regrown z2 d os
  clear a0 a1 a2 z0 z1 z2 ha hz
  refine wp_region_mem 17 (fun d => match d with
    | 25 => some (Is (.int .i64 c))
    | 30 => some (Is (.int .i64 a))
    | 35 => some (Is (.int .i64 z))
    | 36 => some (NewSlice [.int .i64 c, .int .i64 a, .int .i64 z])
    | 37 => some (Is (.int .i64 r))
    | _ => none) (by kernel_rfl) (by kernel_rfl) ?_
  simp only [List.take_succ_cons, List.take_zero, List.drop_succ_cons, List.drop_zero]
  repeat (first | ((with_reducible refine wpM_calm ?_ ?_ ?_ ?_); exact rfl; exact rfl; exact rfl; intro K hK; go_big_quiet_op; go_big_quiet_on) | ((with_reducible refine wpM_skip ?_ ?_); exact rfl; simp only [Act.put, List.setIfInBounds_toArray, List.set_cons_succ, List.set_cons_zero]))
  refine wpM_exact rfl rfl rfl Tryz.func193 (by kernel_rfl) (by kernel_rfl) (fun w1 _ _ => H3.out w1) rfl (by simp only [Act.put, List.setIfInBounds_toArray, List.set_cons_succ, List.set_cons_zero]; rfl) ?_
  repeat (first | ((with_reducible refine wpM_calm ?_ ?_ ?_ ?_); exact rfl; exact rfl; exact rfl; intro K hK; go_big_quiet_op; go_big_quiet_on) | ((with_reducible refine wpM_skip ?_ ?_); exact rfl; simp only [Act.put, List.setIfInBounds_toArray, List.set_cons_succ, List.set_cons_zero]))
  refine wpM_exact rfl rfl rfl Tryz.func194 (by kernel_rfl) (by kernel_rfl) (fun w1 _ _ => H4.out w1) rfl (by simp only [Act.put, List.setIfInBounds_toArray, List.set_cons_succ, List.set_cons_zero]; rfl) ?_
  repeat (first | ((with_reducible refine wpM_calm ?_ ?_ ?_ ?_); exact rfl; exact rfl; exact rfl; intro K hK; go_big_quiet_op; go_big_quiet_on) | ((with_reducible refine wpM_skip ?_ ?_); exact rfl; simp only [Act.put, List.setIfInBounds_toArray, List.set_cons_succ, List.set_cons_zero]))
  refine wpM_exact rfl rfl rfl Tryz.func195 (by kernel_rfl) (by kernel_rfl) (fun w1 _ _ => H5.out w1) rfl (by simp only [Act.put, List.setIfInBounds_toArray, List.set_cons_succ, List.set_cons_zero]; rfl) ?_
  refine wpM_makes _ rfl rfl (fun w1 hw1 _ => ?_) ?_
  · simp [go_sem, variesUpon]
    exact ⟨below1 _ _, w1.heap.size, rfl, CellsAt.new w1 [.int .i64 c, .int .i64 a, .int .i64 z] _⟩
  rintro v ⟨_, b2, rfl, _⟩ a' ha'
  simp only [Act.put, List.setIfInBounds_toArray, List.set_cons_succ, List.set_cons_zero] at ha'
  subst ha'
  refine wpM_exact rfl rfl rfl Tryz.func192 (by kernel_rfl) (by kernel_rfl) ?_ rfl (by simp only [Act.put, List.setIfInBounds_toArray, List.set_cons_succ, List.set_cons_zero]; rfl) ?_
  · intro w1 _ hl
    obtain ⟨b3, e, hl3⟩ := NewSlice.up ((looks_at (k := 15) (d := 36) hl (by kernel_rfl) (by kernel_rfl)).2 rfl)
    obtain rfl : b2 = b3 := by simpa using e
    exact HO.out _ w1 (hl3.2 0 _ rfl).1 (hl3.2 1 _ rfl).1 (hl3.2 2 _ rfl).1
  refine wpM_nil ?_
  intro w1 hw1 _
  go_wp2
  go_ret
  exact ⟨rfl, on hb0 hw1⟩
theorem cmp_self (a : List UInt8) : Lib.compareBytes a a = 0 := by
  have h := Crt.cmp_swap a a
  omega
/-- the kind of a value beside another one -/
def effK (k j : Int) : Int := if k = 0 then j else k
theorem eff_same (k j : Int) : (effK k j = effK j k) ↔ (k = 0 ∨ j = 0 ∨ k = j) := by
  unfold effK
  by_cases h1 : k = 0 <;> by_cases h2 : j = 0 <;> simp_all
theorem beside_v (v : Vl) (h : v.may) (j : Int) (w : World) : Calls Tryz.prog 191 #[.agg #[.int .i64 v.k, .int .i64 v.n, .string v.t], .int .i64 j] w (ValIs (effK v.k j) v.n v.t w) := by
  by_cases h0 : v.k = 0
  · rcases may_ways h with rfl | ⟨n, rfl, _⟩ | ⟨t, rfl, _⟩ | rfl | rfl | ⟨n, rfl, _⟩
    · exact beside_e 0 j ⟨#[]⟩ w
    all_goals (simp at h0; done)
  · have e : effK v.k j = v.k := by unfold effK; rw [if_neg h0]
    rw [e]
    exact beside_c v.k v.n j v.t (by rw [beq_eq_false_iff_ne]; exact h0) w
theorem k4_no {v : Vl} (h : ¬ v.k = 4) : (v.k == 4) = false := by rw [beq_eq_false_iff_ne]; exact h
/-- whether the reference has one ahead -/
def aheadV (a b : Vl) : Bool := if a.k = 0 ∨ b.k = 0 ∨ a.k = b.k then (decide (a.n < b.n) || lessL a.t.data.toList b.t.data.toList) else decide (a.k < b.k)
theorem less_self (a : List UInt8) : lessL a a = false := by
  unfold lessL
  rw [cmp_self]
  rfl
end Go.Proofs.YtebjedbppiphgaaGreatDoor.Lok

/- What package value's Compare answers at two values of one kind: by their numbers, then by their texts.
   What the reference's Less, ahead and Compare answer: at two values of one kind, of texts of at most a thousand bytes. -/
import Derived.Test.YtbjomidkeignjaaGreatDoorG14
import Derived.Test.YtbjomidkeignjaaGreatDoorG9
import Derived.Test.YtbjomidkeignjaaGreatDoorShelf
namespace Go.Proofs.YtbjomidkeignjaaGreatDoor.Crt
open Go.RowKit Kit Reg Dec Dig Val

set_option maxRecDepth 100000 in
set_option maxHeartbeats 1000000 in
theorem beside_c (k n j : Int) (t : ByteArray) (hk : (k == 0) = false) (w : World) : Calls Tryz.prog 76 #[.agg #[.int .i64 k, .int .i64 n, .string t], .int .i64 j] w (ValIs k n t w) := by
  go_enter Tryz.func76, Tryz.ntmps76
  go_wp2
  exact bodyPost_ret (v := .agg #[.int .i64 k, .int .i64 n, .string t]) (by simp [results, Tryz.results76, go_sem]) rfl ⟨rfl, below2 _ _ _⟩
/-- how two numbers stand to one another -/
def wayI (x y : Int) : Int := if x < y then -1 else if y < x then 1 else 0
theorem way_same (x : Int) : wayI x x = 0 := by simp [wayI]
theorem way_zero {x y : Int} : wayI x y = 0 ↔ x = y := by unfold wayI; split <;> (try split) <;> omega
theorem way_ways (x y : Int) : wayI x y = -1 ∨ wayI x y = 0 ∨ wayI x y = 1 := by unfold wayI; split <;> (try split) <;> omega
set_option maxRecDepth 100000 in
set_option maxHeartbeats 1000000 in
theorem cmp_int (x y r : Int) (h : wayI x y = r) (w : World) : Calls Tryz.prog 78 #[.int .i64 x, .int .i64 y] w fun e w' => e = .returned (.int .i64 r) ∧ w = w' := by
  have HN : Hid (∀ (x : Int) (w1 : World), Calls Tryz.prog 97 #[.int .i64 x] w1 fun e w' => e = .returned (.bool false) ∧ w1 = w') := Lib.hid (fun x w1 => by
    go_enter Tryz.func97, Tryz.ntmps97
    go_wp2
    go_ret
    exact ⟨by simp, rfl⟩)
  rcases Int.lt_trichotomy x y with h1 | h1 | h1
  · obtain rfl : r = -1 := by rw [← h, wayI, if_pos h1]
    have d1 : decide (x < y) = true := decide_eq_true h1
    clear h
    go_enter Tryz.func78, Tryz.ntmps78
    go_wp2_with (go_at_call 97; refine (HN.out _ _).mono ?_; rintro e w' ⟨rfl, rfl⟩)
    go_ret
    exact ⟨rfl, rfl⟩
  · obtain rfl : r = 0 := by rw [← h, wayI, if_neg (by omega), if_neg (by omega)]
    subst h1
    clear h
    go_enter Tryz.func78, Tryz.ntmps78
    go_wp2_with (go_at_call 97; refine (HN.out _ _).mono ?_; rintro e w' ⟨rfl, rfl⟩)
    go_ret
    exact ⟨rfl, rfl⟩
  · obtain rfl : r = 1 := by rw [← h, wayI, if_neg (by omega), if_pos h1]
    have d1 : decide (x < y) = false := decide_eq_false (by omega)
    have d2 : decide (y < x) = true := decide_eq_true h1
    clear h
    go_enter Tryz.func78, Tryz.ntmps78
    go_wp2_with (go_at_call 97; refine (HN.out _ _).mono ?_; rintro e w' ⟨rfl, rfl⟩)
    go_ret
    exact ⟨rfl, rfl⟩
set_option maxRecDepth 100000 in
set_option maxHeartbeats 1000000 in
theorem cmp_int64 (x y r : Int) (h : wayI x y = r) (w : World) : Calls Tryz.prog 79 #[.int .i64 x, .int .i64 y] w fun e w' => e = .returned (.int .i64 r) ∧ w = w' := by
  have HN : Hid (∀ (x : Int) (w1 : World), Calls Tryz.prog 98 #[.int .i64 x] w1 fun e w' => e = .returned (.bool false) ∧ w1 = w') := Lib.hid (fun x w1 => by
    go_enter Tryz.func98, Tryz.ntmps98
    go_wp2
    go_ret
    exact ⟨by simp, rfl⟩)
  rcases Int.lt_trichotomy x y with h1 | h1 | h1
  · obtain rfl : r = -1 := by rw [← h, wayI, if_pos h1]
    have d1 : decide (x < y) = true := decide_eq_true h1
    clear h
    go_enter Tryz.func79, Tryz.ntmps79
    go_wp2_with (go_at_call 98; refine (HN.out _ _).mono ?_; rintro e w' ⟨rfl, rfl⟩)
    go_ret
    exact ⟨rfl, rfl⟩
  · obtain rfl : r = 0 := by rw [← h, wayI, if_neg (by omega), if_neg (by omega)]
    subst h1
    clear h
    go_enter Tryz.func79, Tryz.ntmps79
    go_wp2_with (go_at_call 98; refine (HN.out _ _).mono ?_; rintro e w' ⟨rfl, rfl⟩)
    go_ret
    exact ⟨rfl, rfl⟩
  · obtain rfl : r = 1 := by rw [← h, wayI, if_neg (by omega), if_pos h1]
    have d1 : decide (x < y) = false := decide_eq_false (by omega)
    have d2 : decide (y < x) = true := decide_eq_true h1
    clear h
    go_enter Tryz.func79, Tryz.ntmps79
    go_wp2_with (go_at_call 98; refine (HN.out _ _).mono ?_; rintro e w' ⟨rfl, rfl⟩)
    go_ret
    exact ⟨rfl, rfl⟩
set_option maxRecDepth 100000 in
set_option maxHeartbeats 2000000 in
/-- the first of three that is not 0, where the first one is 0 -/
theorem or_c (g : Nat) (a z r : Int) (h : (¬ a = 0 ∧ r = a) ∨ (a = 0 ∧ r = z)) (w : World) (h0 : w.cell? ⟨g, 0, none⟩ = some (.int .i64 0)) (h1 : w.cell? ⟨g, 1, none⟩ = some (.int .i64 a)) (h2 : w.cell? ⟨g, 2, none⟩ = some (.int .i64 z)) :
    Calls Tryz.prog 77 #[.slice (some ⟨g, 0, none⟩) 3 3] w fun e w' => e = .returned (.int .i64 r) ∧ Below w.heap.size w w' := by
  have H0 := Lib.hid h0
  have H1 := Lib.hid h1
  have H2 := Lib.hid h2
  have HH := Lib.hid h
  clear h0 h1 h2 h
  go_enter Tryz.func77, Tryz.ntmps77
  go_wp2
  go_loopw [8] (fun i wr => ∃ k : Nat, k ≤ 3 ∧ i = .int .i64 k ∧ Hid (2 ≤ k → a = 0) ∧ Hid (k = 3 → z = 0) ∧ Below w.heap.size w wr) (fun i _ => 3 - (intOf i).toNat)
  case atStart => exact ⟨0, by omega, rfl, Lib.hid (by omega), Lib.hid (by omega), Below.refl _ _⟩
  case round =>
    obtain ⟨k, hk, rfl, ha, hz, hb⟩ := hrel
    obtain rfl | rfl | rfl | rfl : k = 0 ∨ k = 1 ∨ k = 2 ∨ k = 3 := by omega
    · have x0 := kept hb H0.out
      clear ha hz H0 H1 H2 HH
      go_wp2
      go_roundw
      case rel => exact ⟨1, by omega, rfl, Lib.hid (by omega), Lib.hid (by omega), hb⟩
      case measure => simp [intOf]
    · have x0 := kept hb H1.out
      by_cases h0 : a = 0
      · subst h0
        clear ha hz H0 H1 H2 HH
        go_wp2
        go_roundw
        case rel => exact ⟨2, by omega, rfl, Lib.hid (fun _ => by first | trivial | rfl), Lib.hid (by omega), hb⟩
        case measure => simp [intOf]
      · obtain rfl : r = a := by rcases HH.out with h | h; exact h.2; exact absurd h.1 h0
        have q : (r == 0) = false := by simp [h0]
        have q2 : (r != 0) = true := by simp [h0]
        clear ha hz H0 H1 H2 HH
        go_wp2
        go_ret
        exact ⟨rfl, hb⟩
    · have x0 := kept hb H2.out
      obtain rfl := ha.out (by omega)
      obtain rfl : r = z := by rcases HH.out with h | h; exact absurd rfl h.1; exact h.2
      by_cases h0 : r = 0
      · subst h0
        clear ha hz H0 H1 H2 HH
        go_wp2
        go_roundw
        case rel => exact ⟨3, by omega, rfl, Lib.hid (fun _ => by first | trivial | rfl), Lib.hid (fun _ => by first | trivial | rfl), hb⟩
        case measure => simp [intOf]
      · have q : (r == 0) = false := by simp [h0]
        have q2 : (r != 0) = true := by simp [h0]
        clear ha hz H0 H1 H2 HH
        go_wp2
        go_ret
        exact ⟨rfl, hb⟩
    · obtain rfl := ha.out (by omega)
      obtain rfl := hz.out rfl
      obtain rfl : r = 0 := by rcases HH.out with h | h; exact absurd rfl h.1; exact h.2
      clear ha hz H0 H1 H2 HH
      go_wp2
      go_ret
      exact ⟨rfl, hb⟩
set_option maxRecDepth 100000 in
set_option maxHeartbeats 2000000 in
theorem compare_c (k n m : Int) (s t : ByteArray) (k0 : (k == 0) = false) (k4 : (k == 4) = false) (a z r : Int) (ha : wayI n m = a) (hz : Lib.compareBytes s.data.toList t.data.toList = z) (h : (¬ a = 0 ∧ r = a) ∨ (a = 0 ∧ r = z)) (w : World) :
    Calls Tryz.prog 61 #[.agg #[.int .i64 k, .int .i64 n, .string s], .agg #[.int .i64 k, .int .i64 m, .string t]] w fun e w' => e = .returned (.int .i64 r) ∧ Below w.heap.size w w' := by
  have H1 := Lib.hid (fun w1 => beside_c k n k s k0 w1)
  have H2 := Lib.hid (fun w1 => beside_c k m k t k0 w1)
  have H3 : Hid (∀ w1, Calls Tryz.prog 78 #[.int .i64 k, .int .i64 k] w1 fun e w' => e = .returned (.int .i64 0) ∧ Below w1.heap.size w1 w') := Lib.hid (fun w1 => (cmp_int k k 0 (way_same k) w1).mono fun e w' ⟨h1, h2⟩ => ⟨h1, h2 ▸ Below.refl _ _⟩)
  have H4 : Hid (∀ w1, Calls Tryz.prog 79 #[.int .i64 n, .int .i64 m] w1 fun e w' => e = .returned (.int .i64 a) ∧ Below w1.heap.size w1 w') := Lib.hid (fun w1 => (cmp_int64 n m a ha w1).mono fun e w' ⟨h1, h2⟩ => ⟨h1, h2 ▸ Below.refl _ _⟩)
  have H5 : Hid (∀ w1, Calls Tryz.prog 80 #[.string s, .string t] w1 fun e w' => e = .returned (.int .i64 z) ∧ Below w1.heap.size w1 w') := Lib.hid (fun w1 => (Tryz.strings_Compare s t w1).mono fun e w' ⟨h1, h2⟩ => ⟨by rw [h1, hz], h2 ▸ Below.refl _ _⟩)
  have HO := Lib.hid (fun (g : Nat) (w1 : World) h0 h1 h2 => or_c g a z r h w1 h0 h1 h2)
  clear ha hz h
  go_enter Tryz.func61, Tryz.ntmps61
  go_wp2_with fail
  have ha := (CellsAt.new w [.int .i64 k, .int .i64 n, .string s] 26).on_alloc (.cells #[.int .i64 k, .int .i64 m, .string t] 26)
  have hz := CellsAt.new (w.alloc (.cells #[.int .i64 k, .int .i64 n, .string s] 26)) [.int .i64 k, .int .i64 m, .string t] 26
  have hb0 := below2 w (.cells #[.int .i64 k, .int .i64 n, .string s] 26) (.cells #[.int .i64 k, .int .i64 m, .string t] 26)
  rw [show (w.alloc (.cells #[.int .i64 k, .int .i64 n, .string s] 26)).heap.size = w.heap.size + 1 by simp] at hz
  generalize (w.alloc (.cells #[.int .i64 k, .int .i64 n, .string s] 26)).alloc (.cells #[.int .i64 k, .int .i64 m, .string t] 26) = W at *
  obtain ⟨a0, a1, a2, _⟩ := ha.three
  obtain ⟨z0, z1, z2, _⟩ := hz.three
  have C0 := fun d os => cell_regrown a0 d os
  have C1 := fun d os => cell_regrown a1 d os
  have C2 := fun d os => cell_regrown a2 d os
  have D0 := fun d os => cell_regrown z0 d os
  have D1 := fun d os => cell_regrown z1 d os
  have D2 := fun d os => cell_regrown z2 d os
  clear a0 a1 a2 z0 z1 z2
  refine wp_region_mem 8 (fun d => match d with
    | 16 => some (Is (.agg #[.int .i64 k, .int .i64 n, .string s]))
    | 20 => some (Is (.agg #[.int .i64 k, .int .i64 m, .string t]))
    | _ => none) (by kernel_rfl) (by kernel_rfl) ?_
  simp only [List.take_succ_cons, List.take_zero, List.drop_succ_cons, List.drop_zero]
  repeat (first | ((with_reducible refine wpM_calm ?_ ?_ ?_ ?_); exact rfl; exact rfl; exact rfl; intro K hK; go_big_quiet_op; go_big_quiet_on) | ((with_reducible refine wpM_skip ?_ ?_); exact rfl; simp only [Act.put, List.setIfInBounds_toArray, List.set_cons_succ, List.set_cons_zero]))
  refine wpM_exact rfl rfl rfl Tryz.func76 (by kernel_rfl) (by kernel_rfl) (fun w1 _ _ => H1.out w1) rfl (by simp only [Act.put, List.setIfInBounds_toArray, List.set_cons_succ, List.set_cons_zero]; rfl) ?_
  repeat (first | ((with_reducible refine wpM_calm ?_ ?_ ?_ ?_); exact rfl; exact rfl; exact rfl; intro K hK; go_big_quiet_op; go_big_quiet_on) | ((with_reducible refine wpM_skip ?_ ?_); exact rfl; simp only [Act.put, List.setIfInBounds_toArray, List.set_cons_succ, List.set_cons_zero]))
  refine wpM_exact rfl rfl rfl Tryz.func76 (by kernel_rfl) (by kernel_rfl) (fun w1 _ _ => H2.out w1) rfl (by simp only [Act.put, List.setIfInBounds_toArray, List.set_cons_succ, List.set_cons_zero]; rfl) ?_
  refine wpM_nil ?_
  intro w1 hw1 _
  clear C0 C1 C2 D0 D1 D2
  replace ha := (ha.on hw1)
  replace hz := (hz.on hw1)
  obtain ⟨a0, a1, a2, f0, f1, f2⟩ := ha.three
  obtain ⟨z0, z1, z2, g0, g1, g2⟩ := (hz.put3_far (c := w.heap.size) (by omega) (.int .i64 k) (.int .i64 n) (.string s)).three
  replace hz := (hz.put3_far (c := w.heap.size) (by omega) (.int .i64 k) (.int .i64 n) (.string s)).put3 (.int .i64 k) (.int .i64 m) (.string t)
  replace ha := (ha.put3 (.int .i64 k) (.int .i64 n) (.string s)).put3_far (c := w.heap.size + 1) (by omega) (.int .i64 k) (.int .i64 m) (.string t)
  replace hb0 := set3 (set3 (on hb0 hw1) (Nat.le_refl _) (.int .i64 k) (.int .i64 n) (.string s)) (b := w.heap.size + 1) (by omega) (.int .i64 k) (.int .i64 m) (.string t)
  clear hw1
  go_wp2_with fail
  clear a0 a1 a2 f0 f1 f2 z0 z1 z2 g0 g1 g2
  simp only [put3] at hz ha
  generalize (((((w1.setCell ⟨w.heap.size, 0, none⟩ (.int .i64 k)).setCell ⟨w.heap.size, 1, none⟩ (.int .i64 n)).setCell ⟨w.heap.size, 2, none⟩ (.string s)).setCell
    ⟨w.heap.size + 1, 0, none⟩ (.int .i64 k)).setCell ⟨w.heap.size + 1, 1, none⟩ (.int .i64 m)).setCell ⟨w.heap.size + 1, 2, none⟩ (.string t) = W2 at *
  obtain ⟨a0, a1, a2, _⟩ := ha.three
  obtain ⟨z0, z1, z2, _⟩ := hz.three
  have C0 := fun d os => cell_regrown a0 d os
  have C1 := fun d os => cell_regrown a1 d os
  have C2 := fun d os => cell_regrown a2 d os
  have D0 := fun d os => cell_regrown z0 d os
  have D1 := fun d os => cell_regrown z1 d os
  have D2 := fun d os => cell_regrown z2 d os
  clear a0 a1 a2 z0 z1 z2 ha hz
  refine wp_region_mem 17 (fun d => match d with
    | 25 => some (Is (.int .i64 0))
    | 30 => some (Is (.int .i64 a))
    | 35 => some (Is (.int .i64 z))
    | 36 => some (NewSlice [.int .i64 0, .int .i64 a, .int .i64 z])
    | 37 => some (Is (.int .i64 r))
    | _ => none) (by kernel_rfl) (by kernel_rfl) ?_
  simp only [List.take_succ_cons, List.take_zero, List.drop_succ_cons, List.drop_zero]
  repeat (first | ((with_reducible refine wpM_calm ?_ ?_ ?_ ?_); exact rfl; exact rfl; exact rfl; intro K hK; go_big_quiet_op; go_big_quiet_on) | ((with_reducible refine wpM_skip ?_ ?_); exact rfl; simp only [Act.put, List.setIfInBounds_toArray, List.set_cons_succ, List.set_cons_zero]))
  refine wpM_exact rfl rfl rfl Tryz.func78 (by kernel_rfl) (by kernel_rfl) (fun w1 _ _ => H3.out w1) rfl (by simp only [Act.put, List.setIfInBounds_toArray, List.set_cons_succ, List.set_cons_zero]; rfl) ?_
  repeat (first | ((with_reducible refine wpM_calm ?_ ?_ ?_ ?_); exact rfl; exact rfl; exact rfl; intro K hK; go_big_quiet_op; go_big_quiet_on) | ((with_reducible refine wpM_skip ?_ ?_); exact rfl; simp only [Act.put, List.setIfInBounds_toArray, List.set_cons_succ, List.set_cons_zero]))
  refine wpM_exact rfl rfl rfl Tryz.func79 (by kernel_rfl) (by kernel_rfl) (fun w1 _ _ => H4.out w1) rfl (by simp only [Act.put, List.setIfInBounds_toArray, List.set_cons_succ, List.set_cons_zero]; rfl) ?_
  repeat (first | ((with_reducible refine wpM_calm ?_ ?_ ?_ ?_); exact rfl; exact rfl; exact rfl; intro K hK; go_big_quiet_op; go_big_quiet_on) | ((with_reducible refine wpM_skip ?_ ?_); exact rfl; simp only [Act.put, List.setIfInBounds_toArray, List.set_cons_succ, List.set_cons_zero]))
  refine wpM_exact rfl rfl rfl Tryz.func80 (by kernel_rfl) (by kernel_rfl) (fun w1 _ _ => H5.out w1) rfl (by simp only [Act.put, List.setIfInBounds_toArray, List.set_cons_succ, List.set_cons_zero]; rfl) ?_
  refine wpM_makes _ rfl rfl (fun w1 hw1 _ => ?_) ?_
  · simp [go_sem, variesUpon]
    exact ⟨below1 _ _, w1.heap.size, rfl, CellsAt.new w1 [.int .i64 0, .int .i64 a, .int .i64 z] _⟩
  rintro v ⟨_, b2, rfl, _⟩ a' ha'
  simp only [Act.put, List.setIfInBounds_toArray, List.set_cons_succ, List.set_cons_zero] at ha'
  subst ha'
  refine wpM_exact rfl rfl rfl Tryz.func77 (by kernel_rfl) (by kernel_rfl) ?_ rfl (by simp only [Act.put, List.setIfInBounds_toArray, List.set_cons_succ, List.set_cons_zero]; rfl) ?_
  · intro w1 _ hl
    obtain ⟨b3, e, hl3⟩ := NewSlice.up ((looks_at (k := 15) (d := 36) hl (by kernel_rfl) (by kernel_rfl)).2 rfl)
    obtain rfl : b2 = b3 := by simpa using e
    exact HO.out _ w1 (hl3.2 0 _ rfl).1 (hl3.2 1 _ rfl).1 (hl3.2 2 _ rfl).1
  refine wpM_nil ?_
  intro w1 hw1 _
  go_wp2
  go_ret
  exact ⟨rfl, on hb0 hw1⟩
/-- at two numbers, or two truths -/
theorem compare_nums (k n m r : Int) (k0 : (k == 0) = false) (k4 : (k == 4) = false) (h : wayI n m = r) (w : World) :
    Calls Tryz.prog 61 #[.agg #[.int .i64 k, .int .i64 n, .string ⟨#[]⟩], .agg #[.int .i64 k, .int .i64 m, .string ⟨#[]⟩]] w fun e w' => e = .returned (.int .i64 r) ∧ Below w.heap.size w w' :=
  compare_c k n m _ _ k0 k4 r 0 r h rfl (by by_cases h0 : r = 0; exact .inr ⟨h0, h0⟩; exact .inl ⟨h0, rfl⟩) w
/-- at two texts -/
theorem compare_texts (s t : ByteArray) (r : Int) (h : Lib.compareBytes s.data.toList t.data.toList = r) (w : World) :
    Calls Tryz.prog 61 #[.agg #[.int .i64 2, .int .i64 0, .string s], .agg #[.int .i64 2, .int .i64 0, .string t]] w fun e w' => e = .returned (.int .i64 r) ∧ Below w.heap.size w w' :=
  compare_c 2 0 0 s t rfl rfl 0 r r (way_same 0) h (.inr ⟨rfl, rfl⟩) w
end Go.Proofs.YtbjomidkeignjaaGreatDoor.Crt
namespace Go.Proofs.YtbjomidkeignjaaGreatDoor.Crt
open Go.RowKit Kit Reg Dec Dig Val

theorem less_step {S T : List UInt8} {k : Nat} {x y : UInt8} (hx : S[k]? = some x) (hy : T[k]? = some y) (h : x = y) : lessL (S.drop k) (T.drop k) = lessL (S.drop (k + 1)) (T.drop (k + 1)) := by
  rw [drop_at hx, drop_at hy, h, less_cons_eq]
theorem less_here {S T : List UInt8} {k : Nat} {x y : UInt8} (hx : S[k]? = some x) (hy : T[k]? = some y) (h : ¬ x = y) : lessL (S.drop k) (T.drop k) = decide (x < y) := by
  rw [drop_at hx, drop_at hy, less_cons_ne h]
theorem less_end {S T : List UInt8} {k : Nat} (hk1 : k ≤ S.length) (hk2 : k ≤ T.length) (h : S.length ≤ k ∨ T.length ≤ k) : lessL (S.drop k) (T.drop k) = decide (S.length < T.length) := by
  rw [less_short (by rcases h with h | h; exact .inl (List.drop_of_length_le h); exact .inr (List.drop_of_length_le h)), List.length_drop, List.length_drop]
  rw [decide_eq_decide]
  omega
set_option maxRecDepth 100000 in
set_option maxHeartbeats 2000000 in
theorem rless_c (s t : ByteArray) (hs : s.size ≤ 1000) (ht : t.size ≤ 1000) (r : Bool) (hr : lessL s.data.toList t.data.toList = r) (w : World) :
    Calls Tryz.prog 100 #[.string s, .string t] w fun e w' => e = .returned (.bool r) ∧ Below w.heap.size w w' := by
  have HR := Lib.hid hr
  have HSA := Lib.hid (fun k x h => like_at s k x h)
  have HTA := Lib.hid (fun k x h => like_at t k x h)
  have HLS := Lib.hid (len s)
  have HLT := Lib.hid (len t)
  have H0 : Hid (lessL (s.data.toList.drop 0) (t.data.toList.drop 0) = r) := Lib.hid (by simpa using hr)
  clear hr
  go_enter Tryz.func100, Tryz.ntmps100
  go_wp2
  go_loopw [5] (fun i wr => ∃ k : Nat, k ≤ s.size ∧ k ≤ t.size ∧ i = .int .i64 k ∧ Hid (lessL (s.data.toList.drop k) (t.data.toList.drop k) = r) ∧ Below w.heap.size w wr) (fun i _ => s.size - (intOf i).toNat)
  case atStart => exact ⟨0, by omega, by omega, rfl, H0, Below.refl _ _⟩
  case round =>
    clear H0
    obtain ⟨k, hk1, hk2, rfl, hl, hb⟩ := hrel
    by_cases h1 : k < s.size
    · have d1 : decide (k < s.size) = true := decide_eq_true h1
      obtain ⟨x, hx⟩ : ∃ x, s.data.toList[k]? = some x := ⟨_, List.getElem?_eq_getElem (by rw [HLS.out]; exact h1)⟩
      obtain ⟨hxs, hxx⟩ := HSA.out k x hx
      by_cases h2 : k < t.size
      · have d2 : decide (k < t.size) = true := decide_eq_true h2
        obtain ⟨y, hy⟩ : ∃ y, t.data.toList[k]? = some y := ⟨_, List.getElem?_eq_getElem (by rw [HLT.out]; exact h2)⟩
        obtain ⟨hyt, hyy⟩ := HTA.out k y hy
        by_cases hxy : x = y
        · have HN : Hid (lessL (s.data.toList.drop (k + 1)) (t.data.toList.drop (k + 1)) = r) := Lib.hid ((less_step hx hy hxy).symm.trans hl.out)
          have q1 : (x.toNat == y.toNat) = true := by rw [hxy]; simp
          have q2 : ((x.toNat : Int) == (y.toNat : Int)) = true := by rw [hxy]; simp
          have q3 : ((x.toNat : Int) != (y.toNat : Int)) = false := by rw [hxy]; simp
          have q4 : (x.toNat != y.toNat) = false := by rw [hxy]; simp
          clear hxy hx hy hl HR HSA HTA HLS HLT
          go_wp2_with fail
          go_quiet (fail)
          go_wp2
          go_roundw
          case rel => exact ⟨k + 1, by omega, by omega, by go_num, HN, on hb (drew_below rfl)⟩
          case measure => simp [intOf]; omega
        · have hne : ¬ x.toNat = y.toNat := fun e => hxy (UInt8.toNat_inj.1 e)
          have q1 : (x.toNat == y.toNat) = false := by rw [beq_eq_false_iff_ne]; exact hne
          have q2 : ((x.toNat : Int) == (y.toNat : Int)) = false := by rw [beq_eq_false_iff_ne]; omega
          have q3 : ((x.toNat : Int) != (y.toNat : Int)) = true := by rw [bne_iff_ne]; omega
          have q4 : (x.toNat != y.toNat) = true := by rw [bne_iff_ne]; exact hne
          have HN := Lib.hid ((less_here hx hy hxy).symm.trans hl.out)
          have e1 : decide (x.toNat < y.toNat) = r := by rw [← HN.out, decide_eq_decide, UInt8.lt_iff_toNat_lt]
          have e2 : decide ((x.toNat : Int) < (y.toNat : Int)) = r := by rw [← e1, decide_eq_decide]; omega
          clear hxy hne hx hy hl HR HSA HTA HLS HLT HN
          cases r
          all_goals
            go_wp2_with fail
            go_quiet (fail)
            go_wp2_with fail
            go_quiet (fail)
            go_wp2
            go_ret
            exact ⟨by first | rfl | simp_all, on (on hb (drew_below rfl)) (drew_below rfl)⟩
      · have d2 : decide (k < t.size) = false := decide_eq_false h2
        have HN := Lib.hid ((less_end (by rw [HLS.out]; omega) (by rw [HLT.out]; omega) (.inr (by rw [HLT.out]; omega))).symm.trans hl.out)
        rw [HLS.out, HLT.out] at HN
        have e1 := HN.out
        clear hl HR HSA HTA HLS HLT HN hxx hx
        cases r
        all_goals
          go_wp2
          go_ret
          exact ⟨by first | rfl | simp_all, hb⟩
    · have d1 : decide (k < s.size) = false := decide_eq_false h1
      have HN := Lib.hid ((less_end (by rw [HLS.out]; omega) (by rw [HLT.out]; omega) (.inl (by rw [HLS.out]; omega))).symm.trans hl.out)
      rw [HLS.out, HLT.out] at HN
      have e1 := HN.out
      clear hl HR HSA HTA HLS HLT HN
      cases r
      all_goals
        go_wp2
        go_ret
        exact ⟨by first | rfl | simp_all, hb⟩
set_option maxRecDepth 100000 in
set_option maxHeartbeats 2000000 in
theorem rahead_c (k n m : Int) (s t : ByteArray) (hs : s.size ≤ 1000) (ht : t.size ≤ 1000) (k0 : (k == 0) = false) (r : Bool) (hr : (decide (n < m) || lessL s.data.toList t.data.toList) = r) (w : World) :
    Calls Tryz.prog 81 #[.agg #[.int .i64 k, .int .i64 n, .string s], .agg #[.int .i64 k, .int .i64 m, .string t]] w fun e w' => e = .returned (.bool r) ∧ Below w.heap.size w w' := by
  have hne : (k != k) = false := by simp
  have HX : Hid (∀ q, lessL s.data.toList t.data.toList = q → ∀ w, Calls Tryz.prog 100 #[.string s, .string t] w fun e w' => e = .returned (.bool q) ∧ Below w.heap.size w w') := Lib.hid (fun q hq w => rless_c s t hs ht q hq w)
  obtain ⟨q, hq⟩ : ∃ q, lessL s.data.toList t.data.toList = q := ⟨_, rfl⟩
  rw [hq] at hr
  have HL := Lib.hid (HX.out q hq)
  clear hq HX
  have hb0 := below2 w (.cells #[.int .i64 k, .int .i64 n, .string s] 26) (.cells #[.int .i64 k, .int .i64 m, .string t] 26)
  by_cases hnm : n < m
  · have d0 : decide (n < m) = true := decide_eq_true hnm
    rw [d0] at hr
    obtain rfl : r = true := by rw [← hr]; rfl
    clear hr
    go_enter Tryz.func81, Tryz.ntmps81
    go_wp2_with fail
    go_quiet (fail)
    go_wp2
    go_ret
    exact ⟨rfl, on hb0 (drew_below rfl)⟩
  · have d0 : decide (n < m) = false := decide_eq_false hnm
    rw [d0] at hr
    obtain rfl : r = q := by rw [← hr]; rfl
    clear hr
    go_enter Tryz.func81, Tryz.ntmps81
    go_wp2_with fail
    go_quiet (fail)
    go_wp2_with fail
    refine (HL.out _).mono ?_
    rintro e w1 ⟨rfl, hb1⟩
    go_wp2
    go_ret
    exact ⟨rfl, on (on hb0 (drew_below rfl)) hb1⟩
set_option maxRecDepth 100000 in
set_option maxHeartbeats 2000000 in
theorem rcompare_c (k n m : Int) (s t : ByteArray) (hs : s.size ≤ 1000) (ht : t.size ≤ 1000) (k0 : (k == 0) = false) (k4 : (k == 4) = false) (x y : Bool) (hx : (decide (n < m) || lessL s.data.toList t.data.toList) = x)
    (hy : (decide (m < n) || lessL t.data.toList s.data.toList) = y) (r : Int) (hr : (x = true ∧ r = -1) ∨ (x = false ∧ y = true ∧ r = 1) ∨ (x = false ∧ y = false ∧ r = 0)) (w : World) :
    Calls Tryz.prog 62 #[.agg #[.int .i64 k, .int .i64 n, .string s], .agg #[.int .i64 k, .int .i64 m, .string t]] w fun e w' => e = .returned (.int .i64 r) ∧ Below w.heap.size w w' := by
  have HX := Lib.hid (fun w1 => rahead_c k n m s t hs ht k0 x hx w1)
  have HY := Lib.hid (fun w1 => rahead_c k m n t s ht hs k0 y hy w1)
  obtain ⟨w0, hw0⟩ : ∃ w0, w0 = (w.alloc (.cells #[.int .i64 k, .int .i64 n, .string s] 26)).alloc (.cells #[.int .i64 k, .int .i64 m, .string t] 26) := ⟨_, rfl⟩
  have hb0 : Below w.heap.size w w0 := hw0 ▸ below2 _ _ _
  have ha : CellsAt w0 w.heap.size [.int .i64 k, .int .i64 n, .string s] := hw0 ▸ (CellsAt.new w [.int .i64 k, .int .i64 n, .string s] 26).on_alloc _
  have hz : CellsAt w0 (w.heap.size + 1) [.int .i64 k, .int .i64 m, .string t] := by
    have h := CellsAt.new (w.alloc (.cells #[.int .i64 k, .int .i64 n, .string s] 26)) [.int .i64 k, .int .i64 m, .string t] 26
    rw [show (w.alloc (.cells #[.int .i64 k, .int .i64 n, .string s] 26)).heap.size = w.heap.size + 1 by simp] at h
    exact hw0 ▸ h
  clear hx hy
  rcases hr with ⟨rfl, rfl⟩ | ⟨rfl, rfl, rfl⟩ | ⟨rfl, rfl, rfl⟩
  · clear ha hz
    go_enter Tryz.func62, Tryz.ntmps62
    go_wp2_with fail
    refine (HX.out _).mono ?_
    rintro e w1 ⟨rfl, hb1⟩
    rw [← hw0] at hb1
    go_wp2
    go_ret
    exact ⟨rfl, on hb0 hb1⟩
  all_goals
    go_enter Tryz.func62, Tryz.ntmps62
    go_wp2_with fail
    rw [← hw0]
    refine (HX.out _).mono ?_
    rintro e w1 ⟨rfl, hb1⟩
    obtain ⟨a0, a1, a2, _⟩ := (ha.on hb1).three
    obtain ⟨z0, z1, z2, _⟩ := (hz.on hb1).three
    replace hb0 := on hb0 hb1
    clear ha hz hw0 hb1
    go_wp2_with fail
    refine (HY.out _).mono ?_
    rintro e w2 ⟨rfl, hb2⟩
    clear a0 a1 a2 z0 z1 z2
    go_wp2
    go_ret
    exact ⟨rfl, on hb0 hb2⟩
theorem less_none : lessL (⟨#[]⟩ : ByteArray).data.toList (⟨#[]⟩ : ByteArray).data.toList = false := rfl
/-- at two numbers, or two truths -/
theorem rcompare_nums (k n m r : Int) (k0 : (k == 0) = false) (k4 : (k == 4) = false) (h : wayI n m = r) (w : World) :
    Calls Tryz.prog 62 #[.agg #[.int .i64 k, .int .i64 n, .string ⟨#[]⟩], .agg #[.int .i64 k, .int .i64 m, .string ⟨#[]⟩]] w fun e w' => e = .returned (.int .i64 r) ∧ Below w.heap.size w w' := by
  refine rcompare_c k n m _ _ (by decide) (by decide) k0 k4 (decide (n < m)) (decide (m < n)) (by rw [less_none, Bool.or_false]) (by rw [less_none, Bool.or_false]) r ?_ w
  rw [← h, wayI]
  by_cases h1 : n < m
  · exact .inl ⟨decide_eq_true h1, if_pos h1⟩
  · by_cases h2 : m < n
    · exact .inr (.inl ⟨decide_eq_false h1, decide_eq_true h2, by rw [if_neg h1, if_pos h2]⟩)
    · exact .inr (.inr ⟨decide_eq_false h1, decide_eq_false h2, by rw [if_neg h1, if_neg h2]⟩)
/-- at two texts -/
theorem rcompare_texts (s t : ByteArray) (hs : s.size ≤ 1000) (ht : t.size ≤ 1000) (r : Int) (h : Lib.compareBytes s.data.toList t.data.toList = r) (w : World) :
    Calls Tryz.prog 62 #[.agg #[.int .i64 2, .int .i64 0, .string s], .agg #[.int .i64 2, .int .i64 0, .string t]] w fun e w' => e = .returned (.int .i64 r) ∧ Below w.heap.size w w' := by
  refine rcompare_c 2 0 0 s t hs ht rfl rfl _ _ rfl rfl r ?_ w
  rw [← h, cmp_less]
  have e : decide ((0 : Int) < 0) = false := rfl
  rw [e, Bool.false_or, Bool.false_or]
  cases lessL s.data.toList t.data.toList
  · cases lessL t.data.toList s.data.toList
    · exact .inr (.inr ⟨rfl, rfl, rfl⟩)
    · exact .inr (.inl ⟨rfl, rfl, rfl⟩)
  · exact .inl ⟨rfl, rfl⟩
end Go.Proofs.YtbjomidkeignjaaGreatDoor.Crt

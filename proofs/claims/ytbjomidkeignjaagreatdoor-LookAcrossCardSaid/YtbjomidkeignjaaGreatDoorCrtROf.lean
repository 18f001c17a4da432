/- What the reference's read and Of answer: for every value that may be. Written by wip/gen17b.py. -/
import Derived.Test.YtbjomidkeignjaaGreatDoorCrtOf
import Derived.Test.YtbjomidkeignjaaGreatDoorG11
namespace Go.Proofs.YtbjomidkeignjaaGreatDoor.Crt
open Go.RowKit Kit Reg Dec Dig Val

set_option maxRecDepth 100000 in
set_option maxHeartbeats 2000000 in
theorem rmeant_num (t : ByteArray) (x : Int) (hn : readD t.data.toList = (x, true)) (w : World) : Calls Tryz.prog 90 #[.string t] w (ValIs 1 x ⟨#[]⟩ w) := by
  have HR := Lib.hid (fun w1 => rread_c t x true hn w1)
  have hm := mayD_yes (readD_room hn).1.1
  have HN := Lib.hid (fun w1 => rnum_c x 1 x (num_in hm) w1)
  clear hm hn
  go_enter Tryz.func90, Tryz.ntmps90
  go_wp2_with fail
  refine (HR.out _).mono ?_
  rintro e w1 ⟨rfl, hb0⟩
  go_wp2_with fail
  refine (HN.out _).mono ?_
  rintro e w2 ⟨rfl, hb9⟩
  have hb := on (on_alloc hb0 _) hb9
  clear hb0 hb9
  obtain ⟨hA, hb1⟩ := slot hb
  obtain ⟨p0, p1, p2, q0, q1, q2⟩ := hA.three
  obtain ⟨z0, z1, z2⟩ := three_set (u := .int .i64 1) (v := .int .i64 x) (r := .string ⟨#[]⟩) p0 p1 p2
  have hb2 := set3 hb1 (Nat.le_refl _) (.int .i64 1) (.int .i64 x) (.string ⟨#[]⟩)
  clear hA hb hb1
  go_wp2
  exact bodyPost_ret (v := .agg #[.int .i64 1, .int .i64 x, .string ⟨#[]⟩]) (by simp [results, Tryz.results90, go_sem, z0, z1, z2]) rfl ⟨rfl, hb2⟩
set_option maxRecDepth 100000 in
set_option maxHeartbeats 2000000 in
theorem rmeant_yes (x : Int) (hn : readD (yesT : ByteArray).data.toList = (x, false)) (w : World) : Calls Tryz.prog 90 #[.string yesT] w (ValIs 3 1 ⟨#[]⟩ w) := by
  have HR := Lib.hid (fun w1 => rread_c yesT x false hn w1)
  have HN : Hid (∀ w1, Calls Tryz.prog 109 #[.bool true] w1 (ValIs 3 1 ⟨#[]⟩ w1)) := Lib.hid (fun w1 => rbool_c true w1)
  clear hn
  unfold yesT at *
  go_enter Tryz.func90, Tryz.ntmps90
  go_wp2_with fail
  refine (HR.out _).mono ?_
  rintro e w1 ⟨rfl, hb0⟩
  go_wp2_with fail
  refine (HN.out _).mono ?_
  rintro e w2 ⟨rfl, hb9⟩
  have hb := on (on_alloc hb0 _) hb9
  clear hb0 hb9
  obtain ⟨hA, hb1⟩ := slot hb
  obtain ⟨p0, p1, p2, q0, q1, q2⟩ := hA.three
  obtain ⟨z0, z1, z2⟩ := three_set (u := .int .i64 3) (v := .int .i64 1) (r := .string ⟨#[]⟩) p0 p1 p2
  have hb2 := set3 hb1 (Nat.le_refl _) (.int .i64 3) (.int .i64 1) (.string ⟨#[]⟩)
  clear hA hb hb1
  go_wp2
  exact bodyPost_ret (v := .agg #[.int .i64 3, .int .i64 1, .string ⟨#[]⟩]) (by simp [results, Tryz.results90, go_sem, z0, z1, z2]) rfl ⟨rfl, hb2⟩
set_option maxRecDepth 100000 in
set_option maxHeartbeats 2000000 in
theorem rmeant_no (x : Int) (hn : readD (noT : ByteArray).data.toList = (x, false)) (w : World) : Calls Tryz.prog 90 #[.string noT] w (ValIs 3 0 ⟨#[]⟩ w) := by
  have HR := Lib.hid (fun w1 => rread_c noT x false hn w1)
  have HN : Hid (∀ w1, Calls Tryz.prog 109 #[.bool false] w1 (ValIs 3 0 ⟨#[]⟩ w1)) := Lib.hid (fun w1 => rbool_c false w1)
  clear hn
  unfold noT at *
  go_enter Tryz.func90, Tryz.ntmps90
  go_wp2_with fail
  refine (HR.out _).mono ?_
  rintro e w1 ⟨rfl, hb0⟩
  go_wp2_with fail
  refine (HN.out _).mono ?_
  rintro e w2 ⟨rfl, hb9⟩
  have hb := on (on_alloc hb0 _) hb9
  clear hb0 hb9
  obtain ⟨hA, hb1⟩ := slot hb
  obtain ⟨p0, p1, p2, q0, q1, q2⟩ := hA.three
  obtain ⟨z0, z1, z2⟩ := three_set (u := .int .i64 3) (v := .int .i64 0) (r := .string ⟨#[]⟩) p0 p1 p2
  have hb2 := set3 hb1 (Nat.le_refl _) (.int .i64 3) (.int .i64 0) (.string ⟨#[]⟩)
  clear hA hb hb1
  go_wp2
  exact bodyPost_ret (v := .agg #[.int .i64 3, .int .i64 0, .string ⟨#[]⟩]) (by simp [results, Tryz.results90, go_sem, z0, z1, z2]) rfl ⟨rfl, hb2⟩
set_option maxRecDepth 100000 in
set_option maxHeartbeats 2000000 in
theorem rmeant_else (t : ByteArray) (ht : t.size ≤ 256) (h1 : t ≠ yesT) (h2 : t ≠ noT) (x : Int) (hn : readD t.data.toList = (x, false)) (w : World) : Calls Tryz.prog 90 #[.string t] w (ValIs 2 0 t w) := by
  have d1 : (t.toList == [84, 82, 85, 69]) = false := yes_ne h1
  have d2 : (t.toList == [70, 65, 76, 83, 69]) = false := no_ne h2
  have HR := Lib.hid (fun w1 => rread_c t x false hn w1)
  have HN := Lib.hid (fun w1 => rstr_c t 2 0 t (str_in ht) w1)
  clear hn h1 h2
  go_enter Tryz.func90, Tryz.ntmps90
  go_wp2_with fail
  refine (HR.out _).mono ?_
  rintro e w1 ⟨rfl, hb0⟩
  go_wp2_with fail
  refine (HN.out _).mono ?_
  rintro e w2 ⟨rfl, hb9⟩
  have hb := on (on_alloc hb0 _) hb9
  clear hb0 hb9
  obtain ⟨hA, hb1⟩ := slot hb
  obtain ⟨p0, p1, p2, q0, q1, q2⟩ := hA.three
  obtain ⟨z0, z1, z2⟩ := three_set (u := .int .i64 2) (v := .int .i64 0) (r := .string t) p0 p1 p2
  have hb2 := set3 hb1 (Nat.le_refl _) (.int .i64 2) (.int .i64 0) (.string t)
  clear hA hb hb1
  go_wp2
  exact bodyPost_ret (v := .agg #[.int .i64 2, .int .i64 0, .string t]) (by simp [results, Tryz.results90, go_sem, z0, z1, z2]) rfl ⟨rfl, hb2⟩
theorem rmeant_c (t : ByteArray) (ht : t.size ≤ 256) (k n : Int) (s : ByteArray) (h : meantV t = (k, n, s)) (w : World) : Calls Tryz.prog 90 #[.string t] w (ValIs k n s w) := by
  rcases meant_ways h with ⟨x, hr, rfl, rfl, rfl⟩ | ⟨x, hr, ⟨rfl, rfl, rfl, rfl⟩ | ⟨rfl, rfl, rfl, rfl⟩ | ⟨h1, h2, rfl, rfl, rfl⟩⟩
  · exact rmeant_num t _ hr w
  · exact rmeant_yes x hr w
  · exact rmeant_no x hr w
  · exact rmeant_else _ ht h1 h2 x hr w
/-- what is looked for, by the reference -/
def RCritIs (op k n : Int) (s : ByteArray) (w : World) : Ending → World → Prop := fun e w' => e = .returned (.agg #[.int .i64 op, .int .i64 k, .int .i64 n, .string s]) ∧ Below w.heap.size w w'
set_option maxRecDepth 100000 in
set_option maxHeartbeats 1000000 in
theorem rof_fault (n : Int) (t : ByteArray) (w : World) : Calls Tryz.prog 67 #[.agg #[.int .i64 4, .int .i64 n, .string t]] w (RCritIs 0 0 0 ⟨#[]⟩ w) := by
  go_enter Tryz.func67, Tryz.ntmps67
  go_wp2
  exact bodyPost_ret (v := .agg #[.int .i64 0, .int .i64 0, .int .i64 0, .string ⟨#[]⟩]) (by simp [results, Tryz.results67, go_sem]) rfl ⟨rfl, below2 _ _ _⟩
set_option maxRecDepth 100000 in
set_option maxHeartbeats 1000000 in
theorem rof_n (n : Int) (t : ByteArray) (w : World) : Calls Tryz.prog 67 #[.agg #[.int .i64 1, .int .i64 n, .string t]] w (RCritIs 7 1 n t w) := by
  go_enter Tryz.func67, Tryz.ntmps67
  go_wp2
  exact bodyPost_ret (v := .agg #[.int .i64 7, .int .i64 1, .int .i64 n, .string t]) (by simp [results, Tryz.results67, go_sem]) rfl ⟨rfl, below2 _ _ _⟩
set_option maxRecDepth 100000 in
set_option maxHeartbeats 1000000 in
theorem rof_b (n : Int) (t : ByteArray) (w : World) : Calls Tryz.prog 67 #[.agg #[.int .i64 3, .int .i64 n, .string t]] w (RCritIs 7 3 n t w) := by
  go_enter Tryz.func67, Tryz.ntmps67
  go_wp2
  exact bodyPost_ret (v := .agg #[.int .i64 7, .int .i64 3, .int .i64 n, .string t]) (by simp [results, Tryz.results67, go_sem]) rfl ⟨rfl, below2 _ _ _⟩
/-- the memory that Of has made, ahead of its loop -/
structure OfMem (w w4 : World) : Prop where
  res : CellsAt w4 (w.heap.size + 1) [.int .i64 0, .int .i64 0, .int .i64 0, .string ⟨#[]⟩]
  words : CellsAt w4 (w.heap.size + 2) [.string ⟨#[60, 62]⟩, .string ⟨#[60, 61]⟩, .string ⟨#[62, 61]⟩, .string ⟨#[60]⟩, .string ⟨#[62]⟩, .string ⟨#[61]⟩]
  ops : CellsAt w4 (w.heap.size + 3) [.int .i64 8, .int .i64 10, .int .i64 12, .int .i64 9, .int .i64 11, .int .i64 7]
  below : Below w.heap.size w w4

theorem OfMem.start (w : World) (k : Int) (t : ByteArray) : OfMem w ((((w.alloc (.cells #[.int .i64 k, .int .i64 0, .string t] 26)).alloc (.cells #[.int .i64 0, .int .i64 0, .int .i64 0, .string ⟨#[]⟩] 82)).alloc (.cells #[.string ⟨#[60, 62]⟩, .string ⟨#[60, 61]⟩, .string ⟨#[62, 61]⟩, .string ⟨#[60]⟩, .string ⟨#[62]⟩, .string ⟨#[61]⟩] 9)).alloc (.cells #[.int .i64 8, .int .i64 10, .int .i64 12, .int .i64 9, .int .i64 11, .int .i64 7] 3)) := by
  refine ⟨(((cells_new (g := w.heap.size + 1) (by simp) [.int .i64 0, .int .i64 0, .int .i64 0, .string ⟨#[]⟩] _).on_alloc _).on_alloc _), ((cells_new (g := w.heap.size + 2) (by simp) [.string ⟨#[60, 62]⟩, .string ⟨#[60, 61]⟩, .string ⟨#[62, 61]⟩, .string ⟨#[60]⟩, .string ⟨#[62]⟩, .string ⟨#[61]⟩] _).on_alloc _), cells_new (g := w.heap.size + 3) (by simp) [.int .i64 8, .int .i64 10, .int .i64 12, .int .i64 9, .int .i64 11, .int .i64 7] _, below4 _ _ _ _ _⟩
/-- as a text begins, by the walk's own tests -/
theorem pre_split {t : ByteArray} {p : ByteArray} {b : Bool} (h : Lib.hasPrefix t.data.toList p.data.toList = b) (hb : b = false) : decide (p.size ≤ t.size) = false ∨ (p.size ≤ t.size ∧ ((t.extract 0 p.size).toList == p.toList) = false) := by
  subst hb
  rw [← Lib.hasPrefix_raw] at h
  by_cases h1 : p.size ≤ t.size
  · rw [decide_eq_true h1, Bool.true_and] at h
    exact .inr ⟨h1, h⟩
  · exact .inl (decide_eq_false h1)
theorem pre_both {t : ByteArray} {p : ByteArray} (h : Lib.hasPrefix t.data.toList p.data.toList = true) : p.size ≤ t.size ∧ ((t.extract 0 p.size).toList == p.toList) = true := by
  rw [← Lib.hasPrefix_raw, Bool.and_eq_true] at h
  exact ⟨of_decide_eq_true h.1, h.2⟩
set_option maxRecDepth 100000 in
set_option maxHeartbeats 8000000 in
theorem rof_text (t : ByteArray) (ht : t.size ≤ 256) (op : Int) (m : Nat) (hs : splitL t.data.toList = (op, m)) (k n : Int) (s : ByteArray) (hm : meantV (t.extract m t.size) = (k, n, s)) (w : World) :
    Calls Tryz.prog 67 #[.agg #[.int .i64 2, .int .i64 0, .string t]] w (RCritIs op k n s w) := by
  have hu : (t.extract m t.size).size ≤ 256 := by rw [ByteArray.size_extract]; omega
  have HM := Lib.hid (fun w1 => rmeant_c _ hu k n s hm w1)
  have HS := Lib.hid hs
  have HP := Lib.hid (OfMem.start w 2 t)
  have HA := Lib.hid (ext_all t)
  clear hs hm hu
  go_enter Tryz.func67, Tryz.ntmps67
  go_wp2
  generalize (((w.alloc (.cells #[.int .i64 2, .int .i64 0, .string t] 26)).alloc (.cells #[.int .i64 0, .int .i64 0, .int .i64 0, .string ⟨#[]⟩] 82)).alloc (.cells #[.string ⟨#[60, 62]⟩, .string ⟨#[60, 61]⟩, .string ⟨#[62, 61]⟩, .string ⟨#[60]⟩, .string ⟨#[62]⟩, .string ⟨#[61]⟩] 9)).alloc (.cells #[.int .i64 8, .int .i64 10, .int .i64 12, .int .i64 9, .int .i64 11, .int .i64 7] 3) = w4 at *
  go_loopw [6] (fun i wr => ∃ c : Nat, c ≤ 6 ∧ i = .int .i64 c ∧ Hid (∀ j, j < c → hasJ t.data.toList j = false) ∧ w4 = wr) (fun i _ => 6 - (intOf i).toNat)
  case atStart => exact ⟨0, by omega, rfl, Lib.hid (fun j hj => absurd hj (by omega)), rfl⟩
  case round =>
    obtain ⟨c, hk, rfl, hj, rfl⟩ := hrel
    have hz := HP.out.words.1
    obtain rfl | rfl | rfl | rfl | rfl | rfl | rfl : c = 0 ∨ c = 1 ∨ c = 2 ∨ c = 3 ∨ c = 4 ∨ c = 5 ∨ c = 6 := by omega
    · have c0 := (HP.out.words.2 0 _ rfl).1
      cases hh : hasJ t.data.toList 0
      · have HJ : Hid (∀ j, j < 1 → hasJ t.data.toList j = false) := Lib.hid (fun j h => by
          rcases Nat.lt_or_ge j 0 with h1 | h1
          · exact hj.out j h1
          · obtain rfl : j = 0 := by omega
            exact hh)
        rcases pre_split (t := t) (p := ⟨#[60, 62]⟩) hh rfl with d1 | ⟨d1, d2⟩
        · replace d1 : decide (2 ≤ t.size) = false := d1
          have d3 : ¬ (2 ≤ t.size) := of_decide_eq_false d1
          have d4 : decide ((2 : Int) ≤ (t.size : Int)) = false := decide_eq_false (by omega)
          clear hh hj HM HS HP HA
          go_wp2
          go_roundw
          case rel => exact ⟨1, by omega, by go_num, HJ, by first | rfl | trivial⟩
          case measure => simp [intOf]
        · replace d1 : 2 ≤ t.size := d1
          replace d2 : ((t.extract 0 2).toList == [60, 62]) = false := by rw [← d2, Lib.toList_data ⟨#[60, 62]⟩]; rfl
          clear hh hj HM HS HP HA
          go_wp2
          go_roundw
          case rel => exact ⟨1, by omega, by go_num, HJ, by first | rfl | trivial⟩
          case measure => simp [intOf]
      · have hp : (op, m) = (8, 2) := HS.out.symm.trans (by unfold splitL; rw [hh]; rfl)
        obtain ⟨rfl, rfl⟩ := Prod.mk.inj hp
        obtain ⟨d1, d2⟩ := pre_both (t := t) (p := ⟨#[60, 62]⟩) hh
        replace d1 : 2 ≤ t.size := d1
        replace d2 : ((t.extract 0 2).toList == [60, 62]) = true := by rw [← d2, Lib.toList_data ⟨#[60, 62]⟩]; rfl
        have o0 := (HP.out.ops.2 0 _ rfl).1
        have O0 := fun d os => cell_regrown o0 d os
        clear hh hj HS HA hp
        go_wp2_with fail
        refine wp_region_mem 10 (fun d => match d with
          | 55 => some (Is (.agg #[.int .i64 k, .int .i64 n, .string s]))
          | _ => none) (by kernel_rfl) (by kernel_rfl) ?_
        simp only [List.take_succ_cons, List.take_zero, List.drop_succ_cons, List.drop_zero]
        repeat (first | ((with_reducible refine wpM_calm ?_ ?_ ?_ ?_); exact rfl; exact rfl; exact rfl; intro K hK; go_big_quiet_op; go_big_quiet_on) | ((with_reducible refine wpM_skip ?_ ?_); exact rfl; simp only [Act.put, List.setIfInBounds_toArray, List.set_cons_succ, List.set_cons_zero]))
        refine wpM_exact rfl rfl rfl Tryz.func90 (by kernel_rfl) (by kernel_rfl) (fun w1 _ _ => HM.out w1) rfl (by simp only [Act.put, List.setIfInBounds_toArray, List.set_cons_succ, List.set_cons_zero]; rfl) ?_
        repeat (first | ((with_reducible refine wpM_calm ?_ ?_ ?_ ?_); exact rfl; exact rfl; exact rfl; intro K hK; go_big_quiet_op; go_big_quiet_on) | ((with_reducible refine wpM_skip ?_ ?_); exact rfl; simp only [Act.put, List.setIfInBounds_toArray, List.set_cons_succ, List.set_cons_zero]))
        refine wpM_nil ?_
        intro w9 hw9 _
        have h1 := HP.out.res.on hw9
        have h2 := CellsAt.put4 h1 (.int .i64 8) (.int .i64 k) (.int .i64 n) (.string s)
        have hb3 := put4_below (on HP.out.below hw9) (b := w.heap.size + 1) (by omega) (.int .i64 8) (.int .i64 k) (.int .i64 n) (.string s)
        obtain ⟨p0, p1, p2, p3, q0, q1, q2, q3⟩ := h1.four
        obtain ⟨z0, z1, z2, z3, _⟩ := h2.four
        simp only [put4] at z0 z1 z2 z3 hb3
        clear h1 h2 HM HP O0 o0 c0 hz hw9
        go_wp2
        exact bodyPost_ret (v := .agg #[.int .i64 8, .int .i64 k, .int .i64 n, .string s]) (by simp [results, Tryz.results67, go_sem, z0, z1, z2, z3]) rfl ⟨rfl, hb3⟩
    · have c0 := (HP.out.words.2 1 _ rfl).1
      cases hh : hasJ t.data.toList 1
      · have HJ : Hid (∀ j, j < 2 → hasJ t.data.toList j = false) := Lib.hid (fun j h => by
          rcases Nat.lt_or_ge j 1 with h1 | h1
          · exact hj.out j h1
          · obtain rfl : j = 1 := by omega
            exact hh)
        rcases pre_split (t := t) (p := ⟨#[60, 61]⟩) hh rfl with d1 | ⟨d1, d2⟩
        · replace d1 : decide (2 ≤ t.size) = false := d1
          have d3 : ¬ (2 ≤ t.size) := of_decide_eq_false d1
          have d4 : decide ((2 : Int) ≤ (t.size : Int)) = false := decide_eq_false (by omega)
          clear hh hj HM HS HP HA
          go_wp2
          go_roundw
          case rel => exact ⟨2, by omega, by go_num, HJ, by first | rfl | trivial⟩
          case measure => simp [intOf]
        · replace d1 : 2 ≤ t.size := d1
          replace d2 : ((t.extract 0 2).toList == [60, 61]) = false := by rw [← d2, Lib.toList_data ⟨#[60, 61]⟩]; rfl
          clear hh hj HM HS HP HA
          go_wp2
          go_roundw
          case rel => exact ⟨2, by omega, by go_num, HJ, by first | rfl | trivial⟩
          case measure => simp [intOf]
      · have hp : (op, m) = (10, 2) := HS.out.symm.trans (by unfold splitL; rw [hj.out 0 (by omega), hh]; rfl)
        obtain ⟨rfl, rfl⟩ := Prod.mk.inj hp
        obtain ⟨d1, d2⟩ := pre_both (t := t) (p := ⟨#[60, 61]⟩) hh
        replace d1 : 2 ≤ t.size := d1
        replace d2 : ((t.extract 0 2).toList == [60, 61]) = true := by rw [← d2, Lib.toList_data ⟨#[60, 61]⟩]; rfl
        have o0 := (HP.out.ops.2 1 _ rfl).1
        have O0 := fun d os => cell_regrown o0 d os
        clear hh hj HS HA hp
        go_wp2_with fail
        refine wp_region_mem 10 (fun d => match d with
          | 55 => some (Is (.agg #[.int .i64 k, .int .i64 n, .string s]))
          | _ => none) (by kernel_rfl) (by kernel_rfl) ?_
        simp only [List.take_succ_cons, List.take_zero, List.drop_succ_cons, List.drop_zero]
        repeat (first | ((with_reducible refine wpM_calm ?_ ?_ ?_ ?_); exact rfl; exact rfl; exact rfl; intro K hK; go_big_quiet_op; go_big_quiet_on) | ((with_reducible refine wpM_skip ?_ ?_); exact rfl; simp only [Act.put, List.setIfInBounds_toArray, List.set_cons_succ, List.set_cons_zero]))
        refine wpM_exact rfl rfl rfl Tryz.func90 (by kernel_rfl) (by kernel_rfl) (fun w1 _ _ => HM.out w1) rfl (by simp only [Act.put, List.setIfInBounds_toArray, List.set_cons_succ, List.set_cons_zero]; rfl) ?_
        repeat (first | ((with_reducible refine wpM_calm ?_ ?_ ?_ ?_); exact rfl; exact rfl; exact rfl; intro K hK; go_big_quiet_op; go_big_quiet_on) | ((with_reducible refine wpM_skip ?_ ?_); exact rfl; simp only [Act.put, List.setIfInBounds_toArray, List.set_cons_succ, List.set_cons_zero]))
        refine wpM_nil ?_
        intro w9 hw9 _
        have h1 := HP.out.res.on hw9
        have h2 := CellsAt.put4 h1 (.int .i64 10) (.int .i64 k) (.int .i64 n) (.string s)
        have hb3 := put4_below (on HP.out.below hw9) (b := w.heap.size + 1) (by omega) (.int .i64 10) (.int .i64 k) (.int .i64 n) (.string s)
        obtain ⟨p0, p1, p2, p3, q0, q1, q2, q3⟩ := h1.four
        obtain ⟨z0, z1, z2, z3, _⟩ := h2.four
        simp only [put4] at z0 z1 z2 z3 hb3
        clear h1 h2 HM HP O0 o0 c0 hz hw9
        go_wp2
        exact bodyPost_ret (v := .agg #[.int .i64 10, .int .i64 k, .int .i64 n, .string s]) (by simp [results, Tryz.results67, go_sem, z0, z1, z2, z3]) rfl ⟨rfl, hb3⟩
    · have c0 := (HP.out.words.2 2 _ rfl).1
      cases hh : hasJ t.data.toList 2
      · have HJ : Hid (∀ j, j < 3 → hasJ t.data.toList j = false) := Lib.hid (fun j h => by
          rcases Nat.lt_or_ge j 2 with h1 | h1
          · exact hj.out j h1
          · obtain rfl : j = 2 := by omega
            exact hh)
        rcases pre_split (t := t) (p := ⟨#[62, 61]⟩) hh rfl with d1 | ⟨d1, d2⟩
        · replace d1 : decide (2 ≤ t.size) = false := d1
          have d3 : ¬ (2 ≤ t.size) := of_decide_eq_false d1
          have d4 : decide ((2 : Int) ≤ (t.size : Int)) = false := decide_eq_false (by omega)
          clear hh hj HM HS HP HA
          go_wp2
          go_roundw
          case rel => exact ⟨3, by omega, by go_num, HJ, by first | rfl | trivial⟩
          case measure => simp [intOf]
        · replace d1 : 2 ≤ t.size := d1
          replace d2 : ((t.extract 0 2).toList == [62, 61]) = false := by rw [← d2, Lib.toList_data ⟨#[62, 61]⟩]; rfl
          clear hh hj HM HS HP HA
          go_wp2
          go_roundw
          case rel => exact ⟨3, by omega, by go_num, HJ, by first | rfl | trivial⟩
          case measure => simp [intOf]
      · have hp : (op, m) = (12, 2) := HS.out.symm.trans (by unfold splitL; rw [hj.out 0 (by omega), hj.out 1 (by omega), hh]; rfl)
        obtain ⟨rfl, rfl⟩ := Prod.mk.inj hp
        obtain ⟨d1, d2⟩ := pre_both (t := t) (p := ⟨#[62, 61]⟩) hh
        replace d1 : 2 ≤ t.size := d1
        replace d2 : ((t.extract 0 2).toList == [62, 61]) = true := by rw [← d2, Lib.toList_data ⟨#[62, 61]⟩]; rfl
        have o0 := (HP.out.ops.2 2 _ rfl).1
        have O0 := fun d os => cell_regrown o0 d os
        clear hh hj HS HA hp
        go_wp2_with fail
        refine wp_region_mem 10 (fun d => match d with
          | 55 => some (Is (.agg #[.int .i64 k, .int .i64 n, .string s]))
          | _ => none) (by kernel_rfl) (by kernel_rfl) ?_
        simp only [List.take_succ_cons, List.take_zero, List.drop_succ_cons, List.drop_zero]
        repeat (first | ((with_reducible refine wpM_calm ?_ ?_ ?_ ?_); exact rfl; exact rfl; exact rfl; intro K hK; go_big_quiet_op; go_big_quiet_on) | ((with_reducible refine wpM_skip ?_ ?_); exact rfl; simp only [Act.put, List.setIfInBounds_toArray, List.set_cons_succ, List.set_cons_zero]))
        refine wpM_exact rfl rfl rfl Tryz.func90 (by kernel_rfl) (by kernel_rfl) (fun w1 _ _ => HM.out w1) rfl (by simp only [Act.put, List.setIfInBounds_toArray, List.set_cons_succ, List.set_cons_zero]; rfl) ?_
        repeat (first | ((with_reducible refine wpM_calm ?_ ?_ ?_ ?_); exact rfl; exact rfl; exact rfl; intro K hK; go_big_quiet_op; go_big_quiet_on) | ((with_reducible refine wpM_skip ?_ ?_); exact rfl; simp only [Act.put, List.setIfInBounds_toArray, List.set_cons_succ, List.set_cons_zero]))
        refine wpM_nil ?_
        intro w9 hw9 _
        have h1 := HP.out.res.on hw9
        have h2 := CellsAt.put4 h1 (.int .i64 12) (.int .i64 k) (.int .i64 n) (.string s)
        have hb3 := put4_below (on HP.out.below hw9) (b := w.heap.size + 1) (by omega) (.int .i64 12) (.int .i64 k) (.int .i64 n) (.string s)
        obtain ⟨p0, p1, p2, p3, q0, q1, q2, q3⟩ := h1.four
        obtain ⟨z0, z1, z2, z3, _⟩ := h2.four
        simp only [put4] at z0 z1 z2 z3 hb3
        clear h1 h2 HM HP O0 o0 c0 hz hw9
        go_wp2
        exact bodyPost_ret (v := .agg #[.int .i64 12, .int .i64 k, .int .i64 n, .string s]) (by simp [results, Tryz.results67, go_sem, z0, z1, z2, z3]) rfl ⟨rfl, hb3⟩
    · have c0 := (HP.out.words.2 3 _ rfl).1
      cases hh : hasJ t.data.toList 3
      · have HJ : Hid (∀ j, j < 4 → hasJ t.data.toList j = false) := Lib.hid (fun j h => by
          rcases Nat.lt_or_ge j 3 with h1 | h1
          · exact hj.out j h1
          · obtain rfl : j = 3 := by omega
            exact hh)
        rcases pre_split (t := t) (p := ⟨#[60]⟩) hh rfl with d1 | ⟨d1, d2⟩
        · replace d1 : decide (1 ≤ t.size) = false := d1
          have d3 : ¬ (1 ≤ t.size) := of_decide_eq_false d1
          have d4 : decide ((1 : Int) ≤ (t.size : Int)) = false := decide_eq_false (by omega)
          clear hh hj HM HS HP HA
          go_wp2
          go_roundw
          case rel => exact ⟨4, by omega, by go_num, HJ, by first | rfl | trivial⟩
          case measure => simp [intOf]
        · replace d1 : 1 ≤ t.size := d1
          replace d2 : ((t.extract 0 1).toList == [60]) = false := by rw [← d2, Lib.toList_data ⟨#[60]⟩]; rfl
          clear hh hj HM HS HP HA
          go_wp2
          go_roundw
          case rel => exact ⟨4, by omega, by go_num, HJ, by first | rfl | trivial⟩
          case measure => simp [intOf]
      · have hp : (op, m) = (9, 1) := HS.out.symm.trans (by unfold splitL; rw [hj.out 0 (by omega), hj.out 1 (by omega), hj.out 2 (by omega), hh]; rfl)
        obtain ⟨rfl, rfl⟩ := Prod.mk.inj hp
        obtain ⟨d1, d2⟩ := pre_both (t := t) (p := ⟨#[60]⟩) hh
        replace d1 : 1 ≤ t.size := d1
        replace d2 : ((t.extract 0 1).toList == [60]) = true := by rw [← d2, Lib.toList_data ⟨#[60]⟩]; rfl
        have o0 := (HP.out.ops.2 3 _ rfl).1
        have O0 := fun d os => cell_regrown o0 d os
        clear hh hj HS HA hp
        go_wp2_with fail
        refine wp_region_mem 10 (fun d => match d with
          | 55 => some (Is (.agg #[.int .i64 k, .int .i64 n, .string s]))
          | _ => none) (by kernel_rfl) (by kernel_rfl) ?_
        simp only [List.take_succ_cons, List.take_zero, List.drop_succ_cons, List.drop_zero]
        repeat (first | ((with_reducible refine wpM_calm ?_ ?_ ?_ ?_); exact rfl; exact rfl; exact rfl; intro K hK; go_big_quiet_op; go_big_quiet_on) | ((with_reducible refine wpM_skip ?_ ?_); exact rfl; simp only [Act.put, List.setIfInBounds_toArray, List.set_cons_succ, List.set_cons_zero]))
        refine wpM_exact rfl rfl rfl Tryz.func90 (by kernel_rfl) (by kernel_rfl) (fun w1 _ _ => HM.out w1) rfl (by simp only [Act.put, List.setIfInBounds_toArray, List.set_cons_succ, List.set_cons_zero]; rfl) ?_
        repeat (first | ((with_reducible refine wpM_calm ?_ ?_ ?_ ?_); exact rfl; exact rfl; exact rfl; intro K hK; go_big_quiet_op; go_big_quiet_on) | ((with_reducible refine wpM_skip ?_ ?_); exact rfl; simp only [Act.put, List.setIfInBounds_toArray, List.set_cons_succ, List.set_cons_zero]))
        refine wpM_nil ?_
        intro w9 hw9 _
        have h1 := HP.out.res.on hw9
        have h2 := CellsAt.put4 h1 (.int .i64 9) (.int .i64 k) (.int .i64 n) (.string s)
        have hb3 := put4_below (on HP.out.below hw9) (b := w.heap.size + 1) (by omega) (.int .i64 9) (.int .i64 k) (.int .i64 n) (.string s)
        obtain ⟨p0, p1, p2, p3, q0, q1, q2, q3⟩ := h1.four
        obtain ⟨z0, z1, z2, z3, _⟩ := h2.four
        simp only [put4] at z0 z1 z2 z3 hb3
        clear h1 h2 HM HP O0 o0 c0 hz hw9
        go_wp2
        exact bodyPost_ret (v := .agg #[.int .i64 9, .int .i64 k, .int .i64 n, .string s]) (by simp [results, Tryz.results67, go_sem, z0, z1, z2, z3]) rfl ⟨rfl, hb3⟩
    · have c0 := (HP.out.words.2 4 _ rfl).1
      cases hh : hasJ t.data.toList 4
      · have HJ : Hid (∀ j, j < 5 → hasJ t.data.toList j = false) := Lib.hid (fun j h => by
          rcases Nat.lt_or_ge j 4 with h1 | h1
          · exact hj.out j h1
          · obtain rfl : j = 4 := by omega
            exact hh)
        rcases pre_split (t := t) (p := ⟨#[62]⟩) hh rfl with d1 | ⟨d1, d2⟩
        · replace d1 : decide (1 ≤ t.size) = false := d1
          have d3 : ¬ (1 ≤ t.size) := of_decide_eq_false d1
          have d4 : decide ((1 : Int) ≤ (t.size : Int)) = false := decide_eq_false (by omega)
          clear hh hj HM HS HP HA
          go_wp2
          go_roundw
          case rel => exact ⟨5, by omega, by go_num, HJ, by first | rfl | trivial⟩
          case measure => simp [intOf]
        · replace d1 : 1 ≤ t.size := d1
          replace d2 : ((t.extract 0 1).toList == [62]) = false := by rw [← d2, Lib.toList_data ⟨#[62]⟩]; rfl
          clear hh hj HM HS HP HA
          go_wp2
          go_roundw
          case rel => exact ⟨5, by omega, by go_num, HJ, by first | rfl | trivial⟩
          case measure => simp [intOf]
      · have hp : (op, m) = (11, 1) := HS.out.symm.trans (by unfold splitL; rw [hj.out 0 (by omega), hj.out 1 (by omega), hj.out 2 (by omega), hj.out 3 (by omega), hh]; rfl)
        obtain ⟨rfl, rfl⟩ := Prod.mk.inj hp
        obtain ⟨d1, d2⟩ := pre_both (t := t) (p := ⟨#[62]⟩) hh
        replace d1 : 1 ≤ t.size := d1
        replace d2 : ((t.extract 0 1).toList == [62]) = true := by rw [← d2, Lib.toList_data ⟨#[62]⟩]; rfl
        have o0 := (HP.out.ops.2 4 _ rfl).1
        have O0 := fun d os => cell_regrown o0 d os
        clear hh hj HS HA hp
        go_wp2_with fail
        refine wp_region_mem 10 (fun d => match d with
          | 55 => some (Is (.agg #[.int .i64 k, .int .i64 n, .string s]))
          | _ => none) (by kernel_rfl) (by kernel_rfl) ?_
        simp only [List.take_succ_cons, List.take_zero, List.drop_succ_cons, List.drop_zero]
        repeat (first | ((with_reducible refine wpM_calm ?_ ?_ ?_ ?_); exact rfl; exact rfl; exact rfl; intro K hK; go_big_quiet_op; go_big_quiet_on) | ((with_reducible refine wpM_skip ?_ ?_); exact rfl; simp only [Act.put, List.setIfInBounds_toArray, List.set_cons_succ, List.set_cons_zero]))
        refine wpM_exact rfl rfl rfl Tryz.func90 (by kernel_rfl) (by kernel_rfl) (fun w1 _ _ => HM.out w1) rfl (by simp only [Act.put, List.setIfInBounds_toArray, List.set_cons_succ, List.set_cons_zero]; rfl) ?_
        repeat (first | ((with_reducible refine wpM_calm ?_ ?_ ?_ ?_); exact rfl; exact rfl; exact rfl; intro K hK; go_big_quiet_op; go_big_quiet_on) | ((with_reducible refine wpM_skip ?_ ?_); exact rfl; simp only [Act.put, List.setIfInBounds_toArray, List.set_cons_succ, List.set_cons_zero]))
        refine wpM_nil ?_
        intro w9 hw9 _
        have h1 := HP.out.res.on hw9
        have h2 := CellsAt.put4 h1 (.int .i64 11) (.int .i64 k) (.int .i64 n) (.string s)
        have hb3 := put4_below (on HP.out.below hw9) (b := w.heap.size + 1) (by omega) (.int .i64 11) (.int .i64 k) (.int .i64 n) (.string s)
        obtain ⟨p0, p1, p2, p3, q0, q1, q2, q3⟩ := h1.four
        obtain ⟨z0, z1, z2, z3, _⟩ := h2.four
        simp only [put4] at z0 z1 z2 z3 hb3
        clear h1 h2 HM HP O0 o0 c0 hz hw9
        go_wp2
        exact bodyPost_ret (v := .agg #[.int .i64 11, .int .i64 k, .int .i64 n, .string s]) (by simp [results, Tryz.results67, go_sem, z0, z1, z2, z3]) rfl ⟨rfl, hb3⟩
    · have c0 := (HP.out.words.2 5 _ rfl).1
      cases hh : hasJ t.data.toList 5
      · have HJ : Hid (∀ j, j < 6 → hasJ t.data.toList j = false) := Lib.hid (fun j h => by
          rcases Nat.lt_or_ge j 5 with h1 | h1
          · exact hj.out j h1
          · obtain rfl : j = 5 := by omega
            exact hh)
        rcases pre_split (t := t) (p := ⟨#[61]⟩) hh rfl with d1 | ⟨d1, d2⟩
        · replace d1 : decide (1 ≤ t.size) = false := d1
          have d3 : ¬ (1 ≤ t.size) := of_decide_eq_false d1
          have d4 : decide ((1 : Int) ≤ (t.size : Int)) = false := decide_eq_false (by omega)
          clear hh hj HM HS HP HA
          go_wp2
          go_roundw
          case rel => exact ⟨6, by omega, by go_num, HJ, by first | rfl | trivial⟩
          case measure => simp [intOf]
        · replace d1 : 1 ≤ t.size := d1
          replace d2 : ((t.extract 0 1).toList == [61]) = false := by rw [← d2, Lib.toList_data ⟨#[61]⟩]; rfl
          clear hh hj HM HS HP HA
          go_wp2
          go_roundw
          case rel => exact ⟨6, by omega, by go_num, HJ, by first | rfl | trivial⟩
          case measure => simp [intOf]
      · have hp : (op, m) = (7, 1) := HS.out.symm.trans (by unfold splitL; rw [hj.out 0 (by omega), hj.out 1 (by omega), hj.out 2 (by omega), hj.out 3 (by omega), hj.out 4 (by omega), hh]; rfl)
        obtain ⟨rfl, rfl⟩ := Prod.mk.inj hp
        obtain ⟨d1, d2⟩ := pre_both (t := t) (p := ⟨#[61]⟩) hh
        replace d1 : 1 ≤ t.size := d1
        replace d2 : ((t.extract 0 1).toList == [61]) = true := by rw [← d2, Lib.toList_data ⟨#[61]⟩]; rfl
        have o0 := (HP.out.ops.2 5 _ rfl).1
        have O0 := fun d os => cell_regrown o0 d os
        clear hh hj HS HA hp
        go_wp2_with fail
        refine wp_region_mem 10 (fun d => match d with
          | 55 => some (Is (.agg #[.int .i64 k, .int .i64 n, .string s]))
          | _ => none) (by kernel_rfl) (by kernel_rfl) ?_
        simp only [List.take_succ_cons, List.take_zero, List.drop_succ_cons, List.drop_zero]
        repeat (first | ((with_reducible refine wpM_calm ?_ ?_ ?_ ?_); exact rfl; exact rfl; exact rfl; intro K hK; go_big_quiet_op; go_big_quiet_on) | ((with_reducible refine wpM_skip ?_ ?_); exact rfl; simp only [Act.put, List.setIfInBounds_toArray, List.set_cons_succ, List.set_cons_zero]))
        refine wpM_exact rfl rfl rfl Tryz.func90 (by kernel_rfl) (by kernel_rfl) (fun w1 _ _ => HM.out w1) rfl (by simp only [Act.put, List.setIfInBounds_toArray, List.set_cons_succ, List.set_cons_zero]; rfl) ?_
        repeat (first | ((with_reducible refine wpM_calm ?_ ?_ ?_ ?_); exact rfl; exact rfl; exact rfl; intro K hK; go_big_quiet_op; go_big_quiet_on) | ((with_reducible refine wpM_skip ?_ ?_); exact rfl; simp only [Act.put, List.setIfInBounds_toArray, List.set_cons_succ, List.set_cons_zero]))
        refine wpM_nil ?_
        intro w9 hw9 _
        have h1 := HP.out.res.on hw9
        have h2 := CellsAt.put4 h1 (.int .i64 7) (.int .i64 k) (.int .i64 n) (.string s)
        have hb3 := put4_below (on HP.out.below hw9) (b := w.heap.size + 1) (by omega) (.int .i64 7) (.int .i64 k) (.int .i64 n) (.string s)
        obtain ⟨p0, p1, p2, p3, q0, q1, q2, q3⟩ := h1.four
        obtain ⟨z0, z1, z2, z3, _⟩ := h2.four
        simp only [put4] at z0 z1 z2 z3 hb3
        clear h1 h2 HM HP O0 o0 c0 hz hw9
        go_wp2
        exact bodyPost_ret (v := .agg #[.int .i64 7, .int .i64 k, .int .i64 n, .string s]) (by simp [results, Tryz.results67, go_sem, z0, z1, z2, z3]) rfl ⟨rfl, hb3⟩
    · have hp : (op, m) = (7, 0) := HS.out.symm.trans (by unfold splitL; rw [hj.out 0 (by omega), hj.out 1 (by omega), hj.out 2 (by omega), hj.out 3 (by omega), hj.out 4 (by omega), hj.out 5 (by omega)]; rfl)
      obtain ⟨rfl, rfl⟩ := Prod.mk.inj hp
      rw [HA.out] at HM
      clear hj HS hp HA
      go_wp2_with fail
      refine (HM.out _).mono ?_
      rintro e w9 ⟨rfl, hw9⟩
      have h1 := HP.out.res.on hw9
      have h2 := CellsAt.put4 h1 (.int .i64 7) (.int .i64 k) (.int .i64 n) (.string s)
      have hb3 := put4_below (on HP.out.below hw9) (b := w.heap.size + 1) (by omega) (.int .i64 7) (.int .i64 k) (.int .i64 n) (.string s)
      obtain ⟨p0, p1, p2, p3, q0, q1, q2, q3⟩ := h1.four
      obtain ⟨z0, z1, z2, z3, _⟩ := h2.four
      simp only [put4] at z0 z1 z2 z3 hb3
      clear h1 h2 HM HP hz hw9
      go_wp2
      exact bodyPost_ret (v := .agg #[.int .i64 7, .int .i64 k, .int .i64 n, .string s]) (by simp [results, Tryz.results67, go_sem, z0, z1, z2, z3]) rfl ⟨rfl, hb3⟩
set_option maxRecDepth 100000 in
set_option maxHeartbeats 8000000 in
theorem rof_e (w : World) : Calls Tryz.prog 67 #[.agg #[.int .i64 0, .int .i64 0, .string ⟨#[]⟩]] w (RCritIs 7 2 0 ⟨#[]⟩ w) := by
  have HM := Lib.hid (fun w1 => rmeant_c ⟨#[]⟩ (by decide) 2 0 ⟨#[]⟩ (by decide +kernel) w1)
  obtain ⟨t, ht⟩ : ∃ t : ByteArray, t = ⟨#[]⟩ := ⟨_, rfl⟩
  have HT := Lib.hid ht
  have hts : t.size = 0 := by rw [ht]; rfl
  rw [← ht] at HM ⊢
  have HP := Lib.hid (OfMem.start w 0 t)
  clear ht
  go_enter Tryz.func67, Tryz.ntmps67
  go_wp2
  generalize (((w.alloc (.cells #[.int .i64 0, .int .i64 0, .string t] 26)).alloc (.cells #[.int .i64 0, .int .i64 0, .int .i64 0, .string ⟨#[]⟩] 82)).alloc (.cells #[.string ⟨#[60, 62]⟩, .string ⟨#[60, 61]⟩, .string ⟨#[62, 61]⟩, .string ⟨#[60]⟩, .string ⟨#[62]⟩, .string ⟨#[61]⟩] 9)).alloc (.cells #[.int .i64 8, .int .i64 10, .int .i64 12, .int .i64 9, .int .i64 11, .int .i64 7] 3) = w4 at *
  go_loopw [6] (fun i wr => ∃ c : Nat, c ≤ 6 ∧ i = .int .i64 c ∧ w4 = wr) (fun i _ => 6 - (intOf i).toNat)
  case atStart => exact ⟨0, by omega, rfl, rfl⟩
  case round =>
    obtain ⟨c, hk, rfl, rfl⟩ := hrel
    have hz := HP.out.words.1
    obtain rfl | rfl | rfl | rfl | rfl | rfl | rfl : c = 0 ∨ c = 1 ∨ c = 2 ∨ c = 3 ∨ c = 4 ∨ c = 5 ∨ c = 6 := by omega
    · have c0 := (HP.out.words.2 0 _ rfl).1
      have d1 : decide (2 ≤ t.size) = false := decide_eq_false (by omega)
      have d4 : decide ((2 : Int) ≤ (t.size : Int)) = false := decide_eq_false (by omega)
      clear HM HP HT
      go_wp2
      go_roundw
      case rel => exact ⟨1, by omega, by go_num, by first | rfl | trivial⟩
      case measure => simp [intOf]
    · have c0 := (HP.out.words.2 1 _ rfl).1
      have d1 : decide (2 ≤ t.size) = false := decide_eq_false (by omega)
      have d4 : decide ((2 : Int) ≤ (t.size : Int)) = false := decide_eq_false (by omega)
      clear HM HP HT
      go_wp2
      go_roundw
      case rel => exact ⟨2, by omega, by go_num, by first | rfl | trivial⟩
      case measure => simp [intOf]
    · have c0 := (HP.out.words.2 2 _ rfl).1
      have d1 : decide (2 ≤ t.size) = false := decide_eq_false (by omega)
      have d4 : decide ((2 : Int) ≤ (t.size : Int)) = false := decide_eq_false (by omega)
      clear HM HP HT
      go_wp2
      go_roundw
      case rel => exact ⟨3, by omega, by go_num, by first | rfl | trivial⟩
      case measure => simp [intOf]
    · have c0 := (HP.out.words.2 3 _ rfl).1
      have d1 : decide (1 ≤ t.size) = false := decide_eq_false (by omega)
      have d4 : decide ((1 : Int) ≤ (t.size : Int)) = false := decide_eq_false (by omega)
      clear HM HP HT
      go_wp2
      go_roundw
      case rel => exact ⟨4, by omega, by go_num, by first | rfl | trivial⟩
      case measure => simp [intOf]
    · have c0 := (HP.out.words.2 4 _ rfl).1
      have d1 : decide (1 ≤ t.size) = false := decide_eq_false (by omega)
      have d4 : decide ((1 : Int) ≤ (t.size : Int)) = false := decide_eq_false (by omega)
      clear HM HP HT
      go_wp2
      go_roundw
      case rel => exact ⟨5, by omega, by go_num, by first | rfl | trivial⟩
      case measure => simp [intOf]
    · have c0 := (HP.out.words.2 5 _ rfl).1
      have d1 : decide (1 ≤ t.size) = false := decide_eq_false (by omega)
      have d4 : decide ((1 : Int) ≤ (t.size : Int)) = false := decide_eq_false (by omega)
      clear HM HP HT
      go_wp2
      go_roundw
      case rel => exact ⟨6, by omega, by go_num, by first | rfl | trivial⟩
      case measure => simp [intOf]
    · go_wp2_with fail
      refine (HM.out _).mono ?_
      rintro e w9 ⟨rfl, hw9⟩
      have h1 := HP.out.res.on hw9
      have h2 := CellsAt.put4 h1 (.int .i64 7) (.int .i64 2) (.int .i64 0) (.string t)
      have hb3 := put4_below (on HP.out.below hw9) (b := w.heap.size + 1) (by omega) (.int .i64 7) (.int .i64 2) (.int .i64 0) (.string t)
      obtain ⟨p0, p1, p2, p3, q0, q1, q2, q3⟩ := h1.four
      obtain ⟨z0, z1, z2, z3, _⟩ := h2.four
      simp only [put4] at z0 z1 z2 z3 hb3
      clear h1 h2 HM HP hz hw9
      go_wp2
      exact bodyPost_ret (v := .agg #[.int .i64 7, .int .i64 2, .int .i64 0, .string t]) (by simp [results, Tryz.results67, go_sem, z0, z1, z2, z3]) rfl ⟨rfl, hb3⟩
end Go.Proofs.YtbjomidkeignjaaGreatDoor.Crt

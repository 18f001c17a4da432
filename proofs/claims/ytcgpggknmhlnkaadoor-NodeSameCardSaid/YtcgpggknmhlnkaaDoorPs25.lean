/- The program's parts and own: what a node has, and may have, as sets of bits. Written by wip/gen22prt.py. -/
import Derived.Test.YtcgpggknmhlnkaaDoorPs24
namespace Go.Proofs.YtcgpggknmhlnkaaDoor.Nod
open Go.RowKit Kit Reg
/-- what a node has, in order -/
def hasF (h : Hd) (n : Nat) : Nat → Bool
  | 0 => h.op != 0
  | 1 => !zV h
  | 2 => !zA h
  | 3 => !zB h
  | _ => (n : Int) != 0
def bitN (b : Bool) (x : Int) : Int := if b then x else 0
def setF (f : Nat → Bool) : Nat → Int
  | 0 => 0
  | 1 => bitN (f 0) 1
  | 2 => bitN (f 0) 1 + bitN (f 1) 2
  | 3 => bitN (f 0) 1 + bitN (f 1) 2 + bitN (f 2) 4
  | 4 => bitN (f 0) 1 + bitN (f 1) 2 + bitN (f 2) 4 + bitN (f 3) 8
  | _ => bitN (f 0) 1 + bitN (f 1) 2 + bitN (f 2) 4 + bitN (f 3) 8 + bitN (f 4) 16
def ownN (k : Int) : Int := if k = 1 then 2 else if k = 3 then 4 else if k = 4 then 12 else if k = 5 then 16 else if k = 6 then 17 else if k = 7 then 17 else 0
theorem own_c (k : Int) (w : World) : Calls Tryd.prog 15 #[.int .i64 k] w fun e w' => e = .returned (.int .i64 (ownN k)) ∧ w = w' := by
  by_cases e1 : k = 1
  · subst e1
    go_enter Tryd.func15, Tryd.ntmps15
    go_wp2_with fail
    go_ret
    exact ⟨rfl, rfl⟩
  by_cases e2 : k = 2
  · subst e2
    go_enter Tryd.func15, Tryd.ntmps15
    go_wp2_with fail
    go_ret
    exact ⟨rfl, rfl⟩
  by_cases e3 : k = 3
  · subst e3
    go_enter Tryd.func15, Tryd.ntmps15
    go_wp2_with fail
    go_ret
    exact ⟨rfl, rfl⟩
  by_cases e4 : k = 4
  · subst e4
    go_enter Tryd.func15, Tryd.ntmps15
    go_wp2_with fail
    go_ret
    exact ⟨rfl, rfl⟩
  by_cases e5 : k = 5
  · subst e5
    go_enter Tryd.func15, Tryd.ntmps15
    go_wp2_with fail
    go_ret
    exact ⟨rfl, rfl⟩
  by_cases e6 : k = 6
  · subst e6
    go_enter Tryd.func15, Tryd.ntmps15
    go_wp2_with fail
    go_ret
    exact ⟨rfl, rfl⟩
  by_cases e7 : k = 7
  · subst e7
    go_enter Tryd.func15, Tryd.ntmps15
    go_wp2_with fail
    go_ret
    exact ⟨rfl, rfl⟩
  have d1 : (k == 1) = false := beq_eq_false_iff_ne.2 e1
  have d2 : (k == 2) = false := beq_eq_false_iff_ne.2 e2
  have d3 : (k == 3) = false := beq_eq_false_iff_ne.2 e3
  have d4 : (k == 4) = false := beq_eq_false_iff_ne.2 e4
  have d5 : (k == 5) = false := beq_eq_false_iff_ne.2 e5
  have d6 : (k == 6) = false := beq_eq_false_iff_ne.2 e6
  have d7 : (k == 7) = false := beq_eq_false_iff_ne.2 e7
  have HE : Hid (ownN k = 0) := Lib.hid (by simp [ownN, e1, e3, e4, e5, e6, e7])
  clear e1 e2 e3 e4 e5 e6 e7
  go_enter Tryd.func15, Tryd.ntmps15
  go_wp2_with fail
  go_ret
  exact ⟨by rw [HE.out]; rfl, rfl⟩
theorem or_0 : bits .or .i64 (0) 1 = bitN true 1 := by
  rfl
theorem or_1 (b0 : Bool) : bits .or .i64 (bitN b0 1) 2 = bitN b0 1 + bitN true 2 := by
  cases b0 <;> rfl
theorem or_2 (b0 b1 : Bool) : bits .or .i64 (bitN b0 1 + bitN b1 2) 4 = bitN b0 1 + bitN b1 2 + bitN true 4 := by
  cases b0 <;> cases b1 <;> rfl
theorem or_3 (b0 b1 b2 : Bool) : bits .or .i64 (bitN b0 1 + bitN b1 2 + bitN b2 4) 8 = bitN b0 1 + bitN b1 2 + bitN b2 4 + bitN true 8 := by
  cases b0 <;> cases b1 <;> cases b2 <;> rfl
theorem or_4 (b0 b1 b2 b3 : Bool) : bits .or .i64 (bitN b0 1 + bitN b1 2 + bitN b2 4 + bitN b3 8) 16 = bitN b0 1 + bitN b1 2 + bitN b2 4 + bitN b3 8 + bitN true 16 := by
  cases b0 <;> cases b1 <;> cases b2 <;> cases b3 <;> rfl
theorem ix_0 (b0 b1 b2 b3 b4 : Bool) (w : World) : (Instr.index 39 (.agg #[.bool b0, .bool b1, .bool b2, .bool b3, .bool b4]) (.int .i64 0)).run Tryd.prog w = .ok (.bool b0) w := by kernel_rfl
theorem ix_1 (b0 b1 b2 b3 b4 : Bool) (w : World) : (Instr.index 39 (.agg #[.bool b0, .bool b1, .bool b2, .bool b3, .bool b4]) (.int .i64 1)).run Tryd.prog w = .ok (.bool b1) w := by kernel_rfl
theorem ix_2 (b0 b1 b2 b3 b4 : Bool) (w : World) : (Instr.index 39 (.agg #[.bool b0, .bool b1, .bool b2, .bool b3, .bool b4]) (.int .i64 2)).run Tryd.prog w = .ok (.bool b2) w := by kernel_rfl
theorem ix_3 (b0 b1 b2 b3 b4 : Bool) (w : World) : (Instr.index 39 (.agg #[.bool b0, .bool b1, .bool b2, .bool b3, .bool b4]) (.int .i64 3)).run Tryd.prog w = .ok (.bool b3) w := by kernel_rfl
theorem ix_4 (b0 b1 b2 b3 b4 : Bool) (w : World) : (Instr.index 39 (.agg #[.bool b0, .bool b1, .bool b2, .bool b3, .bool b4]) (.int .i64 4)).run Tryd.prog w = .ok (.bool b4) w := by kernel_rfl
set_option maxRecDepth 100000 in
set_option maxHeartbeats 4000000 in
theorem parts_c (h : Hd) (A : Option Addr) (n c : Nat) (w : World) : Calls Tryd.prog 14 #[.agg #[.int .i64 h.k, .int .i64 h.op, .int .i64 h.vk, .int .i64 h.vn, .string h.vt, .int .i64 h.ar, .int .i64 h.ac, .bool h.ah, .bool h.al, .int .i64 h.br, .int .i64 h.bc, .bool h.bh, .bool h.bl, .slice A n c]] w fun e w' => e = .returned (.int .i64 (setF (hasF h n) 5)) ∧ Below w.heap.size w w' := by
  have qV := run_neqV h.vk h.vn h.vt 0 0 ⟨#[]⟩ (zV h) rfl
  have qA := run_neqF h.ar h.ac h.ah h.al 0 0 false false (zA h) rfl
  have qB := run_neqF h.br h.bc h.bh h.bl 0 0 false false (zB h) rfl
  have hX := CellsAt.new w [.int .i64 h.k, .int .i64 h.op, .int .i64 h.vk, .int .i64 h.vn, .string h.vt, .int .i64 h.ar, .int .i64 h.ac, .bool h.ah, .bool h.al, .int .i64 h.br, .int .i64 h.bc, .bool h.bh, .bool h.bl, .slice A n c] 28
  have hb := below1 w (.cells #[.int .i64 h.k, .int .i64 h.op, .int .i64 h.vk, .int .i64 h.vn, .string h.vt, .int .i64 h.ar, .int .i64 h.ac, .bool h.ah, .bool h.al, .int .i64 h.br, .int .i64 h.bc, .bool h.bh, .bool h.bl, .slice A n c] 28)
  go_enter Tryd.func14, Tryd.ntmps14
  go_wp2_with fail
  generalize w.alloc (.cells #[.int .i64 h.k, .int .i64 h.op, .int .i64 h.vk, .int .i64 h.vn, .string h.vt, .int .i64 h.ar, .int .i64 h.ac, .bool h.ah, .bool h.al, .int .i64 h.br, .int .i64 h.bc, .bool h.bh, .bool h.bl, .slice A n c] 28) = W at *
  have Q0 := fun d os => cell_regrown (hX.2 0 _ rfl).1 d os
  have Q1 := fun d os => cell_regrown (hX.2 1 _ rfl).1 d os
  have Q2 := fun d os => cell_regrown (hX.2 2 _ rfl).1 d os
  have Q3 := fun d os => cell_regrown (hX.2 3 _ rfl).1 d os
  have Q4 := fun d os => cell_regrown (hX.2 4 _ rfl).1 d os
  have Q5 := fun d os => cell_regrown (hX.2 5 _ rfl).1 d os
  have Q6 := fun d os => cell_regrown (hX.2 6 _ rfl).1 d os
  have Q7 := fun d os => cell_regrown (hX.2 7 _ rfl).1 d os
  have Q8 := fun d os => cell_regrown (hX.2 8 _ rfl).1 d os
  have Q9 := fun d os => cell_regrown (hX.2 9 _ rfl).1 d os
  have Q10 := fun d os => cell_regrown (hX.2 10 _ rfl).1 d os
  have Q11 := fun d os => cell_regrown (hX.2 11 _ rfl).1 d os
  have Q12 := fun d os => cell_regrown (hX.2 12 _ rfl).1 d os
  have Q13 := fun d os => cell_regrown (hX.2 13 _ rfl).1 d os
  refine wp_region_mem 21 (fun _ => none) (by kernel_rfl) (by kernel_rfl) ?_
  simp only [List.take_succ_cons, List.take_zero, List.drop_succ_cons, List.drop_zero]
  repeat (first | ((with_reducible refine wpM_calm ?_ ?_ ?_ ?_); exact rfl; exact rfl; exact rfl; intro K hK; go_big_quiet_op; go_big_quiet_on) | ((with_reducible refine wpM_skip ?_ ?_); exact rfl; simp only [Act.put, List.setIfInBounds_toArray, List.set_cons_succ, List.set_cons_zero]))
  refine wpM_nil ?_
  intro w9 hw9 _
  replace hb := on hb hw9
  clear hw9 hX Q0 Q1 Q2 Q3 Q4 Q5 Q6 Q7 Q8 Q9 Q10 Q11 Q12 Q13
  go_wp2_with fail
  go_loopw [3, 26] (fun y x wr => ∃ i : Nat, i ≤ 5 ∧ x = .int .i64 i ∧ y = .int .i64 (setF (hasF h n) i) ∧ w9 = wr) (fun _ x _ => 5 - (intOf x).toNat)
  case atStart => exact ⟨0, Nat.zero_le _, rfl, rfl, rfl⟩
  case round =>
    obtain ⟨i, hi, rfl, rfl, rfl⟩ := hrel
    rcases (show i = 0 ∨ i = 1 ∨ i = 2 ∨ i = 3 ∨ i = 4 ∨ i = 5 by omega) with rfl | rfl | rfl | rfl | rfl | rfl
    · rcases Bool.eq_false_or_eq_true (h.op != 0) with d | d
      ·
        have HS : Hid (setF (hasF h n) 1 = setF (hasF h n) 0 + 1) := Lib.hid (by simp [setF, hasF, bitN, d])
        have qO : bits .or .i64 (setF (hasF h n) 0) 1 = setF (hasF h n) 0 + 1 := or_0 
        generalize setF (hasF h n) 0 = z at *
        have ix := ix_0
        rw [show ((0 : Nat) : Int) = 0 from rfl]
        go_wp2_with fail
        go_roundw
        case rel => exact ⟨1, by omega, by go_num, by rw [HS.out] <;> first | rfl | (congr 1; exact qO) | (congr 1; omega), by first | rfl | trivial⟩
        case measure => (simp [intOf] <;> omega)
      ·
        have HS : Hid (setF (hasF h n) 1 = setF (hasF h n) 0 + 0) := Lib.hid (by simp [setF, hasF, bitN, d])
        generalize setF (hasF h n) 0 = z at *
        have ix := ix_0
        rw [show ((0 : Nat) : Int) = 0 from rfl]
        go_wp2_with fail
        go_roundw
        case rel => exact ⟨1, by omega, by go_num, by rw [HS.out] <;> first | rfl | (congr 1; exact qO) | (congr 1; omega), by first | rfl | trivial⟩
        case measure => (simp [intOf] <;> omega)
    · rcases Bool.eq_false_or_eq_true (zV h) with d | d
      ·
        have HS : Hid (setF (hasF h n) 2 = setF (hasF h n) 1 + 0) := Lib.hid (by simp [setF, hasF, bitN, d])
        generalize setF (hasF h n) 1 = z at *
        have ix := ix_1
        rw [show ((1 : Nat) : Int) = 1 from rfl]
        go_wp2_with fail
        go_roundw
        case rel => exact ⟨2, by omega, by go_num, by rw [HS.out] <;> first | rfl | (congr 1; exact qO) | (congr 1; omega), by first | rfl | trivial⟩
        case measure => (simp [intOf] <;> omega)
      ·
        have HS : Hid (setF (hasF h n) 2 = setF (hasF h n) 1 + 2) := Lib.hid (by simp [setF, hasF, bitN, d])
        have qO : bits .or .i64 (setF (hasF h n) 1) 2 = setF (hasF h n) 1 + 2 := or_1 _
        generalize setF (hasF h n) 1 = z at *
        have ix := ix_1
        rw [show ((1 : Nat) : Int) = 1 from rfl]
        go_wp2_with fail
        go_roundw
        case rel => exact ⟨2, by omega, by go_num, by rw [HS.out] <;> first | rfl | (congr 1; exact qO) | (congr 1; omega), by first | rfl | trivial⟩
        case measure => (simp [intOf] <;> omega)
    · rcases Bool.eq_false_or_eq_true (zA h) with d | d
      ·
        have HS : Hid (setF (hasF h n) 3 = setF (hasF h n) 2 + 0) := Lib.hid (by simp [setF, hasF, bitN, d])
        generalize setF (hasF h n) 2 = z at *
        have ix := ix_2
        rw [show ((2 : Nat) : Int) = 2 from rfl]
        go_wp2_with fail
        go_roundw
        case rel => exact ⟨3, by omega, by go_num, by rw [HS.out] <;> first | rfl | (congr 1; exact qO) | (congr 1; omega), by first | rfl | trivial⟩
        case measure => (simp [intOf] <;> omega)
      ·
        have HS : Hid (setF (hasF h n) 3 = setF (hasF h n) 2 + 4) := Lib.hid (by simp [setF, hasF, bitN, d])
        have qO : bits .or .i64 (setF (hasF h n) 2) 4 = setF (hasF h n) 2 + 4 := or_2 _ _
        generalize setF (hasF h n) 2 = z at *
        have ix := ix_2
        rw [show ((2 : Nat) : Int) = 2 from rfl]
        go_wp2_with fail
        go_roundw
        case rel => exact ⟨3, by omega, by go_num, by rw [HS.out] <;> first | rfl | (congr 1; exact qO) | (congr 1; omega), by first | rfl | trivial⟩
        case measure => (simp [intOf] <;> omega)
    · rcases Bool.eq_false_or_eq_true (zB h) with d | d
      ·
        have HS : Hid (setF (hasF h n) 4 = setF (hasF h n) 3 + 0) := Lib.hid (by simp [setF, hasF, bitN, d])
        generalize setF (hasF h n) 3 = z at *
        have ix := ix_3
        rw [show ((3 : Nat) : Int) = 3 from rfl]
        go_wp2_with fail
        go_roundw
        case rel => exact ⟨4, by omega, by go_num, by rw [HS.out] <;> first | rfl | (congr 1; exact qO) | (congr 1; omega), by first | rfl | trivial⟩
        case measure => (simp [intOf] <;> omega)
      ·
        have HS : Hid (setF (hasF h n) 4 = setF (hasF h n) 3 + 8) := Lib.hid (by simp [setF, hasF, bitN, d])
        have qO : bits .or .i64 (setF (hasF h n) 3) 8 = setF (hasF h n) 3 + 8 := or_3 _ _ _
        generalize setF (hasF h n) 3 = z at *
        have ix := ix_3
        rw [show ((3 : Nat) : Int) = 3 from rfl]
        go_wp2_with fail
        go_roundw
        case rel => exact ⟨4, by omega, by go_num, by rw [HS.out] <;> first | rfl | (congr 1; exact qO) | (congr 1; omega), by first | rfl | trivial⟩
        case measure => (simp [intOf] <;> omega)
    · rcases Bool.eq_false_or_eq_true ((n : Int) != 0) with d | d
      ·
        have HS : Hid (setF (hasF h n) 5 = setF (hasF h n) 4 + 16) := Lib.hid (by simp [setF, hasF, bitN, d])
        have qO : bits .or .i64 (setF (hasF h n) 4) 16 = setF (hasF h n) 4 + 16 := or_4 _ _ _ _
        generalize setF (hasF h n) 4 = z at *
        have ix := ix_4
        rw [show ((4 : Nat) : Int) = 4 from rfl]
        go_wp2_with fail
        go_roundw
        case rel => exact ⟨5, by omega, by go_num, by rw [HS.out] <;> first | rfl | (congr 1; exact qO) | (congr 1; omega), by first | rfl | trivial⟩
        case measure => (simp [intOf] <;> omega)
      ·
        have HS : Hid (setF (hasF h n) 5 = setF (hasF h n) 4 + 0) := Lib.hid (by simp [setF, hasF, bitN, d])
        generalize setF (hasF h n) 4 = z at *
        have ix := ix_4
        rw [show ((4 : Nat) : Int) = 4 from rfl]
        go_wp2_with fail
        go_roundw
        case rel => exact ⟨5, by omega, by go_num, by rw [HS.out] <;> first | rfl | (congr 1; exact qO) | (congr 1; omega), by first | rfl | trivial⟩
        case measure => (simp [intOf] <;> omega)
    · go_wp2_with fail
      go_ret
      exact ⟨rfl, hb⟩
end Go.Proofs.YtcgpggknmhlnkaaDoor.Nod

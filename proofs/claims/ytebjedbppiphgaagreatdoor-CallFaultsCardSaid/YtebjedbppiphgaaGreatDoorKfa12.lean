/- What is looked for, told out of a text: with which operator it begins, and what is behind it means; whether an operator holds. No function of the program is named here.
   What package crit's split, meant, filled and Of answer: for every value that may be. Written by wip/gen17.py. -/
import Derived.Test.YtebjedbppiphgaaGreatDoorKfa03
import Derived.Test.YtebjedbppiphgaaGreatDoorKfa11
import Derived.Test.YtebjedbppiphgaaGreatDoorKfa04
namespace Go.Proofs.YtebjedbppiphgaaGreatDoor.Crt
open Go.RowKit Kit Dec Dig Val
/-- a text begins with the j-th operator -/
def hasJ (l : List UInt8) : Nat → Bool
  | 0 => Lib.hasPrefix l [60, 62]
  | 1 => Lib.hasPrefix l [60, 61]
  | 2 => Lib.hasPrefix l [62, 61]
  | 3 => Lib.hasPrefix l [60]
  | 4 => Lib.hasPrefix l [62]
  | _ => Lib.hasPrefix l [61]
/-- the operator with which a text begins, and of how many bytes it is -/
def splitL (l : List UInt8) : Int × Nat :=
  if hasJ l 0 then (8, 2) else if hasJ l 1 then (10, 2) else if hasJ l 2 then (12, 2) else if hasJ l 3 then (9, 1) else if hasJ l 4 then (11, 1) else if hasJ l 5 then (7, 1) else (7, 0)
/-- what is behind a number of bytes -/
theorem ext_all (t : ByteArray) : t.extract 0 t.size = t := bytes_eq (by rw [ext_drop, List.drop_zero])
/-- what a text means -/
def meantV (t : ByteArray) : Int × Int × ByteArray :=
  if (readD t.data.toList).2 then (1, (readD t.data.toList).1, ⟨#[]⟩) else if t = yesT then (3, 1, ⟨#[]⟩) else if t = noT then (3, 0, ⟨#[]⟩) else (2, 0, t)
theorem meant_ways {t : ByteArray} {k n : Int} {s : ByteArray} (h : meantV t = (k, n, s)) :
    (∃ x, readD t.data.toList = (x, true) ∧ k = 1 ∧ n = x ∧ s = ⟨#[]⟩) ∨ ∃ x, readD t.data.toList = (x, false) ∧
      ((t = yesT ∧ k = 3 ∧ n = 1 ∧ s = ⟨#[]⟩) ∨ (t = noT ∧ k = 3 ∧ n = 0 ∧ s = ⟨#[]⟩) ∨ (t ≠ yesT ∧ t ≠ noT ∧ k = 2 ∧ n = 0 ∧ s = t)) := by
  obtain ⟨⟨x, b⟩, hr⟩ : ∃ r, readD t.data.toList = r := ⟨_, rfl⟩
  unfold meantV at h
  rw [hr] at h
  cases b
  · refine .inr ⟨x, hr, ?_⟩
    rw [if_neg (by simp)] at h
    by_cases h1 : t = yesT
    · rw [if_pos h1] at h
      simp only [Prod.mk.injEq] at h
      exact .inl ⟨h1, h.1.symm, h.2.1.symm, h.2.2.symm⟩
    · rw [if_neg h1] at h
      by_cases h2 : t = noT
      · rw [if_pos h2] at h
        simp only [Prod.mk.injEq] at h
        exact .inr (.inl ⟨h2, h.1.symm, h.2.1.symm, h.2.2.symm⟩)
      · rw [if_neg h2] at h
        simp only [Prod.mk.injEq] at h
        exact .inr (.inr ⟨h1, h2, h.1.symm, h.2.1.symm, h.2.2.symm⟩)
  · rw [if_pos rfl] at h
    simp only [Prod.mk.injEq] at h
    exact .inl ⟨x, hr, h.1.symm, h.2.1.symm, h.2.2.symm⟩
end Go.Proofs.YtebjedbppiphgaaGreatDoor.Crt
namespace Go.Proofs.YtebjedbppiphgaaGreatDoor.Crt
open Go.RowKit Kit Reg Dec Dig Val
/-- the cells of the table of operators -/
def signCells : List Value := [.string ⟨#[60, 62]⟩, .int .i64 8, .string ⟨#[60, 61]⟩, .int .i64 10, .string ⟨#[62, 61]⟩, .int .i64 12, .string ⟨#[60]⟩, .int .i64 9, .string ⟨#[62]⟩, .int .i64 11, .string ⟨#[61]⟩, .int .i64 7]
/-- what the library's and the program's variables hold -/
def Signs (w : World) : Prop := ∀ i x, signCells[i]? = some x → w.cell? ⟨3, i, none⟩ = some x
theorem Signs.grown {w w' : World} (h : Signs w) (hb : Below w.heap.size w w') : Signs w' := fun i x hx => kept hb (h i x hx)
def CLibs (w : World) : Prop := Libs w ∧ Signs w
theorem CLibs.grown {w w' : World} (h : CLibs w) (hb : Below w.heap.size w w') : CLibs w' := ⟨h.1.grown hb, h.2.grown hb⟩
theorem cut_yes (t p : ByteArray) (h : Lib.hasPrefix t.data.toList p.data.toList = true) (w : World) :
    Calls Tryz.prog 359 #[.string t, .string p] w fun e w' => e = .returned (.tuple #[.string (t.extract p.size t.size), .bool true]) ∧ w = w' :=
  (Tryz.strings_CutPrefix t p w).mono fun e w' ⟨he, hw⟩ => ⟨by
    rw [he, h]
    have e2 : (⟨(Lib.trimPrefix t.data.toList p.data.toList).toArray⟩ : ByteArray) = t.extract p.size t.size := bytes_eq (by rw [ext_drop, Lib.trimPrefix, if_pos h, Lib.size_eq p])
    rw [e2], hw.symm⟩
theorem cut_no (t p : ByteArray) (h : Lib.hasPrefix t.data.toList p.data.toList = false) (w : World) :
    Calls Tryz.prog 359 #[.string t, .string p] w fun e w' => e = .returned (.tuple #[.string t, .bool false]) ∧ w = w' :=
  (Tryz.strings_CutPrefix t p w).mono fun e w' ⟨he, hw⟩ => ⟨by
    rw [he, h]
    have e2 : (⟨(Lib.trimPrefix t.data.toList p.data.toList).toArray⟩ : ByteArray) = t := bytes_eq (by rw [Lib.trimPrefix, if_neg (by rw [h]; simp)])
    rw [e2], hw.symm⟩
theorem at_sign0 (w : World) : (Instr.index 281 (.agg #[.string ⟨#[60, 62]⟩, .int .i64 8, .string ⟨#[60, 61]⟩, .int .i64 10, .string ⟨#[62, 61]⟩, .int .i64 12, .string ⟨#[60]⟩, .int .i64 9, .string ⟨#[62]⟩, .int .i64 11, .string ⟨#[61]⟩, .int .i64 7]) (.int .i64 0)).run Tryz.prog w = .ok (.agg #[.string ⟨#[60, 62]⟩, .int .i64 8]) w := by kernel_rfl
theorem at_sign1 (w : World) : (Instr.index 281 (.agg #[.string ⟨#[60, 62]⟩, .int .i64 8, .string ⟨#[60, 61]⟩, .int .i64 10, .string ⟨#[62, 61]⟩, .int .i64 12, .string ⟨#[60]⟩, .int .i64 9, .string ⟨#[62]⟩, .int .i64 11, .string ⟨#[61]⟩, .int .i64 7]) (.int .i64 1)).run Tryz.prog w = .ok (.agg #[.string ⟨#[60, 61]⟩, .int .i64 10]) w := by kernel_rfl
theorem at_sign2 (w : World) : (Instr.index 281 (.agg #[.string ⟨#[60, 62]⟩, .int .i64 8, .string ⟨#[60, 61]⟩, .int .i64 10, .string ⟨#[62, 61]⟩, .int .i64 12, .string ⟨#[60]⟩, .int .i64 9, .string ⟨#[62]⟩, .int .i64 11, .string ⟨#[61]⟩, .int .i64 7]) (.int .i64 2)).run Tryz.prog w = .ok (.agg #[.string ⟨#[62, 61]⟩, .int .i64 12]) w := by kernel_rfl
theorem at_sign3 (w : World) : (Instr.index 281 (.agg #[.string ⟨#[60, 62]⟩, .int .i64 8, .string ⟨#[60, 61]⟩, .int .i64 10, .string ⟨#[62, 61]⟩, .int .i64 12, .string ⟨#[60]⟩, .int .i64 9, .string ⟨#[62]⟩, .int .i64 11, .string ⟨#[61]⟩, .int .i64 7]) (.int .i64 3)).run Tryz.prog w = .ok (.agg #[.string ⟨#[60]⟩, .int .i64 9]) w := by kernel_rfl
theorem at_sign4 (w : World) : (Instr.index 281 (.agg #[.string ⟨#[60, 62]⟩, .int .i64 8, .string ⟨#[60, 61]⟩, .int .i64 10, .string ⟨#[62, 61]⟩, .int .i64 12, .string ⟨#[60]⟩, .int .i64 9, .string ⟨#[62]⟩, .int .i64 11, .string ⟨#[61]⟩, .int .i64 7]) (.int .i64 4)).run Tryz.prog w = .ok (.agg #[.string ⟨#[62]⟩, .int .i64 11]) w := by kernel_rfl
theorem at_sign5 (w : World) : (Instr.index 281 (.agg #[.string ⟨#[60, 62]⟩, .int .i64 8, .string ⟨#[60, 61]⟩, .int .i64 10, .string ⟨#[62, 61]⟩, .int .i64 12, .string ⟨#[60]⟩, .int .i64 9, .string ⟨#[62]⟩, .int .i64 11, .string ⟨#[61]⟩, .int .i64 7]) (.int .i64 5)).run Tryz.prog w = .ok (.agg #[.string ⟨#[61]⟩, .int .i64 7]) w := by kernel_rfl
set_option maxRecDepth 100000 in
set_option maxHeartbeats 4000000 in
theorem split_c (t : ByteArray) (op : Int) (m : Nat) (hs : splitL t.data.toList = (op, m)) (w : World) (hL : Signs w) :
    Calls Tryz.prog 324 #[.string t] w fun e w' => e = .returned (.tuple #[.int .i64 op, .string (t.extract m t.size)]) ∧ Below w.heap.size w w' := by
  have HY := Lib.hid (fun p h w => cut_yes t p h w)
  have HN := Lib.hid (fun p h w => cut_no t p h w)
  have HS := Lib.hid hs
  have HA := Lib.hid (ext_all t)
  have g0 := hL 0 _ rfl
  have g1 := hL 1 _ rfl
  have g2 := hL 2 _ rfl
  have g3 := hL 3 _ rfl
  have g4 := hL 4 _ rfl
  have g5 := hL 5 _ rfl
  have g6 := hL 6 _ rfl
  have g7 := hL 7 _ rfl
  have g8 := hL 8 _ rfl
  have g9 := hL 9 _ rfl
  have g10 := hL 10 _ rfl
  have g11 := hL 11 _ rfl
  clear hs hL
  go_enter Tryz.func324, Tryz.ntmps324
  go_wp2
  clear g0 g1 g2 g3 g4 g5 g6 g7 g8 g9 g10 g11
  go_loopw [9] (fun i wr => ∃ k : Nat, k ≤ 6 ∧ i = .int .i64 k ∧ Hid (∀ j, j < k → hasJ t.data.toList j = false) ∧ Below w.heap.size w wr) (fun i _ => 6 - (intOf i).toNat)
  case atStart => exact ⟨0, by omega, rfl, Lib.hid (fun j hj => absurd hj (by omega)), Below.refl _ _⟩
  case round =>
    obtain ⟨k, hk, rfl, hj, hb⟩ := hrel
    obtain rfl | rfl | rfl | rfl | rfl | rfl | rfl : k = 0 ∨ k = 1 ∨ k = 2 ∨ k = 3 ∨ k = 4 ∨ k = 5 ∨ k = 6 := by omega
    · have hi := at_sign0 wr
      cases hh : hasJ t.data.toList 0
      · have HC := Lib.hid (HN.out ⟨#[60, 62]⟩ hh)
        have HJ : Hid (∀ j, j < 1 → hasJ t.data.toList j = false) := Lib.hid (fun j h => by
          rcases Nat.lt_or_ge j 0 with h1 | h1
          · exact hj.out j h1
          · obtain rfl : j = 0 := by omega
            exact hh)
        clear hh hj HY HN HS HA
        go_wp2_with fail
        refine (HC.out _).mono ?_
        rintro e w1 ⟨rfl, rfl⟩
        go_wp2
        go_roundw
        case rel => exact ⟨1, by omega, by go_num, HJ, on_alloc hb _⟩
        case measure => simp [intOf]
      · have HC := Lib.hid (HY.out ⟨#[60, 62]⟩ hh)
        have hp : (op, m) = (8, 2) := HS.out.symm.trans (by unfold splitL; rw [hh]; rfl)
        obtain ⟨rfl, rfl⟩ := Prod.mk.inj hp
        clear hh hj HY HN HS HA hp
        go_wp2_with fail
        refine (HC.out _).mono ?_
        rintro e w1 ⟨rfl, rfl⟩
        go_wp2
        go_ret2
        exact ⟨rfl, on_alloc hb _⟩
    · have hi := at_sign1 wr
      cases hh : hasJ t.data.toList 1
      · have HC := Lib.hid (HN.out ⟨#[60, 61]⟩ hh)
        have HJ : Hid (∀ j, j < 2 → hasJ t.data.toList j = false) := Lib.hid (fun j h => by
          rcases Nat.lt_or_ge j 1 with h1 | h1
          · exact hj.out j h1
          · obtain rfl : j = 1 := by omega
            exact hh)
        clear hh hj HY HN HS HA
        go_wp2_with fail
        refine (HC.out _).mono ?_
        rintro e w1 ⟨rfl, rfl⟩
        go_wp2
        go_roundw
        case rel => exact ⟨2, by omega, by go_num, HJ, on_alloc hb _⟩
        case measure => simp [intOf]
      · have HC := Lib.hid (HY.out ⟨#[60, 61]⟩ hh)
        have hp : (op, m) = (10, 2) := HS.out.symm.trans (by unfold splitL; rw [hj.out 0 (by omega), hh]; rfl)
        obtain ⟨rfl, rfl⟩ := Prod.mk.inj hp
        clear hh hj HY HN HS HA hp
        go_wp2_with fail
        refine (HC.out _).mono ?_
        rintro e w1 ⟨rfl, rfl⟩
        go_wp2
        go_ret2
        exact ⟨rfl, on_alloc hb _⟩
    · have hi := at_sign2 wr
      cases hh : hasJ t.data.toList 2
      · have HC := Lib.hid (HN.out ⟨#[62, 61]⟩ hh)
        have HJ : Hid (∀ j, j < 3 → hasJ t.data.toList j = false) := Lib.hid (fun j h => by
          rcases Nat.lt_or_ge j 2 with h1 | h1
          · exact hj.out j h1
          · obtain rfl : j = 2 := by omega
            exact hh)
        clear hh hj HY HN HS HA
        go_wp2_with fail
        refine (HC.out _).mono ?_
        rintro e w1 ⟨rfl, rfl⟩
        go_wp2
        go_roundw
        case rel => exact ⟨3, by omega, by go_num, HJ, on_alloc hb _⟩
        case measure => simp [intOf]
      · have HC := Lib.hid (HY.out ⟨#[62, 61]⟩ hh)
        have hp : (op, m) = (12, 2) := HS.out.symm.trans (by unfold splitL; rw [hj.out 0 (by omega), hj.out 1 (by omega), hh]; rfl)
        obtain ⟨rfl, rfl⟩ := Prod.mk.inj hp
        clear hh hj HY HN HS HA hp
        go_wp2_with fail
        refine (HC.out _).mono ?_
        rintro e w1 ⟨rfl, rfl⟩
        go_wp2
        go_ret2
        exact ⟨rfl, on_alloc hb _⟩
    · have hi := at_sign3 wr
      cases hh : hasJ t.data.toList 3
      · have HC := Lib.hid (HN.out ⟨#[60]⟩ hh)
        have HJ : Hid (∀ j, j < 4 → hasJ t.data.toList j = false) := Lib.hid (fun j h => by
          rcases Nat.lt_or_ge j 3 with h1 | h1
          · exact hj.out j h1
          · obtain rfl : j = 3 := by omega
            exact hh)
        clear hh hj HY HN HS HA
        go_wp2_with fail
        refine (HC.out _).mono ?_
        rintro e w1 ⟨rfl, rfl⟩
        go_wp2
        go_roundw
        case rel => exact ⟨4, by omega, by go_num, HJ, on_alloc hb _⟩
        case measure => simp [intOf]
      · have HC := Lib.hid (HY.out ⟨#[60]⟩ hh)
        have hp : (op, m) = (9, 1) := HS.out.symm.trans (by unfold splitL; rw [hj.out 0 (by omega), hj.out 1 (by omega), hj.out 2 (by omega), hh]; rfl)
        obtain ⟨rfl, rfl⟩ := Prod.mk.inj hp
        clear hh hj HY HN HS HA hp
        go_wp2_with fail
        refine (HC.out _).mono ?_
        rintro e w1 ⟨rfl, rfl⟩
        go_wp2
        go_ret2
        exact ⟨rfl, on_alloc hb _⟩
    · have hi := at_sign4 wr
      cases hh : hasJ t.data.toList 4
      · have HC := Lib.hid (HN.out ⟨#[62]⟩ hh)
        have HJ : Hid (∀ j, j < 5 → hasJ t.data.toList j = false) := Lib.hid (fun j h => by
          rcases Nat.lt_or_ge j 4 with h1 | h1
          · exact hj.out j h1
          · obtain rfl : j = 4 := by omega
            exact hh)
        clear hh hj HY HN HS HA
        go_wp2_with fail
        refine (HC.out _).mono ?_
        rintro e w1 ⟨rfl, rfl⟩
        go_wp2
        go_roundw
        case rel => exact ⟨5, by omega, by go_num, HJ, on_alloc hb _⟩
        case measure => simp [intOf]
      · have HC := Lib.hid (HY.out ⟨#[62]⟩ hh)
        have hp : (op, m) = (11, 1) := HS.out.symm.trans (by unfold splitL; rw [hj.out 0 (by omega), hj.out 1 (by omega), hj.out 2 (by omega), hj.out 3 (by omega), hh]; rfl)
        obtain ⟨rfl, rfl⟩ := Prod.mk.inj hp
        clear hh hj HY HN HS HA hp
        go_wp2_with fail
        refine (HC.out _).mono ?_
        rintro e w1 ⟨rfl, rfl⟩
        go_wp2
        go_ret2
        exact ⟨rfl, on_alloc hb _⟩
    · have hi := at_sign5 wr
      cases hh : hasJ t.data.toList 5
      · have HC := Lib.hid (HN.out ⟨#[61]⟩ hh)
        have HJ : Hid (∀ j, j < 6 → hasJ t.data.toList j = false) := Lib.hid (fun j h => by
          rcases Nat.lt_or_ge j 5 with h1 | h1
          · exact hj.out j h1
          · obtain rfl : j = 5 := by omega
            exact hh)
        clear hh hj HY HN HS HA
        go_wp2_with fail
        refine (HC.out _).mono ?_
        rintro e w1 ⟨rfl, rfl⟩
        go_wp2
        go_roundw
        case rel => exact ⟨6, by omega, by go_num, HJ, on_alloc hb _⟩
        case measure => simp [intOf]
      · have HC := Lib.hid (HY.out ⟨#[61]⟩ hh)
        have hp : (op, m) = (7, 1) := HS.out.symm.trans (by unfold splitL; rw [hj.out 0 (by omega), hj.out 1 (by omega), hj.out 2 (by omega), hj.out 3 (by omega), hj.out 4 (by omega), hh]; rfl)
        obtain ⟨rfl, rfl⟩ := Prod.mk.inj hp
        clear hh hj HY HN HS HA hp
        go_wp2_with fail
        refine (HC.out _).mono ?_
        rintro e w1 ⟨rfl, rfl⟩
        go_wp2
        go_ret2
        exact ⟨rfl, on_alloc hb _⟩
    · have hp : (op, m) = (7, 0) := HS.out.symm.trans (by unfold splitL; rw [hj.out 0 (by omega), hj.out 1 (by omega), hj.out 2 (by omega), hj.out 3 (by omega), hj.out 4 (by omega), hj.out 5 (by omega)]; rfl)
      obtain ⟨rfl, rfl⟩ := Prod.mk.inj hp
      clear hj HY HN HS hp
      go_wp2
      go_ret2
      exact ⟨by rw [HA.out]; rfl, hb⟩
set_option maxRecDepth 100000 in
set_option maxHeartbeats 2000000 in
theorem mean_num (t : ByteArray) (ht : t.size ≤ 256) (x : Int) (hn : readD t.data.toList = (x, true)) (w : World) (hL : Libs w) : Calls Tryz.prog 325 #[.string t] w (ValIs 1 x ⟨#[]⟩ w) := by
  have HR := Lib.hid (fun w1 hL => read_c t (by omega) x true hn w1 hL)
  have hm := mayD_yes (readD_room hn).1.1
  have HN := Lib.hid (fun w1 => num_c x 1 x (num_in hm) w1)
  have HL := Lib.hid (hL.grown (below1 w (.cells #[.int .i64 0, .int .i64 0, .string ⟨#[]⟩] 23)))
  clear hL hn hm
  go_enter Tryz.func325, Tryz.ntmps325
  go_wp2_with fail
  refine (HR.out _ HL.out).mono ?_
  rintro e w1 ⟨rfl, hb0⟩
  go_wp2_with fail
  refine (HN.out _).mono ?_
  rintro e w2 ⟨rfl, hb9⟩
  have hb := on hb0 hb9
  obtain ⟨hA, hb1⟩ := slot hb
  obtain ⟨p0, p1, p2, q0, q1, q2⟩ := hA.three
  obtain ⟨z0, z1, z2⟩ := three_set (u := .int .i64 1) (v := .int .i64 x) (r := .string ⟨#[]⟩) p0 p1 p2
  have hb2 := set3 hb1 (Nat.le_refl _) (.int .i64 1) (.int .i64 x) (.string ⟨#[]⟩)
  clear hA hb hb1
  go_wp2
  exact bodyPost_ret (v := .agg #[.int .i64 1, .int .i64 x, .string ⟨#[]⟩]) (by simp [results, Tryz.results325, go_sem, z0, z1, z2]) rfl ⟨rfl, hb2⟩
set_option maxRecDepth 100000 in
set_option maxHeartbeats 2000000 in
theorem mean_yes (x : Int) (hn : readD (yesT : ByteArray).data.toList = (x, false)) (w : World) (hL : Libs w) : Calls Tryz.prog 325 #[.string yesT] w (ValIs 3 1 ⟨#[]⟩ w) := by
  have HR := Lib.hid (fun w1 hL => read_c yesT (by decide) x false hn w1 hL)
  have HS := Lib.hid (fun w1 => str_c yesT 2 0 yesT (str_in (by decide)) w1)
  have HT := Lib.hid (fun w1 => astruth_tyes w1)
  have HL := Lib.hid (hL.grown (below1 w (.cells #[.int .i64 0, .int .i64 0, .string ⟨#[]⟩] 23)))
  have HU := Lib.hid (show yesT = _ from rfl)
  clear hL hn
  go_enter Tryz.func325, Tryz.ntmps325
  go_wp2_with fail
  refine (HR.out _ HL.out).mono ?_
  rintro e w1 ⟨rfl, hb0⟩
  clear HR HL
  go_wp2_with fail
  refine (HS.out _).mono ?_
  rintro e w2 ⟨rfl, hb9⟩
  obtain ⟨hA, hb1⟩ := slot (on hb0 hb9)
  clear hb0 hb9 HS
  obtain ⟨w3, hw3⟩ : ∃ w3, w3 = w2.alloc (.cells #[.int .i64 2, .int .i64 0, .string yesT] 23) := ⟨_, rfl⟩
  have hA3 : CellsAt w3 w.heap.size _ := hw3 ▸ hA.on_alloc _
  have hT3 : CellsAt w3 w2.heap.size [.int .i64 2, .int .i64 0, .string yesT] := hw3 ▸ CellsAt.new w2 [.int .i64 2, .int .i64 0, .string yesT] _
  have hb3 : Below w.heap.size w w3 := hw3 ▸ on_alloc hb1 _
  go_wp2_with fail
  rw [← hw3]
  refine (HT.out _).mono ?_
  rintro e w4 ⟨rfl, hb8⟩
  replace hA3 := hA3.on hb8
  replace hT3 := hT3.on hb8
  replace hb3 := on hb3 hb8
  clear hb8 hw3 hA hb1 HT
  obtain ⟨p0, p1, p2, q0, q1, q2⟩ := hA3.three
  obtain ⟨t0, t1, t2, _⟩ := hT3.three
  obtain ⟨y0, y1, y2⟩ := three_set (u := .int .i64 3) (v := .int .i64 1) (r := .string ⟨#[]⟩) p0 p1 p2
  have z0 := kept_alloc (.cells #[.int .i64 3, .int .i64 1, .string ⟨#[]⟩] 23) y0
  have z1 := kept_alloc (.cells #[.int .i64 3, .int .i64 1, .string ⟨#[]⟩] 23) y1
  have z2 := kept_alloc (.cells #[.int .i64 3, .int .i64 1, .string ⟨#[]⟩] 23) y2
  have hb5 := on_alloc (set3 hb3 (Nat.le_refl _) (.int .i64 3) (.int .i64 1) (.string ⟨#[]⟩)) (.cells #[.int .i64 3, .int .i64 1, .string ⟨#[]⟩] 23)
  have hA4 := hA3.1
  have hT4 := hT3.1
  clear hA3 hT3 hb3 y0 y1 y2
  go_wp2
  exact bodyPost_ret (v := .agg #[.int .i64 3, .int .i64 1, .string ⟨#[]⟩]) (by simp [results, Tryz.results325, go_sem, z0, z1, z2]) rfl ⟨rfl, hb5⟩
set_option maxRecDepth 100000 in
set_option maxHeartbeats 2000000 in
theorem mean_no (x : Int) (hn : readD (noT : ByteArray).data.toList = (x, false)) (w : World) (hL : Libs w) : Calls Tryz.prog 325 #[.string noT] w (ValIs 3 0 ⟨#[]⟩ w) := by
  have HR := Lib.hid (fun w1 hL => read_c noT (by decide) x false hn w1 hL)
  have HS := Lib.hid (fun w1 => str_c noT 2 0 noT (str_in (by decide)) w1)
  have HT := Lib.hid (fun w1 => astruth_tno w1)
  have HL := Lib.hid (hL.grown (below1 w (.cells #[.int .i64 0, .int .i64 0, .string ⟨#[]⟩] 23)))
  have HU := Lib.hid (show noT = _ from rfl)
  clear hL hn
  go_enter Tryz.func325, Tryz.ntmps325
  go_wp2_with fail
  refine (HR.out _ HL.out).mono ?_
  rintro e w1 ⟨rfl, hb0⟩
  clear HR HL
  go_wp2_with fail
  refine (HS.out _).mono ?_
  rintro e w2 ⟨rfl, hb9⟩
  obtain ⟨hA, hb1⟩ := slot (on hb0 hb9)
  clear hb0 hb9 HS
  obtain ⟨w3, hw3⟩ : ∃ w3, w3 = w2.alloc (.cells #[.int .i64 2, .int .i64 0, .string noT] 23) := ⟨_, rfl⟩
  have hA3 : CellsAt w3 w.heap.size _ := hw3 ▸ hA.on_alloc _
  have hT3 : CellsAt w3 w2.heap.size [.int .i64 2, .int .i64 0, .string noT] := hw3 ▸ CellsAt.new w2 [.int .i64 2, .int .i64 0, .string noT] _
  have hb3 : Below w.heap.size w w3 := hw3 ▸ on_alloc hb1 _
  go_wp2_with fail
  rw [← hw3]
  refine (HT.out _).mono ?_
  rintro e w4 ⟨rfl, hb8⟩
  replace hA3 := hA3.on hb8
  replace hT3 := hT3.on hb8
  replace hb3 := on hb3 hb8
  clear hb8 hw3 hA hb1 HT
  obtain ⟨p0, p1, p2, q0, q1, q2⟩ := hA3.three
  obtain ⟨t0, t1, t2, _⟩ := hT3.three
  obtain ⟨y0, y1, y2⟩ := three_set (u := .int .i64 3) (v := .int .i64 0) (r := .string ⟨#[]⟩) p0 p1 p2
  have z0 := kept_alloc (.cells #[.int .i64 3, .int .i64 0, .string ⟨#[]⟩] 23) y0
  have z1 := kept_alloc (.cells #[.int .i64 3, .int .i64 0, .string ⟨#[]⟩] 23) y1
  have z2 := kept_alloc (.cells #[.int .i64 3, .int .i64 0, .string ⟨#[]⟩] 23) y2
  have hb5 := on_alloc (set3 hb3 (Nat.le_refl _) (.int .i64 3) (.int .i64 0) (.string ⟨#[]⟩)) (.cells #[.int .i64 3, .int .i64 0, .string ⟨#[]⟩] 23)
  have hA4 := hA3.1
  have hT4 := hT3.1
  clear hA3 hT3 hb3 y0 y1 y2
  go_wp2
  exact bodyPost_ret (v := .agg #[.int .i64 3, .int .i64 0, .string ⟨#[]⟩]) (by simp [results, Tryz.results325, go_sem, z0, z1, z2]) rfl ⟨rfl, hb5⟩
set_option maxRecDepth 100000 in
set_option maxHeartbeats 2000000 in
theorem mean_else (t : ByteArray) (ht : t.size ≤ 256) (h1 : t ≠ yesT) (h2 : t ≠ noT) (x : Int) (hn : readD (t : ByteArray).data.toList = (x, false)) (w : World) (hL : Libs w) : Calls Tryz.prog 325 #[.string t] w (ValIs 2 0 t w) := by
  have HR := Lib.hid (fun w1 hL => read_c t (by omega) x false hn w1 hL)
  have HS := Lib.hid (fun w1 => str_c t 2 0 t (str_in ht) w1)
  have HT := Lib.hid (fun w1 => astruth_telse t h1 h2 w1)
  have HL := Lib.hid (hL.grown (below1 w (.cells #[.int .i64 0, .int .i64 0, .string ⟨#[]⟩] 23)))
  clear hL hn
  go_enter Tryz.func325, Tryz.ntmps325
  go_wp2_with fail
  refine (HR.out _ HL.out).mono ?_
  rintro e w1 ⟨rfl, hb0⟩
  clear HR HL
  go_wp2_with fail
  refine (HS.out _).mono ?_
  rintro e w2 ⟨rfl, hb9⟩
  obtain ⟨hA, hb1⟩ := slot (on hb0 hb9)
  clear hb0 hb9 HS
  obtain ⟨w3, hw3⟩ : ∃ w3, w3 = w2.alloc (.cells #[.int .i64 2, .int .i64 0, .string t] 23) := ⟨_, rfl⟩
  have hA3 : CellsAt w3 w.heap.size _ := hw3 ▸ hA.on_alloc _
  have hT3 : CellsAt w3 w2.heap.size [.int .i64 2, .int .i64 0, .string t] := hw3 ▸ CellsAt.new w2 [.int .i64 2, .int .i64 0, .string t] _
  have hb3 : Below w.heap.size w w3 := hw3 ▸ on_alloc hb1 _
  go_wp2_with fail
  rw [← hw3]
  refine (HT.out _).mono ?_
  rintro e w4 ⟨rfl, hb8⟩
  replace hA3 := hA3.on hb8
  replace hT3 := hT3.on hb8
  replace hb3 := on hb3 hb8
  clear hb8 hw3 hA hb1 HT
  obtain ⟨p0, p1, p2, q0, q1, q2⟩ := hA3.three
  obtain ⟨t0, t1, t2, _⟩ := hT3.three
  obtain ⟨y0, y1, y2⟩ := three_set (u := .int .i64 2) (v := .int .i64 0) (r := .string t) p0 p1 p2
  have z0 := kept_alloc (.cells #[.int .i64 4, .int .i64 2, .string ⟨#[]⟩] 23) y0
  have z1 := kept_alloc (.cells #[.int .i64 4, .int .i64 2, .string ⟨#[]⟩] 23) y1
  have z2 := kept_alloc (.cells #[.int .i64 4, .int .i64 2, .string ⟨#[]⟩] 23) y2
  have hb5 := on_alloc (set3 hb3 (Nat.le_refl _) (.int .i64 2) (.int .i64 0) (.string t)) (.cells #[.int .i64 4, .int .i64 2, .string ⟨#[]⟩] 23)
  have hA4 := hA3.1
  have hT4 := hT3.1
  clear hA3 hT3 hb3 y0 y1 y2
  go_wp2
  exact bodyPost_ret (v := .agg #[.int .i64 2, .int .i64 0, .string t]) (by simp [results, Tryz.results325, go_sem, z0, z1, z2]) rfl ⟨rfl, hb5⟩
theorem mean_c (t : ByteArray) (ht : t.size ≤ 256) (k n : Int) (s : ByteArray) (h : meantV t = (k, n, s)) (w : World) (hL : Libs w) : Calls Tryz.prog 325 #[.string t] w (ValIs k n s w) := by
  rcases meant_ways h with ⟨x, hr, rfl, rfl, rfl⟩ | ⟨x, hr, ⟨rfl, rfl, rfl, rfl⟩ | ⟨rfl, rfl, rfl, rfl⟩ | ⟨h1, h2, rfl, rfl, rfl⟩⟩
  · exact mean_num t ht _ hr w hL
  · exact mean_yes x hr w hL
  · exact mean_no x hr w hL
  · exact mean_else _ ht h1 h2 x hr w hL
theorem cells_new {w0 : World} {g : Nat} (hg : w0.heap.size = g) (cs : List Value) (ty : TypeId) : CellsAt (w0.alloc (.cells cs.toArray ty)) g cs := hg ▸ CellsAt.new w0 cs ty
end Go.Proofs.YtebjedbppiphgaaGreatDoor.Crt

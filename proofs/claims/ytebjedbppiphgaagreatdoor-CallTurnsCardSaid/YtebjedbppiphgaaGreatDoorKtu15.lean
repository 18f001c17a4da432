/- What is looked for, told out of a text: with which operator it begins, and what is behind it means; whether an operator holds. No function of the program is named here.
   What package crit's split, meant, filled and Of answer: for every value that may be. Written by wip/gen17.py. -/
import Derived.Test.YtebjedbppiphgaaGreatDoorKtu01
import Derived.Test.YtebjedbppiphgaaGreatDoorKtu14
import Derived.Test.YtebjedbppiphgaaGreatDoorKtu05
namespace Go.Proofs.YtebjedbppiphgaaGreatDoor.Crt
open Go.RowKit Kit Dec Dig Val
/-- a text begins with the j-th operator -/
def hasJ (l : List UInt8) : Nat → Bool
  | 0 => Lib.hasPrefix l [60, 62]
  | 1 => Lib.hasPrefix l [60, 61]
  | 2 => Lib.hasPrefix l [62, 61]
  | 3 => Lib.hasPrefix l [60]
  | 4 => Lib.hasPrefix l [62]
  | _ => Lib.hasPrefix l [61]
/-- the operator with which a text begins, and of how many bytes it is -/
def splitL (l : List UInt8) : Int × Nat :=
  if hasJ l 0 then (8, 2) else if hasJ l 1 then (10, 2) else if hasJ l 2 then (12, 2) else if hasJ l 3 then (9, 1) else if hasJ l 4 then (11, 1) else if hasJ l 5 then (7, 1) else (7, 0)
/-- what is behind a number of bytes -/
theorem ext_all (t : ByteArray) : t.extract 0 t.size = t := bytes_eq (by rw [ext_drop, List.drop_zero])
end Go.Proofs.YtebjedbppiphgaaGreatDoor.Crt
namespace Go.Proofs.YtebjedbppiphgaaGreatDoor.Crt
open Go.RowKit Kit Reg Dec Dig Val
/-- the cells of the table of operators -/
def signCells : List Value := [.string ⟨#[60, 62]⟩, .int .i64 8, .string ⟨#[60, 61]⟩, .int .i64 10, .string ⟨#[62, 61]⟩, .int .i64 12, .string ⟨#[60]⟩, .int .i64 9, .string ⟨#[62]⟩, .int .i64 11, .string ⟨#[61]⟩, .int .i64 7]
/-- what the library's and the program's variables hold -/
def Signs (w : World) : Prop := ∀ i x, signCells[i]? = some x → w.cell? ⟨3, i, none⟩ = some x
theorem Signs.grown {w w' : World} (h : Signs w) (hb : Below w.heap.size w w') : Signs w' := fun i x hx => kept hb (h i x hx)
def CLibs (w : World) : Prop := Libs w ∧ Signs w
theorem CLibs.grown {w w' : World} (h : CLibs w) (hb : Below w.heap.size w w') : CLibs w' := ⟨h.1.grown hb, h.2.grown hb⟩
theorem cut_yes (t p : ByteArray) (h : Lib.hasPrefix t.data.toList p.data.toList = true) (w : World) :
    Calls Tryz.prog 359 #[.string t, .string p] w fun e w' => e = .returned (.tuple #[.string (t.extract p.size t.size), .bool true]) ∧ w = w' :=
  (Tryz.strings_CutPrefix t p w).mono fun e w' ⟨he, hw⟩ => ⟨by
    rw [he, h]
    have e2 : (⟨(Lib.trimPrefix t.data.toList p.data.toList).toArray⟩ : ByteArray) = t.extract p.size t.size := bytes_eq (by rw [ext_drop, Lib.trimPrefix, if_pos h, Lib.size_eq p])
    rw [e2], hw.symm⟩
theorem cut_no (t p : ByteArray) (h : Lib.hasPrefix t.data.toList p.data.toList = false) (w : World) :
    Calls Tryz.prog 359 #[.string t, .string p] w fun e w' => e = .returned (.tuple #[.string t, .bool false]) ∧ w = w' :=
  (Tryz.strings_CutPrefix t p w).mono fun e w' ⟨he, hw⟩ => ⟨by
    rw [he, h]
    have e2 : (⟨(Lib.trimPrefix t.data.toList p.data.toList).toArray⟩ : ByteArray) = t := bytes_eq (by rw [Lib.trimPrefix, if_neg (by rw [h]; simp)])
    rw [e2], hw.symm⟩
theorem at_sign0 (w : World) : (Instr.index 281 (.agg #[.string ⟨#[60, 62]⟩, .int .i64 8, .string ⟨#[60, 61]⟩, .int .i64 10, .string ⟨#[62, 61]⟩, .int .i64 12, .string ⟨#[60]⟩, .int .i64 9, .string ⟨#[62]⟩, .int .i64 11, .string ⟨#[61]⟩, .int .i64 7]) (.int .i64 0)).run Tryz.prog w = .ok (.agg #[.string ⟨#[60, 62]⟩, .int .i64 8]) w := by kernel_rfl
theorem at_sign1 (w : World) : (Instr.index 281 (.agg #[.string ⟨#[60, 62]⟩, .int .i64 8, .string ⟨#[60, 61]⟩, .int .i64 10, .string ⟨#[62, 61]⟩, .int .i64 12, .string ⟨#[60]⟩, .int .i64 9, .string ⟨#[62]⟩, .int .i64 11, .string ⟨#[61]⟩, .int .i64 7]) (.int .i64 1)).run Tryz.prog w = .ok (.agg #[.string ⟨#[60, 61]⟩, .int .i64 10]) w := by kernel_rfl
theorem at_sign2 (w : World) : (Instr.index 281 (.agg #[.string ⟨#[60, 62]⟩, .int .i64 8, .string ⟨#[60, 61]⟩, .int .i64 10, .string ⟨#[62, 61]⟩, .int .i64 12, .string ⟨#[60]⟩, .int .i64 9, .string ⟨#[62]⟩, .int .i64 11, .string ⟨#[61]⟩, .int .i64 7]) (.int .i64 2)).run Tryz.prog w = .ok (.agg #[.string ⟨#[62, 61]⟩, .int .i64 12]) w := by kernel_rfl
theorem at_sign3 (w : World) : (Instr.index 281 (.agg #[.string ⟨#[60, 62]⟩, .int .i64 8, .string ⟨#[60, 61]⟩, .int .i64 10, .string ⟨#[62, 61]⟩, .int .i64 12, .string ⟨#[60]⟩, .int .i64 9, .string ⟨#[62]⟩, .int .i64 11, .string ⟨#[61]⟩, .int .i64 7]) (.int .i64 3)).run Tryz.prog w = .ok (.agg #[.string ⟨#[60]⟩, .int .i64 9]) w := by kernel_rfl
theorem at_sign4 (w : World) : (Instr.index 281 (.agg #[.string ⟨#[60, 62]⟩, .int .i64 8, .string ⟨#[60, 61]⟩, .int .i64 10, .string ⟨#[62, 61]⟩, .int .i64 12, .string ⟨#[60]⟩, .int .i64 9, .string ⟨#[62]⟩, .int .i64 11, .string ⟨#[61]⟩, .int .i64 7]) (.int .i64 4)).run Tryz.prog w = .ok (.agg #[.string ⟨#[62]⟩, .int .i64 11]) w := by kernel_rfl
theorem at_sign5 (w : World) : (Instr.index 281 (.agg #[.string ⟨#[60, 62]⟩, .int .i64 8, .string ⟨#[60, 61]⟩, .int .i64 10, .string ⟨#[62, 61]⟩, .int .i64 12, .string ⟨#[60]⟩, .int .i64 9, .string ⟨#[62]⟩, .int .i64 11, .string ⟨#[61]⟩, .int .i64 7]) (.int .i64 5)).run Tryz.prog w = .ok (.agg #[.string ⟨#[61]⟩, .int .i64 7]) w := by kernel_rfl
set_option maxRecDepth 100000 in
set_option maxHeartbeats 4000000 in
theorem split_c (t : ByteArray) (op : Int) (m : Nat) (hs : splitL t.data.toList = (op, m)) (w : World) (hL : Signs w) :
    Calls Tryz.prog 324 #[.string t] w fun e w' => e = .returned (.tuple #[.int .i64 op, .string (t.extract m t.size)]) ∧ Below w.heap.size w w' := by
  have HY := Lib.hid (fun p h w => cut_yes t p h w)
  have HN := Lib.hid (fun p h w => cut_no t p h w)
  have HS := Lib.hid hs
  have HA := Lib.hid (ext_all t)
  have g0 := hL 0 _ rfl
  have g1 := hL 1 _ rfl
  have g2 := hL 2 _ rfl
  have g3 := hL 3 _ rfl
  have g4 := hL 4 _ rfl
  have g5 := hL 5 _ rfl
  have g6 := hL 6 _ rfl
  have g7 := hL 7 _ rfl
  have g8 := hL 8 _ rfl
  have g9 := hL 9 _ rfl
  have g10 := hL 10 _ rfl
  have g11 := hL 11 _ rfl
  clear hs hL
  go_enter Tryz.func324, Tryz.ntmps324
  go_wp2
  clear g0 g1 g2 g3 g4 g5 g6 g7 g8 g9 g10 g11
  go_loopw [9] (fun i wr => ∃ k : Nat, k ≤ 6 ∧ i = .int .i64 k ∧ Hid (∀ j, j < k → hasJ t.data.toList j = false) ∧ Below w.heap.size w wr) (fun i _ => 6 - (intOf i).toNat)
  case atStart => exact ⟨0, by omega, rfl, Lib.hid (fun j hj => absurd hj (by omega)), Below.refl _ _⟩
  case round =>
    obtain ⟨k, hk, rfl, hj, hb⟩ := hrel
    obtain rfl | rfl | rfl | rfl | rfl | rfl | rfl : k = 0 ∨ k = 1 ∨ k = 2 ∨ k = 3 ∨ k = 4 ∨ k = 5 ∨ k = 6 := by omega
    · have hi := at_sign0 wr
      cases hh : hasJ t.data.toList 0
      · have HC := Lib.hid (HN.out ⟨#[60, 62]⟩ hh)
        have HJ : Hid (∀ j, j < 1 → hasJ t.data.toList j = false) := Lib.hid (fun j h => by
          rcases Nat.lt_or_ge j 0 with h1 | h1
          · exact hj.out j h1
          · obtain rfl : j = 0 := by omega
            exact hh)
        clear hh hj HY HN HS HA
        go_wp2_with fail
        refine (HC.out _).mono ?_
        rintro e w1 ⟨rfl, rfl⟩
        go_wp2
        go_roundw
        case rel => exact ⟨1, by omega, by go_num, HJ, on_alloc hb _⟩
        case measure => simp [intOf]
      · have HC := Lib.hid (HY.out ⟨#[60, 62]⟩ hh)
        have hp : (op, m) = (8, 2) := HS.out.symm.trans (by unfold splitL; rw [hh]; rfl)
        obtain ⟨rfl, rfl⟩ := Prod.mk.inj hp
        clear hh hj HY HN HS HA hp
        go_wp2_with fail
        refine (HC.out _).mono ?_
        rintro e w1 ⟨rfl, rfl⟩
        go_wp2
        go_ret2
        exact ⟨rfl, on_alloc hb _⟩
    · have hi := at_sign1 wr
      cases hh : hasJ t.data.toList 1
      · have HC := Lib.hid (HN.out ⟨#[60, 61]⟩ hh)
        have HJ : Hid (∀ j, j < 2 → hasJ t.data.toList j = false) := Lib.hid (fun j h => by
          rcases Nat.lt_or_ge j 1 with h1 | h1
          · exact hj.out j h1
          · obtain rfl : j = 1 := by omega
            exact hh)
        clear hh hj HY HN HS HA
        go_wp2_with fail
        refine (HC.out _).mono ?_
        rintro e w1 ⟨rfl, rfl⟩
        go_wp2
        go_roundw
        case rel => exact ⟨2, by omega, by go_num, HJ, on_alloc hb _⟩
        case measure => simp [intOf]
      · have HC := Lib.hid (HY.out ⟨#[60, 61]⟩ hh)
        have hp : (op, m) = (10, 2) := HS.out.symm.trans (by unfold splitL; rw [hj.out 0 (by omega), hh]; rfl)
        obtain ⟨rfl, rfl⟩ := Prod.mk.inj hp
        clear hh hj HY HN HS HA hp
        go_wp2_with fail
        refine (HC.out _).mono ?_
        rintro e w1 ⟨rfl, rfl⟩
        go_wp2
        go_ret2
        exact ⟨rfl, on_alloc hb _⟩
    · have hi := at_sign2 wr
      cases hh : hasJ t.data.toList 2
      · have HC := Lib.hid (HN.out ⟨#[62, 61]⟩ hh)
        have HJ : Hid (∀ j, j < 3 → hasJ t.data.toList j = false) := Lib.hid (fun j h => by
          rcases Nat.lt_or_ge j 2 with h1 | h1
          · exact hj.out j h1
          · obtain rfl : j = 2 := by omega
            exact hh)
        clear hh hj HY HN HS HA
        go_wp2_with fail
        refine (HC.out _).mono ?_
        rintro e w1 ⟨rfl, rfl⟩
        go_wp2
        go_roundw
        case rel => exact ⟨3, by omega, by go_num, HJ, on_alloc hb _⟩
        case measure => simp [intOf]
      · have HC := Lib.hid (HY.out ⟨#[62, 61]⟩ hh)
        have hp : (op, m) = (12, 2) := HS.out.symm.trans (by unfold splitL; rw [hj.out 0 (by omega), hj.out 1 (by omega), hh]; rfl)
        obtain ⟨rfl, rfl⟩ := Prod.mk.inj hp
        clear hh hj HY HN HS HA hp
        go_wp2_with fail
        refine (HC.out _).mono ?_
        rintro e w1 ⟨rfl, rfl⟩
        go_wp2
        go_ret2
        exact ⟨rfl, on_alloc hb _⟩
    · have hi := at_sign3 wr
      cases hh : hasJ t.data.toList 3
      · have HC := Lib.hid (HN.out ⟨#[60]⟩ hh)
        have HJ : Hid (∀ j, j < 4 → hasJ t.data.toList j = false) := Lib.hid (fun j h => by
          rcases Nat.lt_or_ge j 3 with h1 | h1
          · exact hj.out j h1
          · obtain rfl : j = 3 := by omega
            exact hh)
        clear hh hj HY HN HS HA
        go_wp2_with fail
        refine (HC.out _).mono ?_
        rintro e w1 ⟨rfl, rfl⟩
        go_wp2
        go_roundw
        case rel => exact ⟨4, by omega, by go_num, HJ, on_alloc hb _⟩
        case measure => simp [intOf]
      · have HC := Lib.hid (HY.out ⟨#[60]⟩ hh)
        have hp : (op, m) = (9, 1) := HS.out.symm.trans (by unfold splitL; rw [hj.out 0 (by omega), hj.out 1 (by omega), hj.out 2 (by omega), hh]; rfl)
        obtain ⟨rfl, rfl⟩ := Prod.mk.inj hp
        clear hh hj HY HN HS HA hp
        go_wp2_with fail
        refine (HC.out _).mono ?_
        rintro e w1 ⟨rfl, rfl⟩
        go_wp2
        go_ret2
        exact ⟨rfl, on_alloc hb _⟩
    · have hi := at_sign4 wr
      cases hh : hasJ t.data.toList 4
      · have HC := Lib.hid (HN.out ⟨#[62]⟩ hh)
        have HJ : Hid (∀ j, j < 5 → hasJ t.data.toList j = false) := Lib.hid (fun j h => by
          rcases Nat.lt_or_ge j 4 with h1 | h1
          · exact hj.out j h1
          · obtain rfl : j = 4 := by omega
            exact hh)
        clear hh hj HY HN HS HA
        go_wp2_with fail
        refine (HC.out _).mono ?_
        rintro e w1 ⟨rfl, rfl⟩
        go_wp2
        go_roundw
        case rel => exact ⟨5, by omega, by go_num, HJ, on_alloc hb _⟩
        case measure => simp [intOf]
      · have HC := Lib.hid (HY.out ⟨#[62]⟩ hh)
        have hp : (op, m) = (11, 1) := HS.out.symm.trans (by unfold splitL; rw [hj.out 0 (by omega), hj.out 1 (by omega), hj.out 2 (by omega), hj.out 3 (by omega), hh]; rfl)
        obtain ⟨rfl, rfl⟩ := Prod.mk.inj hp
        clear hh hj HY HN HS HA hp
        go_wp2_with fail
        refine (HC.out _).mono ?_
        rintro e w1 ⟨rfl, rfl⟩
        go_wp2
        go_ret2
        exact ⟨rfl, on_alloc hb _⟩
    · have hi := at_sign5 wr
      cases hh : hasJ t.data.toList 5
      · have HC := Lib.hid (HN.out ⟨#[61]⟩ hh)
        have HJ : Hid (∀ j, j < 6 → hasJ t.data.toList j = false) := Lib.hid (fun j h => by
          rcases Nat.lt_or_ge j 5 with h1 | h1
          · exact hj.out j h1
          · obtain rfl : j = 5 := by omega
            exact hh)
        clear hh hj HY HN HS HA
        go_wp2_with fail
        refine (HC.out _).mono ?_
        rintro e w1 ⟨rfl, rfl⟩
        go_wp2
        go_roundw
        case rel => exact ⟨6, by omega, by go_num, HJ, on_alloc hb _⟩
        case measure => simp [intOf]
      · have HC := Lib.hid (HY.out ⟨#[61]⟩ hh)
        have hp : (op, m) = (7, 1) := HS.out.symm.trans (by unfold splitL; rw [hj.out 0 (by omega), hj.out 1 (by omega), hj.out 2 (by omega), hj.out 3 (by omega), hj.out 4 (by omega), hh]; rfl)
        obtain ⟨rfl, rfl⟩ := Prod.mk.inj hp
        clear hh hj HY HN HS HA hp
        go_wp2_with fail
        refine (HC.out _).mono ?_
        rintro e w1 ⟨rfl, rfl⟩
        go_wp2
        go_ret2
        exact ⟨rfl, on_alloc hb _⟩
    · have hp : (op, m) = (7, 0) := HS.out.symm.trans (by unfold splitL; rw [hj.out 0 (by omega), hj.out 1 (by omega), hj.out 2 (by omega), hj.out 3 (by omega), hj.out 4 (by omega), hj.out 5 (by omega)]; rfl)
      obtain ⟨rfl, rfl⟩ := Prod.mk.inj hp
      clear hj HY HN HS hp
      go_wp2
      go_ret2
      exact ⟨by rw [HA.out]; rfl, hb⟩
theorem cells_new {w0 : World} {g : Nat} (hg : w0.heap.size = g) (cs : List Value) (ty : TypeId) : CellsAt (w0.alloc (.cells cs.toArray ty)) g cs := hg ▸ CellsAt.new w0 cs ty
end Go.Proofs.YtebjedbppiphgaaGreatDoor.Crt

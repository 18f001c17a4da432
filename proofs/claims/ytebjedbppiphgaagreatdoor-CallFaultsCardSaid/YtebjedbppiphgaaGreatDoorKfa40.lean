/- The program's ofText: LEFT, RIGHT, REPT, MID; and its ofValue. Written by wip/gen21g.py.
   What the reference's LARGE, SMALL and RANK answer. Written by wip/gen20f.py. -/
import Derived.Test.YtebjedbppiphgaaGreatDoorKfa39
import Derived.Test.YtebjedbppiphgaaGreatDoorKfa32
import Derived.BigQuiet
namespace Go.Proofs.YtebjedbppiphgaaGreatDoor.Cal
open Go.RowKit Kit Reg Dec Dig Val Fld
set_option maxRecDepth 100000 in
set_option maxHeartbeats 2000000 in
theorem pva_NOT0 (vk vn : Int) (vt : ByteArray) (xn : Int) (w : World) (HT0 : ∀ w1, Below w.heap.size w w1 → Calls Tryz.prog 118 #[.agg #[.int .i64 vk, .int .i64 vn, .string vt]] w1 (IsV (fV xn) w1)) :
    Calls Tryz.prog 54 #[.int .i64 47, .agg #[.int .i64 vk, .int .i64 vn, .string vt]] w (IsV (fV xn) w) := by
  obtain ⟨h2, hb2⟩ := second w (.cells #[.int .i64 vk, .int .i64 vn, .string vt] 23) [.int .i64 0, .int .i64 0, .string ⟨#[]⟩] 23
  obtain ⟨y0, y1, y2, -⟩ := (CellsAt.new w [.int .i64 vk, .int .i64 vn, .string vt] 23).three
  have HT : Hid (∀ w1, Below w.heap.size w w1 → Calls Tryz.prog 118 #[.agg #[.int .i64 vk, .int .i64 vn, .string vt]] w1 fun e w' => e = .returned (.agg #[.int .i64 4, .int .i64 xn, .string ⟨#[]⟩]) ∧ Below w1.heap.size w1 w') := Lib.hid HT0
  have HI : Hid (∀ w1, Calls Tryz.prog 42 #[.agg #[.int .i64 4, .int .i64 xn, .string ⟨#[]⟩]] w1 fun e w' => e = .returned (.bool true) ∧ Below w1.heap.size w1 w') := Lib.hid (fun w1 => isfault_v _ _ _ true rfl w1)
  clear HT0
  show Calls Tryz.prog 54 _ w (ValIs 4 xn ⟨#[]⟩ w)
  go_enter Tryz.func54, Tryz.ntmps54
  go_wp2_with fail
  clear y0 y1 y2
  generalize (w.alloc (.cells #[.int .i64 vk, .int .i64 vn, .string vt] 23)).alloc (.cells #[.int .i64 0, .int .i64 0, .string ⟨#[]⟩] 23) = W at *
  refine (HT.out _ hb2).mono ?_
  rintro e w1 ⟨rfl, hb1⟩
  replace h2 := h2.on hb1
  replace hb2 := on hb2 hb1
  clear hb1
  replace h2 := h2.on_alloc (.cells #[.int .i64 4, .int .i64 xn, .string ⟨#[]⟩] 23)
  replace hb2 := on_alloc hb2 (.cells #[.int .i64 4, .int .i64 xn, .string ⟨#[]⟩] 23)
  have hx := CellsAt.new w1 [.int .i64 4, .int .i64 xn, .string ⟨#[]⟩] 23
  obtain ⟨x0, x1, x2, -⟩ := hx.three
  go_wp2_with fail
  generalize w1.alloc (.cells #[.int .i64 4, .int .i64 xn, .string ⟨#[]⟩] 23) = X1 at *
  clear x0 x1 x2
  refine (HI.out _).mono ?_
  rintro e w2 ⟨rfl, hb1⟩
  replace h2 := h2.on hb1
  replace hx := hx.on hb1
  replace hb2 := on hb2 hb1
  clear hb1
  obtain ⟨x0, x1, x2, -⟩ := hx.three
  obtain ⟨⟨g0, p0, p1, p2, q0, q1, q2⟩, ⟨z0, z1, z2⟩, hb3⟩ := val_ends h2 hb2 (Nat.le_add_right _ 1) (.int .i64 4) (.int .i64 xn) (.string ⟨#[]⟩)
  clear h2 hb2
  go_wp2
  exact bodyPost_ret (v := .agg #[.int .i64 4, .int .i64 xn, .string ⟨#[]⟩]) (by simp [results, Tryz.results54, go_sem, z0, z1, z2]) rfl ⟨rfl, hb3⟩
set_option maxRecDepth 100000 in
set_option maxHeartbeats 2000000 in
theorem pva_NOTf (vk vn : Int) (vt : ByteArray) (w : World) (HT0 : ∀ w1, Below w.heap.size w w1 → Calls Tryz.prog 118 #[.agg #[.int .i64 vk, .int .i64 vn, .string vt]] w1 (IsV (bV false) w1)) :
    Calls Tryz.prog 54 #[.int .i64 47, .agg #[.int .i64 vk, .int .i64 vn, .string vt]] w (IsV (bV true) w) := by
  obtain ⟨h2, hb2⟩ := second w (.cells #[.int .i64 vk, .int .i64 vn, .string vt] 23) [.int .i64 0, .int .i64 0, .string ⟨#[]⟩] 23
  obtain ⟨y0, y1, y2, -⟩ := (CellsAt.new w [.int .i64 vk, .int .i64 vn, .string vt] 23).three
  have HT : Hid (∀ w1, Below w.heap.size w w1 → Calls Tryz.prog 118 #[.agg #[.int .i64 vk, .int .i64 vn, .string vt]] w1 fun e w' => e = .returned (.agg #[.int .i64 3, .int .i64 0, .string ⟨#[]⟩]) ∧ Below w1.heap.size w1 w') := Lib.hid HT0
  have HI : Hid (∀ w1, Calls Tryz.prog 42 #[.agg #[.int .i64 3, .int .i64 0, .string ⟨#[]⟩]] w1 fun e w' => e = .returned (.bool false) ∧ Below w1.heap.size w1 w') := Lib.hid (fun w1 => isfault_v _ _ _ false rfl w1)
  have HB : Hid (∀ w1, Calls Tryz.prog 27 #[.bool true] w1 (ValIs 3 1 ⟨#[]⟩ w1)) := Lib.hid (fun w1 => bool_c true w1)
  clear HT0
  show Calls Tryz.prog 54 _ w (ValIs 3 1 ⟨#[]⟩ w)
  go_enter Tryz.func54, Tryz.ntmps54
  go_wp2_with fail
  clear y0 y1 y2
  generalize (w.alloc (.cells #[.int .i64 vk, .int .i64 vn, .string vt] 23)).alloc (.cells #[.int .i64 0, .int .i64 0, .string ⟨#[]⟩] 23) = W at *
  refine (HT.out _ hb2).mono ?_
  rintro e w1 ⟨rfl, hb1⟩
  replace h2 := h2.on hb1
  replace hb2 := on hb2 hb1
  clear hb1
  replace h2 := h2.on_alloc (.cells #[.int .i64 3, .int .i64 0, .string ⟨#[]⟩] 23)
  replace hb2 := on_alloc hb2 (.cells #[.int .i64 3, .int .i64 0, .string ⟨#[]⟩] 23)
  have hx := CellsAt.new w1 [.int .i64 3, .int .i64 0, .string ⟨#[]⟩] 23
  obtain ⟨x0, x1, x2, -⟩ := hx.three
  go_wp2_with fail
  generalize w1.alloc (.cells #[.int .i64 3, .int .i64 0, .string ⟨#[]⟩] 23) = X1 at *
  clear x0 x1 x2
  refine (HI.out _).mono ?_
  rintro e w2 ⟨rfl, hb1⟩
  replace h2 := h2.on hb1
  replace hx := hx.on hb1
  replace hb2 := on hb2 hb1
  clear hb1
  obtain ⟨x0, x1, x2, -⟩ := hx.three
  go_wp2_with fail
  refine (HB.out _).mono ?_
  rintro e w3 ⟨rfl, hb1⟩
  replace h2 := h2.on hb1
  replace hb2 := on hb2 hb1
  clear hb1
  obtain ⟨⟨g0, p0, p1, p2, q0, q1, q2⟩, ⟨z0, z1, z2⟩, hb3⟩ := val_ends h2 hb2 (Nat.le_add_right _ 1) (.int .i64 3) (.int .i64 1) (.string ⟨#[]⟩)
  clear h2 hb2
  go_wp2
  exact bodyPost_ret (v := .agg #[.int .i64 3, .int .i64 1, .string ⟨#[]⟩]) (by simp [results, Tryz.results54, go_sem, z0, z1, z2]) rfl ⟨rfl, hb3⟩
set_option maxRecDepth 100000 in
set_option maxHeartbeats 2000000 in
theorem pva_NOTt (vk vn : Int) (vt : ByteArray) (w : World) (HT0 : ∀ w1, Below w.heap.size w w1 → Calls Tryz.prog 118 #[.agg #[.int .i64 vk, .int .i64 vn, .string vt]] w1 (IsV (bV true) w1)) :
    Calls Tryz.prog 54 #[.int .i64 47, .agg #[.int .i64 vk, .int .i64 vn, .string vt]] w (IsV (bV false) w) := by
  obtain ⟨h2, hb2⟩ := second w (.cells #[.int .i64 vk, .int .i64 vn, .string vt] 23) [.int .i64 0, .int .i64 0, .string ⟨#[]⟩] 23
  obtain ⟨y0, y1, y2, -⟩ := (CellsAt.new w [.int .i64 vk, .int .i64 vn, .string vt] 23).three
  have HT : Hid (∀ w1, Below w.heap.size w w1 → Calls Tryz.prog 118 #[.agg #[.int .i64 vk, .int .i64 vn, .string vt]] w1 fun e w' => e = .returned (.agg #[.int .i64 3, .int .i64 1, .string ⟨#[]⟩]) ∧ Below w1.heap.size w1 w') := Lib.hid HT0
  have HI : Hid (∀ w1, Calls Tryz.prog 42 #[.agg #[.int .i64 3, .int .i64 1, .string ⟨#[]⟩]] w1 fun e w' => e = .returned (.bool false) ∧ Below w1.heap.size w1 w') := Lib.hid (fun w1 => isfault_v _ _ _ false rfl w1)
  have HB : Hid (∀ w1, Calls Tryz.prog 27 #[.bool false] w1 (ValIs 3 0 ⟨#[]⟩ w1)) := Lib.hid (fun w1 => bool_c false w1)
  clear HT0
  show Calls Tryz.prog 54 _ w (ValIs 3 0 ⟨#[]⟩ w)
  go_enter Tryz.func54, Tryz.ntmps54
  go_wp2_with fail
  clear y0 y1 y2
  generalize (w.alloc (.cells #[.int .i64 vk, .int .i64 vn, .string vt] 23)).alloc (.cells #[.int .i64 0, .int .i64 0, .string ⟨#[]⟩] 23) = W at *
  refine (HT.out _ hb2).mono ?_
  rintro e w1 ⟨rfl, hb1⟩
  replace h2 := h2.on hb1
  replace hb2 := on hb2 hb1
  clear hb1
  replace h2 := h2.on_alloc (.cells #[.int .i64 3, .int .i64 1, .string ⟨#[]⟩] 23)
  replace hb2 := on_alloc hb2 (.cells #[.int .i64 3, .int .i64 1, .string ⟨#[]⟩] 23)
  have hx := CellsAt.new w1 [.int .i64 3, .int .i64 1, .string ⟨#[]⟩] 23
  obtain ⟨x0, x1, x2, -⟩ := hx.three
  go_wp2_with fail
  generalize w1.alloc (.cells #[.int .i64 3, .int .i64 1, .string ⟨#[]⟩] 23) = X1 at *
  clear x0 x1 x2
  refine (HI.out _).mono ?_
  rintro e w2 ⟨rfl, hb1⟩
  replace h2 := h2.on hb1
  replace hx := hx.on hb1
  replace hb2 := on hb2 hb1
  clear hb1
  obtain ⟨x0, x1, x2, -⟩ := hx.three
  go_wp2_with fail
  refine (HB.out _).mono ?_
  rintro e w3 ⟨rfl, hb1⟩
  replace h2 := h2.on hb1
  replace hb2 := on hb2 hb1
  clear hb1
  obtain ⟨⟨g0, p0, p1, p2, q0, q1, q2⟩, ⟨z0, z1, z2⟩, hb3⟩ := val_ends h2 hb2 (Nat.le_add_right _ 1) (.int .i64 3) (.int .i64 0) (.string ⟨#[]⟩)
  clear h2 hb2
  go_wp2
  exact bodyPost_ret (v := .agg #[.int .i64 3, .int .i64 0, .string ⟨#[]⟩]) (by simp [results, Tryz.results54, go_sem, z0, z1, z2]) rfl ⟨rfl, hb3⟩
end Go.Proofs.YtebjedbppiphgaaGreatDoor.Cal
namespace Go.Proofs.YtebjedbppiphgaaGreatDoor.Cal
open Go.RowKit Kit Reg Dec Dig Val Fld
/-- a slice that reads as a list's numbers -/
def NumsP (xs : List Int) (v : Value) (w : World) : Prop := ∃ A c, v = .slice A xs.length c ∧ Odr.NumsR w A xs.length c xs
theorem NumsP.up {xs : List Int} {v : Value} {w : World} (h : Up (NumsP xs v) w) : NumsP xs v w := by
  obtain ⟨w1, ⟨A, c, e, h1⟩, hb⟩ := h
  exact ⟨A, c, e, h1.on hb⟩
end Go.Proofs.YtebjedbppiphgaaGreatDoor.Cal

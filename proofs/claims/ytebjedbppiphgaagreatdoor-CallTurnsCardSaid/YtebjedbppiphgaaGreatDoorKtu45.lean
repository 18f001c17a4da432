/- CallTurns, of the program's own contracts. Written by wip/gen21n.py. -/
import Derived.Test.YtebjedbppiphgaaGreatDoorKtu44
import Derived.Test.YtebjedbppiphgaaGreatDoorKtu43
namespace Go.Proofs.YtebjedbppiphgaaGreatDoor.Cal
open Go.RowKit Kit Reg Dec Dig Val Fld
open Crt (CLibs)
set_option maxRecDepth 100000 in
set_option maxHeartbeats 16000000 in
theorem turns_1 (ak an : Int) (at_ : ByteArray) (bk bn : Int) (bt : ByteArray) (w : World) (h : mayV ak an at_ = false) (hL : CLibs w) :
    Calls Tryz.prog 6 #[.agg #[.int .i64 ak, .int .i64 an, .string at_], .agg #[.int .i64 bk, .int .i64 bn, .string bt]] w (LawEnd w) := by
  have ht0 := (CellsAt.new w [.int .i64 ak, .int .i64 an, .string at_] 23).on_alloc (.cells #[.int .i64 bk, .int .i64 bn, .string bt] 23)
  have hx0 := Lok.newAt (w0 := w.alloc (.cells #[.int .i64 ak, .int .i64 an, .string at_] 23)) (g := w.heap.size + 1) (by simp) [.int .i64 bk, .int .i64 bn, .string bt] 23
  have hb0 := below2 w (.cells #[.int .i64 ak, .int .i64 an, .string at_] 23) (.cells #[.int .i64 bk, .int .i64 bn, .string bt] 23)
  have HL := Lib.hid hL
  clear hL
  obtain ⟨t0, t1, t2, -⟩ := ht0.three
  obtain ⟨x0, x1, x2, -⟩ := hx0.three
  have H1 := Lib.hid (fun w1 => rmayv_c ak an at_ false h w1)
  clear h
  go_enter Tryz.func6, Tryz.ntmps6
  go_wp2_with fail
  refine (H1.out _).mono ?_
  rintro e w1 ⟨rfl, hb1⟩
  clear t0 t1 t2 x0 x1 x2
  replace ht0 := ht0.on hb1
  replace hx0 := hx0.on hb1
  replace hb0 := on hb0 hb1
  clear hb1
  obtain ⟨t0, t1, t2, -⟩ := ht0.three
  obtain ⟨x0, x1, x2, -⟩ := hx0.three
  have HL1 := Lib.hid (HL.out.grown hb0)
  go_wp2_with fail
  refine (alive_c _ HL1.out).mono ?_
  rintro e w9 ⟨rfl, hb9⟩
  clear t0 t1 t2 x0 x1 x2 ht0 hx0
  go_wp2
  go_ret
  exact ⟨rfl, on hb0 hb9⟩
set_option maxRecDepth 100000 in
set_option maxHeartbeats 16000000 in
theorem turns_2 (ak an : Int) (at_ : ByteArray) (bk bn : Int) (bt : ByteArray) (w : World) (h : mayV ak an at_ = true) (h2 : mayV bk bn bt = false) (hL : CLibs w) :
    Calls Tryz.prog 6 #[.agg #[.int .i64 ak, .int .i64 an, .string at_], .agg #[.int .i64 bk, .int .i64 bn, .string bt]] w (LawEnd w) := by
  have ht0 := (CellsAt.new w [.int .i64 ak, .int .i64 an, .string at_] 23).on_alloc (.cells #[.int .i64 bk, .int .i64 bn, .string bt] 23)
  have hx0 := Lok.newAt (w0 := w.alloc (.cells #[.int .i64 ak, .int .i64 an, .string at_] 23)) (g := w.heap.size + 1) (by simp) [.int .i64 bk, .int .i64 bn, .string bt] 23
  have hb0 := below2 w (.cells #[.int .i64 ak, .int .i64 an, .string at_] 23) (.cells #[.int .i64 bk, .int .i64 bn, .string bt] 23)
  have HL := Lib.hid hL
  clear hL
  obtain ⟨t0, t1, t2, -⟩ := ht0.three
  obtain ⟨x0, x1, x2, -⟩ := hx0.three
  have H1 := Lib.hid (fun w1 => rmayv_c ak an at_ true h w1)
  have H2 := Lib.hid (fun w1 => rmayv_c bk bn bt false h2 w1)
  clear h h2
  go_enter Tryz.func6, Tryz.ntmps6
  go_wp2_with fail
  refine (H1.out _).mono ?_
  rintro e w1 ⟨rfl, hb1⟩
  clear t0 t1 t2 x0 x1 x2
  replace ht0 := ht0.on hb1
  replace hx0 := hx0.on hb1
  replace hb0 := on hb0 hb1
  clear hb1
  obtain ⟨t0, t1, t2, -⟩ := ht0.three
  obtain ⟨x0, x1, x2, -⟩ := hx0.three
  go_wp2_with fail
  refine (H2.out _).mono ?_
  rintro e w2 ⟨rfl, hb1⟩
  clear t0 t1 t2 x0 x1 x2
  replace ht0 := ht0.on hb1
  replace hx0 := hx0.on hb1
  replace hb0 := on hb0 hb1
  clear hb1
  obtain ⟨t0, t1, t2, -⟩ := ht0.three
  obtain ⟨x0, x1, x2, -⟩ := hx0.three
  have HL1 := Lib.hid (HL.out.grown hb0)
  go_wp2_with fail
  refine (alive_c _ HL1.out).mono ?_
  rintro e w9 ⟨rfl, hb9⟩
  clear t0 t1 t2 x0 x1 x2 ht0 hx0
  go_wp2
  go_ret
  exact ⟨rfl, on hb0 hb9⟩
set_option maxRecDepth 100000 in
set_option maxHeartbeats 16000000 in
theorem turns_3 (an : Int) (at_ : ByteArray) (bk bn : Int) (bt : ByteArray) (w : World) (h : mayV 4 an at_ = true) (h2 : mayV bk bn bt = true)  (hL : CLibs w) :
    Calls Tryz.prog 6 #[.agg #[.int .i64 4, .int .i64 an, .string at_], .agg #[.int .i64 bk, .int .i64 bn, .string bt]] w (LawEnd w) := by
  have ht0 := (CellsAt.new w [.int .i64 4, .int .i64 an, .string at_] 23).on_alloc (.cells #[.int .i64 bk, .int .i64 bn, .string bt] 23)
  have hx0 := Lok.newAt (w0 := w.alloc (.cells #[.int .i64 4, .int .i64 an, .string at_] 23)) (g := w.heap.size + 1) (by simp) [.int .i64 bk, .int .i64 bn, .string bt] 23
  have hb0 := below2 w (.cells #[.int .i64 4, .int .i64 an, .string at_] 23) (.cells #[.int .i64 bk, .int .i64 bn, .string bt] 23)
  have HL := Lib.hid hL
  clear hL
  obtain ⟨t0, t1, t2, -⟩ := ht0.three
  obtain ⟨x0, x1, x2, -⟩ := hx0.three
  have H1 := Lib.hid (fun w1 => rmayv_c 4 an at_ true h w1)
  have H2 := Lib.hid (fun w1 => rmayv_c bk bn bt true h2 w1)
  clear h h2
  go_enter Tryz.func6, Tryz.ntmps6
  go_wp2_with fail
  refine (H1.out _).mono ?_
  rintro e w1 ⟨rfl, hb1⟩
  clear t0 t1 t2 x0 x1 x2
  replace ht0 := ht0.on hb1
  replace hx0 := hx0.on hb1
  replace hb0 := on hb0 hb1
  clear hb1
  obtain ⟨t0, t1, t2, -⟩ := ht0.three
  obtain ⟨x0, x1, x2, -⟩ := hx0.three
  go_wp2_with fail
  refine (H2.out _).mono ?_
  rintro e w2 ⟨rfl, hb1⟩
  clear t0 t1 t2 x0 x1 x2
  replace ht0 := ht0.on hb1
  replace hx0 := hx0.on hb1
  replace hb0 := on hb0 hb1
  clear hb1
  obtain ⟨t0, t1, t2, -⟩ := ht0.three
  obtain ⟨x0, x1, x2, -⟩ := hx0.three
  have HL1 := Lib.hid (HL.out.grown hb0)
  go_wp2_with fail
  refine (alive_c _ HL1.out).mono ?_
  rintro e w9 ⟨rfl, hb9⟩
  clear t0 t1 t2 x0 x1 x2 ht0 hx0
  go_wp2
  go_ret
  exact ⟨rfl, on hb0 hb9⟩
set_option maxRecDepth 100000 in
set_option maxHeartbeats 16000000 in
theorem turns_4 (ak an : Int) (at_ : ByteArray) (bn : Int) (bt : ByteArray) (w : World) (h : mayV ak an at_ = true) (h2 : mayV 4 bn bt = true) (g4 : ¬ ak = 4) (hL : CLibs w) :
    Calls Tryz.prog 6 #[.agg #[.int .i64 ak, .int .i64 an, .string at_], .agg #[.int .i64 4, .int .i64 bn, .string bt]] w (LawEnd w) := by
  have ht0 := (CellsAt.new w [.int .i64 ak, .int .i64 an, .string at_] 23).on_alloc (.cells #[.int .i64 4, .int .i64 bn, .string bt] 23)
  have hx0 := Lok.newAt (w0 := w.alloc (.cells #[.int .i64 ak, .int .i64 an, .string at_] 23)) (g := w.heap.size + 1) (by simp) [.int .i64 4, .int .i64 bn, .string bt] 23
  have hb0 := below2 w (.cells #[.int .i64 ak, .int .i64 an, .string at_] 23) (.cells #[.int .i64 4, .int .i64 bn, .string bt] 23)
  have HL := Lib.hid hL
  clear hL
  obtain ⟨t0, t1, t2, -⟩ := ht0.three
  obtain ⟨x0, x1, x2, -⟩ := hx0.three
  have q4 : (ak == 4) = false := beq_eq_false_iff_ne.2 g4
  clear g4
  have H1 := Lib.hid (fun w1 => rmayv_c ak an at_ true h w1)
  have H2 := Lib.hid (fun w1 => rmayv_c 4 bn bt true h2 w1)
  clear h h2
  go_enter Tryz.func6, Tryz.ntmps6
  go_wp2_with fail
  refine (H1.out _).mono ?_
  rintro e w1 ⟨rfl, hb1⟩
  clear t0 t1 t2 x0 x1 x2
  replace ht0 := ht0.on hb1
  replace hx0 := hx0.on hb1
  replace hb0 := on hb0 hb1
  clear hb1
  obtain ⟨t0, t1, t2, -⟩ := ht0.three
  obtain ⟨x0, x1, x2, -⟩ := hx0.three
  go_wp2_with fail
  refine (H2.out _).mono ?_
  rintro e w2 ⟨rfl, hb1⟩
  clear t0 t1 t2 x0 x1 x2
  replace ht0 := ht0.on hb1
  replace hx0 := hx0.on hb1
  replace hb0 := on hb0 hb1
  clear hb1
  obtain ⟨t0, t1, t2, -⟩ := ht0.three
  obtain ⟨x0, x1, x2, -⟩ := hx0.three
  have HL1 := Lib.hid (HL.out.grown hb0)
  go_wp2_with fail
  refine (alive_c _ HL1.out).mono ?_
  rintro e w9 ⟨rfl, hb9⟩
  clear t0 t1 t2 x0 x1 x2 ht0 hx0
  go_wp2
  go_ret
  exact ⟨rfl, on hb0 hb9⟩
end Go.Proofs.YtebjedbppiphgaaGreatDoor.Cal

/- What the reference's read and Of answer: for every value that may be. Written by wip/gen17b.py.
   What the reference's Like answers: its table, row by row: for every pattern and every text of at most a thousand bytes.
   What the program's and the reference's Hits answer, put together: one function of what is looked for and of the value; the laws' check of life. Written by wip/gen17e.py.
   The sum of the products of two tables' values, in plain lists: as the program has it (all products, then their sum) and as the reference has it (one behind the other). No function of the program is named here.
   The sum of the products: package look's number and Products. Written by wip/gen18i.py.
   The hits of any values; and the laws' check of life. Written by wip/gen18l.py.
   The laws' one: a table of one value.
   What operators answer: it may be; what turns: integers and lists alone.
   CallOperates, from what the program's Binary and Minus and alive answer. Written by wip/gen20s.py. -/
import Derived.Test.YtebjedbppiphgaaGreatDoorKop15
import Derived.Test.YtebjedbppiphgaaGreatDoorKop27
import Derived.Test.YtebjedbppiphgaaGreatDoorKop33
import Derived.Test.YtebjedbppiphgaaGreatDoorKop08
import Derived.Laws.MakeOwn
import Derived.Test.YtebjedbppiphgaaGreatDoorKop39
import Derived.Test.YtebjedbppiphgaaGreatDoorKop16
import Derived.Test.YtebjedbppiphgaaGreatDoorKop09
import Derived.Test.YtebjedbppiphgaaGreatDoorKop10
import Derived.Test.YtebjedbppiphgaaGreatDoorKop34
import Derived.Test.YtebjedbppiphgaaGreatDoorKop32
import Derived.Test.YtebjedbppiphgaaGreatDoorKop31
import Derived.Test.YtebjedbppiphgaaGreatDoorKop41
import Derived.Test.YtebjedbppiphgaaGreatDoorKop23
import Derived.Test.YtebjedbppiphgaaGreatDoorKop30
import Derived.Test.YtebjedbppiphgaaGreatDoorKop36
import Derived.Test.YtebjedbppiphgaaGreatDoorKop29
import Derived.Test.YtebjedbppiphgaaGreatDoorKop45
import Derived.Test.YtebjedbppiphgaaGreatDoorKop28
import Derived.Test.YtebjedbppiphgaaGreatDoorKop11
import Derived.BigQuiet
namespace Go.Proofs.YtebjedbppiphgaaGreatDoor.Crt
open Go.RowKit Kit Reg Dec Dig Val
/-- the memory that Of has made, ahead of its loop -/
structure OfMem (w w4 : World) : Prop where
  res : CellsAt w4 (w.heap.size + 1) [.int .i64 0, .int .i64 0, .int .i64 0, .string ⟨#[]⟩]
  words : CellsAt w4 (w.heap.size + 2) [.string ⟨#[60, 62]⟩, .string ⟨#[60, 61]⟩, .string ⟨#[62, 61]⟩, .string ⟨#[60]⟩, .string ⟨#[62]⟩, .string ⟨#[61]⟩]
  ops : CellsAt w4 (w.heap.size + 3) [.int .i64 8, .int .i64 10, .int .i64 12, .int .i64 9, .int .i64 11, .int .i64 7]
  below : Below w.heap.size w w4

theorem OfMem.start (w : World) (k : Int) (t : ByteArray) : OfMem w ((((w.alloc (.cells #[.int .i64 k, .int .i64 0, .string t] 23)).alloc (.cells #[.int .i64 0, .int .i64 0, .int .i64 0, .string ⟨#[]⟩] 233)).alloc (.cells #[.string ⟨#[60, 62]⟩, .string ⟨#[60, 61]⟩, .string ⟨#[62, 61]⟩, .string ⟨#[60]⟩, .string ⟨#[62]⟩, .string ⟨#[61]⟩] 9)).alloc (.cells #[.int .i64 8, .int .i64 10, .int .i64 12, .int .i64 9, .int .i64 11, .int .i64 7] 3)) := by
  refine ⟨(((cells_new (g := w.heap.size + 1) (by simp) [.int .i64 0, .int .i64 0, .int .i64 0, .string ⟨#[]⟩] _).on_alloc _).on_alloc _), ((cells_new (g := w.heap.size + 2) (by simp) [.string ⟨#[60, 62]⟩, .string ⟨#[60, 61]⟩, .string ⟨#[62, 61]⟩, .string ⟨#[60]⟩, .string ⟨#[62]⟩, .string ⟨#[61]⟩] _).on_alloc _), cells_new (g := w.heap.size + 3) (by simp) [.int .i64 8, .int .i64 10, .int .i64 12, .int .i64 9, .int .i64 11, .int .i64 7] _, below4 _ _ _ _ _⟩
end Go.Proofs.YtebjedbppiphgaaGreatDoor.Crt
namespace Go.Proofs.YtebjedbppiphgaaGreatDoor.Crt
open Go.RowKit Kit Reg Dec Dig
theorem infoT : (Tryz.prog.info? 4).map (fun i => (i.zero, i.size, i.bytes)) = some (some (.bool false), 1, 1) := by kernel_rfl
end Go.Proofs.YtebjedbppiphgaaGreatDoor.Crt
namespace Go.Proofs.YtebjedbppiphgaaGreatDoor.Crt
open Go.RowKit Kit Reg Dec Dig Val
/-- what a law's call answers -/
def LawEnd (w : World) : Ending → World → Prop := fun e w' => e = .returned (.bool true) ∧ Below w.heap.size w w'
theorem none_of {t : ByteArray} (h : decide (t.size = 0) = true) : t = ⟨#[]⟩ := by
  rcases empty_or t with rfl | ⟨_, hz⟩
  · rfl
  · rw [hz] at h; cases h
theorem may_ways {k n : Int} {t : ByteArray} (h : mayV k n t = true) :
    (k = 0 ∧ n = 0 ∧ t = ⟨#[]⟩) ∨ (k = 1 ∧ t = ⟨#[]⟩ ∧ mayD n = true) ∨ (k = 2 ∧ n = 0 ∧ t.size ≤ 256) ∨ (k = 3 ∧ t = ⟨#[]⟩ ∧ (n = 0 ∨ n = 1)) ∨ (k = 4 ∧ t = ⟨#[]⟩) := by
  unfold mayV at h
  simp only [Bool.or_eq_true, Bool.and_eq_true] at h
  rcases h with (((⟨⟨h1, h2⟩, h3⟩ | ⟨⟨h1, h2⟩, h3⟩) | ⟨⟨h1, h2⟩, h3⟩) | ⟨⟨h1, h2⟩, h3⟩) | ⟨⟨⟨h1, h2⟩, h3⟩, h4⟩
  · exact .inl ⟨of_decide_eq_true h1, of_decide_eq_true h3, none_of h2⟩
  · exact .inr (.inl ⟨of_decide_eq_true h1, none_of h2, h3⟩)
  · exact .inr (.inr (.inl ⟨of_decide_eq_true h1, of_decide_eq_true h2, of_decide_eq_true h3⟩))
  · exact .inr (.inr (.inr (.inl ⟨of_decide_eq_true h1, none_of h2, h3.imp of_decide_eq_true of_decide_eq_true⟩)))
  · exact .inr (.inr (.inr (.inr ⟨of_decide_eq_true h1, none_of h2⟩)))
end Go.Proofs.YtebjedbppiphgaaGreatDoor.Crt
namespace Go.Proofs.YtebjedbppiphgaaGreatDoor.Lok
open Dec Dig Val Fld
/-- the number as which a value counts, and the product of two -/
def numN (v : Vl) : Int := if v.k = 1 then v.n else 0
theorem scaled_zero {a : Int} (h : -9223372036854775807 ≤ a) : scaledD a 0 10000 = (0, true) := by
  have hr : roundN (a.natAbs * (0 : Int).natAbs) (10000 : Int).natAbs = 0 := by
    show roundN (a.natAbs * 0) 10000 = 0
    rw [Nat.mul_zero]
    rfl
  rw [scaledD_in h (by omega) (by omega) (by omega) hr (by omega)]
  unfold signed
  split <;> rfl
end Go.Proofs.YtebjedbppiphgaaGreatDoor.Lok
namespace Go.Proofs.YtebjedbppiphgaaGreatDoor.Lok
open Go.RowKit Kit Reg Dec Dig Val Fld
/-- a new slice of one value -/
def NewV (cs : List Value) (v : Value) (w : World) : Prop := ∃ b, v = .slice (some ⟨b, 0, none⟩) 1 1 ∧ CellsAt w b cs
theorem NewV.up {cs : List Value} {v : Value} {w : World} (h : Up (NewV cs v) w) : NewV cs v w := by
  obtain ⟨w1, ⟨b, e, h1⟩, hb⟩ := h
  exact ⟨b, e, h1.on hb⟩
end Go.Proofs.YtebjedbppiphgaaGreatDoor.Lok
namespace Go.Proofs.YtebjedbppiphgaaGreatDoor.Lok
open Go.RowKit Kit Reg Dec Dig Val Fld
open Crt (CLibs LawEnd)
/-- a block that holds the cells of values reads as them -/
theorem vals_of_cells {w : World} {b n : Nat} {L : List Vl} (h : CellsAt w b (flatV L)) (hl : L.length = n) (hn : n ≤ 1000) (hf : ∀ v ∈ L, v.fits) : ValsR w (some ⟨b, 0, none⟩) n L :=
  ⟨hl, hn, hf, fun _ => ⟨b, 0, rfl, h.1, fun k v hk j x hj => by
    rw [Nat.zero_add]
    exact (h.2 _ x (flatV_at L k v hk j x hj)).1⟩⟩
end Go.Proofs.YtebjedbppiphgaaGreatDoor.Lok
namespace Go.Proofs.YtebjedbppiphgaaGreatDoor.Cal
open Go.RowKit Kit Reg Dec Dig Val Fld
set_option maxRecDepth 100000 in
set_option maxHeartbeats 2000000 in
theorem one_c (xk xn : Int) (xt : ByteArray) (hx : (⟨xk, xn, xt⟩ : Vl).fits) (w : World) :
    Calls Tryz.prog 25 #[.agg #[.int .i64 xk, .int .i64 xn, .string xt]] w fun e w' => ∃ g, w.heap.size ≤ g ∧ e = .returned (.agg #[.int .i64 1, .int .i64 1, .slice (some ⟨g, 0, none⟩) 1 1]) ∧ ValsR w' (some ⟨g, 0, none⟩) 1 [⟨xk, xn, xt⟩] ∧ Below w.heap.size w w' := by
  go_enter Tryz.func25, Tryz.ntmps25
  go_wp2_with fail
  have hb := on_alloc (below2 w (.cells #[.int .i64 xk, .int .i64 xn, .string xt] 23) (.cells #[.int .i64 1, .int .i64 1, .slice (some ⟨w.heap.size + 1 + 1, 0, none⟩) 1 1] 33)) (.cells #[.int .i64 xk, .int .i64 xn, .string xt] 23)
  have h2 := (CellsAt.new (w.alloc (.cells #[.int .i64 xk, .int .i64 xn, .string xt] 23)) [.int .i64 1, .int .i64 1, .slice (some ⟨w.heap.size + 1 + 1, 0, none⟩) 1 1] 33).on_alloc (.cells #[.int .i64 xk, .int .i64 xn, .string xt] 23)
  have h3 := CellsAt.new ((w.alloc (.cells #[.int .i64 xk, .int .i64 xn, .string xt] 23)).alloc (.cells #[.int .i64 1, .int .i64 1, .slice (some ⟨w.heap.size + 1 + 1, 0, none⟩) 1 1] 33)) [.int .i64 xk, .int .i64 xn, .string xt] 23
  rw [show (w.alloc (.cells #[.int .i64 xk, .int .i64 xn, .string xt] 23)).heap.size = w.heap.size + 1 by simp] at h2
  rw [show ((w.alloc (.cells #[.int .i64 xk, .int .i64 xn, .string xt] 23)).alloc (.cells #[.int .i64 1, .int .i64 1, .slice (some ⟨w.heap.size + 1 + 1, 0, none⟩) 1 1] 33)).heap.size = w.heap.size + 1 + 1 by simp] at h3
  generalize (((w.alloc (.cells #[.int .i64 xk, .int .i64 xn, .string xt] 23)).alloc (.cells #[.int .i64 1, .int .i64 1, .slice (some ⟨w.heap.size + 1 + 1, 0, none⟩) 1 1] 33)).alloc (.cells #[.int .i64 xk, .int .i64 xn, .string xt] 23)) = W at *
  obtain ⟨z0, z1, z2, -⟩ := h2.three
  have hv : ValsR W (some ⟨w.heap.size + 1 + 1, 0, none⟩) 1 [⟨xk, xn, xt⟩] := Lok.vals_of_cells (L := [⟨xk, xn, xt⟩]) h3 rfl (by decide) (fun v hv => by rw [List.mem_singleton.1 hv]; exact hx)
  exact bodyPost_ret (v := .agg #[.int .i64 1, .int .i64 1, .slice (some ⟨w.heap.size + 1 + 1, 0, none⟩) 1 1]) (by simp [results, Tryz.results25, go_sem, z0, z1, z2]) rfl ⟨_, by omega, rfl, hv, hb⟩
end Go.Proofs.YtebjedbppiphgaaGreatDoor.Cal
namespace Go.Proofs.YtebjedbppiphgaaGreatDoor.Cal
open Go.RowKit Kit Dec Dig Val Fld
theorem opV_may (op x y : Int) : (opV op x y).may := by
  unfold opV
  split
  · exact gV_may _
  split
  · exact gV_may _
  split
  · exact gV_may _
  split
  · split
    · exact (fV_ok (by decide) (by decide)).1
    · exact gV_may _
  · exact gV_may _
theorem roomD_len (l : List UInt8) : (Txt.roomD l).1.length ≤ 256 := Txt.room_len (m := (Txt.roomD l).1) (b := (Txt.roomD l).2) rfl
theorem binV_may (op : Int) {a b : Vl} (ha : Ok a) (hb : Ok b) : (binV op a b).may := by
  unfold binV
  split
  · exact (fV_ok (by decide) (by decide)).1
  split
  · exact (take_ok _ ha).1
  split
  · exact (take_ok _ hb).1
  unfold takenV
  split
  · exact opV_may _ _ _
  split
  · exact (tV_ok _ (roomD_len _)).1
  · exact (bV_ok _).1
end Go.Proofs.YtebjedbppiphgaaGreatDoor.Cal
namespace Go.Proofs.YtebjedbppiphgaaGreatDoor.Cal
open Go.RowKit Kit Reg Dec Dig Val Fld
open Crt (CLibs)
def LawEnd (w : World) : Ending → World → Prop := fun e w' => e = .returned (.bool true) ∧ Below w.heap.size w w'

set_option maxRecDepth 100000 in
set_option maxHeartbeats 8000000 in
theorem operates_1 (op ak an : Int) (at_ : ByteArray) (bk bn : Int) (bt : ByteArray) (w : World) (h : mayV ak an at_ = false) (HA : ∀ w1, CLibs w1 → Calls Tryz.prog 8 #[] w1 (LawEnd w1)) (hL : CLibs w) :
    Calls Tryz.prog 3 #[.int .i64 op, .agg #[.int .i64 ak, .int .i64 an, .string at_], .agg #[.int .i64 bk, .int .i64 bn, .string bt]] w (LawEnd w) := by
  have HA := Lib.hid HA
  have HL := Lib.hid hL
  have ht0 := (CellsAt.new w [.int .i64 ak, .int .i64 an, .string at_] 23).on_alloc (.cells #[.int .i64 bk, .int .i64 bn, .string bt] 23)
  have hx0 := Lok.newAt (w0 := w.alloc (.cells #[.int .i64 ak, .int .i64 an, .string at_] 23)) (g := w.heap.size + 1) (by simp) [.int .i64 bk, .int .i64 bn, .string bt] 23
  have hb0 := below2 w (.cells #[.int .i64 ak, .int .i64 an, .string at_] 23) (.cells #[.int .i64 bk, .int .i64 bn, .string bt] 23)
  have H1 := Lib.hid (fun w1 => rmayv_c ak an at_ false h w1)
  clear h
  clear hL
  obtain ⟨t0, t1, t2, -⟩ := ht0.three
  obtain ⟨x0, x1, x2, -⟩ := hx0.three
  go_enter Tryz.func3, Tryz.ntmps3
  go_wp2_with fail
  refine (H1.out _).mono ?_
  rintro e w1 ⟨rfl, hb1⟩
  clear t0 t1 t2 x0 x1 x2
  replace ht0 := ht0.on hb1
  replace hx0 := hx0.on hb1
  replace hb0 := on hb0 hb1
  clear hb1
  obtain ⟨t0, t1, t2, -⟩ := ht0.three
  obtain ⟨x0, x1, x2, -⟩ := hx0.three
  have HL1 := Lib.hid (HL.out.grown hb0)
  go_wp2_with fail
  refine (HA.out _ HL1.out).mono ?_
  rintro e w9 ⟨rfl, hb9⟩
  clear t0 t1 t2 x0 x1 x2 ht0 hx0
  go_wp2
  go_ret
  exact ⟨rfl, on hb0 hb9⟩
set_option maxRecDepth 100000 in
set_option maxHeartbeats 8000000 in
theorem operates_2 (op ak an : Int) (at_ : ByteArray) (bk bn : Int) (bt : ByteArray) (w : World) (h : mayV ak an at_ = true) (h2 : mayV bk bn bt = false) (HA : ∀ w1, CLibs w1 → Calls Tryz.prog 8 #[] w1 (LawEnd w1)) (hL : CLibs w) :
    Calls Tryz.prog 3 #[.int .i64 op, .agg #[.int .i64 ak, .int .i64 an, .string at_], .agg #[.int .i64 bk, .int .i64 bn, .string bt]] w (LawEnd w) := by
  have HA := Lib.hid HA
  have HL := Lib.hid hL
  have ht0 := (CellsAt.new w [.int .i64 ak, .int .i64 an, .string at_] 23).on_alloc (.cells #[.int .i64 bk, .int .i64 bn, .string bt] 23)
  have hx0 := Lok.newAt (w0 := w.alloc (.cells #[.int .i64 ak, .int .i64 an, .string at_] 23)) (g := w.heap.size + 1) (by simp) [.int .i64 bk, .int .i64 bn, .string bt] 23
  have hb0 := below2 w (.cells #[.int .i64 ak, .int .i64 an, .string at_] 23) (.cells #[.int .i64 bk, .int .i64 bn, .string bt] 23)
  have H1 := Lib.hid (fun w1 => rmayv_c ak an at_ true h w1)
  have H2 := Lib.hid (fun w1 => rmayv_c bk bn bt false h2 w1)
  clear h h2
  clear hL
  obtain ⟨t0, t1, t2, -⟩ := ht0.three
  obtain ⟨x0, x1, x2, -⟩ := hx0.three
  go_enter Tryz.func3, Tryz.ntmps3
  go_wp2_with fail
  refine (H1.out _).mono ?_
  rintro e w1 ⟨rfl, hb1⟩
  clear t0 t1 t2 x0 x1 x2
  replace ht0 := ht0.on hb1
  replace hx0 := hx0.on hb1
  replace hb0 := on hb0 hb1
  clear hb1
  obtain ⟨t0, t1, t2, -⟩ := ht0.three
  obtain ⟨x0, x1, x2, -⟩ := hx0.three
  go_wp2_with fail
  refine (H2.out _).mono ?_
  rintro e w2 ⟨rfl, hb1⟩
  clear t0 t1 t2 x0 x1 x2
  replace ht0 := ht0.on hb1
  replace hx0 := hx0.on hb1
  replace hb0 := on hb0 hb1
  clear hb1
  obtain ⟨t0, t1, t2, -⟩ := ht0.three
  obtain ⟨x0, x1, x2, -⟩ := hx0.three
  have HL1 := Lib.hid (HL.out.grown hb0)
  go_wp2_with fail
  refine (HA.out _ HL1.out).mono ?_
  rintro e w9 ⟨rfl, hb9⟩
  clear t0 t1 t2 x0 x1 x2 ht0 hx0
  go_wp2
  go_ret
  exact ⟨rfl, on hb0 hb9⟩
set_option maxRecDepth 100000 in
set_option maxHeartbeats 8000000 in
theorem operates_3 (op ak an : Int) (at_ : ByteArray) (bk bn : Int) (bt : ByteArray) (vk vn : Int) (vt : ByteArray) (mk mn : Int) (mt : ByteArray) (w : World) (h : mayV ak an at_ = true) (h2 : mayV bk bn bt = true) (h3 : mayV vk vn vt = true)
    (HPB : ∀ w1, CLibs w1 → Calls Tryz.prog 9 #[.int .i64 op, .agg #[.int .i64 ak, .int .i64 an, .string at_], .agg #[.int .i64 bk, .int .i64 bn, .string bt]] w1 (ValIs vk vn vt w1)) (HRB : ∀ w1, Calls Tryz.prog 10 #[.int .i64 op, .agg #[.int .i64 ak, .int .i64 an, .string at_], .agg #[.int .i64 bk, .int .i64 bn, .string bt]] w1 (ValIs vk vn vt w1))
    (HPM : ∀ w1, CLibs w1 → Calls Tryz.prog 11 #[.agg #[.int .i64 ak, .int .i64 an, .string at_]] w1 (ValIs mk mn mt w1)) (HRM : ∀ w1, Calls Tryz.prog 12 #[.agg #[.int .i64 ak, .int .i64 an, .string at_]] w1 (ValIs mk mn mt w1)) (HA : ∀ w1, CLibs w1 → Calls Tryz.prog 8 #[] w1 (LawEnd w1)) (hL : CLibs w) :
    Calls Tryz.prog 3 #[.int .i64 op, .agg #[.int .i64 ak, .int .i64 an, .string at_], .agg #[.int .i64 bk, .int .i64 bn, .string bt]] w (LawEnd w) := by
  have HA := Lib.hid HA
  have HL := Lib.hid hL
  have ht0 := (CellsAt.new w [.int .i64 ak, .int .i64 an, .string at_] 23).on_alloc (.cells #[.int .i64 bk, .int .i64 bn, .string bt] 23)
  have hx0 := Lok.newAt (w0 := w.alloc (.cells #[.int .i64 ak, .int .i64 an, .string at_] 23)) (g := w.heap.size + 1) (by simp) [.int .i64 bk, .int .i64 bn, .string bt] 23
  have hb0 := below2 w (.cells #[.int .i64 ak, .int .i64 an, .string at_] 23) (.cells #[.int .i64 bk, .int .i64 bn, .string bt] 23)
  have H1 := Lib.hid (fun w1 => rmayv_c ak an at_ true h w1)
  have H2 := Lib.hid (fun w1 => rmayv_c bk bn bt true h2 w1)
  have H3 := Lib.hid (fun w1 => mayv_c vk vn vt true h3 w1)
  have HPB := Lib.hid HPB
  have HRB := Lib.hid HRB
  have HPM := Lib.hid HPM
  have HRM := Lib.hid HRM
  clear h h2 h3
  clear hL
  obtain ⟨t0, t1, t2, -⟩ := ht0.three
  obtain ⟨x0, x1, x2, -⟩ := hx0.three
  go_enter Tryz.func3, Tryz.ntmps3
  go_wp2_with fail
  refine (H1.out _).mono ?_
  rintro e w1 ⟨rfl, hb1⟩
  clear t0 t1 t2 x0 x1 x2
  replace ht0 := ht0.on hb1
  replace hx0 := hx0.on hb1
  replace hb0 := on hb0 hb1
  clear hb1
  obtain ⟨t0, t1, t2, -⟩ := ht0.three
  obtain ⟨x0, x1, x2, -⟩ := hx0.three
  go_wp2_with fail
  refine (H2.out _).mono ?_
  rintro e w2 ⟨rfl, hb1⟩
  clear t0 t1 t2 x0 x1 x2
  replace ht0 := ht0.on hb1
  replace hx0 := hx0.on hb1
  replace hb0 := on hb0 hb1
  clear hb1
  obtain ⟨t0, t1, t2, -⟩ := ht0.three
  obtain ⟨x0, x1, x2, -⟩ := hx0.three
  have HL1 := Lib.hid (HL.out.grown hb0)
  go_wp2_with fail
  refine (HPB.out _ HL1.out).mono ?_
  rintro e w3 ⟨rfl, hb1⟩
  clear t0 t1 t2 x0 x1 x2
  replace ht0 := ht0.on hb1
  replace hx0 := hx0.on hb1
  replace hb0 := on hb0 hb1
  clear hb1
  obtain ⟨t0, t1, t2, -⟩ := ht0.three
  obtain ⟨x0, x1, x2, -⟩ := hx0.three
  have hv0 := CellsAt.new w3 [.int .i64 vk, .int .i64 vn, .string vt] 23
  replace ht0 := ht0.on_alloc (.cells #[.int .i64 vk, .int .i64 vn, .string vt] 23)
  replace hx0 := hx0.on_alloc (.cells #[.int .i64 vk, .int .i64 vn, .string vt] 23)
  replace hb0 := on_alloc hb0 (.cells #[.int .i64 vk, .int .i64 vn, .string vt] 23)
  clear t0 t1 t2 x0 x1 x2
  obtain ⟨t0, t1, t2, -⟩ := ht0.three
  obtain ⟨x0, x1, x2, -⟩ := hx0.three
  obtain ⟨v0, v1, v2, -⟩ := hv0.three
  clear HL1
  have HL1 := Lib.hid (HL.out.grown hb0)
  clear HPB
  go_wp2_with fail
  generalize w3.alloc (.cells #[.int .i64 vk, .int .i64 vn, .string vt] 23) = W5 at *
  have T0 := fun d os => cell_regrown t0 d os
  have T1 := fun d os => cell_regrown t1 d os
  have T2 := fun d os => cell_regrown t2 d os
  have X0 := fun d os => cell_regrown x0 d os
  have X1 := fun d os => cell_regrown x1 d os
  have X2 := fun d os => cell_regrown x2 d os
  have V0 := fun d os => cell_regrown v0 d os
  have V1 := fun d os => cell_regrown v1 d os
  have V2 := fun d os => cell_regrown v2 d os
  clear t0 t1 t2 x0 x1 x2 v0 v1 v2
  refine wp_region_mem 21 (fun d => match d with
    | 25 => some (Is (.agg #[.int .i64 vk, .int .i64 vn, .string vt]))
    | 29 => some (Is (.agg #[.int .i64 mk, .int .i64 mn, .string mt]))
    | 31 => some (Is (.agg #[.int .i64 mk, .int .i64 mn, .string mt]))
    | 36 => some (Is (.bool true))
    | 39 => some (Is (.bool true))
    | _ => none) (by kernel_rfl) (by kernel_rfl) ?_
  simp only [List.take_succ_cons, List.take_zero, List.drop_succ_cons, List.drop_zero]
  repeat (first | ((with_reducible refine wpM_calm ?_ ?_ ?_ ?_); exact rfl; exact rfl; exact rfl; intro K hK; go_big_quiet_op; go_big_quiet_on) | ((with_reducible refine wpM_skip ?_ ?_); exact rfl; simp only [Act.put, List.setIfInBounds_toArray, List.set_cons_succ, List.set_cons_zero]))
  refine wpM_exact rfl rfl rfl Tryz.func10 (by kernel_rfl) (by kernel_rfl) (fun w1 _ _ => HRB.out w1) rfl (by simp only [Act.put, List.setIfInBounds_toArray, List.set_cons_succ, List.set_cons_zero]; rfl) ?_
  repeat (first | ((with_reducible refine wpM_calm ?_ ?_ ?_ ?_); exact rfl; exact rfl; exact rfl; intro K hK; go_big_quiet_op; go_big_quiet_on) | ((with_reducible refine wpM_skip ?_ ?_); exact rfl; simp only [Act.put, List.setIfInBounds_toArray, List.set_cons_succ, List.set_cons_zero]))
  refine wpM_exact rfl rfl rfl Tryz.func11 (by kernel_rfl) (by kernel_rfl) (fun w1 hw1 _ => HPM.out w1 (HL.out.grown (on hb0 hw1))) rfl (by simp only [Act.put, List.setIfInBounds_toArray, List.set_cons_succ, List.set_cons_zero]; rfl) ?_
  repeat (first | ((with_reducible refine wpM_calm ?_ ?_ ?_ ?_); exact rfl; exact rfl; exact rfl; intro K hK; go_big_quiet_op; go_big_quiet_on) | ((with_reducible refine wpM_skip ?_ ?_); exact rfl; simp only [Act.put, List.setIfInBounds_toArray, List.set_cons_succ, List.set_cons_zero]))
  refine wpM_exact rfl rfl rfl Tryz.func12 (by kernel_rfl) (by kernel_rfl) (fun w1 _ _ => HRM.out w1) rfl (by simp only [Act.put, List.setIfInBounds_toArray, List.set_cons_succ, List.set_cons_zero]; rfl) ?_
  repeat (first | ((with_reducible refine wpM_calm ?_ ?_ ?_ ?_); exact rfl; exact rfl; exact rfl; intro K hK; go_big_quiet_op; go_big_quiet_on) | ((with_reducible refine wpM_skip ?_ ?_); exact rfl; simp only [Act.put, List.setIfInBounds_toArray, List.set_cons_succ, List.set_cons_zero]))
  refine wpM_exact rfl rfl rfl Tryz.func13 (by kernel_rfl) (by kernel_rfl) (fun w1 _ _ => H3.out w1) rfl (by simp only [Act.put, List.setIfInBounds_toArray, List.set_cons_succ, List.set_cons_zero]; rfl) ?_
  repeat (first | ((with_reducible refine wpM_calm ?_ ?_ ?_ ?_); exact rfl; exact rfl; exact rfl; intro K hK; go_big_quiet_op; go_big_quiet_on) | ((with_reducible refine wpM_skip ?_ ?_); exact rfl; simp only [Act.put, List.setIfInBounds_toArray, List.set_cons_succ, List.set_cons_zero]))
  refine wpM_exact rfl rfl rfl Tryz.func8 (by kernel_rfl) (by kernel_rfl) (fun w1 hw1 _ => HA.out w1 (HL.out.grown (on hb0 hw1))) rfl (by simp only [Act.put, List.setIfInBounds_toArray, List.set_cons_succ, List.set_cons_zero]; rfl) ?_
  repeat (first | ((with_reducible refine wpM_calm ?_ ?_ ?_ ?_); exact rfl; exact rfl; exact rfl; intro K hK; go_big_quiet_op; go_big_quiet_on) | ((with_reducible refine wpM_skip ?_ ?_); exact rfl; simp only [Act.put, List.setIfInBounds_toArray, List.set_cons_succ, List.set_cons_zero]))
  refine wpM_nil ?_
  intro w6 hw6 _
  clear T0 T1 T2 X0 X1 X2 V0 V1 V2
  go_wp2
  go_ret
  exact ⟨rfl, on hb0 hw6⟩
theorem operates_law (op : Int) (a b : Vl) (fa : a.fits) (fb : b.fits) (w : World)
    (HPB : Ok a → Ok b → ∀ w1, CLibs w1 → Calls Tryz.prog 9 #[.int .i64 op, .agg #[.int .i64 a.k, .int .i64 a.n, .string a.t], .agg #[.int .i64 b.k, .int .i64 b.n, .string b.t]] w1 (IsV (binV op a b) w1))
    (HPM : Ok a → ∀ w1, CLibs w1 → Calls Tryz.prog 11 #[.agg #[.int .i64 a.k, .int .i64 a.n, .string a.t]] w1 (IsV (minV a) w1))
    (HA : ∀ w1, CLibs w1 → Calls Tryz.prog 8 #[] w1 (LawEnd w1)) (hL : CLibs w) :
    Calls Tryz.prog 3 #[.int .i64 op, .agg #[.int .i64 a.k, .int .i64 a.n, .string a.t], .agg #[.int .i64 b.k, .int .i64 b.n, .string b.t]] w (LawEnd w) := by
  cases h : mayV a.k a.n a.t
  · exact operates_1 op a.k a.n a.t b.k b.n b.t w h HA hL
  · cases h2 : mayV b.k b.n b.t
    · exact operates_2 op a.k a.n a.t b.k b.n b.t w h h2 HA hL
    · have oa : Ok a := ⟨h, fa⟩
      have ob : Ok b := ⟨h2, fb⟩
      exact operates_3 op a.k a.n a.t b.k b.n b.t (binV op a b).k (binV op a b).n (binV op a b).t (minV a).k (minV a).n (minV a).t w h h2 (binV_may op oa ob) (HPB oa ob) (fun w1 => rbin_c op a b oa ob w1) (HPM oa) (fun w1 => rminus_c a oa w1) HA hL
end Go.Proofs.YtebjedbppiphgaaGreatDoor.Cal

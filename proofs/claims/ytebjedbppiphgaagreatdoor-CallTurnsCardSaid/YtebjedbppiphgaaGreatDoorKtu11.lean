/- What package value's small functions answer: FaultText, Bad, Num, Str, Bool, Got: for every input.
   What package value's May answers: for every value. Written by wip/genval1.py.
   What strconv.Itoa answers, at every int. Its condition: the library's table of powers of ten reads as it is laid.
   What strconv.Atoi answers, at every text of at most 2^48 bytes: the number, or an error that is not nil. Its condition: the library's two sentinels hold values of an interface. -/
import Derived.Test.YtebjedbppiphgaaGreatDoorKtu09
import Derived.Test.YtebjedbppiphgaaGreatDoorKtu10
import Derived.StillTail
import Derived.Lib.QuietBelow
import Derived.Deep.QuietTactic
import Derived.BigQuiet
import Derived.Test.YtebjedbppiphgaaGreatDoorKtu03
import Derived.Test.YtebjedbppiphgaaGreatDoorKtu05
import Derived.WalkSmall
import Derived.WalkKit
import Derived.Lib.AtoiErrMem
namespace Go.Proofs.YtebjedbppiphgaaGreatDoor.Val
open Go.RowKit Kit Dec Dig
/-- one value -/
def ValIs (k n : Int) (s : ByteArray) (w : World) : Ending → World → Prop := fun e w' => e = .returned (.agg #[.int .i64 k, .int .i64 n, .string s]) ∧ Below w.heap.size w w'
/-- the result's own memory, made behind the box of an argument -/
theorem slot2 {w w' : World} {o : Obj} {cs : List Value} {ty : TypeId} (hb : Below ((w.alloc o).alloc (.cells cs.toArray ty)).heap.size ((w.alloc o).alloc (.cells cs.toArray ty)) w') :
    CellsAt w' (w.heap.size + 1) cs ∧ Below w.heap.size w w' := by
  obtain ⟨h1, h2⟩ := slot hb
  have e : (w.alloc o).heap.size = w.heap.size + 1 := by simp
  rw [e] at h1
  exact ⟨h1, on (below1 w o) h2⟩
theorem codes (c : Int) : (c < 1 ∨ 7 < c) ∨ c = 1 ∨ c = 2 ∨ c = 3 ∨ c = 4 ∨ c = 5 ∨ c = 6 ∨ c = 7 := by omega
set_option maxRecDepth 100000 in
set_option maxHeartbeats 1000000 in
theorem fault_c (c : Int) (w : World) : Calls Tryz.prog 76 #[.int .i64 c] w fun e w' => e = .returned (.string ⟨(faultL c).toArray⟩) ∧ w = w' := by
  rcases codes c with h | rfl | rfl | rfl | rfl | rfl | rfl | rfl
  · have h1 : (c == 1) = false := by simp; omega
    have h2 : (c == 2) = false := by simp; omega
    have h3 : (c == 3) = false := by simp; omega
    have h4 : (c == 4) = false := by simp; omega
    have h5 : (c == 5) = false := by simp; omega
    have h6 : (c == 6) = false := by simp; omega
    have h7 : (c == 7) = false := by simp; omega
    rw [fault_out h]
    clear h
    go_enter Tryz.func76, Tryz.ntmps76
    go_wp2
    go_ret
    exact ⟨rfl, rfl⟩
  all_goals
    go_enter Tryz.func76, Tryz.ntmps76
    go_wp2
    go_ret
    exact ⟨rfl, rfl⟩
set_option maxRecDepth 100000 in
set_option maxHeartbeats 1000000 in
theorem bad_c (c : Int) (w : World) : Calls Tryz.prog 26 #[.int .i64 c] w (ValIs 4 (badV c) ⟨#[]⟩ w) := by
  have HF := Lib.hid (fun w1 => fault_c c w1)
  rcases codes c with h | rfl | rfl | rfl | rfl | rfl | rfl | rfl
  · rw [fault_out h] at HF
    rw [bad_out h]
    clear h
    go_enter Tryz.func26, Tryz.ntmps26
    go_wp2_with (go_at_call 76; refine (HF.out _).mono ?_; rintro e w' ⟨rfl, rfl⟩)
    exact bodyPost_ret (v := .agg #[.int .i64 4, .int .i64 2, .string ⟨#[]⟩]) (by simp [results, Tryz.results26, go_sem]) rfl ⟨rfl, below1 _ _⟩
  all_goals
    rw [bad_in (by omega) (by omega)]
    simp only [faultL, Int.reduceEq, if_true, if_false] at HF
    go_enter Tryz.func26, Tryz.ntmps26
    go_wp2_with (go_at_call 76; refine (HF.out _).mono ?_; rintro e w' ⟨rfl, rfl⟩)
    exact bodyPost_ret (by simp [results, Tryz.results26, go_sem]) rfl ⟨rfl, below1 _ _⟩
set_option maxRecDepth 100000 in
set_option maxHeartbeats 400000 in
theorem num_in_c (x : Int) (h : mayD x = true) (w : World) : Calls Tryz.prog 23 #[.int .i64 x] w (ValIs 1 x ⟨#[]⟩ w) := by
  have HM := Lib.hid (fun w1 => may_c x true h w1)
  clear h
  go_enter Tryz.func23, Tryz.ntmps23
  go_wp2_with (go_at_call 75; refine (HM.out _).mono ?_; rintro e w' ⟨rfl, rfl⟩)
  exact bodyPost_ret (v := .agg #[.int .i64 1, .int .i64 x, .string ⟨#[]⟩]) (by simp [results, Tryz.results23, go_sem]) rfl ⟨rfl, below1 _ _⟩
set_option maxRecDepth 100000 in
set_option maxHeartbeats 400000 in
theorem num_out_c (x : Int) (h : mayD x = false) (w : World) : Calls Tryz.prog 23 #[.int .i64 x] w (ValIs 4 4 ⟨#[]⟩ w) := by
  have HM := Lib.hid (fun w1 => may_c x false h w1)
  have HB := Lib.hid (fun w1 => bad_c 4 w1)
  rw [bad_in (by omega) (by omega)] at HB
  clear h
  go_enter Tryz.func23, Tryz.ntmps23
  go_wp2_with (go_at_call 75; refine (HM.out _).mono ?_; rintro e w' ⟨rfl, rfl⟩)
  refine (HB.out _).mono ?_
  rintro e w1 ⟨rfl, hb⟩
  obtain ⟨hA, hb1⟩ := slot hb
  obtain ⟨p0, p1, p2, q0, q1, q2⟩ := hA.three
  obtain ⟨z0, z1, z2⟩ := three_set (u := .int .i64 4) (v := .int .i64 4) (r := .string ⟨#[]⟩) p0 p1 p2
  have hb2 := set3 hb1 (Nat.le_refl _) (.int .i64 4) (.int .i64 4) (.string ⟨#[]⟩)
  clear hA hb hb1
  go_wp2
  exact bodyPost_ret (v := .agg #[.int .i64 4, .int .i64 4, .string ⟨#[]⟩]) (by simp [results, Tryz.results23, go_sem, z0, z1, z2]) rfl ⟨rfl, hb2⟩
theorem num_c (x k n : Int) (h : numV x = (k, n)) (w : World) : Calls Tryz.prog 23 #[.int .i64 x] w (ValIs k n ⟨#[]⟩ w) := by
  cases hm : mayD x
  · obtain ⟨rfl, rfl⟩ := Prod.mk.inj ((num_out hm).symm.trans h); exact num_out_c x hm w
  · obtain ⟨rfl, rfl⟩ := Prod.mk.inj ((num_in hm).symm.trans h); exact num_in_c x hm w
set_option maxRecDepth 100000 in
set_option maxHeartbeats 400000 in
theorem str_in_c (t : ByteArray) (h : t.size ≤ 256) (w : World) : Calls Tryz.prog 24 #[.string t] w (ValIs 2 0 t w) := by
  have d0 : decide (256 < t.size) = false := decide_eq_false (by omega)
  go_enter Tryz.func24, Tryz.ntmps24
  go_wp2
  exact bodyPost_ret (v := .agg #[.int .i64 2, .int .i64 0, .string t]) (by simp [results, Tryz.results24, go_sem]) rfl ⟨rfl, below1 _ _⟩
set_option maxRecDepth 100000 in
set_option maxHeartbeats 400000 in
theorem str_out_c (t : ByteArray) (h : 256 < t.size) (w : World) : Calls Tryz.prog 24 #[.string t] w (ValIs 4 2 ⟨#[]⟩ w) := by
  have d0 : decide (256 < t.size) = true := decide_eq_true h
  have HB := Lib.hid (fun w1 => bad_c 2 w1)
  rw [bad_in (by omega) (by omega)] at HB
  go_enter Tryz.func24, Tryz.ntmps24
  go_wp2_with fail
  refine (HB.out _).mono ?_
  rintro e w1 ⟨rfl, hb⟩
  obtain ⟨hA, hb1⟩ := slot hb
  obtain ⟨p0, p1, p2, q0, q1, q2⟩ := hA.three
  obtain ⟨z0, z1, z2⟩ := three_set (u := .int .i64 4) (v := .int .i64 2) (r := .string ⟨#[]⟩) p0 p1 p2
  have hb2 := set3 hb1 (Nat.le_refl _) (.int .i64 4) (.int .i64 2) (.string ⟨#[]⟩)
  clear hA hb hb1
  go_wp2
  exact bodyPost_ret (v := .agg #[.int .i64 4, .int .i64 2, .string ⟨#[]⟩]) (by simp [results, Tryz.results24, go_sem, z0, z1, z2]) rfl ⟨rfl, hb2⟩
theorem str_c (t : ByteArray) (k n : Int) (s : ByteArray) (h : strV t = (k, n, s)) (w : World) : Calls Tryz.prog 24 #[.string t] w (ValIs k n s w) := by
  by_cases hm : t.size ≤ 256
  · obtain ⟨rfl, h2⟩ := Prod.mk.inj ((str_in hm).symm.trans h); obtain ⟨rfl, rfl⟩ := Prod.mk.inj h2; exact str_in_c t hm w
  · obtain ⟨rfl, h2⟩ := Prod.mk.inj ((str_out (by omega)).symm.trans h); obtain ⟨rfl, rfl⟩ := Prod.mk.inj h2; exact str_out_c t (by omega) w
set_option maxRecDepth 100000 in
set_option maxHeartbeats 400000 in
theorem bool_c (b : Bool) (w : World) : Calls Tryz.prog 27 #[.bool b] w (ValIs 3 (if b then 1 else 0) ⟨#[]⟩ w) := by
  cases b
  all_goals
    go_enter Tryz.func27, Tryz.ntmps27
    go_wp2
    exact bodyPost_ret (by simp [results, Tryz.results27, go_sem]) rfl ⟨rfl, below1 _ _⟩
/-- a number, or that there is none -/
def gotV (x : Int) (b : Bool) : Int × Int := if b then numV x else (4, 4)
set_option maxRecDepth 100000 in
set_option maxHeartbeats 400000 in
theorem got_c (x : Int) (b : Bool) (k n : Int) (h : gotV x b = (k, n)) (w : World) : Calls Tryz.prog 43 #[.int .i64 x, .bool b] w (ValIs k n ⟨#[]⟩ w) := by
  cases b
  · have HB := Lib.hid (fun w1 => bad_c 4 w1)
    rw [bad_in (by omega) (by omega)] at HB
    obtain ⟨rfl, rfl⟩ := Prod.mk.inj h
    go_enter Tryz.func43, Tryz.ntmps43
    go_wp2_with fail
    refine (HB.out _).mono ?_
    rintro e w1 ⟨rfl, hb⟩
    obtain ⟨hA, hb1⟩ := slot hb
    obtain ⟨p0, p1, p2, q0, q1, q2⟩ := hA.three
    obtain ⟨z0, z1, z2⟩ := three_set (u := .int .i64 4) (v := .int .i64 4) (r := .string ⟨#[]⟩) p0 p1 p2
    have hb2 := set3 hb1 (Nat.le_refl _) (.int .i64 4) (.int .i64 4) (.string ⟨#[]⟩)
    clear hA hb hb1
    go_wp2
    exact bodyPost_ret (v := .agg #[.int .i64 4, .int .i64 4, .string ⟨#[]⟩]) (by simp [results, Tryz.results43, go_sem, z0, z1, z2]) rfl ⟨rfl, hb2⟩
  · have HB := Lib.hid (fun w1 => num_c x k n h w1)
    clear h
    go_enter Tryz.func43, Tryz.ntmps43
    go_wp2_with fail
    refine (HB.out _).mono ?_
    rintro e w1 ⟨rfl, hb⟩
    obtain ⟨hA, hb1⟩ := slot hb
    obtain ⟨p0, p1, p2, q0, q1, q2⟩ := hA.three
    obtain ⟨z0, z1, z2⟩ := three_set (u := .int .i64 k) (v := .int .i64 n) (r := .string ⟨#[]⟩) p0 p1 p2
    have hb2 := set3 hb1 (Nat.le_refl _) (.int .i64 k) (.int .i64 n) (.string ⟨#[]⟩)
    clear hA hb hb1
    go_wp2
    exact bodyPost_ret (v := .agg #[.int .i64 k, .int .i64 n, .string ⟨#[]⟩]) (by simp [results, Tryz.results43, go_sem, z0, z1, z2]) rfl ⟨rfl, hb2⟩
end Go.Proofs.YtebjedbppiphgaaGreatDoor.Val
namespace Go.Proofs.YtebjedbppiphgaaGreatDoor.Val
open Go.RowKit Kit Dec Dig
theorem empty_or (t : ByteArray) : t = ⟨#[]⟩ ∨ (¬ t.toList = [] ∧ decide (t.size = 0) = false) := by
  by_cases h : t.size = 0
  · left
    apply ByteArray.ext
    exact Array.eq_empty_of_size_eq_zero h
  · right
    refine ⟨fun e => h ?_, decide_eq_false h⟩
    rw [Lib.toList_data] at e
    show t.data.size = 0
    rw [← Array.length_toList, e]
    rfl
/-- whether one may be, or not -/
def Bit (b : Bool) (w : World) : Ending → World → Prop := fun e w' => e = .returned (.bool b) ∧ Below w.heap.size w w'

end Go.Proofs.YtebjedbppiphgaaGreatDoor.Val
namespace Go.Proofs.YtebjedbppiphgaaGreatDoor.Kit
open Go.RowKit
/-- the table of powers of ten reads as it is laid -/
def Pows (w : World) : Prop := Lib.TabIs Tryz.prog w "internal/strconv.uint64pow10" .u64 Lib.pow10Tab
theorem Pows.grown {w w' : World} (h : Pows w) (hb : Below w.heap.size w w') : Pows w' := by
  have hg : Tryz.prog.globalNamed "internal/strconv.uint64pow10" = some 6 := by kernel_rfl
  have hc := Lib.TabIs.cell h hg 0 (by rw [Lib.pow10Tab_length]; omega)
  exact var?_below hb hg (block_lt_of_cell hc) h
end Go.Proofs.YtebjedbppiphgaaGreatDoor.Kit
namespace Go.Proofs.YtebjedbppiphgaaGreatDoor.Cats
open Go.RowKit
/-- what lies in the two sentinels -/
def Errs (w : World) : Prop := (∃ ev, w.cell? ⟨7, 0, none⟩ = some ev ∧ (ev = .nilIface ∨ ∃ te pe, ev = .iface te pe)) ∧ (∃ ev, w.cell? ⟨8, 0, none⟩ = some ev ∧ (ev = .nilIface ∨ ∃ te pe, ev = .iface te pe))
theorem Errs.grown {w w' : World} (h : Errs w) (hb : Below w.heap.size w w') : Errs w' := by
  obtain ⟨⟨e1, h1, k1⟩, ⟨e2, h2, k2⟩⟩ := h
  exact ⟨⟨e1, (hb.cell (block_lt_of_cell h1)).trans h1, k1⟩, ⟨e2, (hb.cell (block_lt_of_cell h2)).trans h2, k2⟩⟩
end Go.Proofs.YtebjedbppiphgaaGreatDoor.Cats

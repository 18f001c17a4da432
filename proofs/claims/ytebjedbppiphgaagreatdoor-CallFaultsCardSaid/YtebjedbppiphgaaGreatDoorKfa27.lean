/- What the reference's down and times answer.
   The program's small functions of package call: whether a value is a fault, a table's first value, units, counts, places, what is worded, what is divided. Written by wip/gen21a.py.
   The table of functions as lists: names, numbers of arguments, kinds; what a table of rows of one width has. -/
import Derived.Test.YtebjedbppiphgaaGreatDoorKfa14
import Derived.Test.YtebjedbppiphgaaGreatDoorKfa08
import Derived.Test.YtebjedbppiphgaaGreatDoorKfa21
import Derived.Test.YtebjedbppiphgaaGreatDoorKfa24
import Derived.Test.YtebjedbppiphgaaGreatDoorKfa25
import Derived.Test.YtebjedbppiphgaaGreatDoorKfa26
import Derived.Test.YtebjedbppiphgaaGreatDoorKfa03
import Derived.Lib.Bytealg
namespace Go.Proofs.YtebjedbppiphgaaGreatDoor.Rnd
open Go.RowKit Kit Dec Reg
theorem scaled_one {q s : Int} (q1 : -9223372036854775807 ≤ q) (s1 : 0 < s) : scaledD q s 1 = giveD true (q * s) := by
  rw [scaledD_may q1 (by omega) (by omega) (by omega)]
  have hr : ∀ n : Nat, roundN n (Int.natAbs 1) = n := by
    intro n
    have h1 : Int.natAbs 1 = 1 := rfl
    unfold roundN
    rw [h1, Nat.mod_one, Nat.div_one]
    rfl
  rw [hr]
  congr 1
  have hm := Int.natAbs_mul q s
  rw [← hm]
  unfold negs signed
  rw [decide_eq_false (p := s < 0) (by omega)]
  by_cases h : q < 0
  · have hneg := Int.mul_neg_of_neg_of_pos h s1
    rw [decide_eq_true h]
    generalize q * s = p at *
    simp
    omega
  · have hpos := Int.mul_nonneg (show 0 ≤ q by omega) (show 0 ≤ s by omega)
    rw [decide_eq_false h]
    generalize q * s = p at *
    simp
    omega
end Go.Proofs.YtebjedbppiphgaaGreatDoor.Rnd
namespace Go.Proofs.YtebjedbppiphgaaGreatDoor.Cal
open Go.RowKit Kit Reg Dec Dig Val Fld
theorem bad_v (c : Int) (h1 : 1 ≤ c) (h2 : c ≤ 7) (w : World) : Calls Tryz.prog 26 #[.int .i64 c] w (ValIs 4 c ⟨#[]⟩ w) := by
  have h := bad_c c w
  rw [bad_in h1 h2] at h
  exact h
set_option maxRecDepth 100000 in
set_option maxHeartbeats 2000000 in
theorem isfault_v (k n : Int) (t : ByteArray) (b : Bool) (hb : (k == 4) = b) (w : World) : Calls Tryz.prog 42 #[.agg #[.int .i64 k, .int .i64 n, .string t]] w fun e w' => e = .returned (.bool b) ∧ Below w.heap.size w w' := by
  subst hb
  obtain ⟨x0, x1, x2, -⟩ := (CellsAt.new w [.int .i64 k, .int .i64 n, .string t] 23).three
  go_enter Tryz.func42, Tryz.ntmps42
  go_wp2
  go_ret
  exact ⟨rfl, below1 _ _⟩
set_option maxRecDepth 100000 in
set_option maxHeartbeats 2000000 in
theorem first_v (r c : Int) (A : Option Addr) (n d : Nat) (L : List Vl) (v : Vl) (hv : L[0]? = some v) (w : World) (hz : ValsR w A n L) : Calls Tryz.prog 53 #[.agg #[.int .i64 r, .int .i64 c, .slice A n d]] w (IsV v w) := by
  obtain ⟨h2, hb2⟩ := second w (.cells #[.int .i64 r, .int .i64 c, .slice A n d] 33) [.int .i64 0, .int .i64 0, .string ⟨#[]⟩] 23
  obtain ⟨x0, x1, x2, -⟩ := (CellsAt.new w [.int .i64 r, .int .i64 c, .slice A n d] 33).three
  replace x0 := kept (below1 (w.alloc (.cells #[.int .i64 r, .int .i64 c, .slice A n d] 33)) (.cells #[.int .i64 0, .int .i64 0, .string ⟨#[]⟩] 23)) x0
  have hn : 0 < n := by rw [← hz.1]; exact (List.getElem?_eq_some_iff.1 hv).1
  obtain ⟨b, o, rfl, hlt, c0, c1, c2⟩ := (hz.on hb2).at hv
  rw [show o + 0 * 3 = o by omega] at c0 c1 c2
  obtain ⟨vk, vn, vt⟩ := v
  dsimp only at c0 c1 c2
  show Calls Tryz.prog 53 _ w (ValIs vk vn vt w)
  clear hz hv
  clear h2 hb2
  go_enter Tryz.func53, Tryz.ntmps53
  go_wp2
  exact bodyPost_ret (v := .agg #[.int .i64 vk, .int .i64 vn, .string vt]) (by simp [results, Tryz.results53, go_sem]) rfl ⟨rfl, below2 _ _ _⟩
set_option maxRecDepth 100000 in
set_option maxHeartbeats 2000000 in
theorem units_v (x : Int) (h1 : -9223372036854775807 ≤ x) (h2 : x ≤ 9223372036854775807) (w : World) : Calls Tryz.prog 113 #[.int .i64 x] w fun e w' => e = .returned (.int .i64 (unI x)) ∧ Below w.heap.size w w' := by
  have HU := Lib.hid (fun w1 => units_c x h2 (unI x) (by rw [unitsD, if_neg (by omega)]; rfl) w1)
  have hu := un_room (show -9223372036854775808 ≤ x by omega) h2
  generalize unI x = u at *
  go_enter Tryz.func113, Tryz.ntmps113
  go_wp2_with fail
  refine (HU.out _).mono ?_
  rintro e w1 ⟨rfl, rfl⟩
  go_wp2
  go_ret
  exact ⟨rfl, Below.refl _ _⟩
set_option maxRecDepth 100000 in
set_option maxHeartbeats 2000000 in
theorem counted_v (n : Int) (h1 : -1000000 ≤ n) (h2 : n ≤ 2100000) (w : World) : Calls Tryz.prog 101 #[.int .i64 n] w (IsV (cV n) w) := by
  obtain ⟨hc, hb2⟩ := first w [.int .i64 0, .int .i64 0, .string ⟨#[]⟩] 23
  have e1 : scaledD n 10000 1 = (n * 10000, true) := by
    rw [Rnd.scaled_one (by omega) (by omega), giveD, show okD (n * 10000) = true from by unfold okD; rw [decide_eq_true (by omega), decide_eq_true (by omega)]; rfl]
    rfl
  have HO := Lib.hid (fun w1 => of_c n (by omega) (n * 10000) true e1 w1)
  have e2 : gotV (n * 10000) true = (1, n * 10000) := by unfold gotV numV; rw [show mayD (n * 10000) = true from decide_eq_true (by omega)]; rfl
  have HG := Lib.hid (fun w1 => got_c (n * 10000) true 1 (n * 10000) e2 w1)
  clear e1 e2
  show Calls Tryz.prog 101 #[.int .i64 n] w (ValIs 1 (n * 10000) ⟨#[]⟩ w)
  go_enter Tryz.func101, Tryz.ntmps101
  go_wp2_with fail
  refine (HO.out _).mono ?_
  rintro e w1 ⟨rfl, hd⟩
  replace hc := hc.on (drawn_below hd)
  replace hb2 := on hb2 (drawn_below hd)
  clear hd
  go_wp2_with fail
  refine (HG.out _).mono ?_
  rintro e w1 ⟨rfl, hb1⟩
  obtain ⟨⟨g0, p0, p1, p2, q0, q1, q2⟩, ⟨z0, z1, z2⟩, hb3⟩ := val_ends (hc.on hb1) (on hb2 hb1) (Nat.le_refl _) (.int .i64 1) (.int .i64 (n * 10000)) (.string ⟨#[]⟩)
  clear hc hb1 hb2
  go_wp2
  exact bodyPost_ret (v := .agg #[.int .i64 1, .int .i64 (n * 10000), .string ⟨#[]⟩]) (by simp [results, Tryz.results101, go_sem, z0, z1, z2]) rfl ⟨rfl, hb3⟩
set_option maxRecDepth 100000 in
set_option maxHeartbeats 2000000 in
theorem worded_no (m : ByteArray) (w : World) : Calls Tryz.prog 85 #[.string m, .bool false] w (ValIs (4) (2) (⟨#[]⟩) w) := by
  obtain ⟨h2, hb2⟩ := first w [.int .i64 0, .int .i64 0, .string ⟨#[]⟩] 23
  have HB := Lib.hid (fun w1 => bad_v 2 (by decide) (by decide) w1)
  go_enter Tryz.func85, Tryz.ntmps85
  go_wp2_with fail
  refine (HB.out _).mono ?_
  rintro e w1 ⟨rfl, hb1⟩
  replace h2 := h2.on hb1
  replace hb2 := on hb2 hb1
  clear hb1
  obtain ⟨⟨g0, p0, p1, p2, q0, q1, q2⟩, ⟨z0, z1, z2⟩, hb3⟩ := val_ends h2 hb2 (Nat.le_refl _) (.int .i64 4) (.int .i64 2) (.string ⟨#[]⟩)
  clear h2 hb2
  go_wp2
  exact bodyPost_ret (v := .agg #[.int .i64 4, .int .i64 2, .string ⟨#[]⟩]) (by simp [results, Tryz.results85, go_sem, z0, z1, z2]) rfl ⟨rfl, hb3⟩
set_option maxRecDepth 100000 in
set_option maxHeartbeats 2000000 in
theorem worded_yes (m : ByteArray) (hm : m.size ≤ 256) (w : World) : Calls Tryz.prog 85 #[.string m, .bool true] w (ValIs (2) (0) (m) w) := by
  obtain ⟨h2, hb2⟩ := first w [.int .i64 0, .int .i64 0, .string ⟨#[]⟩] 23
  have HB := Lib.hid (fun w1 => str_in_c m hm w1)
  go_enter Tryz.func85, Tryz.ntmps85
  go_wp2_with fail
  refine (HB.out _).mono ?_
  rintro e w1 ⟨rfl, hb1⟩
  replace h2 := h2.on hb1
  replace hb2 := on hb2 hb1
  clear hb1
  obtain ⟨⟨g0, p0, p1, p2, q0, q1, q2⟩, ⟨z0, z1, z2⟩, hb3⟩ := val_ends h2 hb2 (Nat.le_refl _) (.int .i64 2) (.int .i64 0) (.string m)
  clear h2 hb2
  go_wp2
  exact bodyPost_ret (v := .agg #[.int .i64 2, .int .i64 0, .string m]) (by simp [results, Tryz.results85, go_sem, z0, z1, z2]) rfl ⟨rfl, hb3⟩
theorem worded_v (m : List UInt8) (b : Bool) (hm : m.length ≤ 256) (w : World) : Calls Tryz.prog 85 #[.string ⟨m.toArray⟩, .bool b] w (IsV (tV (m, b)) w) := by
  cases b
  · exact worded_no _ w
  · exact worded_yes ⟨m.toArray⟩ hm w
set_option maxRecDepth 100000 in
set_option maxHeartbeats 2000000 in
theorem placed_no (n c : Int) (c1 : 1 ≤ c) (c2 : c ≤ 7) (w : World) : Calls Tryz.prog 109 #[.int .i64 n, .bool false, .int .i64 c] w (ValIs (4) (c) (⟨#[]⟩) w) := by
  obtain ⟨h2, hb2⟩ := first w [.int .i64 0, .int .i64 0, .string ⟨#[]⟩] 23
  have HB := Lib.hid (fun w1 => bad_v c c1 c2 w1)
  go_enter Tryz.func109, Tryz.ntmps109
  go_wp2_with fail
  refine (HB.out _).mono ?_
  rintro e w1 ⟨rfl, hb1⟩
  replace h2 := h2.on hb1
  replace hb2 := on hb2 hb1
  clear hb1
  obtain ⟨⟨g0, p0, p1, p2, q0, q1, q2⟩, ⟨z0, z1, z2⟩, hb3⟩ := val_ends h2 hb2 (Nat.le_refl _) (.int .i64 4) (.int .i64 (c)) (.string ⟨#[]⟩)
  clear h2 hb2
  go_wp2
  exact bodyPost_ret (v := .agg #[.int .i64 4, .int .i64 (c), .string ⟨#[]⟩]) (by simp [results, Tryz.results109, go_sem, z0, z1, z2]) rfl ⟨rfl, hb3⟩
set_option maxRecDepth 100000 in
set_option maxHeartbeats 2000000 in
theorem placed_yes (n c : Int) (n1 : -1000000 ≤ n) (n2 : n ≤ 2100000) (w : World) : Calls Tryz.prog 109 #[.int .i64 n, .bool true, .int .i64 c] w (ValIs (1) (n * 10000) (⟨#[]⟩) w) := by
  obtain ⟨h2, hb2⟩ := first w [.int .i64 0, .int .i64 0, .string ⟨#[]⟩] 23
  have HB : Hid (∀ w1, Calls Tryz.prog 101 #[.int .i64 n] w1 (ValIs 1 (n * 10000) ⟨#[]⟩ w1)) := Lib.hid (fun w1 => counted_v n n1 n2 w1)
  go_enter Tryz.func109, Tryz.ntmps109
  go_wp2_with fail
  refine (HB.out _).mono ?_
  rintro e w1 ⟨rfl, hb1⟩
  replace h2 := h2.on hb1
  replace hb2 := on hb2 hb1
  clear hb1
  obtain ⟨⟨g0, p0, p1, p2, q0, q1, q2⟩, ⟨z0, z1, z2⟩, hb3⟩ := val_ends h2 hb2 (Nat.le_refl _) (.int .i64 1) (.int .i64 (n * 10000)) (.string ⟨#[]⟩)
  clear h2 hb2
  go_wp2
  exact bodyPost_ret (v := .agg #[.int .i64 1, .int .i64 (n * 10000), .string ⟨#[]⟩]) (by simp [results, Tryz.results109, go_sem, z0, z1, z2]) rfl ⟨rfl, hb3⟩
set_option maxRecDepth 100000 in
set_option maxHeartbeats 2000000 in
theorem divided_zero (a : Int) (F : Value) (w : World) : Calls Tryz.prog 81 #[.int .i64 a, .int .i64 0, F] w (ValIs (4) (1) (⟨#[]⟩) w) := by
  obtain ⟨h2, hb2⟩ := first w [.int .i64 0, .int .i64 0, .string ⟨#[]⟩] 23
  have HB := Lib.hid (fun w1 => bad_v 1 (by decide) (by decide) w1)
  go_enter Tryz.func81, Tryz.ntmps81
  go_wp2_with fail
  refine (HB.out _).mono ?_
  rintro e w1 ⟨rfl, hb1⟩
  replace h2 := h2.on hb1
  replace hb2 := on hb2 hb1
  clear hb1
  obtain ⟨⟨g0, p0, p1, p2, q0, q1, q2⟩, ⟨z0, z1, z2⟩, hb3⟩ := val_ends h2 hb2 (Nat.le_refl _) (.int .i64 4) (.int .i64 1) (.string ⟨#[]⟩)
  clear h2 hb2
  go_wp2
  exact bodyPost_ret (v := .agg #[.int .i64 4, .int .i64 1, .string ⟨#[]⟩]) (by simp [results, Tryz.results81, go_sem, z0, z1, z2]) rfl ⟨rfl, hb3⟩
set_option maxRecDepth 100000 in
set_option maxHeartbeats 2000000 in
theorem divided_some (a b : Int) (hb0 : ¬ b = 0) (F : Nat) (hE : ∀ (args : Array Value) (w : World), (callFunc F args).run Tryz.prog w = .ok (.enter F args) w) (n : Int) (k : Bool)
    (HD : ∀ w1, Calls Tryz.prog F #[.int .i64 a, .int .i64 b] w1 fun e w' => e = .returned (.tuple #[.int .i64 n, .bool k]) ∧ Below w1.heap.size w1 w') (w : World) :
    Calls Tryz.prog 81 #[.int .i64 a, .int .i64 b, .func (.func F) #[] #[]] w (IsV (gV (n, k)) w) := by
  obtain ⟨h2, hb2⟩ := first w [.int .i64 0, .int .i64 0, .string ⟨#[]⟩] 23
  obtain ⟨⟨x, y⟩, hg⟩ : ∃ q, gotV n k = q := ⟨_, rfl⟩
  have HG := Lib.hid (fun w1 => got_c n k x y hg w1)
  replace HD := Lib.hid HD
  have HE := Lib.hid hE
  have q0 : (b == 0) = false := by rw [beq_eq_false_iff_ne]; exact hb0
  have e0 : gV (n, k) = ⟨x, y, ⟨#[]⟩⟩ := by unfold gV; dsimp only; rw [hg]
  rw [e0]
  show Calls Tryz.prog 81 _ w (ValIs x y ⟨#[]⟩ w)
  clear hg e0 hE
  go_enter Tryz.func81, Tryz.ntmps81
  go_wp2_with fail
  rw [HE.out, Oper.upon_enter]
  refine (HD.out _).mono ?_
  rintro e w1 ⟨rfl, hb1⟩
  replace h2 := h2.on hb1
  replace hb2 := on hb2 hb1
  clear hb1
  go_wp2_with fail
  refine (HG.out _).mono ?_
  rintro e w1 ⟨rfl, hb1⟩
  replace h2 := h2.on hb1
  replace hb2 := on hb2 hb1
  clear hb1
  obtain ⟨⟨g0, p0, p1, p2, q0, q1, q2⟩, ⟨z0, z1, z2⟩, hb3⟩ := val_ends h2 hb2 (Nat.le_refl _) (.int .i64 x) (.int .i64 y) (.string ⟨#[]⟩)
  clear h2 hb2
  go_wp2
  exact bodyPost_ret (v := .agg #[.int .i64 x, .int .i64 y, .string ⟨#[]⟩]) (by simp [results, Tryz.results81, go_sem, z0, z1, z2]) rfl ⟨rfl, hb3⟩
end Go.Proofs.YtebjedbppiphgaaGreatDoor.Cal
namespace Go.Proofs.YtebjedbppiphgaaGreatDoor.Fnm
/-- the names, in the order of their numbers -/
def names : List (List UInt8) := [[65, 66, 83],
  [65, 78, 68],
  [65, 86, 69, 82, 65, 71, 69],
  [65, 86, 69, 82, 65, 71, 69, 73, 70],
  [67, 69, 73, 76, 73, 78, 71],
  [67, 72, 65, 82],
  [67, 72, 79, 79, 83, 69],
  [67, 79, 68, 69],
  [67, 79, 76, 85, 77, 78],
  [67, 79, 76, 85, 77, 78, 83],
  [67, 79, 77, 66, 73, 78],
  [67, 79, 78, 67, 65, 84],
  [67, 79, 85, 78, 84],
  [67, 79, 85, 78, 84, 65],
  [67, 79, 85, 78, 84, 66, 76, 65, 78, 75],
  [67, 79, 85, 78, 84, 73, 70],
  [68, 69, 67, 76, 65, 83, 83],
  [69, 86, 69, 78],
  [69, 88, 65, 67, 84],
  [70, 65, 67, 84],
  [70, 73, 78, 68],
  [70, 76, 79, 79, 82],
  [71, 67, 68],
  [72, 76, 79, 79, 75, 85, 80],
  [73, 70],
  [73, 70, 69, 82, 82, 79, 82],
  [73, 78, 68, 69, 88],
  [73, 78, 84],
  [73, 83, 66, 76, 65, 78, 75],
  [73, 83, 69, 82, 82, 79, 82],
  [73, 83, 76, 79, 71, 73, 67, 65, 76],
  [73, 83, 78, 85, 77, 66, 69, 82],
  [73, 83, 84, 69, 88, 84],
  [76, 65, 82, 71, 69],
  [76, 67, 77],
  [76, 69, 70, 84],
  [76, 69, 78],
  [76, 79, 87, 69, 82],
  [77, 65, 84, 67, 72],
  [77, 65, 88],
  [77, 69, 68, 73, 65, 78],
  [77, 73, 68],
  [77, 73, 78],
  [77, 79, 68],
  [77, 79, 68, 69],
  [78, 65],
  [78, 79, 84],
  [79, 68, 68],
  [79, 82],
  [80, 79, 87, 69, 82],
  [80, 82, 79, 68, 85, 67, 84],
  [80, 82, 79, 80, 69, 82],
  [81, 85, 79, 84, 73, 69, 78, 84],
  [82, 65, 78, 75],
  [82, 69, 80, 84],
  [82, 69, 86, 69, 82, 83, 69],
  [82, 73, 71, 72, 84],
  [82, 79, 85, 78, 68],
  [82, 79, 85, 78, 68, 68, 79, 87, 78],
  [82, 79, 85, 78, 68, 85, 80],
  [82, 79, 87],
  [82, 79, 87, 83],
  [83, 73, 71, 78],
  [83, 77, 65, 76, 76],
  [83, 81, 82, 84],
  [83, 85, 66, 83, 84, 73, 84, 85, 84, 69],
  [83, 85, 77],
  [83, 85, 77, 73, 70],
  [83, 85, 77, 80, 82, 79, 68, 85, 67, 84],
  [83, 85, 77, 83, 81],
  [83, 87, 73, 84, 67, 72],
  [84, 69, 88, 84],
  [84, 82, 73, 77],
  [84, 82, 85, 78, 67],
  [85, 80, 80, 69, 82],
  [86, 65, 76, 85, 69],
  [86, 76, 79, 79, 75, 85, 80],
  [88, 79, 82]]
/-- the reference's rows -/
def rrows : List (List UInt8) := [[49, 49, 118],
  [49, 56, 101],
  [49, 56, 108],
  [50, 50, 114, 118],
  [50, 50, 118],
  [49, 49, 118],
  [50, 56, 101],
  [49, 49, 118],
  [49, 49, 110],
  [49, 49, 110],
  [50, 50, 118],
  [49, 56, 108],
  [49, 56, 108],
  [49, 56, 108],
  [49, 56, 108],
  [50, 50, 114, 118],
  [50, 50, 101, 116],
  [49, 49, 118],
  [50, 50, 118],
  [49, 49, 118],
  [50, 50, 118],
  [50, 50, 118],
  [50, 50, 118],
  [51, 51, 118, 114, 118],
  [50, 51, 101],
  [50, 50, 101],
  [50, 51, 114, 118],
  [49, 49, 118],
  [49, 49, 118],
  [49, 49, 118],
  [49, 49, 118],
  [49, 49, 118],
  [49, 49, 118],
  [50, 50, 114, 118],
  [50, 50, 118],
  [50, 50, 118],
  [49, 49, 118],
  [49, 49, 118],
  [50, 50, 118, 114],
  [49, 56, 108],
  [49, 56, 108],
  [51, 51, 118],
  [49, 56, 108],
  [50, 50, 118],
  [49, 56, 108],
  [48, 48],
  [49, 49, 118],
  [49, 49, 118],
  [49, 56, 101],
  [50, 50, 118],
  [49, 56, 108],
  [49, 49, 118],
  [50, 50, 118],
  [50, 50, 118, 114],
  [50, 50, 118],
  [49, 49, 118],
  [50, 50, 118],
  [50, 50, 118],
  [50, 50, 118],
  [50, 50, 118],
  [49, 49, 110],
  [49, 49, 110],
  [49, 49, 118],
  [50, 50, 114, 118],
  [49, 49, 118],
  [51, 51, 118],
  [49, 56, 108],
  [50, 50, 114, 118],
  [50, 50, 114],
  [49, 56, 108],
  [51, 56, 101],
  [50, 50, 118],
  [49, 49, 118],
  [49, 49, 118],
  [49, 49, 118],
  [49, 49, 118],
  [51, 51, 118, 114, 118],
  [49, 56, 108]]
/-- the program's rows, each of 18 letters -/
def prows : List (List UInt8) := [[65, 66, 83, 32, 32, 32, 32, 32, 32, 32, 32, 49, 32, 49, 32, 118, 118, 118],
  [65, 78, 68, 32, 32, 32, 32, 32, 32, 32, 32, 49, 32, 56, 32, 101, 101, 101],
  [65, 86, 69, 82, 65, 71, 69, 32, 32, 32, 32, 49, 32, 56, 32, 108, 108, 108],
  [65, 86, 69, 82, 65, 71, 69, 73, 70, 32, 32, 50, 32, 50, 32, 114, 118, 118],
  [67, 69, 73, 76, 73, 78, 71, 32, 32, 32, 32, 50, 32, 50, 32, 118, 118, 118],
  [67, 72, 65, 82, 32, 32, 32, 32, 32, 32, 32, 49, 32, 49, 32, 118, 118, 118],
  [67, 72, 79, 79, 83, 69, 32, 32, 32, 32, 32, 50, 32, 56, 32, 101, 101, 101],
  [67, 79, 68, 69, 32, 32, 32, 32, 32, 32, 32, 49, 32, 49, 32, 118, 118, 118],
  [67, 79, 76, 85, 77, 78, 32, 32, 32, 32, 32, 49, 32, 49, 32, 110, 110, 110],
  [67, 79, 76, 85, 77, 78, 83, 32, 32, 32, 32, 49, 32, 49, 32, 110, 110, 110],
  [67, 79, 77, 66, 73, 78, 32, 32, 32, 32, 32, 50, 32, 50, 32, 118, 118, 118],
  [67, 79, 78, 67, 65, 84, 32, 32, 32, 32, 32, 49, 32, 56, 32, 108, 108, 108],
  [67, 79, 85, 78, 84, 32, 32, 32, 32, 32, 32, 49, 32, 56, 32, 108, 108, 108],
  [67, 79, 85, 78, 84, 65, 32, 32, 32, 32, 32, 49, 32, 56, 32, 108, 108, 108],
  [67, 79, 85, 78, 84, 66, 76, 65, 78, 75, 32, 49, 32, 56, 32, 108, 108, 108],
  [67, 79, 85, 78, 84, 73, 70, 32, 32, 32, 32, 50, 32, 50, 32, 114, 118, 118],
  [68, 69, 67, 76, 65, 83, 83, 32, 32, 32, 32, 50, 32, 50, 32, 101, 116, 116],
  [69, 86, 69, 78, 32, 32, 32, 32, 32, 32, 32, 49, 32, 49, 32, 118, 118, 118],
  [69, 88, 65, 67, 84, 32, 32, 32, 32, 32, 32, 50, 32, 50, 32, 118, 118, 118],
  [70, 65, 67, 84, 32, 32, 32, 32, 32, 32, 32, 49, 32, 49, 32, 118, 118, 118],
  [70, 73, 78, 68, 32, 32, 32, 32, 32, 32, 32, 50, 32, 50, 32, 118, 118, 118],
  [70, 76, 79, 79, 82, 32, 32, 32, 32, 32, 32, 50, 32, 50, 32, 118, 118, 118],
  [71, 67, 68, 32, 32, 32, 32, 32, 32, 32, 32, 50, 32, 50, 32, 118, 118, 118],
  [72, 76, 79, 79, 75, 85, 80, 32, 32, 32, 32, 51, 32, 51, 32, 118, 114, 118],
  [73, 70, 32, 32, 32, 32, 32, 32, 32, 32, 32, 50, 32, 51, 32, 101, 101, 101],
  [73, 70, 69, 82, 82, 79, 82, 32, 32, 32, 32, 50, 32, 50, 32, 101, 101, 101],
  [73, 78, 68, 69, 88, 32, 32, 32, 32, 32, 32, 50, 32, 51, 32, 114, 118, 118],
  [73, 78, 84, 32, 32, 32, 32, 32, 32, 32, 32, 49, 32, 49, 32, 118, 118, 118],
  [73, 83, 66, 76, 65, 78, 75, 32, 32, 32, 32, 49, 32, 49, 32, 118, 118, 118],
  [73, 83, 69, 82, 82, 79, 82, 32, 32, 32, 32, 49, 32, 49, 32, 118, 118, 118],
  [73, 83, 76, 79, 71, 73, 67, 65, 76, 32, 32, 49, 32, 49, 32, 118, 118, 118],
  [73, 83, 78, 85, 77, 66, 69, 82, 32, 32, 32, 49, 32, 49, 32, 118, 118, 118],
  [73, 83, 84, 69, 88, 84, 32, 32, 32, 32, 32, 49, 32, 49, 32, 118, 118, 118],
  [76, 65, 82, 71, 69, 32, 32, 32, 32, 32, 32, 50, 32, 50, 32, 114, 118, 118],
  [76, 67, 77, 32, 32, 32, 32, 32, 32, 32, 32, 50, 32, 50, 32, 118, 118, 118],
  [76, 69, 70, 84, 32, 32, 32, 32, 32, 32, 32, 50, 32, 50, 32, 118, 118, 118],
  [76, 69, 78, 32, 32, 32, 32, 32, 32, 32, 32, 49, 32, 49, 32, 118, 118, 118],
  [76, 79, 87, 69, 82, 32, 32, 32, 32, 32, 32, 49, 32, 49, 32, 118, 118, 118],
  [77, 65, 84, 67, 72, 32, 32, 32, 32, 32, 32, 50, 32, 50, 32, 118, 114, 114],
  [77, 65, 88, 32, 32, 32, 32, 32, 32, 32, 32, 49, 32, 56, 32, 108, 108, 108],
  [77, 69, 68, 73, 65, 78, 32, 32, 32, 32, 32, 49, 32, 56, 32, 108, 108, 108],
  [77, 73, 68, 32, 32, 32, 32, 32, 32, 32, 32, 51, 32, 51, 32, 118, 118, 118],
  [77, 73, 78, 32, 32, 32, 32, 32, 32, 32, 32, 49, 32, 56, 32, 108, 108, 108],
  [77, 79, 68, 32, 32, 32, 32, 32, 32, 32, 32, 50, 32, 50, 32, 118, 118, 118],
  [77, 79, 68, 69, 32, 32, 32, 32, 32, 32, 32, 49, 32, 56, 32, 108, 108, 108],
  [78, 65, 32, 32, 32, 32, 32, 32, 32, 32, 32, 48, 32, 48, 32, 45, 45, 45],
  [78, 79, 84, 32, 32, 32, 32, 32, 32, 32, 32, 49, 32, 49, 32, 118, 118, 118],
  [79, 68, 68, 32, 32, 32, 32, 32, 32, 32, 32, 49, 32, 49, 32, 118, 118, 118],
  [79, 82, 32, 32, 32, 32, 32, 32, 32, 32, 32, 49, 32, 56, 32, 101, 101, 101],
  [80, 79, 87, 69, 82, 32, 32, 32, 32, 32, 32, 50, 32, 50, 32, 118, 118, 118],
  [80, 82, 79, 68, 85, 67, 84, 32, 32, 32, 32, 49, 32, 56, 32, 108, 108, 108],
  [80, 82, 79, 80, 69, 82, 32, 32, 32, 32, 32, 49, 32, 49, 32, 118, 118, 118],
  [81, 85, 79, 84, 73, 69, 78, 84, 32, 32, 32, 50, 32, 50, 32, 118, 118, 118],
  [82, 65, 78, 75, 32, 32, 32, 32, 32, 32, 32, 50, 32, 50, 32, 118, 114, 114],
  [82, 69, 80, 84, 32, 32, 32, 32, 32, 32, 32, 50, 32, 50, 32, 118, 118, 118],
  [82, 69, 86, 69, 82, 83, 69, 32, 32, 32, 32, 49, 32, 49, 32, 118, 118, 118],
  [82, 73, 71, 72, 84, 32, 32, 32, 32, 32, 32, 50, 32, 50, 32, 118, 118, 118],
  [82, 79, 85, 78, 68, 32, 32, 32, 32, 32, 32, 50, 32, 50, 32, 118, 118, 118],
  [82, 79, 85, 78, 68, 68, 79, 87, 78, 32, 32, 50, 32, 50, 32, 118, 118, 118],
  [82, 79, 85, 78, 68, 85, 80, 32, 32, 32, 32, 50, 32, 50, 32, 118, 118, 118],
  [82, 79, 87, 32, 32, 32, 32, 32, 32, 32, 32, 49, 32, 49, 32, 110, 110, 110],
  [82, 79, 87, 83, 32, 32, 32, 32, 32, 32, 32, 49, 32, 49, 32, 110, 110, 110],
  [83, 73, 71, 78, 32, 32, 32, 32, 32, 32, 32, 49, 32, 49, 32, 118, 118, 118],
  [83, 77, 65, 76, 76, 32, 32, 32, 32, 32, 32, 50, 32, 50, 32, 114, 118, 118],
  [83, 81, 82, 84, 32, 32, 32, 32, 32, 32, 32, 49, 32, 49, 32, 118, 118, 118],
  [83, 85, 66, 83, 84, 73, 84, 85, 84, 69, 32, 51, 32, 51, 32, 118, 118, 118],
  [83, 85, 77, 32, 32, 32, 32, 32, 32, 32, 32, 49, 32, 56, 32, 108, 108, 108],
  [83, 85, 77, 73, 70, 32, 32, 32, 32, 32, 32, 50, 32, 50, 32, 114, 118, 118],
  [83, 85, 77, 80, 82, 79, 68, 85, 67, 84, 32, 50, 32, 50, 32, 114, 114, 114],
  [83, 85, 77, 83, 81, 32, 32, 32, 32, 32, 32, 49, 32, 56, 32, 108, 108, 108],
  [83, 87, 73, 84, 67, 72, 32, 32, 32, 32, 32, 51, 32, 56, 32, 101, 101, 101],
  [84, 69, 88, 84, 32, 32, 32, 32, 32, 32, 32, 50, 32, 50, 32, 118, 118, 118],
  [84, 82, 73, 77, 32, 32, 32, 32, 32, 32, 32, 49, 32, 49, 32, 118, 118, 118],
  [84, 82, 85, 78, 67, 32, 32, 32, 32, 32, 32, 49, 32, 49, 32, 118, 118, 118],
  [85, 80, 80, 69, 82, 32, 32, 32, 32, 32, 32, 49, 32, 49, 32, 118, 118, 118],
  [86, 65, 76, 85, 69, 32, 32, 32, 32, 32, 32, 49, 32, 49, 32, 118, 118, 118],
  [86, 76, 79, 79, 75, 85, 80, 32, 32, 32, 32, 51, 32, 51, 32, 118, 114, 118],
  [88, 79, 82, 32, 32, 32, 32, 32, 32, 32, 32, 49, 32, 56, 32, 108, 108, 108]]
def nm (k : Nat) : List UInt8 := names.getD k []
def rr (k : Nat) : List UInt8 := rrows.getD k []
def pr (k : Nat) : List UInt8 := prows.getD k []
/-- from how many to how many arguments -/
def lo (k : Nat) : Int := (((rr k).getD 0 48).toNat : Int) - 48
def hi (k : Nat) : Int := (((rr k).getD 1 48).toNat : Int) - 48
/-- the letter of a kind -/
def kind (k i : Nat) : UInt8 := (rr k).getD (min (2 + i) ((rr k).length - 1)) 0
def nameF (fn : Int) : List UInt8 := if 1 ≤ fn ∧ fn ≤ 78 then nm (fn.toNat - 1) else []
def fitsF (fn n : Int) : Bool := decide (1 ≤ fn ∧ fn ≤ 78 ∧ lo (fn.toNat - 1) ≤ n ∧ n ≤ hi (fn.toNat - 1))
def kindF (fn n : Int) : UInt8 := if 1 ≤ fn ∧ fn ≤ 78 ∧ 0 ≤ n ∧ n < hi (fn.toNat - 1) then kind (fn.toNat - 1) n.toNat else 0
theorem of_all {n : Nat} {p : Nat → Bool} (h : (List.range n).all p = true) {k : Nat} (hk : k < n) : p k = true := List.all_eq_true.1 h k (List.mem_range.2 hk)
theorem no_fn {fn : Int} (h : ¬ (1 ≤ fn ∧ fn ≤ 78)) : nameF fn = [] ∧ (∀ n, fitsF fn n = false) ∧ ∀ n, kindF fn n = 0 :=
  ⟨if_neg h, fun _ => decide_eq_false fun e => h ⟨e.1, e.2.1⟩, fun _ => if_neg fun e => h ⟨e.1, e.2.1⟩⟩
theorem to_k {fn : Int} (h : 1 ≤ fn ∧ fn ≤ 78) : ∃ k : Nat, k < 78 ∧ fn = (k : Int) + 1 := ⟨fn.toNat - 1, by omega, by omega⟩
theorem k_back (k : Nat) : ((k : Int) + 1).toNat - 1 = k := by omega
theorem fits_k {k : Nat} (hk : k < 78) (n : Int) : fitsF ((k : Int) + 1) n = (decide (lo k ≤ n) && decide (n ≤ hi k)) := by
  unfold fitsF
  rw [k_back, ← Bool.decide_and, decide_eq_decide]
  omega
theorem kind_no {k : Nat} {n : Int} (h : n < 0 ∨ hi k ≤ n) : kindF ((k : Int) + 1) n = 0 := by
  unfold kindF
  rw [k_back]
  exact if_neg (by omega)
theorem kind_k {k i : Nat} (hk : k < 78) (h : (i : Int) < hi k) : kindF ((k : Int) + 1) i = kind k i := by
  unfold kindF
  rw [k_back, if_pos (by omega)]
  rfl

/-- the rows as they are read: of the program -/
theorem pr_all : (List.range 78).all (fun k => decide ((pr k).length = 18) && ((pr k)[11]? == some ((rr k).getD 0 48)) && ((pr k)[13]? == some ((rr k).getD 1 48)) && decide (48 ≤ ((rr k).getD 0 48).toNat) && decide (48 ≤ ((rr k).getD 1 48).toNat) &&
    (List.range 8).all fun i => decide (hi k ≤ i) || (pr k)[15 + min i 2]? == some (kind k i)) = true := by kernel_rfl
theorem hi_8 : (List.range 78).all (fun k => decide (hi k ≤ 8) && decide (lo k ≤ hi k) && decide (0 ≤ lo k)) = true := by kernel_rfl
/-- the text of all rows -/
theorem flat_all : (List.range 78).all (fun k => ((prows.flatten.drop (k * 18)).take 18 == pr k)) = true := by kernel_rfl
/-- does a text stand ahead of another one? -/
def lessL (a b : List UInt8) : Bool := decide (Lib.compareBytes a b = -1)
theorem pr_facts {k : Nat} (hk : k < 78) : ∃ x y : UInt8, (pr k).length = 18 ∧ (pr k)[11]? = some x ∧ (pr k)[13]? = some y ∧ 48 ≤ x.toNat ∧ 48 ≤ y.toNat ∧ (x.toNat : Int) - 48 = lo k ∧ (y.toNat : Int) - 48 = hi k ∧
    ∀ i : Nat, (i : Int) < hi k → (pr k)[15 + min i 2]? = some (kind k i) := by
  have h := of_all pr_all hk
  have h8 := of_all hi_8 hk
  simp only [Bool.and_eq_true, decide_eq_true_eq, beq_iff_eq] at h h8
  obtain ⟨⟨⟨⟨⟨h1, h2⟩, h3⟩, h4⟩, h5⟩, h6⟩ := h
  refine ⟨_, _, h1, h2, h3, h4, h5, rfl, rfl, fun i hi9 => ?_⟩
  have h7 := of_all h6 (k := i) (by omega)
  simp only [Bool.or_eq_true, decide_eq_true_eq, beq_iff_eq] at h7
  exact h7.resolve_left (by omega)
theorem flat_k {k : Nat} (hk : k < 78) : (prows.flatten.drop (k * 18)).take 18 = pr k := eq_of_beq (of_all flat_all hk)
end Go.Proofs.YtebjedbppiphgaaGreatDoor.Fnm

/- The program's steps: of the sum, the product, the sum of the squares, the least and the greatest number; and what Sum, Product, Squares, Least and Most answer.
   What the reference's down and times answer.
   The program's small functions of package call: whether a value is a fault, a table's first value, units, counts, places, what is worded, what is divided. Written by wip/gen21a.py. -/
import Derived.Test.YtebjedbppiphgaaGreatDoorKtu26
import Derived.Test.YtebjedbppiphgaaGreatDoorKtu10
import Derived.Test.YtebjedbppiphgaaGreatDoorKtu17
import Derived.Test.YtebjedbppiphgaaGreatDoorKtu23
import Derived.Test.YtebjedbppiphgaaGreatDoorKtu24
namespace Go.Proofs.YtebjedbppiphgaaGreatDoor.Fld
open Go.RowKit Kit Reg Dec Dig Val Txt
/-- which number is better, as the program has it -/
def betterF (most : Bool) : Nat := if most then 230 else 229
/-- the cell that holds it -/
def BestP (g : Nat) (most : Bool) (w : World) : Prop := w.cell? ⟨g, 0, none⟩ = some (.func (.func (betterF most)) #[] #[])
theorem BestP.on {g : Nat} {most : Bool} (w w' : World) (h : BestP g most w) (hb : Below w.heap.size w w') : BestP g most w' := kept hb h
end Go.Proofs.YtebjedbppiphgaaGreatDoor.Fld
namespace Go.Proofs.YtebjedbppiphgaaGreatDoor.Rnd
open Go.RowKit Kit Dec Reg
theorem scaled_one {q s : Int} (q1 : -9223372036854775807 ≤ q) (s1 : 0 < s) : scaledD q s 1 = giveD true (q * s) := by
  rw [scaledD_may q1 (by omega) (by omega) (by omega)]
  have hr : ∀ n : Nat, roundN n (Int.natAbs 1) = n := by
    intro n
    have h1 : Int.natAbs 1 = 1 := rfl
    unfold roundN
    rw [h1, Nat.mod_one, Nat.div_one]
    rfl
  rw [hr]
  congr 1
  have hm := Int.natAbs_mul q s
  rw [← hm]
  unfold negs signed
  rw [decide_eq_false (p := s < 0) (by omega)]
  by_cases h : q < 0
  · have hneg := Int.mul_neg_of_neg_of_pos h s1
    rw [decide_eq_true h]
    generalize q * s = p at *
    simp
    omega
  · have hpos := Int.mul_nonneg (show 0 ≤ q by omega) (show 0 ≤ s by omega)
    rw [decide_eq_false h]
    generalize q * s = p at *
    simp
    omega
end Go.Proofs.YtebjedbppiphgaaGreatDoor.Rnd
namespace Go.Proofs.YtebjedbppiphgaaGreatDoor.Cal
open Go.RowKit Kit Reg Dec Dig Val Fld
theorem bad_v (c : Int) (h1 : 1 ≤ c) (h2 : c ≤ 7) (w : World) : Calls Tryz.prog 26 #[.int .i64 c] w (ValIs 4 c ⟨#[]⟩ w) := by
  have h := bad_c c w
  rw [bad_in h1 h2] at h
  exact h
set_option maxRecDepth 100000 in
set_option maxHeartbeats 2000000 in
theorem isfault_v (k n : Int) (t : ByteArray) (b : Bool) (hb : (k == 4) = b) (w : World) : Calls Tryz.prog 42 #[.agg #[.int .i64 k, .int .i64 n, .string t]] w fun e w' => e = .returned (.bool b) ∧ Below w.heap.size w w' := by
  subst hb
  obtain ⟨x0, x1, x2, -⟩ := (CellsAt.new w [.int .i64 k, .int .i64 n, .string t] 23).three
  go_enter Tryz.func42, Tryz.ntmps42
  go_wp2
  go_ret
  exact ⟨rfl, below1 _ _⟩
set_option maxRecDepth 100000 in
set_option maxHeartbeats 2000000 in
theorem units_v (x : Int) (h1 : -9223372036854775807 ≤ x) (h2 : x ≤ 9223372036854775807) (w : World) : Calls Tryz.prog 113 #[.int .i64 x] w fun e w' => e = .returned (.int .i64 (unI x)) ∧ Below w.heap.size w w' := by
  have HU := Lib.hid (fun w1 => units_c x h2 (unI x) (by rw [unitsD, if_neg (by omega)]; rfl) w1)
  have hu := un_room (show -9223372036854775808 ≤ x by omega) h2
  generalize unI x = u at *
  go_enter Tryz.func113, Tryz.ntmps113
  go_wp2_with fail
  refine (HU.out _).mono ?_
  rintro e w1 ⟨rfl, rfl⟩
  go_wp2
  go_ret
  exact ⟨rfl, Below.refl _ _⟩
set_option maxRecDepth 100000 in
set_option maxHeartbeats 2000000 in
theorem counted_v (n : Int) (h1 : -1000000 ≤ n) (h2 : n ≤ 2100000) (w : World) : Calls Tryz.prog 101 #[.int .i64 n] w (IsV (cV n) w) := by
  obtain ⟨hc, hb2⟩ := first w [.int .i64 0, .int .i64 0, .string ⟨#[]⟩] 23
  have e1 : scaledD n 10000 1 = (n * 10000, true) := by
    rw [Rnd.scaled_one (by omega) (by omega), giveD, show okD (n * 10000) = true from by unfold okD; rw [decide_eq_true (by omega), decide_eq_true (by omega)]; rfl]
    rfl
  have HO := Lib.hid (fun w1 => of_c n (by omega) (n * 10000) true e1 w1)
  have e2 : gotV (n * 10000) true = (1, n * 10000) := by unfold gotV numV; rw [show mayD (n * 10000) = true from decide_eq_true (by omega)]; rfl
  have HG := Lib.hid (fun w1 => got_c (n * 10000) true 1 (n * 10000) e2 w1)
  clear e1 e2
  show Calls Tryz.prog 101 #[.int .i64 n] w (ValIs 1 (n * 10000) ⟨#[]⟩ w)
  go_enter Tryz.func101, Tryz.ntmps101
  go_wp2_with fail
  refine (HO.out _).mono ?_
  rintro e w1 ⟨rfl, hd⟩
  replace hc := hc.on (drawn_below hd)
  replace hb2 := on hb2 (drawn_below hd)
  clear hd
  go_wp2_with fail
  refine (HG.out _).mono ?_
  rintro e w1 ⟨rfl, hb1⟩
  obtain ⟨⟨g0, p0, p1, p2, q0, q1, q2⟩, ⟨z0, z1, z2⟩, hb3⟩ := val_ends (hc.on hb1) (on hb2 hb1) (Nat.le_refl _) (.int .i64 1) (.int .i64 (n * 10000)) (.string ⟨#[]⟩)
  clear hc hb1 hb2
  go_wp2
  exact bodyPost_ret (v := .agg #[.int .i64 1, .int .i64 (n * 10000), .string ⟨#[]⟩]) (by simp [results, Tryz.results101, go_sem, z0, z1, z2]) rfl ⟨rfl, hb3⟩
set_option maxRecDepth 100000 in
set_option maxHeartbeats 2000000 in
theorem worded_no (m : ByteArray) (w : World) : Calls Tryz.prog 85 #[.string m, .bool false] w (ValIs (4) (2) (⟨#[]⟩) w) := by
  obtain ⟨h2, hb2⟩ := first w [.int .i64 0, .int .i64 0, .string ⟨#[]⟩] 23
  have HB := Lib.hid (fun w1 => bad_v 2 (by decide) (by decide) w1)
  go_enter Tryz.func85, Tryz.ntmps85
  go_wp2_with fail
  refine (HB.out _).mono ?_
  rintro e w1 ⟨rfl, hb1⟩
  replace h2 := h2.on hb1
  replace hb2 := on hb2 hb1
  clear hb1
  obtain ⟨⟨g0, p0, p1, p2, q0, q1, q2⟩, ⟨z0, z1, z2⟩, hb3⟩ := val_ends h2 hb2 (Nat.le_refl _) (.int .i64 4) (.int .i64 2) (.string ⟨#[]⟩)
  clear h2 hb2
  go_wp2
  exact bodyPost_ret (v := .agg #[.int .i64 4, .int .i64 2, .string ⟨#[]⟩]) (by simp [results, Tryz.results85, go_sem, z0, z1, z2]) rfl ⟨rfl, hb3⟩
set_option maxRecDepth 100000 in
set_option maxHeartbeats 2000000 in
theorem worded_yes (m : ByteArray) (hm : m.size ≤ 256) (w : World) : Calls Tryz.prog 85 #[.string m, .bool true] w (ValIs (2) (0) (m) w) := by
  obtain ⟨h2, hb2⟩ := first w [.int .i64 0, .int .i64 0, .string ⟨#[]⟩] 23
  have HB := Lib.hid (fun w1 => str_in_c m hm w1)
  go_enter Tryz.func85, Tryz.ntmps85
  go_wp2_with fail
  refine (HB.out _).mono ?_
  rintro e w1 ⟨rfl, hb1⟩
  replace h2 := h2.on hb1
  replace hb2 := on hb2 hb1
  clear hb1
  obtain ⟨⟨g0, p0, p1, p2, q0, q1, q2⟩, ⟨z0, z1, z2⟩, hb3⟩ := val_ends h2 hb2 (Nat.le_refl _) (.int .i64 2) (.int .i64 0) (.string m)
  clear h2 hb2
  go_wp2
  exact bodyPost_ret (v := .agg #[.int .i64 2, .int .i64 0, .string m]) (by simp [results, Tryz.results85, go_sem, z0, z1, z2]) rfl ⟨rfl, hb3⟩
theorem worded_v (m : List UInt8) (b : Bool) (hm : m.length ≤ 256) (w : World) : Calls Tryz.prog 85 #[.string ⟨m.toArray⟩, .bool b] w (IsV (tV (m, b)) w) := by
  cases b
  · exact worded_no _ w
  · exact worded_yes ⟨m.toArray⟩ hm w
set_option maxRecDepth 100000 in
set_option maxHeartbeats 2000000 in
theorem placed_no (n c : Int) (c1 : 1 ≤ c) (c2 : c ≤ 7) (w : World) : Calls Tryz.prog 109 #[.int .i64 n, .bool false, .int .i64 c] w (ValIs (4) (c) (⟨#[]⟩) w) := by
  obtain ⟨h2, hb2⟩ := first w [.int .i64 0, .int .i64 0, .string ⟨#[]⟩] 23
  have HB := Lib.hid (fun w1 => bad_v c c1 c2 w1)
  go_enter Tryz.func109, Tryz.ntmps109
  go_wp2_with fail
  refine (HB.out _).mono ?_
  rintro e w1 ⟨rfl, hb1⟩
  replace h2 := h2.on hb1
  replace hb2 := on hb2 hb1
  clear hb1
  obtain ⟨⟨g0, p0, p1, p2, q0, q1, q2⟩, ⟨z0, z1, z2⟩, hb3⟩ := val_ends h2 hb2 (Nat.le_refl _) (.int .i64 4) (.int .i64 (c)) (.string ⟨#[]⟩)
  clear h2 hb2
  go_wp2
  exact bodyPost_ret (v := .agg #[.int .i64 4, .int .i64 (c), .string ⟨#[]⟩]) (by simp [results, Tryz.results109, go_sem, z0, z1, z2]) rfl ⟨rfl, hb3⟩
set_option maxRecDepth 100000 in
set_option maxHeartbeats 2000000 in
theorem placed_yes (n c : Int) (n1 : -1000000 ≤ n) (n2 : n ≤ 2100000) (w : World) : Calls Tryz.prog 109 #[.int .i64 n, .bool true, .int .i64 c] w (ValIs (1) (n * 10000) (⟨#[]⟩) w) := by
  obtain ⟨h2, hb2⟩ := first w [.int .i64 0, .int .i64 0, .string ⟨#[]⟩] 23
  have HB : Hid (∀ w1, Calls Tryz.prog 101 #[.int .i64 n] w1 (ValIs 1 (n * 10000) ⟨#[]⟩ w1)) := Lib.hid (fun w1 => counted_v n n1 n2 w1)
  go_enter Tryz.func109, Tryz.ntmps109
  go_wp2_with fail
  refine (HB.out _).mono ?_
  rintro e w1 ⟨rfl, hb1⟩
  replace h2 := h2.on hb1
  replace hb2 := on hb2 hb1
  clear hb1
  obtain ⟨⟨g0, p0, p1, p2, q0, q1, q2⟩, ⟨z0, z1, z2⟩, hb3⟩ := val_ends h2 hb2 (Nat.le_refl _) (.int .i64 1) (.int .i64 (n * 10000)) (.string ⟨#[]⟩)
  clear h2 hb2
  go_wp2
  exact bodyPost_ret (v := .agg #[.int .i64 1, .int .i64 (n * 10000), .string ⟨#[]⟩]) (by simp [results, Tryz.results109, go_sem, z0, z1, z2]) rfl ⟨rfl, hb3⟩
set_option maxRecDepth 100000 in
set_option maxHeartbeats 2000000 in
theorem divided_zero (a : Int) (F : Value) (w : World) : Calls Tryz.prog 81 #[.int .i64 a, .int .i64 0, F] w (ValIs (4) (1) (⟨#[]⟩) w) := by
  obtain ⟨h2, hb2⟩ := first w [.int .i64 0, .int .i64 0, .string ⟨#[]⟩] 23
  have HB := Lib.hid (fun w1 => bad_v 1 (by decide) (by decide) w1)
  go_enter Tryz.func81, Tryz.ntmps81
  go_wp2_with fail
  refine (HB.out _).mono ?_
  rintro e w1 ⟨rfl, hb1⟩
  replace h2 := h2.on hb1
  replace hb2 := on hb2 hb1
  clear hb1
  obtain ⟨⟨g0, p0, p1, p2, q0, q1, q2⟩, ⟨z0, z1, z2⟩, hb3⟩ := val_ends h2 hb2 (Nat.le_refl _) (.int .i64 4) (.int .i64 1) (.string ⟨#[]⟩)
  clear h2 hb2
  go_wp2
  exact bodyPost_ret (v := .agg #[.int .i64 4, .int .i64 1, .string ⟨#[]⟩]) (by simp [results, Tryz.results81, go_sem, z0, z1, z2]) rfl ⟨rfl, hb3⟩
set_option maxRecDepth 100000 in
set_option maxHeartbeats 2000000 in
theorem divided_some (a b : Int) (hb0 : ¬ b = 0) (F : Nat) (hE : ∀ (args : Array Value) (w : World), (callFunc F args).run Tryz.prog w = .ok (.enter F args) w) (n : Int) (k : Bool)
    (HD : ∀ w1, Calls Tryz.prog F #[.int .i64 a, .int .i64 b] w1 fun e w' => e = .returned (.tuple #[.int .i64 n, .bool k]) ∧ Below w1.heap.size w1 w') (w : World) :
    Calls Tryz.prog 81 #[.int .i64 a, .int .i64 b, .func (.func F) #[] #[]] w (IsV (gV (n, k)) w) := by
  obtain ⟨h2, hb2⟩ := first w [.int .i64 0, .int .i64 0, .string ⟨#[]⟩] 23
  obtain ⟨⟨x, y⟩, hg⟩ : ∃ q, gotV n k = q := ⟨_, rfl⟩
  have HG := Lib.hid (fun w1 => got_c n k x y hg w1)
  replace HD := Lib.hid HD
  have HE := Lib.hid hE
  have q0 : (b == 0) = false := by rw [beq_eq_false_iff_ne]; exact hb0
  have e0 : gV (n, k) = ⟨x, y, ⟨#[]⟩⟩ := by unfold gV; dsimp only; rw [hg]
  rw [e0]
  show Calls Tryz.prog 81 _ w (ValIs x y ⟨#[]⟩ w)
  clear hg e0 hE
  go_enter Tryz.func81, Tryz.ntmps81
  go_wp2_with fail
  rw [HE.out, Oper.upon_enter]
  refine (HD.out _).mono ?_
  rintro e w1 ⟨rfl, hb1⟩
  replace h2 := h2.on hb1
  replace hb2 := on hb2 hb1
  clear hb1
  go_wp2_with fail
  refine (HG.out _).mono ?_
  rintro e w1 ⟨rfl, hb1⟩
  replace h2 := h2.on hb1
  replace hb2 := on hb2 hb1
  clear hb1
  obtain ⟨⟨g0, p0, p1, p2, q0, q1, q2⟩, ⟨z0, z1, z2⟩, hb3⟩ := val_ends h2 hb2 (Nat.le_refl _) (.int .i64 x) (.int .i64 y) (.string ⟨#[]⟩)
  clear h2 hb2
  go_wp2
  exact bodyPost_ret (v := .agg #[.int .i64 x, .int .i64 y, .string ⟨#[]⟩]) (by simp [results, Tryz.results81, go_sem, z0, z1, z2]) rfl ⟨rfl, hb3⟩
end Go.Proofs.YtebjedbppiphgaaGreatDoor.Cal

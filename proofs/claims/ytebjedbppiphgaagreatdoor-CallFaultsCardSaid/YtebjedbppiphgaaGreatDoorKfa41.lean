/- The program's functions of lists: ofAll, ofMany, ofOrder, ranked. Written by wip/gen21h.py. -/
import Derived.Test.YtebjedbppiphgaaGreatDoorKfa38
import Derived.Test.YtebjedbppiphgaaGreatDoorKfa32
import Derived.Test.YtebjedbppiphgaaGreatDoorKfa40
import Derived.Test.YtebjedbppiphgaaGreatDoorKfa30
import Derived.Test.YtebjedbppiphgaaGreatDoorKfa22
import Derived.Test.YtebjedbppiphgaaGreatDoorKfa31
namespace Go.Proofs.YtebjedbppiphgaaGreatDoor.Cal
open Go.RowKit Kit Reg Dec Dig Val Fld
/-- what a cell already holds, stored there once more, changes no cell -/
theorem cell_same {w : World} {p q : Addr} {v x : Value} (hp : w.cell? p = some v) (hq : w.cell? q = some x) : (w.setCell p v).cell? q = some x := by
  by_cases h : q = p
  · subst h
    rw [hp] at hq
    rw [← hq]
    simp [go_sem, hp]
  · rw [World.cell?_setCell_other (h := by intro e; exact h e.symm)]
    exact hq
theorem cell_same3 {w : World} {b : Nat} {u v r x : Value} {q : Addr} (m0 : w.cell? ⟨b, 0, none⟩ = some u) (m1 : w.cell? ⟨b, 1, none⟩ = some v) (m2 : w.cell? ⟨b, 2, none⟩ = some r) (hq : w.cell? q = some x) : (((w.setCell ⟨b, 0, none⟩ u).setCell ⟨b, 1, none⟩ v).setCell ⟨b, 2, none⟩ r).cell? q = some x :=
  cell_same (cell_same (cell_same m0 m1 |> fun h => h) (cell_same m0 m2)) (cell_same (cell_same m0 m1) (cell_same m0 hq))
set_option maxRecDepth 100000 in
set_option maxHeartbeats 2000000 in
theorem pal_SUM (A : Option Addr) (n cap : Nat) (L : List Vl) (hm : ∀ v ∈ L, v.may) (w : World) (hz : ValsR w A n L) : Calls Tryz.prog 55 #[.int .i64 67, .slice A n cap] w (IsV (pV (allV addD 0 L)) w) := by
  obtain ⟨h2, hb2⟩ := first w [.int .i64 0, .int .i64 0, .string ⟨#[]⟩] 23
  have HZ : Hid (∀ w1, Below w.heap.size w w1 → Calls Tryz.prog 119 #[.slice A n cap] w1 (IsV (pV (allV addD 0 L)) w1)) := Lib.hid (fun w1 hb => sum_c A n cap L hm _ _ rfl w1 (hz.on hb))
  obtain ⟨⟨a, b, c⟩, hz9⟩ : ∃ v, (pV (allV addD 0 L)) = v := ⟨_, rfl⟩
  rw [hz9] at HZ ⊢
  clear hz9
  have HZ2 : Hid (∀ w1, Below w.heap.size w w1 → Calls Tryz.prog 119 #[.slice A n cap] w1 (ValIs a b c w1)) := HZ
  clear HZ
  show Calls Tryz.prog 55 _ w (ValIs a b c w)
  clear hm hz
  go_enter Tryz.func55, Tryz.ntmps55
  go_wp2_with fail
  generalize w.alloc (.cells #[.int .i64 0, .int .i64 0, .string ⟨#[]⟩] 23) = W at *
  refine (HZ2.out _ hb2).mono ?_
  rintro e w3 ⟨rfl, hb1⟩
  replace h2 := h2.on hb1
  replace hb2 := on hb2 hb1
  clear hb1
  obtain ⟨⟨g0, p0, p1, p2, q0, q1, q2⟩, ⟨z0, z1, z2⟩, hb3⟩ := val_ends h2 hb2 (Nat.le_refl _) (.int .i64 a) (.int .i64 b) (.string c)
  clear h2 hb2
  go_wp2
  exact bodyPost_ret (v := .agg #[.int .i64 a, .int .i64 b, .string c]) (by simp [results, Tryz.results55, go_sem, z0, z1, z2]) rfl ⟨rfl, hb3⟩
set_option maxRecDepth 100000 in
set_option maxHeartbeats 2000000 in
theorem pal_PRODUCT (A : Option Addr) (n cap : Nat) (L : List Vl) (hm : ∀ v ∈ L, v.may) (w : World) (hz : ValsR w A n L) : Calls Tryz.prog 55 #[.int .i64 51, .slice A n cap] w (IsV (pV (allV mulD 10000 L)) w) := by
  obtain ⟨h2, hb2⟩ := first w [.int .i64 0, .int .i64 0, .string ⟨#[]⟩] 23
  have HZ : Hid (∀ w1, Below w.heap.size w w1 → Calls Tryz.prog 120 #[.slice A n cap] w1 (IsV (pV (allV mulD 10000 L)) w1)) := Lib.hid (fun w1 hb => product_c A n cap L hm _ _ rfl w1 (hz.on hb))
  obtain ⟨⟨a, b, c⟩, hz9⟩ : ∃ v, (pV (allV mulD 10000 L)) = v := ⟨_, rfl⟩
  rw [hz9] at HZ ⊢
  clear hz9
  have HZ2 : Hid (∀ w1, Below w.heap.size w w1 → Calls Tryz.prog 120 #[.slice A n cap] w1 (ValIs a b c w1)) := HZ
  clear HZ
  show Calls Tryz.prog 55 _ w (ValIs a b c w)
  clear hm hz
  go_enter Tryz.func55, Tryz.ntmps55
  go_wp2_with fail
  generalize w.alloc (.cells #[.int .i64 0, .int .i64 0, .string ⟨#[]⟩] 23) = W at *
  refine (HZ2.out _ hb2).mono ?_
  rintro e w3 ⟨rfl, hb1⟩
  replace h2 := h2.on hb1
  replace hb2 := on hb2 hb1
  clear hb1
  obtain ⟨⟨g0, p0, p1, p2, q0, q1, q2⟩, ⟨z0, z1, z2⟩, hb3⟩ := val_ends h2 hb2 (Nat.le_refl _) (.int .i64 a) (.int .i64 b) (.string c)
  clear h2 hb2
  go_wp2
  exact bodyPost_ret (v := .agg #[.int .i64 a, .int .i64 b, .string c]) (by simp [results, Tryz.results55, go_sem, z0, z1, z2]) rfl ⟨rfl, hb3⟩
set_option maxRecDepth 100000 in
set_option maxHeartbeats 2000000 in
theorem pal_SUMSQ (A : Option Addr) (n cap : Nat) (L : List Vl) (hm : ∀ v ∈ L, v.may) (w : World) (hz : ValsR w A n L) : Calls Tryz.prog 55 #[.int .i64 70, .slice A n cap] w (IsV (pV (allV sqD 0 L)) w) := by
  obtain ⟨h2, hb2⟩ := first w [.int .i64 0, .int .i64 0, .string ⟨#[]⟩] 23
  have HZ : Hid (∀ w1, Below w.heap.size w w1 → Calls Tryz.prog 121 #[.slice A n cap] w1 (IsV (pV (allV sqD 0 L)) w1)) := Lib.hid (fun w1 hb => squares_c A n cap L hm _ _ rfl w1 (hz.on hb))
  obtain ⟨⟨a, b, c⟩, hz9⟩ : ∃ v, (pV (allV sqD 0 L)) = v := ⟨_, rfl⟩
  rw [hz9] at HZ ⊢
  clear hz9
  have HZ2 : Hid (∀ w1, Below w.heap.size w w1 → Calls Tryz.prog 121 #[.slice A n cap] w1 (ValIs a b c w1)) := HZ
  clear HZ
  show Calls Tryz.prog 55 _ w (ValIs a b c w)
  clear hm hz
  go_enter Tryz.func55, Tryz.ntmps55
  go_wp2_with fail
  generalize w.alloc (.cells #[.int .i64 0, .int .i64 0, .string ⟨#[]⟩] 23) = W at *
  refine (HZ2.out _ hb2).mono ?_
  rintro e w3 ⟨rfl, hb1⟩
  replace h2 := h2.on hb1
  replace hb2 := on hb2 hb1
  clear hb1
  obtain ⟨⟨g0, p0, p1, p2, q0, q1, q2⟩, ⟨z0, z1, z2⟩, hb3⟩ := val_ends h2 hb2 (Nat.le_refl _) (.int .i64 a) (.int .i64 b) (.string c)
  clear h2 hb2
  go_wp2
  exact bodyPost_ret (v := .agg #[.int .i64 a, .int .i64 b, .string c]) (by simp [results, Tryz.results55, go_sem, z0, z1, z2]) rfl ⟨rfl, hb3⟩
set_option maxRecDepth 100000 in
set_option maxHeartbeats 2000000 in
theorem pal_MIN (A : Option Addr) (n cap : Nat) (L : List Vl) (hm : ∀ v ∈ L, v.may) (w : World) (hz : ValsR w A n L) : Calls Tryz.prog 55 #[.int .i64 43, .slice A n cap] w (IsV (pV (allV (bestD false) (startB false) L)) w) := by
  obtain ⟨h2, hb2⟩ := first w [.int .i64 0, .int .i64 0, .string ⟨#[]⟩] 23
  have HZ : Hid (∀ w1, Below w.heap.size w w1 → Calls Tryz.prog 122 #[.slice A n cap] w1 (IsV (pV (allV (bestD false) (startB false) L)) w1)) := Lib.hid (fun w1 hb => least_c A n cap L hm _ _ rfl w1 (hz.on hb))
  obtain ⟨⟨a, b, c⟩, hz9⟩ : ∃ v, (pV (allV (bestD false) (startB false) L)) = v := ⟨_, rfl⟩
  rw [hz9] at HZ ⊢
  clear hz9
  have HZ2 : Hid (∀ w1, Below w.heap.size w w1 → Calls Tryz.prog 122 #[.slice A n cap] w1 (ValIs a b c w1)) := HZ
  clear HZ
  show Calls Tryz.prog 55 _ w (ValIs a b c w)
  clear hm hz
  go_enter Tryz.func55, Tryz.ntmps55
  go_wp2_with fail
  generalize w.alloc (.cells #[.int .i64 0, .int .i64 0, .string ⟨#[]⟩] 23) = W at *
  refine (HZ2.out _ hb2).mono ?_
  rintro e w3 ⟨rfl, hb1⟩
  replace h2 := h2.on hb1
  replace hb2 := on hb2 hb1
  clear hb1
  obtain ⟨⟨g0, p0, p1, p2, q0, q1, q2⟩, ⟨z0, z1, z2⟩, hb3⟩ := val_ends h2 hb2 (Nat.le_refl _) (.int .i64 a) (.int .i64 b) (.string c)
  clear h2 hb2
  go_wp2
  exact bodyPost_ret (v := .agg #[.int .i64 a, .int .i64 b, .string c]) (by simp [results, Tryz.results55, go_sem, z0, z1, z2]) rfl ⟨rfl, hb3⟩
set_option maxRecDepth 100000 in
set_option maxHeartbeats 2000000 in
theorem pal_MAX (A : Option Addr) (n cap : Nat) (L : List Vl) (hm : ∀ v ∈ L, v.may) (w : World) (hz : ValsR w A n L) : Calls Tryz.prog 55 #[.int .i64 40, .slice A n cap] w (IsV (pV (allV (bestD true) (startB true) L)) w) := by
  obtain ⟨h2, hb2⟩ := first w [.int .i64 0, .int .i64 0, .string ⟨#[]⟩] 23
  have HZ : Hid (∀ w1, Below w.heap.size w w1 → Calls Tryz.prog 123 #[.slice A n cap] w1 (IsV (pV (allV (bestD true) (startB true) L)) w1)) := Lib.hid (fun w1 hb => most_c A n cap L hm _ _ rfl w1 (hz.on hb))
  obtain ⟨⟨a, b, c⟩, hz9⟩ : ∃ v, (pV (allV (bestD true) (startB true) L)) = v := ⟨_, rfl⟩
  rw [hz9] at HZ ⊢
  clear hz9
  have HZ2 : Hid (∀ w1, Below w.heap.size w w1 → Calls Tryz.prog 123 #[.slice A n cap] w1 (ValIs a b c w1)) := HZ
  clear HZ
  show Calls Tryz.prog 55 _ w (ValIs a b c w)
  clear hm hz
  go_enter Tryz.func55, Tryz.ntmps55
  go_wp2_with fail
  generalize w.alloc (.cells #[.int .i64 0, .int .i64 0, .string ⟨#[]⟩] 23) = W at *
  refine (HZ2.out _ hb2).mono ?_
  rintro e w3 ⟨rfl, hb1⟩
  replace h2 := h2.on hb1
  replace hb2 := on hb2 hb1
  clear hb1
  obtain ⟨⟨g0, p0, p1, p2, q0, q1, q2⟩, ⟨z0, z1, z2⟩, hb3⟩ := val_ends h2 hb2 (Nat.le_refl _) (.int .i64 a) (.int .i64 b) (.string c)
  clear h2 hb2
  go_wp2
  exact bodyPost_ret (v := .agg #[.int .i64 a, .int .i64 b, .string c]) (by simp [results, Tryz.results55, go_sem, z0, z1, z2]) rfl ⟨rfl, hb3⟩
set_option maxRecDepth 100000 in
set_option maxHeartbeats 2000000 in
theorem pal_AVERAGE (A : Option Addr) (n cap : Nat) (L : List Vl) (hm : ∀ v ∈ L, v.may) (w : World) (hz : ValsR w A n L) : Calls Tryz.prog 55 #[.int .i64 3, .slice A n cap] w (IsV (pV (meanV L)) w) := by
  obtain ⟨h2, hb2⟩ := first w [.int .i64 0, .int .i64 0, .string ⟨#[]⟩] 23
  have HZ : Hid (∀ w1, Below w.heap.size w w1 → Calls Tryz.prog 124 #[.slice A n cap] w1 (IsV (pV (meanV L)) w1)) := Lib.hid (fun w1 hb => mean_c A n cap L hm _ _ rfl w1 (hz.on hb))
  obtain ⟨⟨a, b, c⟩, hz9⟩ : ∃ v, (pV (meanV L)) = v := ⟨_, rfl⟩
  rw [hz9] at HZ ⊢
  clear hz9
  have HZ2 : Hid (∀ w1, Below w.heap.size w w1 → Calls Tryz.prog 124 #[.slice A n cap] w1 (ValIs a b c w1)) := HZ
  clear HZ
  show Calls Tryz.prog 55 _ w (ValIs a b c w)
  clear hm hz
  go_enter Tryz.func55, Tryz.ntmps55
  go_wp2_with fail
  generalize w.alloc (.cells #[.int .i64 0, .int .i64 0, .string ⟨#[]⟩] 23) = W at *
  refine (HZ2.out _ hb2).mono ?_
  rintro e w3 ⟨rfl, hb1⟩
  replace h2 := h2.on hb1
  replace hb2 := on hb2 hb1
  clear hb1
  obtain ⟨⟨g0, p0, p1, p2, q0, q1, q2⟩, ⟨z0, z1, z2⟩, hb3⟩ := val_ends h2 hb2 (Nat.le_refl _) (.int .i64 a) (.int .i64 b) (.string c)
  clear h2 hb2
  go_wp2
  exact bodyPost_ret (v := .agg #[.int .i64 a, .int .i64 b, .string c]) (by simp [results, Tryz.results55, go_sem, z0, z1, z2]) rfl ⟨rfl, hb3⟩
set_option maxRecDepth 100000 in
set_option maxHeartbeats 2000000 in
theorem pal_XOR (A : Option Addr) (n cap : Nat) (L : List Vl) (hm : ∀ v ∈ L, v.may) (w : World) (hz : ValsR w A n L) : Calls Tryz.prog 55 #[.int .i64 78, .slice A n cap] w (IsV (pV (xorV false L)) w) := by
  obtain ⟨h2, hb2⟩ := first w [.int .i64 0, .int .i64 0, .string ⟨#[]⟩] 23
  have HZ : Hid (∀ w1, Below w.heap.size w w1 → Calls Tryz.prog 127 #[.slice A n cap] w1 (IsV (pV (xorV false L)) w1)) := Lib.hid (fun w1 hb => xor_c A n cap L hm _ _ rfl w1 (hz.on hb))
  obtain ⟨⟨a, b, c⟩, hz9⟩ : ∃ v, (pV (xorV false L)) = v := ⟨_, rfl⟩
  rw [hz9] at HZ ⊢
  clear hz9
  have HZ2 : Hid (∀ w1, Below w.heap.size w w1 → Calls Tryz.prog 127 #[.slice A n cap] w1 (ValIs a b c w1)) := HZ
  clear HZ
  show Calls Tryz.prog 55 _ w (ValIs a b c w)
  clear hm hz
  go_enter Tryz.func55, Tryz.ntmps55
  go_wp2_with fail
  generalize w.alloc (.cells #[.int .i64 0, .int .i64 0, .string ⟨#[]⟩] 23) = W at *
  refine (HZ2.out _ hb2).mono ?_
  rintro e w3 ⟨rfl, hb1⟩
  replace h2 := h2.on hb1
  replace hb2 := on hb2 hb1
  clear hb1
  obtain ⟨⟨g0, p0, p1, p2, q0, q1, q2⟩, ⟨z0, z1, z2⟩, hb3⟩ := val_ends h2 hb2 (Nat.le_refl _) (.int .i64 a) (.int .i64 b) (.string c)
  clear h2 hb2
  go_wp2
  exact bodyPost_ret (v := .agg #[.int .i64 a, .int .i64 b, .string c]) (by simp [results, Tryz.results55, go_sem, z0, z1, z2]) rfl ⟨rfl, hb3⟩
set_option maxRecDepth 100000 in
set_option maxHeartbeats 2000000 in
theorem pal_CONCAT (A : Option Addr) (n cap : Nat) (L : List Vl) (hm : ∀ v ∈ L, v.may) (w : World) (hz : ValsR w A n L) (hL : Dig.Libs w) : Calls Tryz.prog 55 #[.int .i64 12, .slice A n cap] w (IsV (catV L) w) := by
  obtain ⟨h2, hb2⟩ := first w [.int .i64 0, .int .i64 0, .string ⟨#[]⟩] 23
  have HZ : Hid (∀ w1, Below w.heap.size w w1 → Calls Tryz.prog 126 #[.slice A n cap] w1 (IsV (catV L) w1)) := Lib.hid (fun w1 hb => concat_c A n cap L hm _ _ _ rfl w1 (hz.on hb) (hL.grown hb))
  obtain ⟨⟨a, b, c⟩, hz9⟩ : ∃ v, (catV L) = v := ⟨_, rfl⟩
  rw [hz9] at HZ ⊢
  clear hz9
  have HZ2 : Hid (∀ w1, Below w.heap.size w w1 → Calls Tryz.prog 126 #[.slice A n cap] w1 (ValIs a b c w1)) := HZ
  clear HZ
  show Calls Tryz.prog 55 _ w (ValIs a b c w)
  clear hm hz hL
  go_enter Tryz.func55, Tryz.ntmps55
  go_wp2_with fail
  generalize w.alloc (.cells #[.int .i64 0, .int .i64 0, .string ⟨#[]⟩] 23) = W at *
  refine (HZ2.out _ hb2).mono ?_
  rintro e w3 ⟨rfl, hb1⟩
  replace h2 := h2.on hb1
  replace hb2 := on hb2 hb1
  clear hb1
  obtain ⟨⟨g0, p0, p1, p2, q0, q1, q2⟩, ⟨z0, z1, z2⟩, hb3⟩ := val_ends h2 hb2 (Nat.le_refl _) (.int .i64 a) (.int .i64 b) (.string c)
  clear h2 hb2
  go_wp2
  exact bodyPost_ret (v := .agg #[.int .i64 a, .int .i64 b, .string c]) (by simp [results, Tryz.results55, go_sem, z0, z1, z2]) rfl ⟨rfl, hb3⟩
set_option maxRecDepth 100000 in
set_option maxHeartbeats 2000000 in
theorem ofmany_bad (fn : Int) (A : Option Addr) (n cap : Nat) (x : Vl) (h4 : x.k = 4) (w : World) (HN0 : ∀ w1, Below w.heap.size w w1 → Calls Tryz.prog 128 #[.slice A n cap] w1 (FaultGot x w1)) :
    Calls Tryz.prog 56 #[.int .i64 fn, .slice A n cap] w (IsV x w) := by
  obtain ⟨h2, hb2⟩ := first w [.int .i64 0, .int .i64 0, .string ⟨#[]⟩] 23
  obtain ⟨xk, xn, xt⟩ := x
  obtain rfl : xk = 4 := h4
  have HN : Hid (∀ w1, Below w.heap.size w w1 → Calls Tryz.prog 128 #[.slice A n cap] w1 fun e w' => e = .returned (.tuple #[.slice none 0 0, .agg #[.int .i64 4, .int .i64 xn, .string xt]]) ∧ Below w1.heap.size w1 w') := Lib.hid HN0
  have HI : Hid (∀ w1, Calls Tryz.prog 42 #[.agg #[.int .i64 4, .int .i64 xn, .string xt]] w1 fun e w' => e = .returned (.bool true) ∧ Below w1.heap.size w1 w') := Lib.hid (fun w1 => isfault_v _ _ _ true rfl w1)
  clear HN0
  show Calls Tryz.prog 56 _ w (ValIs 4 xn xt w)
  go_enter Tryz.func56, Tryz.ntmps56
  go_wp2_with fail
  generalize w.alloc (.cells #[.int .i64 0, .int .i64 0, .string ⟨#[]⟩] 23) = W at *
  refine (HN.out _ hb2).mono ?_
  rintro e w1 ⟨rfl, hb1⟩
  replace h2 := h2.on hb1
  replace hb2 := on hb2 hb1
  clear hb1
  replace h2 := h2.on_alloc (.cells #[.int .i64 4, .int .i64 xn, .string xt] 23)
  replace hb2 := on_alloc hb2 (.cells #[.int .i64 4, .int .i64 xn, .string xt] 23)
  have hx := CellsAt.new w1 [.int .i64 4, .int .i64 xn, .string xt] 23
  obtain ⟨x0, x1, x2, -⟩ := hx.three
  go_wp2_with fail
  generalize w1.alloc (.cells #[.int .i64 4, .int .i64 xn, .string xt] 23) = X1 at *
  clear x0 x1 x2
  refine (HI.out _).mono ?_
  rintro e w2 ⟨rfl, hb1⟩
  replace h2 := h2.on hb1
  replace hx := hx.on hb1
  replace hb2 := on hb2 hb1
  clear hb1
  obtain ⟨x0, x1, x2, -⟩ := hx.three
  obtain ⟨⟨g0, p0, p1, p2, q0, q1, q2⟩, ⟨z0, z1, z2⟩, hb3⟩ := val_ends h2 hb2 (Nat.le_refl _) (.int .i64 4) (.int .i64 xn) (.string xt)
  clear h2 hb2
  go_wp2
  exact bodyPost_ret (v := .agg #[.int .i64 4, .int .i64 xn, .string xt]) (by simp [results, Tryz.results56, go_sem, z0, z1, z2]) rfl ⟨rfl, hb3⟩
set_option maxRecDepth 100000 in
set_option maxHeartbeats 2000000 in
theorem pma_MEDIAN (A : Option Addr) (m cap : Nat) (xs : List Int) (q : Nat) (hq : q ≤ 1000) (n : Int) (b : Bool) (hd : Odr.medD xs = (n, b)) (w : World) (HN0 : ∀ w1, Below w.heap.size w w1 → Calls Tryz.prog 128 #[.slice A m cap] w1 fun e w' => ∃ A2 c2, e = .returned (.tuple #[.slice A2 q c2, .agg #[.int .i64 0, .int .i64 0, .string ⟨#[]⟩]]) ∧ Odr.NumsR w' A2 q c2 xs ∧ Below w1.heap.size w1 w') :
    Calls Tryz.prog 56 #[.int .i64 41, .slice A m cap] w (IsV (gV (n, b)) w) := by
  obtain ⟨h2, hb2⟩ := first w [.int .i64 0, .int .i64 0, .string ⟨#[]⟩] 23
  have HN := Lib.hid HN0
  have HI : Hid (∀ w1, Calls Tryz.prog 42 #[.agg #[.int .i64 0, .int .i64 0, .string ⟨#[]⟩]] w1 fun e w' => e = .returned (.bool false) ∧ Below w1.heap.size w1 w') := Lib.hid (fun w1 => isfault_v _ _ _ false rfl w1)
  have HA : Hid (∀ A2 c2 w1, Odr.NumsR w1 A2 q c2 xs → Calls Tryz.prog 129 #[.slice A2 q c2] w1 fun e w' => e = .returned (.tuple #[.int .i64 n, .bool b]) ∧ Below w1.heap.size w1 w') := Lib.hid (fun A2 c2 w1 hr => Odr.median_c A2 q c2 xs hq n b hd w1 hr)
  have HZ : Hid (∀ w1, Calls Tryz.prog 43 #[.int .i64 n, .bool b] w1 (IsV (gV (n, b)) w1)) := Lib.hid (fun w1 => got_v n b w1)
  obtain ⟨⟨a, b1, c⟩, hz9⟩ : ∃ v, (gV (n, b)) = v := ⟨_, rfl⟩
  rw [hz9] at HZ ⊢
  clear hz9
  have HZ2 : Hid (∀ w1, Calls Tryz.prog 43 #[.int .i64 n, .bool b] w1 (ValIs a b1 c w1)) := HZ
  clear HZ
  show Calls Tryz.prog 56 _ w (ValIs a b1 c w)
  clear HN0 hd
  go_enter Tryz.func56, Tryz.ntmps56
  go_wp2_with fail
  generalize w.alloc (.cells #[.int .i64 0, .int .i64 0, .string ⟨#[]⟩] 23) = W at *
  refine (HN.out _ hb2).mono ?_
  rintro e w1 ⟨A2, c2, rfl, hnr, hb1⟩
  replace h2 := h2.on hb1
  replace hb2 := on hb2 hb1
  clear hb1
  replace hnr := Lib.hid (hnr.on (below1 w1 (.cells #[.int .i64 0, .int .i64 0, .string ⟨#[]⟩] 23)))
  replace h2 := h2.on_alloc (.cells #[.int .i64 0, .int .i64 0, .string ⟨#[]⟩] 23)
  replace hb2 := on_alloc hb2 (.cells #[.int .i64 0, .int .i64 0, .string ⟨#[]⟩] 23)
  have hx := CellsAt.new w1 [.int .i64 0, .int .i64 0, .string ⟨#[]⟩] 23
  obtain ⟨x0, x1, x2, -⟩ := hx.three
  go_wp2_with fail
  generalize w1.alloc (.cells #[.int .i64 0, .int .i64 0, .string ⟨#[]⟩] 23) = X1 at *
  clear x0 x1 x2
  refine (HI.out _).mono ?_
  rintro e w2 ⟨rfl, hb1⟩
  replace h2 := h2.on hb1
  replace hx := hx.on hb1
  replace hb2 := on hb2 hb1
  replace hnr := Lib.hid (hnr.out.on hb1)
  clear hb1
  clear hx
  go_wp2_with fail
  refine (HA.out _ _ _ hnr.out).mono ?_
  rintro e w1 ⟨rfl, hb1⟩
  replace h2 := h2.on hb1
  replace hb2 := on hb2 hb1
  clear hb1
  go_wp2_with fail
  refine (HZ2.out _).mono ?_
  rintro e w3 ⟨rfl, hb1⟩
  replace h2 := h2.on hb1
  replace hb2 := on hb2 hb1
  clear hb1
  obtain ⟨⟨g0, p0, p1, p2, q0, q1, q2⟩, ⟨z0, z1, z2⟩, hb3⟩ := val_ends h2 hb2 (Nat.le_refl _) (.int .i64 a) (.int .i64 b1) (.string c)
  clear h2 hb2
  go_wp2
  exact bodyPost_ret (v := .agg #[.int .i64 a, .int .i64 b1, .string c]) (by simp [results, Tryz.results56, go_sem, z0, z1, z2]) rfl ⟨rfl, hb3⟩
set_option maxRecDepth 100000 in
set_option maxHeartbeats 2000000 in
theorem pma_MODE1 (A : Option Addr) (m cap : Nat) (xs : List Int) (q : Nat) (hq : q ≤ 1000) (n : Int) (hd : Odr.modeD xs = (n, true)) (w : World) (HN0 : ∀ w1, Below w.heap.size w w1 → Calls Tryz.prog 128 #[.slice A m cap] w1 fun e w' => ∃ A2 c2, e = .returned (.tuple #[.slice A2 q c2, .agg #[.int .i64 0, .int .i64 0, .string ⟨#[]⟩]]) ∧ Odr.NumsR w' A2 q c2 xs ∧ Below w1.heap.size w1 w') :
    Calls Tryz.prog 56 #[.int .i64 45, .slice A m cap] w (IsV ((⟨(numV n).1, (numV n).2, ⟨#[]⟩⟩ : Vl)) w) := by
  obtain ⟨h2, hb2⟩ := first w [.int .i64 0, .int .i64 0, .string ⟨#[]⟩] 23
  have HN := Lib.hid HN0
  have HI : Hid (∀ w1, Calls Tryz.prog 42 #[.agg #[.int .i64 0, .int .i64 0, .string ⟨#[]⟩]] w1 fun e w' => e = .returned (.bool false) ∧ Below w1.heap.size w1 w') := Lib.hid (fun w1 => isfault_v _ _ _ false rfl w1)
  have HA : Hid (∀ A2 c2 w1, Odr.NumsR w1 A2 q c2 xs → Calls Tryz.prog 130 #[.slice A2 q c2] w1 fun e w' => e = .returned (.tuple #[.int .i64 n, .bool true]) ∧ Below w1.heap.size w1 w') := Lib.hid (fun A2 c2 w1 hr => Odr.mode_c A2 q c2 xs hq n true hd w1 hr)
  have HZ : Hid (∀ w1, Calls Tryz.prog 23 #[.int .i64 n] w1 (IsV ((⟨(numV n).1, (numV n).2, ⟨#[]⟩⟩ : Vl)) w1)) := Lib.hid (fun w1 => Val.num_c n _ _ rfl w1)
  obtain ⟨⟨a, b, c⟩, hz9⟩ : ∃ v, ((⟨(numV n).1, (numV n).2, ⟨#[]⟩⟩ : Vl)) = v := ⟨_, rfl⟩
  rw [hz9] at HZ ⊢
  clear hz9
  have HZ2 : Hid (∀ w1, Calls Tryz.prog 23 #[.int .i64 n] w1 (ValIs a b c w1)) := HZ
  clear HZ
  show Calls Tryz.prog 56 _ w (ValIs a b c w)
  clear HN0 hd
  go_enter Tryz.func56, Tryz.ntmps56
  go_wp2_with fail
  generalize w.alloc (.cells #[.int .i64 0, .int .i64 0, .string ⟨#[]⟩] 23) = W at *
  refine (HN.out _ hb2).mono ?_
  rintro e w1 ⟨A2, c2, rfl, hnr, hb1⟩
  replace h2 := h2.on hb1
  replace hb2 := on hb2 hb1
  clear hb1
  replace hnr := Lib.hid (hnr.on (below1 w1 (.cells #[.int .i64 0, .int .i64 0, .string ⟨#[]⟩] 23)))
  replace h2 := h2.on_alloc (.cells #[.int .i64 0, .int .i64 0, .string ⟨#[]⟩] 23)
  replace hb2 := on_alloc hb2 (.cells #[.int .i64 0, .int .i64 0, .string ⟨#[]⟩] 23)
  have hx := CellsAt.new w1 [.int .i64 0, .int .i64 0, .string ⟨#[]⟩] 23
  obtain ⟨x0, x1, x2, -⟩ := hx.three
  go_wp2_with fail
  generalize w1.alloc (.cells #[.int .i64 0, .int .i64 0, .string ⟨#[]⟩] 23) = X1 at *
  clear x0 x1 x2
  refine (HI.out _).mono ?_
  rintro e w2 ⟨rfl, hb1⟩
  replace h2 := h2.on hb1
  replace hx := hx.on hb1
  replace hb2 := on hb2 hb1
  replace hnr := Lib.hid (hnr.out.on hb1)
  clear hb1
  clear hx
  go_wp2_with fail
  refine (HA.out _ _ _ hnr.out).mono ?_
  rintro e w1 ⟨rfl, hb1⟩
  replace h2 := h2.on hb1
  replace hb2 := on hb2 hb1
  clear hb1
  go_wp2_with fail
  refine (HZ2.out _).mono ?_
  rintro e w3 ⟨rfl, hb1⟩
  replace h2 := h2.on hb1
  replace hb2 := on hb2 hb1
  clear hb1
  obtain ⟨⟨g0, p0, p1, p2, q0, q1, q2⟩, ⟨z0, z1, z2⟩, hb3⟩ := val_ends h2 hb2 (Nat.le_refl _) (.int .i64 a) (.int .i64 b) (.string c)
  clear h2 hb2
  go_wp2
  exact bodyPost_ret (v := .agg #[.int .i64 a, .int .i64 b, .string c]) (by simp [results, Tryz.results56, go_sem, z0, z1, z2]) rfl ⟨rfl, hb3⟩
set_option maxRecDepth 100000 in
set_option maxHeartbeats 2000000 in
theorem pma_MODE0 (A : Option Addr) (m cap : Nat) (xs : List Int) (q : Nat) (hq : q ≤ 1000) (n : Int) (hd : Odr.modeD xs = (n, false)) (w : World) (HN0 : ∀ w1, Below w.heap.size w w1 → Calls Tryz.prog 128 #[.slice A m cap] w1 fun e w' => ∃ A2 c2, e = .returned (.tuple #[.slice A2 q c2, .agg #[.int .i64 0, .int .i64 0, .string ⟨#[]⟩]]) ∧ Odr.NumsR w' A2 q c2 xs ∧ Below w1.heap.size w1 w') :
    Calls Tryz.prog 56 #[.int .i64 45, .slice A m cap] w (IsV (fV 5) w) := by
  obtain ⟨h2, hb2⟩ := first w [.int .i64 0, .int .i64 0, .string ⟨#[]⟩] 23
  have HN := Lib.hid HN0
  have HI : Hid (∀ w1, Calls Tryz.prog 42 #[.agg #[.int .i64 0, .int .i64 0, .string ⟨#[]⟩]] w1 fun e w' => e = .returned (.bool false) ∧ Below w1.heap.size w1 w') := Lib.hid (fun w1 => isfault_v _ _ _ false rfl w1)
  have HA : Hid (∀ A2 c2 w1, Odr.NumsR w1 A2 q c2 xs → Calls Tryz.prog 130 #[.slice A2 q c2] w1 fun e w' => e = .returned (.tuple #[.int .i64 n, .bool false]) ∧ Below w1.heap.size w1 w') := Lib.hid (fun A2 c2 w1 hr => Odr.mode_c A2 q c2 xs hq n false hd w1 hr)
  have HZ : Hid (∀ w1, Calls Tryz.prog 26 #[.int .i64 5] w1 (IsV (fV 5) w1)) := Lib.hid (fun w1 => bad_v 5 (by decide) (by decide) w1)
  obtain ⟨⟨a, b, c⟩, hz9⟩ : ∃ v, (fV 5) = v := ⟨_, rfl⟩
  rw [hz9] at HZ ⊢
  clear hz9
  have HZ2 : Hid (∀ w1, Calls Tryz.prog 26 #[.int .i64 5] w1 (ValIs a b c w1)) := HZ
  clear HZ
  show Calls Tryz.prog 56 _ w (ValIs a b c w)
  clear HN0 hd
  go_enter Tryz.func56, Tryz.ntmps56
  go_wp2_with fail
  generalize w.alloc (.cells #[.int .i64 0, .int .i64 0, .string ⟨#[]⟩] 23) = W at *
  refine (HN.out _ hb2).mono ?_
  rintro e w1 ⟨A2, c2, rfl, hnr, hb1⟩
  replace h2 := h2.on hb1
  replace hb2 := on hb2 hb1
  clear hb1
  replace hnr := Lib.hid (hnr.on (below1 w1 (.cells #[.int .i64 0, .int .i64 0, .string ⟨#[]⟩] 23)))
  replace h2 := h2.on_alloc (.cells #[.int .i64 0, .int .i64 0, .string ⟨#[]⟩] 23)
  replace hb2 := on_alloc hb2 (.cells #[.int .i64 0, .int .i64 0, .string ⟨#[]⟩] 23)
  have hx := CellsAt.new w1 [.int .i64 0, .int .i64 0, .string ⟨#[]⟩] 23
  obtain ⟨x0, x1, x2, -⟩ := hx.three
  go_wp2_with fail
  generalize w1.alloc (.cells #[.int .i64 0, .int .i64 0, .string ⟨#[]⟩] 23) = X1 at *
  clear x0 x1 x2
  refine (HI.out _).mono ?_
  rintro e w2 ⟨rfl, hb1⟩
  replace h2 := h2.on hb1
  replace hx := hx.on hb1
  replace hb2 := on hb2 hb1
  replace hnr := Lib.hid (hnr.out.on hb1)
  clear hb1
  clear hx
  go_wp2_with fail
  refine (HA.out _ _ _ hnr.out).mono ?_
  rintro e w1 ⟨rfl, hb1⟩
  replace h2 := h2.on hb1
  replace hb2 := on hb2 hb1
  clear hb1
  go_wp2_with fail
  refine (HZ2.out _).mono ?_
  rintro e w3 ⟨rfl, hb1⟩
  replace h2 := h2.on hb1
  replace hb2 := on hb2 hb1
  clear hb1
  obtain ⟨⟨g0, p0, p1, p2, q0, q1, q2⟩, ⟨z0, z1, z2⟩, hb3⟩ := val_ends h2 hb2 (Nat.le_refl _) (.int .i64 a) (.int .i64 b) (.string c)
  clear h2 hb2
  go_wp2
  exact bodyPost_ret (v := .agg #[.int .i64 a, .int .i64 b, .string c]) (by simp [results, Tryz.results56, go_sem, z0, z1, z2]) rfl ⟨rfl, hb3⟩
set_option maxRecDepth 100000 in
set_option maxHeartbeats 2000000 in
theorem por_LARGE (A B : Option Addr) (n cap capb : Nat) (xs : List Int) (q : Nat) (hq : q ≤ 1000) (p : Int) (q1 : -9223372036854775807 ≤ p) (q2 : p ≤ 9223372036854775807) (w : World) (HN0 : ∀ w1, Below w.heap.size w w1 → Calls Tryz.prog 128 #[.slice A n cap] w1 fun e w' => ∃ A2 c2, e = .returned (.tuple #[.slice A2 q c2, .agg #[.int .i64 0, .int .i64 0, .string ⟨#[]⟩]]) ∧ Odr.NumsR w' A2 q c2 xs ∧ Below w1.heap.size w1 w')
    (HM0 : ∀ w1, Below w.heap.size w w1 → Calls Tryz.prog 77 #[.slice B 1 capb] w1 fun e w' => ∃ A2 c2, e = .returned (.tuple #[.slice A2 1 c2, .agg #[.int .i64 0, .int .i64 0, .string ⟨#[]⟩]]) ∧ IntsR w' A2 [p] ∧ Below w1.heap.size w1 w') :
    Calls Tryz.prog 57 #[.int .i64 34, .slice A n cap, .slice B 1 capb] w (IsV (gV (Odr.largeD xs (unI p))) w) := by
  obtain ⟨h2, hb2⟩ := first w [.int .i64 0, .int .i64 0, .string ⟨#[]⟩] 23
  have HN := Lib.hid HN0
  have HM := Lib.hid HM0
  have HI : Hid (∀ w1, Calls Tryz.prog 42 #[.agg #[.int .i64 0, .int .i64 0, .string ⟨#[]⟩]] w1 fun e w' => e = .returned (.bool false) ∧ Below w1.heap.size w1 w') := Lib.hid (fun w1 => isfault_v _ _ _ false rfl w1)
  have HU := Lib.hid (fun w1 => units_v p q1 q2 w1)
  obtain ⟨⟨r, k⟩, hd⟩ : ∃ y, Odr.largeD xs (unI p) = y := ⟨_, rfl⟩
  rw [hd]
  generalize unI p = u at *
  have HA : Hid (∀ A2 c2 w1, Odr.NumsR w1 A2 q c2 xs → Calls Tryz.prog 131 #[.slice A2 q c2, .int .i64 u] w1 fun e w' => e = .returned (.tuple #[.int .i64 r, .bool k]) ∧ Below w1.heap.size w1 w') := Lib.hid (fun A2 c2 w1 hr => Odr.large_c A2 q c2 xs hq u r k hd w1 hr)
  have HZ : Hid (∀ w1, Calls Tryz.prog 43 #[.int .i64 r, .bool k] w1 (IsV (gV (r, k)) w1)) := Lib.hid (fun w1 => got_v r k w1)
  obtain ⟨⟨a, b, c⟩, hz9⟩ : ∃ v, (gV (r, k)) = v := ⟨_, rfl⟩
  rw [hz9] at HZ ⊢
  clear hz9
  have HZ2 : Hid (∀ w1, Calls Tryz.prog 43 #[.int .i64 r, .bool k] w1 (ValIs a b c w1)) := HZ
  clear HZ
  show Calls Tryz.prog 57 _ w (ValIs a b c w)
  clear HN0 HM0 hd
  go_enter Tryz.func57, Tryz.ntmps57
  go_wp2_with fail
  generalize w.alloc (.cells #[.int .i64 0, .int .i64 0, .string ⟨#[]⟩] 23) = W at *
  refine (HN.out _ hb2).mono ?_
  rintro e w1 ⟨A2, c2, rfl, hnr, hb1⟩
  replace h2 := h2.on hb1
  replace hb2 := on hb2 hb1
  clear hb1
  replace hnr := Lib.hid hnr
  have hbn := below1 w1 (.cells #[.int .i64 0, .int .i64 0, .string ⟨#[]⟩] 23)
  have hgb := h2.1
  replace h2 := h2.on_alloc (.cells #[.int .i64 0, .int .i64 0, .string ⟨#[]⟩] 23)
  replace hb2 := on_alloc hb2 (.cells #[.int .i64 0, .int .i64 0, .string ⟨#[]⟩] 23)
  have hx := CellsAt.new w1 [.int .i64 0, .int .i64 0, .string ⟨#[]⟩] 23
  obtain ⟨x0, x1, x2, -⟩ := hx.three
  go_wp2_with fail
  generalize w1.alloc (.cells #[.int .i64 0, .int .i64 0, .string ⟨#[]⟩] 23) = X1 at *
  clear x0 x1 x2
  generalize hgb2 : w1.heap.size = gb at hx hgb ⊢
  refine (HI.out _).mono ?_
  rintro e w2 ⟨rfl, hb1⟩
  replace h2 := h2.on hb1
  replace hx := hx.on hb1
  replace hb2 := on hb2 hb1
  replace hbn := on hbn hb1
  clear hb1
  clear HN
  go_wp2_with fail
  refine (HM.out _ hb2).mono ?_
  rintro e w3 ⟨A3, c3, rfl, hr, hb1⟩
  replace h2 := h2.on hb1
  replace hx := hx.on hb1
  replace hb2 := on hb2 hb1
  replace hbn := on hbn hb1
  clear hb1
  obtain ⟨g3, o3, rfl, hg3, c0⟩ := hr.at (k := 0) rfl
  rw [Nat.add_zero] at c0
  clear hr
  have hne : w.heap.size ≠ gb := by have := hgb; omega
  obtain ⟨m0, m1, m2, f0, f1, f2⟩ := hx.three
  have hl9 := hx.1
  replace c0 := cell_same3 m0 m1 m2 c0
  replace hbn := set3 hbn (b := gb) (by rw [hgb2]; exact Nat.le_refl _) (.int .i64 0) (.int .i64 0) (.string ⟨#[]⟩)
  replace h2 := h2.put3_far (c := gb) (by omega) (.int .i64 0) (.int .i64 0) (.string ⟨#[]⟩)
  replace hb2 := set3 hb2 (b := gb) (by omega) (.int .i64 0) (.int .i64 0) (.string ⟨#[]⟩)
  replace hx := hx.put3 (.int .i64 0) (.int .i64 0) (.string ⟨#[]⟩)
  simp only [put3] at h2 hx
  go_wp2_with fail
  generalize (((w3.setCell ⟨gb, 0, none⟩ (.int .i64 0)).setCell ⟨gb, 1, none⟩ (.int .i64 0)).setCell ⟨gb, 2, none⟩ (.string ⟨#[]⟩)) = X5 at *
  clear m0 m1 m2 f0 f1 f2 hl9
  refine (HI.out _).mono ?_
  rintro e w4 ⟨rfl, hb1⟩
  replace h2 := h2.on hb1
  replace hb2 := on hb2 hb1
  replace hbn := on hbn hb1
  replace c0 := kept hb1 c0
  clear hb1 HI HM hne hx
  have hnr2 := Lib.hid (hnr.out.on hbn)
  clear hnr hbn hgb2 hgb
  go_wp2_with fail
  refine (HU.out _).mono ?_
  rintro e w5 ⟨rfl, hb1⟩
  replace h2 := h2.on hb1
  replace hnr2 := Lib.hid (hnr2.out.on hb1)
  replace hb2 := on hb2 hb1
  clear hb1
  clear c0 HU
  go_wp2_with fail
  refine (HA.out _ _ _ hnr2.out).mono ?_
  rintro e w6 ⟨rfl, hb1⟩
  replace h2 := h2.on hb1
  replace hb2 := on hb2 hb1
  clear hb1
  clear hnr2 HA
  go_wp2_with fail
  refine (HZ2.out _).mono ?_
  rintro e w7 ⟨rfl, hb1⟩
  replace h2 := h2.on hb1
  replace hb2 := on hb2 hb1
  clear hb1
  obtain ⟨⟨g0, p0, p1, p2, q0, q1, q2⟩, ⟨z0, z1, z2⟩, hb3⟩ := val_ends h2 hb2 (Nat.le_refl _) (.int .i64 a) (.int .i64 b) (.string c)
  clear h2 hb2
  go_wp2
  exact bodyPost_ret (v := .agg #[.int .i64 a, .int .i64 b, .string c]) (by simp [results, Tryz.results57, go_sem, z0, z1, z2]) rfl ⟨rfl, hb3⟩
end Go.Proofs.YtebjedbppiphgaaGreatDoor.Cal

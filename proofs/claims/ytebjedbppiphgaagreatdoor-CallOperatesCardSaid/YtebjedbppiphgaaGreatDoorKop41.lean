/- Where a value is found: package look's found and Match, the reference's found and Match. Written by wip/gen18d.py.
   What is looked up: package look's beside, Down and Across. Written by wip/gen18f.py.
   The program's Call where its arguments don't fit, and where they are values one behind the other. Written by wip/gen21k.py.
   The program's Call where its arguments are told one from another. Written by wip/gen21k.py.
   What the reference's whole, Power, Fact on decimals answer: for every number of 64 bits. -/
import Derived.Test.YtebjedbppiphgaaGreatDoorKop40
import Derived.Test.YtebjedbppiphgaaGreatDoorKop34
import Derived.Test.YtebjedbppiphgaaGreatDoorKop38
import Derived.Test.YtebjedbppiphgaaGreatDoorKop19
import Derived.Test.YtebjedbppiphgaaGreatDoorKop24
namespace Go.Proofs.YtebjedbppiphgaaGreatDoor.Lok
open Go.RowKit Kit Reg Dec Dig Val Fld
/-- whether a value is found as another one, the reference's way -/
def foundV (x v : Vl) : Bool := !decide (x.k = 4) && hitS x v
end Go.Proofs.YtebjedbppiphgaaGreatDoor.Lok
namespace Go.Proofs.YtebjedbppiphgaaGreatDoor.Lok
open Go.RowKit Kit Reg Dec Dig Val Fld
/-- a slice that reads as such values -/
def RowV (K : List Vl) (m : Nat) (v : Value) (w : World) : Prop := ∃ A c, v = .slice A m c ∧ ValsR w A m K
theorem RowV.up {K : List Vl} {m : Nat} {v : Value} {w : World} (h : Up (RowV K m v) w) : RowV K m v w := by
  obtain ⟨w1, ⟨A, c, e, h1⟩, hb⟩ := h
  exact ⟨A, c, e, h1.on hb⟩

section
variable {R C n : Nat} (h1 : 1 ≤ R) (h2 : 1 ≤ C) (h3 : n ≤ 1000) (h4 : R * C = n)
include h1 h2 h3 h4
end
end Go.Proofs.YtebjedbppiphgaaGreatDoor.Lok
namespace Go.Proofs.YtebjedbppiphgaaGreatDoor.Cal
open Go.RowKit Kit Reg Dec Dig Val Fld
set_option maxRecDepth 100000 in
set_option maxHeartbeats 2000000 in
theorem pcall_no (fn : Int) (A : Option Addr) (n cap : Nat) (T : List Tb) (h6 : ∀ t ∈ T, t.n ≤ 60) (h : ¬ AccB fn n T) (w : World) (hz : TabsR w A n T) : Calls Tryz.prog 17 #[.int .i64 fn, .slice A n cap] w (IsV (fV 2) w) := by
  obtain ⟨h2, hb2⟩ := first w [.int .i64 0, .int .i64 0, .string ⟨#[]⟩] 23
  have HT : Hid (∀ w1, Below w.heap.size w w1 → Calls Tryz.prog 48 #[.int .i64 fn, .slice A n cap] w1 fun e w' => e = .returned (.bool false) ∧ Below w1.heap.size w1 w') := Lib.hid (fun w1 hb => takes_no fn A n cap T h6 h w1 (hz.on hb))
  have HB := Lib.hid (fun w1 => bad_v 2 (by decide) (by decide) w1)
  clear h h6 hz
  show Calls Tryz.prog 17 _ w (ValIs 4 2 ⟨#[]⟩ w)
  go_enter Tryz.func17, Tryz.ntmps17
  go_wp2_with fail
  generalize w.alloc (.cells #[.int .i64 0, .int .i64 0, .string ⟨#[]⟩] 23) = W at *
  refine (HT.out _ hb2).mono ?_
  rintro e w1 ⟨rfl, hb1⟩
  replace h2 := h2.on hb1
  replace hb2 := on hb2 hb1
  clear hb1
  go_wp2_with fail
  refine (HB.out _).mono ?_
  rintro e w2 ⟨rfl, hb1⟩
  replace h2 := h2.on hb1
  replace hb2 := on hb2 hb1
  clear hb1
  obtain ⟨⟨g0, p0, p1, p2, q0, q1, q2⟩, ⟨z0, z1, z2⟩, hb3⟩ := val_ends h2 hb2 (Nat.le_refl _) (.int .i64 4) (.int .i64 2) (.string ⟨#[]⟩)
  clear h2 hb2
  go_wp2
  exact bodyPost_ret (v := .agg #[.int .i64 4, .int .i64 2, .string ⟨#[]⟩]) (by simp [results, Tryz.results17, go_sem, z0, z1, z2]) rfl ⟨rfl, hb3⟩
/-- what a table that may be an argument has: a value, or more -/
theorem acc_pos {fn : Int} {n : Nat} {T : List Tb} (h : AccB fn n T) : ∀ t ∈ T, 1 ≤ t.n := fun t ht => by
  obtain ⟨i, hi⟩ := List.mem_iff_getElem?.1 ht
  obtain ⟨R, C, _, _, g1, g2, _, g4, _⟩ := (h.2 i t hi).2.2.2.1.nat
  rw [← g4]
  exact Nat.mul_pos g1 g2
theorem acc_six {fn : Int} {n : Nat} {T : List Tb} (h : AccB fn n T) (h6 : ∀ t ∈ T, t.n ≤ 60) : ∀ t ∈ T, 1 ≤ t.n ∧ t.n ≤ 60 := fun t ht => ⟨acc_pos h t ht, h6 t ht⟩
set_option maxRecDepth 100000 in
set_option maxHeartbeats 2000000 in
theorem pcall_txt (fn : Int) (hfn : fn = 37 ∨ fn = 38 ∨ fn = 75 ∨ fn = 52 ∨ fn = 73 ∨ fn = 56 ∨ fn = 8 ∨ fn = 19 ∨ fn = 21 ∨ fn = 66) (A : Option Addr) (n cap : Nat) (T : List Tb) (h6 : ∀ t ∈ T, t.n ≤ 60) (hacc : AccB fn n T) (z : Vl) (w : World) (hz : TabsR w A n T)
    (HO0 : ∀ A2 c2 w1, Below w.heap.size w w1 → ValsR w1 A2 (allL T).length (allL T) → Calls Tryz.prog 51 #[.int .i64 fn, .slice A2 (allL T).length c2] w1 (IsV z w1)) :
    Calls Tryz.prog 17 #[.int .i64 fn, .slice A n cap] w (IsV z w) := by
  obtain ⟨h2, hb2⟩ := first w [.int .i64 0, .int .i64 0, .string ⟨#[]⟩] 23
  have hn9 : n ≤ 9 := by have := fits_most hacc.1; omega
  have HT : Hid (∀ w1, Below w.heap.size w w1 → Calls Tryz.prog 48 #[.int .i64 fn, .slice A n cap] w1 fun e w' => e = .returned (.bool true) ∧ Below w1.heap.size w1 w') := Lib.hid (fun w1 hb => takes_yes fn A n cap T h6 hacc w1 (hz.on hb))
  have HA : Hid (∀ w1, Below w.heap.size w w1 → Calls Tryz.prog 50 #[.slice A n cap] w1 fun e w' => ∃ A2 c2, e = .returned (.slice A2 (allL T).length c2) ∧ ValsR w' A2 (allL T).length (allL T) ∧ Below w1.heap.size w1 w') := Lib.hid (fun w1 hb => all_c A n cap T (acc_six hacc h6) hn9 w1 (hz.on hb))
  obtain ⟨a, b, c⟩ := z
  have HO : Hid (∀ A2 c2 w1, Below w.heap.size w w1 → ValsR w1 A2 (allL T).length (allL T) → Calls Tryz.prog 51 #[.int .i64 fn, .slice A2 (allL T).length c2] w1 (ValIs a b c w1)) := Lib.hid HO0
  clear HO0 hacc h6 hz hn9
  generalize (allL T).length = m at *
  show Calls Tryz.prog 17 _ w (ValIs a b c w)
  rcases hfn with rfl | rfl | rfl | rfl | rfl | rfl | rfl | rfl | rfl | rfl
  all_goals
    go_enter Tryz.func17, Tryz.ntmps17
    go_wp2_with fail
    generalize w.alloc (.cells #[.int .i64 0, .int .i64 0, .string ⟨#[]⟩] 23) = W at *
    refine (HT.out _ hb2).mono ?_
    rintro e w1 ⟨rfl, hb1⟩
    replace h2 := h2.on hb1
    replace hb2 := on hb2 hb1
    clear hb1
    go_wp2_with fail
    refine (HA.out _ hb2).mono ?_
    rintro e w2 ⟨A2, c2, rfl, hr, hb1⟩
    replace h2 := h2.on hb1
    replace hb2 := on hb2 hb1
    clear hb1
    go_wp2_with fail
    refine (HO.out _ _ _ hb2 hr).mono ?_
    rintro e w4 ⟨rfl, hb1⟩
    replace h2 := h2.on hb1
    replace hb2 := on hb2 hb1
    clear hb1
    clear hr
    obtain ⟨⟨g0, p0, p1, p2, q0, q1, q2⟩, ⟨z0, z1, z2⟩, hb3⟩ := val_ends h2 hb2 (Nat.le_refl _) (.int .i64 a) (.int .i64 b) (.string c)
    clear h2 hb2
    go_wp2
    exact bodyPost_ret (v := .agg #[.int .i64 a, .int .i64 b, .string c]) (by simp [results, Tryz.results17, go_sem, z0, z1, z2]) rfl ⟨rfl, hb3⟩
end Go.Proofs.YtebjedbppiphgaaGreatDoor.Cal
namespace Go.Proofs.YtebjedbppiphgaaGreatDoor.Cal
open Go.RowKit Kit Reg Dec Dig Val Fld
open Lok (RowV)
set_option maxRecDepth 100000 in
set_option maxHeartbeats 2000000 in
theorem pcall_order (fn : Int) (hfn : fn = 34 ∨ fn = 64) (A : Option Addr) (cap : Nat) (_hcap : 2 ≤ cap) (t0 t1 : Tb) (h6 : ∀ t ∈ [t0, t1], t.n ≤ 60) (hacc : AccB fn 2 [t0, t1]) (z : Vl) (w : World) (hz : TabsR w A 2 [t0, t1])
    (HO0 : ∀ w1, Below w.heap.size w w1 → Calls Tryz.prog 57 #[.int .i64 fn, .slice t0.A t0.n t0.d, .slice t1.A t1.n t1.d] w1 (IsV z w1)) :
    Calls Tryz.prog 17 #[.int .i64 fn, .slice A 2 cap] w (IsV z w) := by
  obtain ⟨h2, hb2⟩ := first w [.int .i64 0, .int .i64 0, .string ⟨#[]⟩] 23
  have HT : Hid (∀ w1, Below w.heap.size w w1 → Calls Tryz.prog 48 #[.int .i64 fn, .slice A 2 cap] w1 fun e w' => e = .returned (.bool true) ∧ Below w1.heap.size w1 w') := Lib.hid (fun w1 hb => takes_yes fn A 2 cap [t0, t1] h6 hacc w1 (hz.on hb))
  have hz0 := hz.reads (k := 0) (t := t0) rfl (by have := h6 t0 (by simp); omega)
  have hz1 := hz.reads (k := 1) (t := t1) rfl (by have := h6 t1 (by simp); omega)
  obtain ⟨a, b, c⟩ := z
  have HO : Hid (∀ w1, Below w.heap.size w w1 → Calls Tryz.prog 57 #[.int .i64 fn, .slice t0.A t0.n t0.d, .slice t1.A t1.n t1.d] w1 (ValIs a b c w1)) := Lib.hid HO0
  clear HO0
  have HZ := Lib.hid hz
  clear hacc h6 hz hz0 hz1
  show Calls Tryz.prog 17 _ w (ValIs a b c w)
  rcases hfn with rfl | rfl
  all_goals
    go_enter Tryz.func17, Tryz.ntmps17
    go_wp2_with fail
    generalize w.alloc (.cells #[.int .i64 0, .int .i64 0, .string ⟨#[]⟩] 23) = W at *
    refine (HT.out _ hb2).mono ?_
    rintro e w1 ⟨rfl, hb1⟩
    replace h2 := h2.on hb1
    replace hb2 := on hb2 hb1
    clear hb1
    have hzw := HZ.out.on hb2
    obtain ⟨b9, o9, rfl, hlt9, c00, c01, c02⟩ := hzw.at (k := 0) (t := t0) rfl
    rw [show o9 + 0 * 3 = o9 by omega] at c00 c01 c02
    obtain ⟨b8, o8, e8, hlt8, c10, c11, c12⟩ := hzw.at (k := 1) (t := t1) rfl
    simp only [Option.some.injEq, Addr.mk.injEq] at e8
    obtain ⟨rfl, rfl, -⟩ := e8
    rw [show o9 + 1 * 3 = o9 + 3 by omega] at c10 c11 c12
    clear hzw
    go_wp2_with fail
    have C00 := fun d os => cell_regrown c00 d os
    have C01 := fun d os => cell_regrown c01 d os
    have C02 := fun d os => cell_regrown c02 d os
    have C10 := fun d os => cell_regrown c10 d os
    have C11 := fun d os => cell_regrown c11 d os
    have C12 := fun d os => cell_regrown c12 d os
    clear c00 c01 c02 c10 c11 c12
    refine wp_region_mem 10 (fun d => match d with
      | 115 => some (Is (.agg #[.int .i64 a, .int .i64 b, .string c]))
      | _ => none) (by kernel_rfl) (by kernel_rfl) ?_
    simp only [List.take_succ_cons, List.take_zero, List.drop_succ_cons, List.drop_zero]
    repeat (first | ((with_reducible refine wpM_calm ?_ ?_ ?_ ?_); exact rfl; exact rfl; exact rfl; intro K hK; go_big_quiet_op; go_big_quiet_on) | ((with_reducible refine wpM_skip ?_ ?_); exact rfl; simp only [Act.put, List.setIfInBounds_toArray, List.set_cons_succ, List.set_cons_zero]))
    refine wpM_exact rfl rfl rfl Tryz.func57 (by kernel_rfl) (by kernel_rfl) (fun w1 hw1 _ => HO.out w1 (on hb2 hw1)) rfl (by simp only [Act.put, List.setIfInBounds_toArray, List.set_cons_succ, List.set_cons_zero]; rfl) ?_
    refine wpM_nil ?_
    intro w9 hw9 _
    replace h2 := h2.on hw9
    replace hb2 := on hb2 hw9
    clear hw9 C00 C01 C02 C10 C11 C12
    obtain ⟨⟨g0, p0, p1, p2, q0, q1, q2⟩, ⟨z0, z1, z2⟩, hb3⟩ := val_ends h2 hb2 (Nat.le_refl _) (.int .i64 a) (.int .i64 b) (.string c)
    clear h2 hb2
    go_wp2
    exact bodyPost_ret (v := .agg #[.int .i64 a, .int .i64 b, .string c]) (by simp [results, Tryz.results17, go_sem, z0, z1, z2]) rfl ⟨rfl, hb3⟩
end Go.Proofs.YtebjedbppiphgaaGreatDoor.Cal
namespace Go.Proofs.YtebjedbppiphgaaGreatDoor.Pow
open Go.RowKit Kit Dec Reg
set_option maxRecDepth 100000 in
set_option maxHeartbeats 400000 in
theorem rwhole_c (x f t : Int) (x2 : x ≤ 9223372036854775807) (b : Bool) (hb : wholeIn x f t = b) (w : World) :
    Calls Tryz.prog 92 #[.int .i64 x, .int .i64 f, .int .i64 t] w fun e w' => e = .returned (.bool b) ∧ w = w' := by
  subst hb
  have M := Lib.hid (fun w1 => rmay_c x _ rfl w1)
  unfold wholeIn wholeD
  cases hm : mayD x
  · rw [hm] at M
    rw [Bool.false_and, Bool.false_and]
    go_enter Tryz.func92, Tryz.ntmps92
    go_wp2_with (go_at_call 22; refine (M.out _).mono ?_; rintro e w' ⟨rfl, rfl⟩)
    go_ret
    exact ⟨rfl, rfl⟩
  · rw [hm] at M
    have x1 : -9223372036854775807 ≤ x := by unfold mayD at hm; simpa using hm
    obtain ⟨⟨t1, t2⟩, t3, t4⟩ := cut_room x1 x2
    rw [Bool.true_and, unitsD, if_neg (by omega)]
    obtain ⟨d, hd⟩ : ∃ d, x.tdiv 10000 = d := ⟨_, rfl⟩
    obtain ⟨l, hl⟩ : ∃ d, x.tmod 10000 = d := ⟨_, rfl⟩
    rw [hd] at t1 t2 ⊢
    rw [hl] at t3 t4 ⊢
    clear hm
    by_cases h0 : l = 0
    · have z : (l == 0) = true := by simpa using h0
      rw [decide_eq_true h0, Bool.true_and]
      subst h0
      by_cases h : f ≤ d
      · rw [decide_eq_true h, Bool.true_and]
        go_enter Tryz.func92, Tryz.ntmps92
        go_wp2_with (go_at_call 22; refine (M.out _).mono ?_; rintro e w' ⟨rfl, rfl⟩)
        go_ret
        exact ⟨rfl, rfl⟩
      · rw [decide_eq_false h, Bool.false_and]
        go_enter Tryz.func92, Tryz.ntmps92
        go_wp2_with (go_at_call 22; refine (M.out _).mono ?_; rintro e w' ⟨rfl, rfl⟩)
        go_ret
        exact ⟨rfl, rfl⟩
    · have z : (l == 0) = false := by simpa using h0
      rw [decide_eq_false h0, Bool.false_and]
      go_enter Tryz.func92, Tryz.ntmps92
      go_wp2_with (go_at_call 22; refine (M.out _).mono ?_; rintro e w' ⟨rfl, rfl⟩)
      go_ret
      exact ⟨rfl, rfl⟩
set_option maxRecDepth 100000 in
set_option maxHeartbeats 400000 in
theorem rpower_none (x n : Int) (n2 : n ≤ 9223372036854775807) (h : mayD x = false ∨ wholeIn n (-1000) 1000 = false) (w : World) :
    Calls Tryz.prog 38 #[.int .i64 x, .int .i64 n] w (GotIs 0 false w) := by
  have M := Lib.hid (fun w1 => rmay_c x _ rfl w1)
  have B := Lib.hid (fun w1 => rwhole_c n (-1000) 1000 n2 _ rfl w1)
  cases hm : mayD x
  · rw [hm] at M
    clear h
    go_enter Tryz.func38, Tryz.ntmps38
    go_wp2_with (go_at_call 22; refine (M.out _).mono ?_; rintro e w' ⟨rfl, rfl⟩)
    exact bodyPost_ret (v := .agg #[.int .i64 0, .bool false]) (by simp [results, Tryz.results38, go_sem]) rfl ⟨rfl, below1 _ _⟩
  · rw [hm] at M h
    rw [show wholeIn n (-1000) 1000 = false by simpa using h] at B
    clear h
    go_enter Tryz.func38, Tryz.ntmps38
    go_wp2_with (first
      | (go_at_call 22; refine (M.out _).mono ?_; rintro e w' ⟨rfl, rfl⟩)
      | (go_at_call 92; refine (B.out _).mono ?_; rintro e w' ⟨rfl, rfl⟩))
    exact bodyPost_ret (v := .agg #[.int .i64 0, .bool false]) (by simp [results, Tryz.results38, go_sem]) rfl ⟨rfl, below1 _ _⟩
/-- the memory of a loop that multiplies: the result's block, and the product's -/
def MulMem (w wr : World) (q : Int) (b : Bool) : Prop := Below w.heap.size w wr ∧ CellsAt wr w.heap.size [.int .i64 0, .bool false] ∧ CellsAt wr (w.heap.size + 1) [.int .i64 q, .bool b]
theorem MulMem.start (w : World) (n : Int) (b : Bool) : MulMem w ((w.alloc (.cells #[.int .i64 0, .bool false] 55)).alloc (.cells #[.int .i64 n, .bool b] 55)) n b := by
  refine ⟨below2 _ _ _, (CellsAt.new w [.int .i64 0, .bool false] _).on_alloc _, ?_⟩
  have h := CellsAt.new (w.alloc (.cells #[.int .i64 0, .bool false] 55)) [.int .i64 n, .bool b] 55
  rw [show (w.alloc (.cells #[.int .i64 0, .bool false] 55)).heap.size = w.heap.size + 1 by simp] at h
  exact h
theorem MulMem.on {w wr wr' : World} {q : Int} {b : Bool} (h : MulMem w wr q b) (hb : Below wr.heap.size wr wr') : MulMem w wr' q b :=
  ⟨Kit.on h.1 hb, h.2.1.on hb, h.2.2.on hb⟩
theorem MulMem.put {w wr : World} {q : Int} {b : Bool} (h : MulMem w wr q b) (n : Int) (k : Bool) : MulMem w (put2 wr (w.heap.size + 1) (.int .i64 n) (.bool k)) n k :=
  ⟨set2 h.1 (by omega) _ _, h.2.1.put2_far (by omega) _ _, h.2.2.put2 _ _⟩
set_option maxRecDepth 100000 in
set_option maxHeartbeats 1000000 in
theorem rpower_up (x n : Int) (x2 : x ≤ 9223372036854775807) (n2 : n ≤ 9223372036854775807) (h : mayD x = true) (h2 : wholeIn n (-1000) 1000 = true) (h3 : 0 ≤ n) (y : Int) (k : Bool) (hy : mulsD x (unitsD n).natAbs = (y, k)) (w : World) :
    Calls Tryz.prog 38 #[.int .i64 x, .int .i64 n] w (GotIs y k w) := by
  have M := Lib.hid (fun w1 => rmay_c x _ h w1)
  have B := Lib.hid (fun w1 => rwhole_c n (-1000) 1000 n2 _ h2 w1)
  obtain ⟨e, e2, e3, _⟩ := wholeIn_yes h2
  obtain ⟨d, hd⟩ : ∃ d, unitsD n = d := ⟨_, rfl⟩
  rw [hd] at e e2 e3 hy
  have hdv : n.tdiv 10000 = d := by rw [← hd, unitsD, if_neg (by omega)]
  have A := Lib.hid (fun w1 => rabs_c d (by omega) (by omega) w1)
  obtain ⟨t, ht⟩ : ∃ t, d.natAbs = t := ⟨_, rfl⟩
  rw [ht] at A hy
  have ht2 : t ≤ 1000 := by omega
  have d1 : -9223372036854775808 ≤ d := by omega
  have d2 : d ≤ 9223372036854775807 := by omega
  have HN := Lib.hid hy
  clear hy e e2 e3 ht h h2 hd
  go_enter Tryz.func38, Tryz.ntmps38
  go_wp2_with (first
    | (go_at_call 22; refine (M.out _).mono ?_; rintro e w' ⟨rfl, rfl⟩)
    | (go_at_call 92; refine (B.out _).mono ?_; rintro e w' ⟨rfl, rfl⟩)
    | (go_at_call 93; refine (A.out _).mono ?_; rintro e w' ⟨rfl, rfl⟩))
  go_loopw [7] (fun i wr => ∃ (j : Nat) (q : Int) (b : Bool), j ≤ t ∧ i = .int .u64 j ∧ Hid (mulsD x j = (q, b)) ∧ MulMem w wr q b) (fun i _ => t - (intOf i).toNat)
  case atStart => exact ⟨0, 10000, true, by omega, rfl, Lib.hid rfl, MulMem.start w _ _⟩
  case round =>
    clear M B A hdv
    obtain ⟨j, q, b, hj, rfl, hq, hM⟩ := hrel
    have hr := mulsD_room x j
    rw [hq.out] at hr
    obtain ⟨q1, q2⟩ := hr
    dsimp only at q1 q2
    obtain ⟨_, hc, hc2⟩ := id hM
    have l1 := hc.1
    have l2 := hc2.1
    obtain ⟨p0, p1, f0, f1⟩ := hc2.two
    obtain ⟨r0, r1, g0, g1⟩ := hc.two
    obtain ⟨z0, z1⟩ := two_set (u := .int .i64 q) (v := .bool b) r0 r1
    have hb0 := Lib.hid hM.1
    replace z0 := Lib.hid z0
    replace z1 := Lib.hid z1
    by_cases hgo : j < t ∧ b = true
    · obtain ⟨hlt, rfl⟩ := hgo
      obtain ⟨⟨n2, b2⟩, hr2⟩ : ∃ r, scaledD q x 10000 = r := ⟨_, rfl⟩
      have M2 := Lib.hid (fun w1 => rmul_c q x q2 x2 _ _ hr2 w1)
      have hx := Lib.hid (mulsD_next hq.out hr2)
      have hM2 := Lib.hid hM
      clear hr2 hq hc hc2 hM HN z0 z1 hb0
      go_wp2_with fail
      refine (M2.out _).mono ?_
      rintro e w1 ⟨rfl, hb1⟩
      have hM3 := hM2.out.on hb1
      obtain ⟨_, _, hc2⟩ := id hM3
      have l3 := hc2.1
      obtain ⟨p0, p1, f0, f1⟩ := hc2.two
      have hM4 := Lib.hid (hM3.put n2 b2)
      clear hM3 hM2 hb1 hc2
      go_wp2_with fail
      exact ⟨⟨j + 1, n2, b2, by omega, by go_num, hx, hM4.out⟩, by simp [intOf]; omega⟩
    · have he : mulsD x t = (q, b) := by
        cases b
        · rw [mulsD_stop hj hq.out, mulsD_no hq.out]
        · have : j = t := by
            have : ¬ j < t := fun h => hgo ⟨h, rfl⟩
            omega
          rw [← this]; exact hq.out
      obtain ⟨rfl, rfl⟩ := Prod.mk.inj (HN.out.symm.trans he)
      have hcase : (j < t ∧ k = false) ∨ j = t := by
        cases k
        · rcases Nat.lt_or_ge j t with h | h
          · exact .inl ⟨h, rfl⟩
          · exact .inr (by omega)
        · exact .inr (by have : ¬ j < t := fun h => hgo ⟨h, rfl⟩; omega)
      clear he HN hq hgo hc hc2 hM
      rcases hcase with ⟨hlt, rfl⟩ | rfl
      · go_wp2
        exact bodyPost_ret (v := .agg #[.int .i64 y, .bool false]) (by simp [results, Tryz.results38, go_sem, z0.out, z1.out]) rfl ⟨rfl, set2 hb0.out (Nat.le_refl _) _ _⟩
      · go_wp2
        exact bodyPost_ret (v := .agg #[.int .i64 y, .bool k]) (by simp [results, Tryz.results38, go_sem, z0.out, z1.out]) rfl ⟨rfl, set2 hb0.out (Nat.le_refl _) _ _⟩
set_option maxRecDepth 100000 in
set_option maxHeartbeats 1000000 in
theorem rpower_down (x n : Int) (x2 : x ≤ 9223372036854775807) (n2 : n ≤ 9223372036854775807) (h : mayD x = true) (h2 : wholeIn n (-1000) 1000 = true) (h3 : n < 0) (p : Int) (b : Bool) (hp : mulsD x (unitsD n).natAbs = (p, b)) (y : Int) (k : Bool) (hy : (if b then scaledD 10000 10000 p else (0, false)) = (y, k)) (w : World) :
    Calls Tryz.prog 38 #[.int .i64 x, .int .i64 n] w (GotIs y k w) := by
  have M := Lib.hid (fun w1 => rmay_c x _ h w1)
  have B := Lib.hid (fun w1 => rwhole_c n (-1000) 1000 n2 _ h2 w1)
  obtain ⟨e, e2, e3, _⟩ := wholeIn_yes h2
  obtain ⟨d, hd⟩ : ∃ d, unitsD n = d := ⟨_, rfl⟩
  rw [hd] at e e2 e3 hp
  have hdv : n.tdiv 10000 = d := by rw [← hd, unitsD, if_neg (by omega)]
  have A := Lib.hid (fun w1 => rabs_c d (by omega) (by omega) w1)
  obtain ⟨t, ht⟩ : ∃ t, d.natAbs = t := ⟨_, rfl⟩
  rw [ht] at A hp
  have ht2 : t ≤ 1000 := by omega
  have d1 : -9223372036854775808 ≤ d := by omega
  have d2 : d ≤ 9223372036854775807 := by omega
  have HN := Lib.hid hp
  have HP := Lib.hid hp
  clear hp e e2 e3 ht h h2 hd
  go_enter Tryz.func38, Tryz.ntmps38
  go_wp2_with (first
    | (go_at_call 22; refine (M.out _).mono ?_; rintro e w' ⟨rfl, rfl⟩)
    | (go_at_call 92; refine (B.out _).mono ?_; rintro e w' ⟨rfl, rfl⟩)
    | (go_at_call 93; refine (A.out _).mono ?_; rintro e w' ⟨rfl, rfl⟩))
  go_loopw [7] (fun i wr => ∃ (j : Nat) (q : Int) (b : Bool), j ≤ t ∧ i = .int .u64 j ∧ Hid (mulsD x j = (q, b)) ∧ MulMem w wr q b) (fun i _ => t - (intOf i).toNat)
  case atStart => exact ⟨0, 10000, true, by omega, rfl, Lib.hid rfl, MulMem.start w _ _⟩
  case round =>
    clear M B A hdv
    obtain ⟨j, q, b, hj, rfl, hq, hM⟩ := hrel
    have hr := mulsD_room x j
    rw [hq.out] at hr
    obtain ⟨q1, q2⟩ := hr
    dsimp only at q1 q2
    obtain ⟨_, hc, hc2⟩ := id hM
    have l1 := hc.1
    have l2 := hc2.1
    obtain ⟨p0, p1, f0, f1⟩ := hc2.two
    obtain ⟨r0, r1, g0, g1⟩ := hc.two
    obtain ⟨z0, z1⟩ := two_set (u := .int .i64 q) (v := .bool b) r0 r1
    have hb0 := Lib.hid hM.1
    replace z0 := Lib.hid z0
    replace z1 := Lib.hid z1
    by_cases hgo : j < t ∧ b = true
    · obtain ⟨hlt, rfl⟩ := hgo
      obtain ⟨⟨n2, b2⟩, hr2⟩ : ∃ r, scaledD q x 10000 = r := ⟨_, rfl⟩
      have M2 := Lib.hid (fun w1 => rmul_c q x q2 x2 _ _ hr2 w1)
      have hx := Lib.hid (mulsD_next hq.out hr2)
      have hM2 := Lib.hid hM
      clear hr2 hq hc hc2 hM HN z0 z1 hb0
      go_wp2_with fail
      refine (M2.out _).mono ?_
      rintro e w1 ⟨rfl, hb1⟩
      have hM3 := hM2.out.on hb1
      obtain ⟨_, _, hc2⟩ := id hM3
      have l3 := hc2.1
      obtain ⟨p0, p1, f0, f1⟩ := hc2.two
      have hM4 := Lib.hid (hM3.put n2 b2)
      clear hM3 hM2 hb1 hc2
      go_wp2_with fail
      exact ⟨⟨j + 1, n2, b2, by omega, by go_num, hx, hM4.out⟩, by simp [intOf]; omega⟩
    · have he : mulsD x t = (q, b) := by
        cases b
        · rw [mulsD_stop hj hq.out, mulsD_no hq.out]
        · have : j = t := by
            have : ¬ j < t := fun h => hgo ⟨h, rfl⟩
            omega
          rw [← this]; exact hq.out
      obtain ⟨rfl, rfl⟩ := Prod.mk.inj (HN.out.symm.trans he)
      have hcase : (j < t ∧ b = false) ∨ j = t := by
        cases b
        · rcases Nat.lt_or_ge j t with h | h
          · exact .inl ⟨h, rfl⟩
          · exact .inr (by omega)
        · exact .inr (by have : ¬ j < t := fun h => hgo ⟨h, rfl⟩; omega)
      clear he HN hq hgo hc2
      cases b
      · obtain rfl := mulsD_no HP.out
        obtain ⟨rfl, rfl⟩ := Prod.mk.inj hy
        clear hy HP hc hM
        rcases hcase with ⟨hlt, _⟩ | rfl
        · go_wp2
          exact bodyPost_ret (v := .agg #[.int .i64 0, .bool false]) (by simp [results, Tryz.results38, go_sem, z0.out, z1.out]) rfl ⟨rfl, set2 hb0.out (Nat.le_refl _) _ _⟩
        · go_wp2
          exact bodyPost_ret (v := .agg #[.int .i64 0, .bool false]) (by simp [results, Tryz.results38, go_sem, z0.out, z1.out]) rfl ⟨rfl, set2 hb0.out (Nat.le_refl _) _ _⟩
      · obtain rfl : j = t := by simpa using hcase
        have hy2 : scaledD 10000 10000 p = (y, k) := hy
        have D := Lib.hid (fun w1 => rdiv_c 10000 p (by omega) q2 y k hy2 w1)
        clear hy hy2 hcase z0 z1 HP hb0 hc
        go_wp2_with fail
        refine (D.out _).mono ?_
        rintro e w1 ⟨rfl, hb1⟩
        have hM3 := hM.on hb1
        obtain ⟨hb0, hc, _⟩ := id hM3
        have l3 := hc.1
        obtain ⟨r0, r1, g0, g1⟩ := hc.two
        obtain ⟨z0, z1⟩ := two_set (u := .int .i64 y) (v := .bool k) r0 r1
        replace z0 := Lib.hid z0
        replace z1 := Lib.hid z1
        replace hb0 := Lib.hid hb0
        clear hM3 hM hb1 hc
        go_wp2_with fail
        exact bodyPost_ret (v := .agg #[.int .i64 y, .bool k]) (by simp [results, Tryz.results38, go_sem, z0.out, z1.out]) rfl ⟨rfl, set2 hb0.out (Nat.le_refl _) _ _⟩
theorem rpower_c (x n : Int) (x2 : x ≤ 9223372036854775807) (n2 : n ≤ 9223372036854775807) (y : Int) (k : Bool) (hy : powerD x n = (y, k)) (w : World) :
    Calls Tryz.prog 38 #[.int .i64 x, .int .i64 n] w (GotIs y k w) := by
  cases h1 : mayD x
  · obtain ⟨rfl, rfl⟩ := Prod.mk.inj (hy.symm.trans (powerD_none (.inl h1)))
    exact rpower_none x n n2 (.inl h1) w
  cases h2 : wholeIn n (-1000) 1000
  · obtain ⟨rfl, rfl⟩ := Prod.mk.inj (hy.symm.trans (powerD_none (.inr h2)))
    exact rpower_none x n n2 (.inr h2) w
  by_cases h3 : 0 ≤ n
  · rw [powerD_up h1 h2 h3] at hy
    exact rpower_up x n x2 n2 h1 h2 h3 y k hy w
  · rw [powerD_down h1 h2 (by omega)] at hy
    exact rpower_down x n x2 n2 h1 h2 (by omega) _ _ rfl y k hy w
end Go.Proofs.YtebjedbppiphgaaGreatDoor.Pow

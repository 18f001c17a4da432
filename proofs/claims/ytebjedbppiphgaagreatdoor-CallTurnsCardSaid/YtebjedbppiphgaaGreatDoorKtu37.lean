/- Where a value is found: package look's found and Match, the reference's found and Match. Written by wip/gen18d.py.
   What is looked up: package look's beside, Down and Across. Written by wip/gen18f.py.
   The program's Call where its arguments don't fit, and where they are values one behind the other. Written by wip/gen21k.py.
   The program's Call where its arguments are told one from another. Written by wip/gen21k.py.
   What the reference's whole, Power, Fact on decimals answer: for every number of 64 bits.
   What the reference's Fits, Gcd, Lcm, Fact on decimals answer: for every number of 64 bits. -/
import Derived.Test.YtebjedbppiphgaaGreatDoorKtu36
import Derived.Test.YtebjedbppiphgaaGreatDoorKtu30
import Derived.Test.YtebjedbppiphgaaGreatDoorKtu35
import Derived.Test.YtebjedbppiphgaaGreatDoorKtu20
import Derived.Test.YtebjedbppiphgaaGreatDoorKtu23
import Derived.Test.YtebjedbppiphgaaGreatDoorKtu10
namespace Go.Proofs.YtebjedbppiphgaaGreatDoor.Lok
open Go.RowKit Kit Reg Dec Dig Val Fld
/-- whether a value is found as another one, the reference's way -/
def foundV (x v : Vl) : Bool := !decide (x.k = 4) && hitS x v
end Go.Proofs.YtebjedbppiphgaaGreatDoor.Lok
namespace Go.Proofs.YtebjedbppiphgaaGreatDoor.Lok
open Go.RowKit Kit Reg Dec Dig Val Fld
/-- a slice that reads as such values -/
def RowV (K : List Vl) (m : Nat) (v : Value) (w : World) : Prop := ∃ A c, v = .slice A m c ∧ ValsR w A m K
theorem RowV.up {K : List Vl} {m : Nat} {v : Value} {w : World} (h : Up (RowV K m v) w) : RowV K m v w := by
  obtain ⟨w1, ⟨A, c, e, h1⟩, hb⟩ := h
  exact ⟨A, c, e, h1.on hb⟩

section
variable {R C n : Nat} (h1 : 1 ≤ R) (h2 : 1 ≤ C) (h3 : n ≤ 1000) (h4 : R * C = n)
include h1 h2 h3 h4
end
end Go.Proofs.YtebjedbppiphgaaGreatDoor.Lok
namespace Go.Proofs.YtebjedbppiphgaaGreatDoor.Cal
open Go.RowKit Kit Reg Dec Dig Val Fld
set_option maxRecDepth 100000 in
set_option maxHeartbeats 2000000 in
theorem pcall_no (fn : Int) (A : Option Addr) (n cap : Nat) (T : List Tb) (h6 : ∀ t ∈ T, t.n ≤ 60) (h : ¬ AccB fn n T) (w : World) (hz : TabsR w A n T) : Calls Tryz.prog 17 #[.int .i64 fn, .slice A n cap] w (IsV (fV 2) w) := by
  obtain ⟨h2, hb2⟩ := first w [.int .i64 0, .int .i64 0, .string ⟨#[]⟩] 23
  have HT : Hid (∀ w1, Below w.heap.size w w1 → Calls Tryz.prog 48 #[.int .i64 fn, .slice A n cap] w1 fun e w' => e = .returned (.bool false) ∧ Below w1.heap.size w1 w') := Lib.hid (fun w1 hb => takes_no fn A n cap T h6 h w1 (hz.on hb))
  have HB := Lib.hid (fun w1 => bad_v 2 (by decide) (by decide) w1)
  clear h h6 hz
  show Calls Tryz.prog 17 _ w (ValIs 4 2 ⟨#[]⟩ w)
  go_enter Tryz.func17, Tryz.ntmps17
  go_wp2_with fail
  generalize w.alloc (.cells #[.int .i64 0, .int .i64 0, .string ⟨#[]⟩] 23) = W at *
  refine (HT.out _ hb2).mono ?_
  rintro e w1 ⟨rfl, hb1⟩
  replace h2 := h2.on hb1
  replace hb2 := on hb2 hb1
  clear hb1
  go_wp2_with fail
  refine (HB.out _).mono ?_
  rintro e w2 ⟨rfl, hb1⟩
  replace h2 := h2.on hb1
  replace hb2 := on hb2 hb1
  clear hb1
  obtain ⟨⟨g0, p0, p1, p2, q0, q1, q2⟩, ⟨z0, z1, z2⟩, hb3⟩ := val_ends h2 hb2 (Nat.le_refl _) (.int .i64 4) (.int .i64 2) (.string ⟨#[]⟩)
  clear h2 hb2
  go_wp2
  exact bodyPost_ret (v := .agg #[.int .i64 4, .int .i64 2, .string ⟨#[]⟩]) (by simp [results, Tryz.results17, go_sem, z0, z1, z2]) rfl ⟨rfl, hb3⟩
/-- what a table that may be an argument has: a value, or more -/
theorem acc_pos {fn : Int} {n : Nat} {T : List Tb} (h : AccB fn n T) : ∀ t ∈ T, 1 ≤ t.n := fun t ht => by
  obtain ⟨i, hi⟩ := List.mem_iff_getElem?.1 ht
  obtain ⟨R, C, _, _, g1, g2, _, g4, _⟩ := (h.2 i t hi).2.2.2.1.nat
  rw [← g4]
  exact Nat.mul_pos g1 g2
theorem acc_six {fn : Int} {n : Nat} {T : List Tb} (h : AccB fn n T) (h6 : ∀ t ∈ T, t.n ≤ 60) : ∀ t ∈ T, 1 ≤ t.n ∧ t.n ≤ 60 := fun t ht => ⟨acc_pos h t ht, h6 t ht⟩
set_option maxRecDepth 100000 in
set_option maxHeartbeats 2000000 in
theorem pcall_txt (fn : Int) (hfn : fn = 37 ∨ fn = 38 ∨ fn = 75 ∨ fn = 52 ∨ fn = 73 ∨ fn = 56 ∨ fn = 8 ∨ fn = 19 ∨ fn = 21 ∨ fn = 66) (A : Option Addr) (n cap : Nat) (T : List Tb) (h6 : ∀ t ∈ T, t.n ≤ 60) (hacc : AccB fn n T) (z : Vl) (w : World) (hz : TabsR w A n T)
    (HO0 : ∀ A2 c2 w1, Below w.heap.size w w1 → ValsR w1 A2 (allL T).length (allL T) → Calls Tryz.prog 51 #[.int .i64 fn, .slice A2 (allL T).length c2] w1 (IsV z w1)) :
    Calls Tryz.prog 17 #[.int .i64 fn, .slice A n cap] w (IsV z w) := by
  obtain ⟨h2, hb2⟩ := first w [.int .i64 0, .int .i64 0, .string ⟨#[]⟩] 23
  have hn9 : n ≤ 9 := by have := fits_most hacc.1; omega
  have HT : Hid (∀ w1, Below w.heap.size w w1 → Calls Tryz.prog 48 #[.int .i64 fn, .slice A n cap] w1 fun e w' => e = .returned (.bool true) ∧ Below w1.heap.size w1 w') := Lib.hid (fun w1 hb => takes_yes fn A n cap T h6 hacc w1 (hz.on hb))
  have HA : Hid (∀ w1, Below w.heap.size w w1 → Calls Tryz.prog 50 #[.slice A n cap] w1 fun e w' => ∃ A2 c2, e = .returned (.slice A2 (allL T).length c2) ∧ ValsR w' A2 (allL T).length (allL T) ∧ Below w1.heap.size w1 w') := Lib.hid (fun w1 hb => all_c A n cap T (acc_six hacc h6) hn9 w1 (hz.on hb))
  obtain ⟨a, b, c⟩ := z
  have HO : Hid (∀ A2 c2 w1, Below w.heap.size w w1 → ValsR w1 A2 (allL T).length (allL T) → Calls Tryz.prog 51 #[.int .i64 fn, .slice A2 (allL T).length c2] w1 (ValIs a b c w1)) := Lib.hid HO0
  clear HO0 hacc h6 hz hn9
  generalize (allL T).length = m at *
  show Calls Tryz.prog 17 _ w (ValIs a b c w)
  rcases hfn with rfl | rfl | rfl | rfl | rfl | rfl | rfl | rfl | rfl | rfl
  all_goals
    go_enter Tryz.func17, Tryz.ntmps17
    go_wp2_with fail
    generalize w.alloc (.cells #[.int .i64 0, .int .i64 0, .string ⟨#[]⟩] 23) = W at *
    refine (HT.out _ hb2).mono ?_
    rintro e w1 ⟨rfl, hb1⟩
    replace h2 := h2.on hb1
    replace hb2 := on hb2 hb1
    clear hb1
    go_wp2_with fail
    refine (HA.out _ hb2).mono ?_
    rintro e w2 ⟨A2, c2, rfl, hr, hb1⟩
    replace h2 := h2.on hb1
    replace hb2 := on hb2 hb1
    clear hb1
    go_wp2_with fail
    refine (HO.out _ _ _ hb2 hr).mono ?_
    rintro e w4 ⟨rfl, hb1⟩
    replace h2 := h2.on hb1
    replace hb2 := on hb2 hb1
    clear hb1
    clear hr
    obtain ⟨⟨g0, p0, p1, p2, q0, q1, q2⟩, ⟨z0, z1, z2⟩, hb3⟩ := val_ends h2 hb2 (Nat.le_refl _) (.int .i64 a) (.int .i64 b) (.string c)
    clear h2 hb2
    go_wp2
    exact bodyPost_ret (v := .agg #[.int .i64 a, .int .i64 b, .string c]) (by simp [results, Tryz.results17, go_sem, z0, z1, z2]) rfl ⟨rfl, hb3⟩
end Go.Proofs.YtebjedbppiphgaaGreatDoor.Cal
namespace Go.Proofs.YtebjedbppiphgaaGreatDoor.Cal
open Go.RowKit Kit Reg Dec Dig Val Fld
open Lok (RowV)
set_option maxRecDepth 100000 in
set_option maxHeartbeats 2000000 in
theorem pcall_order (fn : Int) (hfn : fn = 34 ∨ fn = 64) (A : Option Addr) (cap : Nat) (_hcap : 2 ≤ cap) (t0 t1 : Tb) (h6 : ∀ t ∈ [t0, t1], t.n ≤ 60) (hacc : AccB fn 2 [t0, t1]) (z : Vl) (w : World) (hz : TabsR w A 2 [t0, t1])
    (HO0 : ∀ w1, Below w.heap.size w w1 → Calls Tryz.prog 57 #[.int .i64 fn, .slice t0.A t0.n t0.d, .slice t1.A t1.n t1.d] w1 (IsV z w1)) :
    Calls Tryz.prog 17 #[.int .i64 fn, .slice A 2 cap] w (IsV z w) := by
  obtain ⟨h2, hb2⟩ := first w [.int .i64 0, .int .i64 0, .string ⟨#[]⟩] 23
  have HT : Hid (∀ w1, Below w.heap.size w w1 → Calls Tryz.prog 48 #[.int .i64 fn, .slice A 2 cap] w1 fun e w' => e = .returned (.bool true) ∧ Below w1.heap.size w1 w') := Lib.hid (fun w1 hb => takes_yes fn A 2 cap [t0, t1] h6 hacc w1 (hz.on hb))
  have hz0 := hz.reads (k := 0) (t := t0) rfl (by have := h6 t0 (by simp); omega)
  have hz1 := hz.reads (k := 1) (t := t1) rfl (by have := h6 t1 (by simp); omega)
  obtain ⟨a, b, c⟩ := z
  have HO : Hid (∀ w1, Below w.heap.size w w1 → Calls Tryz.prog 57 #[.int .i64 fn, .slice t0.A t0.n t0.d, .slice t1.A t1.n t1.d] w1 (ValIs a b c w1)) := Lib.hid HO0
  clear HO0
  have HZ := Lib.hid hz
  clear hacc h6 hz hz0 hz1
  show Calls Tryz.prog 17 _ w (ValIs a b c w)
  rcases hfn with rfl | rfl
  all_goals
    go_enter Tryz.func17, Tryz.ntmps17
    go_wp2_with fail
    generalize w.alloc (.cells #[.int .i64 0, .int .i64 0, .string ⟨#[]⟩] 23) = W at *
    refine (HT.out _ hb2).mono ?_
    rintro e w1 ⟨rfl, hb1⟩
    replace h2 := h2.on hb1
    replace hb2 := on hb2 hb1
    clear hb1
    have hzw := HZ.out.on hb2
    obtain ⟨b9, o9, rfl, hlt9, c00, c01, c02⟩ := hzw.at (k := 0) (t := t0) rfl
    rw [show o9 + 0 * 3 = o9 by omega] at c00 c01 c02
    obtain ⟨b8, o8, e8, hlt8, c10, c11, c12⟩ := hzw.at (k := 1) (t := t1) rfl
    simp only [Option.some.injEq, Addr.mk.injEq] at e8
    obtain ⟨rfl, rfl, -⟩ := e8
    rw [show o9 + 1 * 3 = o9 + 3 by omega] at c10 c11 c12
    clear hzw
    go_wp2_with fail
    have C00 := fun d os => cell_regrown c00 d os
    have C01 := fun d os => cell_regrown c01 d os
    have C02 := fun d os => cell_regrown c02 d os
    have C10 := fun d os => cell_regrown c10 d os
    have C11 := fun d os => cell_regrown c11 d os
    have C12 := fun d os => cell_regrown c12 d os
    clear c00 c01 c02 c10 c11 c12
    refine wp_region_mem 10 (fun d => match d with
      | 115 => some (Is (.agg #[.int .i64 a, .int .i64 b, .string c]))
      | _ => none) (by kernel_rfl) (by kernel_rfl) ?_
    simp only [List.take_succ_cons, List.take_zero, List.drop_succ_cons, List.drop_zero]
    repeat (first | ((with_reducible refine wpM_calm ?_ ?_ ?_ ?_); exact rfl; exact rfl; exact rfl; intro K hK; go_big_quiet_op; go_big_quiet_on) | ((with_reducible refine wpM_skip ?_ ?_); exact rfl; simp only [Act.put, List.setIfInBounds_toArray, List.set_cons_succ, List.set_cons_zero]))
    refine wpM_exact rfl rfl rfl Tryz.func57 (by kernel_rfl) (by kernel_rfl) (fun w1 hw1 _ => HO.out w1 (on hb2 hw1)) rfl (by simp only [Act.put, List.setIfInBounds_toArray, List.set_cons_succ, List.set_cons_zero]; rfl) ?_
    refine wpM_nil ?_
    intro w9 hw9 _
    replace h2 := h2.on hw9
    replace hb2 := on hb2 hw9
    clear hw9 C00 C01 C02 C10 C11 C12
    obtain ⟨⟨g0, p0, p1, p2, q0, q1, q2⟩, ⟨z0, z1, z2⟩, hb3⟩ := val_ends h2 hb2 (Nat.le_refl _) (.int .i64 a) (.int .i64 b) (.string c)
    clear h2 hb2
    go_wp2
    exact bodyPost_ret (v := .agg #[.int .i64 a, .int .i64 b, .string c]) (by simp [results, Tryz.results17, go_sem, z0, z1, z2]) rfl ⟨rfl, hb3⟩
end Go.Proofs.YtebjedbppiphgaaGreatDoor.Cal
namespace Go.Proofs.YtebjedbppiphgaaGreatDoor.Pow
open Go.RowKit Kit Dec Reg
/-- the memory of a loop that multiplies: the result's block, and the product's -/
def MulMem (w wr : World) (q : Int) (b : Bool) : Prop := Below w.heap.size w wr ∧ CellsAt wr w.heap.size [.int .i64 0, .bool false] ∧ CellsAt wr (w.heap.size + 1) [.int .i64 q, .bool b]
theorem MulMem.start (w : World) (n : Int) (b : Bool) : MulMem w ((w.alloc (.cells #[.int .i64 0, .bool false] 55)).alloc (.cells #[.int .i64 n, .bool b] 55)) n b := by
  refine ⟨below2 _ _ _, (CellsAt.new w [.int .i64 0, .bool false] _).on_alloc _, ?_⟩
  have h := CellsAt.new (w.alloc (.cells #[.int .i64 0, .bool false] 55)) [.int .i64 n, .bool b] 55
  rw [show (w.alloc (.cells #[.int .i64 0, .bool false] 55)).heap.size = w.heap.size + 1 by simp] at h
  exact h
theorem MulMem.on {w wr wr' : World} {q : Int} {b : Bool} (h : MulMem w wr q b) (hb : Below wr.heap.size wr wr') : MulMem w wr' q b :=
  ⟨Kit.on h.1 hb, h.2.1.on hb, h.2.2.on hb⟩
theorem MulMem.put {w wr : World} {q : Int} {b : Bool} (h : MulMem w wr q b) (n : Int) (k : Bool) : MulMem w (put2 wr (w.heap.size + 1) (.int .i64 n) (.bool k)) n k :=
  ⟨set2 h.1 (by omega) _ _, h.2.1.put2_far (by omega) _ _, h.2.2.put2 _ _⟩
end Go.Proofs.YtebjedbppiphgaaGreatDoor.Pow
namespace Go.Proofs.YtebjedbppiphgaaGreatDoor.Pow
open Go.RowKit Kit Dec Reg
set_option maxRecDepth 100000 in
set_option maxHeartbeats 1000000 in
theorem fits_c (r x : Nat) (hr : r ≤ 9223372036854775807) (hx : x ≤ 9223372036854775807) (b : Bool) (hb : decide (r * r ≤ x * 10000) = b) (w : World) :
    Calls Tryz.prog 251 #[.int .i64 r, .int .i64 x] w fun e w' => e = .returned (.bool b) ∧ Below w.heap.size w w' := by
  subst hb
  have M := Lib.hid (fun w1 => rtimes_c r r _ _ (by omega) (by omega) rfl rfl w1)
  have M2 : Hid (∀ w1, Calls Tryz.prog 199 #[.int .u64 x, .int .u64 10000] w1 fun e w' => e = .returned (.agg #[.int .u64 ((x * 10000 / 18446744073709551616 : Nat) : Int), .int .u64 ((x * 10000 % 18446744073709551616 : Nat) : Int)]) ∧ Below w1.heap.size w1 w') := Lib.hid (fun w1 => rtimes_c x 10000 _ _ (by omega) (by omega) rfl rfl w1)
  have e1 := halves (r * r)
  have e2 := halves (x * 10000)
  have l1 : r * r % 18446744073709551616 < 18446744073709551616 := Nat.mod_lt _ (by omega)
  have l2 : x * 10000 % 18446744073709551616 < 18446744073709551616 := Nat.mod_lt _ (by omega)
  rw [e1, e2]
  generalize r * r / 18446744073709551616 = H at *
  generalize r * r % 18446744073709551616 = L at *
  generalize x * 10000 / 18446744073709551616 = I at *
  generalize x * 10000 % 18446744073709551616 = J at *
  clear e1 e2
  have hcase : (H < I ∧ decide (H * 18446744073709551616 + L ≤ I * 18446744073709551616 + J) = true) ∨ (I < H ∧ decide (H * 18446744073709551616 + L ≤ I * 18446744073709551616 + J) = false) ∨
      (H = I ∧ decide (H * 18446744073709551616 + L ≤ I * 18446744073709551616 + J) = decide (L ≤ J)) := by
    rcases Nat.lt_trichotomy H I with h | h | h
    · exact .inl ⟨h, decide_eq_true (by omega)⟩
    · exact .inr (.inr ⟨h, decide_eq_decide.2 (by omega)⟩)
    · exact .inr (.inl ⟨h, decide_eq_false (by omega)⟩)
  clear l1 l2
  obtain ⟨bb, hbb⟩ : ∃ bb, decide (H * 18446744073709551616 + L ≤ I * 18446744073709551616 + J) = bb := ⟨_, rfl⟩
  rw [hbb] at hcase ⊢
  clear hbb
  go_enter Tryz.func251, Tryz.ntmps251
  go_wp2_with fail
  refine (M.out _).mono ?_
  rintro e w1 ⟨rfl, hb1⟩
  have hA := CellsAt.new w1 [.int .u64 H, .int .u64 L] 159
  have hb := on_alloc hb1 (.cells #[.int .u64 H, .int .u64 L] 159)
  clear hb1
  have hlt := hA.1
  go_wp2_with fail
  refine (M2.out _).mono ?_
  rintro e w2 ⟨rfl, hb2⟩
  have hB := CellsAt.new w2 [.int .u64 I, .int .u64 J] 159
  replace hA := (hA.on hb2).on_alloc (.cells #[.int .u64 I, .int .u64 J] 159)
  replace hb := Lib.hid (on_alloc (Kit.on hb hb2) (.cells #[.int .u64 I, .int .u64 J] 159))
  obtain ⟨a0, a1, _, _⟩ := hA.two
  obtain ⟨b0, b1, _, _⟩ := hB.two
  clear hb2 M M2
  have k1 := hA.1
  have k2 := hB.1
  clear hA hB
  rcases hcase with ⟨h, rfl⟩ | ⟨h, rfl⟩ | ⟨rfl, rfl⟩
  · go_wp2_with fail
    go_ret
    exact ⟨rfl, hb.out⟩
  · have t1 : decide (H < I) = false := decide_eq_false (by omega)
    have t2 : (H == I) = false := by simp; omega
    have t3 : ((H : Int) == (I : Int)) = false := by simp; omega
    go_wp2_with fail
    go_ret
    exact ⟨rfl, hb.out⟩
  · go_wp2_with fail
    go_ret
    exact ⟨rfl, hb.out⟩
end Go.Proofs.YtebjedbppiphgaaGreatDoor.Pow

/- The program's steps: of the sum, the product, the sum of the squares, the least and the greatest number; and what Sum, Product, Squares, Least and Most answer. -/
import Derived.Test.YtebjedbppiphgaaGreatDoorKfa25
import Derived.Test.YtebjedbppiphgaaGreatDoorKfa08
namespace Go.Proofs.YtebjedbppiphgaaGreatDoor.Fld
open Go.RowKit Kit Reg Dec Dig Val Txt
theorem addD_room {a b n : Int} {k : Bool} (h : addD a b = (n, k)) : n ≤ 9223372036854775807 := by
  unfold addD giveD at h
  split at h
  · rename_i h2
    have := (Prod.mk.inj h).1
    simp only [okD, Bool.and_eq_true, decide_eq_true_eq] at h2
    omega
  · have := (Prod.mk.inj h).1
    omega
theorem mulD_room {a b n : Int} {k : Bool} (h : scaledD a b 10000 = (n, k)) : n ≤ 9223372036854775807 ∧ (k = false → n = 0) := by
  unfold scaledD giveD at h
  split at h
  · rename_i h2
    obtain ⟨h3, rfl⟩ := Prod.mk.inj h
    rw [Bool.and_eq_true] at h2
    have h4 := h2.2
    rw [h3] at h4
    simp only [okD, Bool.and_eq_true, decide_eq_true_eq] at h4
    exact ⟨by omega, fun e => by cases e⟩
  · have := (Prod.mk.inj h).1
    exact ⟨by omega, fun _ => by omega⟩
theorem step_add : StepC addD 78 #[] (fun _ => True) := fun so x n k h1 h2 h => ⟨addD_room h, fun w _ => (add_c so x h1 h2 n k h w).mono fun _ _ ⟨he, hw⟩ => ⟨he, by subst hw; exact Below.refl _ _⟩⟩
theorem step_mul : StepC mulD 80 #[] (fun _ => True) := fun so x n k h1 h2 h => ⟨(mulD_room h).1, fun w _ => (mul_c so x h1 h2 n k h w).mono fun _ _ ⟨he, hw⟩ => ⟨he, drawn_below hw⟩⟩
set_option maxRecDepth 100000 in
set_option maxHeartbeats 1000000 in
theorem square_c (so x n : Int) (k : Bool) (h1 : so ≤ 9223372036854775807) (h2 : x ≤ 9223372036854775807) (h : sqD so x = (n, k)) (w : World) :
    Calls Tryz.prog 227 #[.int .i64 so, .int .i64 x] w fun e w' => e = .returned (.tuple #[.int .i64 n, .bool k]) ∧ Below w.heap.size w w' := by
  obtain ⟨⟨s, b⟩, hs⟩ : ∃ r, scaledD x x 10000 = r := ⟨_, rfl⟩
  have HM := Lib.hid (fun w1 => mul_c x x h2 h2 s b hs w1)
  obtain ⟨hs9, hs0⟩ := mulD_room hs
  unfold sqD at h
  rw [hs] at h
  cases b
  · obtain rfl := hs0 rfl
    obtain ⟨rfl, rfl⟩ := Prod.mk.inj h
    clear hs h
    go_enter Tryz.func227, Tryz.ntmps227
    go_wp2_with fail
    refine (HM.out _).mono ?_
    rintro e w1 ⟨rfl, hb1⟩
    replace hb1 := drawn_below hb1
    go_wp2_with fail
    go_ret2
    exact ⟨rfl, hb1⟩
  · have HA := Lib.hid (fun w1 => add_c so s h1 hs9 n k h w1)
    clear hs h
    go_enter Tryz.func227, Tryz.ntmps227
    go_wp2_with fail
    refine (HM.out _).mono ?_
    rintro e w1 ⟨rfl, hb1⟩
    replace hb1 := drawn_below hb1
    go_wp2_with fail
    refine (HA.out _).mono ?_
    rintro e w2 ⟨rfl, rfl⟩
    go_wp2_with fail
    go_ret2
    exact ⟨rfl, hb1⟩
theorem sqD_room {a b n : Int} {k : Bool} (h : sqD a b = (n, k)) : n ≤ 9223372036854775807 := by
  obtain ⟨⟨s, c⟩, hs⟩ : ∃ r, scaledD b b 10000 = r := ⟨_, rfl⟩
  unfold sqD at h
  rw [hs] at h
  cases c
  · rw [← (Prod.mk.inj h).1]
    exact (mulD_room hs).1
  · exact addD_room h
theorem step_sq : StepC sqD 227 #[] (fun _ => True) := fun so x n k h1 h2 h => ⟨sqD_room h, fun w _ => square_c so x n k h1 h2 h w⟩
/-- which number is better, as the program has it -/
def betterF (most : Bool) : Nat := if most then 230 else 229
set_option maxRecDepth 100000 in
set_option maxHeartbeats 1000000 in
theorem better_c (most : Bool) (x a : Int) (b : Bool) (hb : btr most x a = b) (w : World) : Calls Tryz.prog (betterF most) #[.int .i64 x, .int .i64 a] w fun e w' => e = .returned (.bool b) ∧ w = w' := by
  cases most
  · show Calls Tryz.prog 229 #[.int .i64 x, .int .i64 a] w _
    have HB : Hid (decide (x < a) = b) := Lib.hid hb
    clear hb
    go_enter Tryz.func229, Tryz.ntmps229
    go_wp2
    go_ret
    exact ⟨ret_bool HB.out, rfl⟩
  · show Calls Tryz.prog 230 #[.int .i64 x, .int .i64 a] w _
    have HB : Hid (decide (a < x) = b) := Lib.hid hb
    clear hb
    go_enter Tryz.func230, Tryz.ntmps230
    go_wp2
    go_ret
    exact ⟨ret_bool HB.out, rfl⟩
theorem better_enters (most : Bool) (args : Array Value) (w : World) : (callFunc (betterF most) args).run Tryz.prog w = .ok (.enter (betterF most) args) w := by
  cases most
  · exact enters (fn := Tryz.f229) (by kernel_rfl) (by kernel_rfl) rfl args w
  · exact enters (fn := Tryz.f230) (by kernel_rfl) (by kernel_rfl) rfl args w
/-- the cell that holds it -/
def BestP (g : Nat) (most : Bool) (w : World) : Prop := w.cell? ⟨g, 0, none⟩ = some (.func (.func (betterF most)) #[] #[])
theorem BestP.on {g : Nat} {most : Bool} (w w' : World) (h : BestP g most w) (hb : Below w.heap.size w w') : BestP g most w' := kept hb h
set_option maxRecDepth 100000 in
set_option maxHeartbeats 1000000 in
theorem best_step (g : Nat) (most : Bool) (so x n : Int) (h : bestD most so x = (n, true)) (w : World) (hP : BestP g most w) :
    Calls Tryz.prog 291 #[.int .i64 so, .int .i64 x, .pointer (some ⟨g, 0, none⟩)] w fun e w' => e = .returned (.tuple #[.int .i64 n, .bool true]) ∧ Below w.heap.size w w' := by
  obtain ⟨b, hb⟩ : ∃ b, btr most x so = b := ⟨_, rfl⟩
  have HB := Lib.hid (fun w1 => better_c most x so b hb w1)
  have HE := Lib.hid (fun args w1 => better_enters most args w1)
  have hn : (if b = true then x else so) = n := by rw [← hb]; exact (Prod.mk.inj h).1
  unfold BestP at hP
  generalize betterF most = F at *
  clear h hb
  cases b
  · obtain rfl : so = n := hn
    go_enter Tryz.func291, Tryz.ntmps291
    go_wp2_with fail
    rw [HE.out, Oper.upon_enter]
    refine (HB.out _).mono ?_
    rintro e w1 ⟨rfl, rfl⟩
    go_wp2_with fail
    go_ret2
    exact ⟨rfl, Below.refl _ _⟩
  · obtain rfl : x = n := hn
    go_enter Tryz.func291, Tryz.ntmps291
    go_wp2_with fail
    rw [HE.out, Oper.upon_enter]
    refine (HB.out _).mono ?_
    rintro e w1 ⟨rfl, rfl⟩
    go_wp2_with fail
    go_ret2
    exact ⟨rfl, Below.refl _ _⟩
theorem step_best (g : Nat) (most : Bool) : StepC (bestD most) 291 #[.pointer (some ⟨g, 0, none⟩)] (BestP g most) := fun so x n k h1 h2 h => by
  obtain rfl : true = k := (Prod.mk.inj h).2
  refine ⟨?_, fun w hw => best_step g most so x n h w hw⟩
  have := (Prod.mk.inj h).1
  split at this <;> omega
set_option maxRecDepth 100000 in
set_option maxHeartbeats 1000000 in
theorem best_c (most : Bool) (A : Option Addr) (n cap : Nat) (L : List Vl) (hm : ∀ v ∈ L, v.may) (k0 n0 : Int) (hv : allV (bestD most) (startB most) L = (k0, n0)) (w : World) (hz : ValsR w A n L) :
    Calls Tryz.prog 228 #[.slice A n cap, .int .i64 (startB most), .func (.func (betterF most)) #[] #[]] w (ValIs k0 n0 ⟨#[]⟩ w) := by
  have hs : startB most ≤ 9223372036854775807 := by cases most <;> decide
  have HR := Lib.hid (fun w1 hz hP => reckoned_c A n cap L hm (bestD most) (startB most) hs 291 #[.pointer (some ⟨w.heap.size, 0, none⟩)] (enters (fn := Tryz.f291) (by kernel_rfl) (by kernel_rfl) rfl) (BestP w.heap.size most) BestP.on (step_best w.heap.size most) k0 n0 hv w1 hz hP)
  have hb0 := below2 w (.cells #[.func (.func (betterF most)) #[] #[]] 175) (.cells #[.int .i64 0, .int .i64 0, .string ⟨#[]⟩] 23)
  have HZ := Lib.hid (hz.on hb0)
  have hr := CellsAt.new (w.alloc (.cells #[.func (.func (betterF most)) #[] #[]] 175)) [.int .i64 0, .int .i64 0, .string ⟨#[]⟩] 23
  rw [show (w.alloc (.cells #[.func (.func (betterF most)) #[] #[]] 175)).heap.size = w.heap.size + 1 by simp] at hr
  have hP : Hid (BestP w.heap.size most ((w.alloc (.cells #[.func (.func (betterF most)) #[] #[]] 175)).alloc (.cells #[.int .i64 0, .int .i64 0, .string ⟨#[]⟩] 23))) :=
    Lib.hid (kept_alloc _ (CellsAt.new w [.func (.func (betterF most)) #[] #[]] 175).one.1)
  generalize startB most = start at *
  clear hz hv
  go_enter Tryz.func228, Tryz.ntmps228
  go_wp2_with fail
  generalize (w.alloc (.cells #[.func (.func (betterF most)) #[] #[]] 175)).alloc (.cells #[.int .i64 0, .int .i64 0, .string ⟨#[]⟩] 23) = W at *
  refine (HR.out _ HZ.out hP.out).mono ?_
  rintro e w4 ⟨rfl, hb4⟩
  replace hb0 := on hb0 hb4
  replace hr := hr.on hb4
  have hl2 := hr.1
  obtain ⟨p0, p1, p2, f0, f1, f2⟩ := hr.three
  obtain ⟨z0, z1, z2⟩ := three_set (u := .int .i64 k0) (v := .int .i64 n0) (r := .string ⟨#[]⟩) p0 p1 p2
  have hb5 := set3 hb0 (Nat.le_add_right _ 1) (.int .i64 k0) (.int .i64 n0) (.string ⟨#[]⟩)
  clear hb4 hb0 hr HR HZ hP
  go_wp2_with fail
  exact bodyPost_ret (v := .agg #[.int .i64 k0, .int .i64 n0, .string ⟨#[]⟩]) (by simp [results, Tryz.results228, go_sem, z0, z1, z2]) rfl ⟨rfl, hb5⟩
set_option maxRecDepth 100000 in
set_option maxHeartbeats 1000000 in
theorem sum_c (A : Option Addr) (n cap : Nat) (L : List Vl) (hm : ∀ v ∈ L, v.may) (k0 n0 : Int) (hv : allV addD 0 L = (k0, n0)) (w : World) (hz : ValsR w A n L) :
    Calls Tryz.prog 119 #[.slice A n cap] w (ValIs k0 n0 ⟨#[]⟩ w) := by
  have HR : Hid (∀ w1, ValsR w1 A n L → Calls Tryz.prog 226 #[.slice A n cap, .int .i64 0, .func (.func 78) #[] #[]] w1 (ValIs k0 n0 ⟨#[]⟩ w1)) := Lib.hid (fun w1 hz => reckoned_c A n cap L hm addD 0 (by omega) 78 #[] (enters (fn := Tryz.f78) (by kernel_rfl) (by kernel_rfl) rfl) (fun _ => True) (fun _ _ _ _ => trivial) step_add k0 n0 hv w1 hz trivial)
  have hb0 := below1 w (.cells #[.int .i64 0, .int .i64 0, .string ⟨#[]⟩] 23)
  have HZ := Lib.hid (hz.on hb0)
  have hr := CellsAt.new w [.int .i64 0, .int .i64 0, .string ⟨#[]⟩] 23
  clear hz hv
  go_enter Tryz.func119, Tryz.ntmps119
  go_wp2_with fail
  generalize w.alloc (.cells #[.int .i64 0, .int .i64 0, .string ⟨#[]⟩] 23) = W at *
  refine (HR.out _ HZ.out).mono ?_
  rintro e w4 ⟨rfl, hb4⟩
  replace hb0 := on hb0 hb4
  replace hr := hr.on hb4
  have hl2 := hr.1
  obtain ⟨p0, p1, p2, f0, f1, f2⟩ := hr.three
  obtain ⟨z0, z1, z2⟩ := three_set (u := .int .i64 k0) (v := .int .i64 n0) (r := .string ⟨#[]⟩) p0 p1 p2
  have hb5 := set3 hb0 (Nat.le_refl _) (.int .i64 k0) (.int .i64 n0) (.string ⟨#[]⟩)
  clear hb4 hb0 hr HR HZ
  go_wp2_with fail
  exact bodyPost_ret (v := .agg #[.int .i64 k0, .int .i64 n0, .string ⟨#[]⟩]) (by simp [results, Tryz.results119, go_sem, z0, z1, z2]) rfl ⟨rfl, hb5⟩
set_option maxRecDepth 100000 in
set_option maxHeartbeats 1000000 in
theorem product_c (A : Option Addr) (n cap : Nat) (L : List Vl) (hm : ∀ v ∈ L, v.may) (k0 n0 : Int) (hv : allV mulD 10000 L = (k0, n0)) (w : World) (hz : ValsR w A n L) :
    Calls Tryz.prog 120 #[.slice A n cap] w (ValIs k0 n0 ⟨#[]⟩ w) := by
  have HR : Hid (∀ w1, ValsR w1 A n L → Calls Tryz.prog 226 #[.slice A n cap, .int .i64 10000, .func (.func 80) #[] #[]] w1 (ValIs k0 n0 ⟨#[]⟩ w1)) := Lib.hid (fun w1 hz => reckoned_c A n cap L hm mulD 10000 (by omega) 80 #[] (enters (fn := Tryz.f80) (by kernel_rfl) (by kernel_rfl) rfl) (fun _ => True) (fun _ _ _ _ => trivial) step_mul k0 n0 hv w1 hz trivial)
  have hb0 := below1 w (.cells #[.int .i64 0, .int .i64 0, .string ⟨#[]⟩] 23)
  have HZ := Lib.hid (hz.on hb0)
  have hr := CellsAt.new w [.int .i64 0, .int .i64 0, .string ⟨#[]⟩] 23
  clear hz hv
  go_enter Tryz.func120, Tryz.ntmps120
  go_wp2_with fail
  generalize w.alloc (.cells #[.int .i64 0, .int .i64 0, .string ⟨#[]⟩] 23) = W at *
  refine (HR.out _ HZ.out).mono ?_
  rintro e w4 ⟨rfl, hb4⟩
  replace hb0 := on hb0 hb4
  replace hr := hr.on hb4
  have hl2 := hr.1
  obtain ⟨p0, p1, p2, f0, f1, f2⟩ := hr.three
  obtain ⟨z0, z1, z2⟩ := three_set (u := .int .i64 k0) (v := .int .i64 n0) (r := .string ⟨#[]⟩) p0 p1 p2
  have hb5 := set3 hb0 (Nat.le_refl _) (.int .i64 k0) (.int .i64 n0) (.string ⟨#[]⟩)
  clear hb4 hb0 hr HR HZ
  go_wp2_with fail
  exact bodyPost_ret (v := .agg #[.int .i64 k0, .int .i64 n0, .string ⟨#[]⟩]) (by simp [results, Tryz.results120, go_sem, z0, z1, z2]) rfl ⟨rfl, hb5⟩
set_option maxRecDepth 100000 in
set_option maxHeartbeats 1000000 in
theorem squares_c (A : Option Addr) (n cap : Nat) (L : List Vl) (hm : ∀ v ∈ L, v.may) (k0 n0 : Int) (hv : allV sqD 0 L = (k0, n0)) (w : World) (hz : ValsR w A n L) :
    Calls Tryz.prog 121 #[.slice A n cap] w (ValIs k0 n0 ⟨#[]⟩ w) := by
  have HR : Hid (∀ w1, ValsR w1 A n L → Calls Tryz.prog 226 #[.slice A n cap, .int .i64 0, .func (.func 227) #[] #[]] w1 (ValIs k0 n0 ⟨#[]⟩ w1)) := Lib.hid (fun w1 hz => reckoned_c A n cap L hm sqD 0 (by omega) 227 #[] (enters (fn := Tryz.f227) (by kernel_rfl) (by kernel_rfl) rfl) (fun _ => True) (fun _ _ _ _ => trivial) step_sq k0 n0 hv w1 hz trivial)
  have hb0 := below1 w (.cells #[.int .i64 0, .int .i64 0, .string ⟨#[]⟩] 23)
  have HZ := Lib.hid (hz.on hb0)
  have hr := CellsAt.new w [.int .i64 0, .int .i64 0, .string ⟨#[]⟩] 23
  clear hz hv
  go_enter Tryz.func121, Tryz.ntmps121
  go_wp2_with fail
  generalize w.alloc (.cells #[.int .i64 0, .int .i64 0, .string ⟨#[]⟩] 23) = W at *
  refine (HR.out _ HZ.out).mono ?_
  rintro e w4 ⟨rfl, hb4⟩
  replace hb0 := on hb0 hb4
  replace hr := hr.on hb4
  have hl2 := hr.1
  obtain ⟨p0, p1, p2, f0, f1, f2⟩ := hr.three
  obtain ⟨z0, z1, z2⟩ := three_set (u := .int .i64 k0) (v := .int .i64 n0) (r := .string ⟨#[]⟩) p0 p1 p2
  have hb5 := set3 hb0 (Nat.le_refl _) (.int .i64 k0) (.int .i64 n0) (.string ⟨#[]⟩)
  clear hb4 hb0 hr HR HZ
  go_wp2_with fail
  exact bodyPost_ret (v := .agg #[.int .i64 k0, .int .i64 n0, .string ⟨#[]⟩]) (by simp [results, Tryz.results121, go_sem, z0, z1, z2]) rfl ⟨rfl, hb5⟩
set_option maxRecDepth 100000 in
set_option maxHeartbeats 1000000 in
theorem least_c (A : Option Addr) (n cap : Nat) (L : List Vl) (hm : ∀ v ∈ L, v.may) (k0 n0 : Int) (hv : allV (bestD false) (startB false) L = (k0, n0)) (w : World) (hz : ValsR w A n L) :
    Calls Tryz.prog 122 #[.slice A n cap] w (ValIs k0 n0 ⟨#[]⟩ w) := by
  have HR : Hid (∀ w1, ValsR w1 A n L → Calls Tryz.prog 228 #[.slice A n cap, .int .i64 9223372036854775807, .func (.func 229) #[] #[]] w1 (ValIs k0 n0 ⟨#[]⟩ w1)) := Lib.hid (fun w1 hz => best_c false A n cap L hm k0 n0 hv w1 hz)
  have hb0 := below1 w (.cells #[.int .i64 0, .int .i64 0, .string ⟨#[]⟩] 23)
  have HZ := Lib.hid (hz.on hb0)
  have hr := CellsAt.new w [.int .i64 0, .int .i64 0, .string ⟨#[]⟩] 23
  clear hz hv
  go_enter Tryz.func122, Tryz.ntmps122
  go_wp2_with fail
  generalize w.alloc (.cells #[.int .i64 0, .int .i64 0, .string ⟨#[]⟩] 23) = W at *
  refine (HR.out _ HZ.out).mono ?_
  rintro e w4 ⟨rfl, hb4⟩
  replace hb0 := on hb0 hb4
  replace hr := hr.on hb4
  have hl2 := hr.1
  obtain ⟨p0, p1, p2, f0, f1, f2⟩ := hr.three
  obtain ⟨z0, z1, z2⟩ := three_set (u := .int .i64 k0) (v := .int .i64 n0) (r := .string ⟨#[]⟩) p0 p1 p2
  have hb5 := set3 hb0 (Nat.le_refl _) (.int .i64 k0) (.int .i64 n0) (.string ⟨#[]⟩)
  clear hb4 hb0 hr HR HZ
  go_wp2_with fail
  exact bodyPost_ret (v := .agg #[.int .i64 k0, .int .i64 n0, .string ⟨#[]⟩]) (by simp [results, Tryz.results122, go_sem, z0, z1, z2]) rfl ⟨rfl, hb5⟩
set_option maxRecDepth 100000 in
set_option maxHeartbeats 1000000 in
theorem most_c (A : Option Addr) (n cap : Nat) (L : List Vl) (hm : ∀ v ∈ L, v.may) (k0 n0 : Int) (hv : allV (bestD true) (startB true) L = (k0, n0)) (w : World) (hz : ValsR w A n L) :
    Calls Tryz.prog 123 #[.slice A n cap] w (ValIs k0 n0 ⟨#[]⟩ w) := by
  have HR : Hid (∀ w1, ValsR w1 A n L → Calls Tryz.prog 228 #[.slice A n cap, .int .i64 (-9223372036854775807), .func (.func 230) #[] #[]] w1 (ValIs k0 n0 ⟨#[]⟩ w1)) := Lib.hid (fun w1 hz => best_c true A n cap L hm k0 n0 hv w1 hz)
  have hb0 := below1 w (.cells #[.int .i64 0, .int .i64 0, .string ⟨#[]⟩] 23)
  have HZ := Lib.hid (hz.on hb0)
  have hr := CellsAt.new w [.int .i64 0, .int .i64 0, .string ⟨#[]⟩] 23
  clear hz hv
  go_enter Tryz.func123, Tryz.ntmps123
  go_wp2_with fail
  generalize w.alloc (.cells #[.int .i64 0, .int .i64 0, .string ⟨#[]⟩] 23) = W at *
  refine (HR.out _ HZ.out).mono ?_
  rintro e w4 ⟨rfl, hb4⟩
  replace hb0 := on hb0 hb4
  replace hr := hr.on hb4
  have hl2 := hr.1
  obtain ⟨p0, p1, p2, f0, f1, f2⟩ := hr.three
  obtain ⟨z0, z1, z2⟩ := three_set (u := .int .i64 k0) (v := .int .i64 n0) (r := .string ⟨#[]⟩) p0 p1 p2
  have hb5 := set3 hb0 (Nat.le_refl _) (.int .i64 k0) (.int .i64 n0) (.string ⟨#[]⟩)
  clear hb4 hb0 hr HR HZ
  go_wp2_with fail
  exact bodyPost_ret (v := .agg #[.int .i64 k0, .int .i64 n0, .string ⟨#[]⟩]) (by simp [results, Tryz.results123, go_sem, z0, z1, z2]) rfl ⟨rfl, hb5⟩
end Go.Proofs.YtebjedbppiphgaaGreatDoor.Fld

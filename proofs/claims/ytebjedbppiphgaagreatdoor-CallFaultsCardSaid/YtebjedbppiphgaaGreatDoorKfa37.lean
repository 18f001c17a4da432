/- The program's functions of one number, and of two. Written by wip/gen21d.py. -/
import Derived.Test.YtebjedbppiphgaaGreatDoorKfa27
import Derived.Test.YtebjedbppiphgaaGreatDoorKfa36
import Derived.Test.YtebjedbppiphgaaGreatDoorKfa14
import Derived.Test.YtebjedbppiphgaaGreatDoorKfa18
import Derived.Test.YtebjedbppiphgaaGreatDoorKfa07
import Derived.Test.YtebjedbppiphgaaGreatDoorKfa10
namespace Go.Proofs.YtebjedbppiphgaaGreatDoor.Cal
open Go.RowKit Kit Reg Dec Dig Val Fld
theorem two_b {F : Nat} {args : Array Value} {n : Int} {k : Bool} {w : World} (h : Calls Tryz.prog F args w (Two n k w)) : Calls Tryz.prog F args w fun e w' => e = .returned (.tuple #[.int .i64 n, .bool k]) ∧ Below w.heap.size w w' := h.mono fun _ _ ⟨he, hw⟩ => ⟨he, by subst hw; exact Below.refl _ _⟩
theorem drawn_b {F : Nat} {args : Array Value} {n : Int} {k : Bool} {w : World} (h : Calls Tryz.prog F args w (TwoD n k w)) : Calls Tryz.prog F args w fun e w' => e = .returned (.tuple #[.int .i64 n, .bool k]) ∧ Below w.heap.size w w' := h.mono fun _ _ ⟨he, hw⟩ => ⟨he, drawn_below hw⟩
theorem got_v (n : Int) (k : Bool) (w : World) : Calls Tryz.prog 43 #[.int .i64 n, .bool k] w (IsV (gV (n, k)) w) := by
  obtain ⟨⟨a, b⟩, hg⟩ : ∃ q, gotV n k = q := ⟨_, rfl⟩
  have e : gV (n, k) = ⟨a, b, ⟨#[]⟩⟩ := by unfold gV; dsimp only; rw [hg]
  rw [e]
  exact got_c n k a b hg w
theorem num_v (x : Int) (h1 : -9223372036854775807 ≤ x) (w : World) (_h2 : x ≤ 9223372036854775807) : Calls Tryz.prog 23 #[.int .i64 x] w (IsV (nV x) w) := num_in_c x (decide_eq_true h1) w
theorem divided_div (a b : Int) (a2 : a ≤ 9223372036854775807) (b2 : b ≤ 9223372036854775807) (w : World) : Calls Tryz.prog 81 #[.int .i64 a, .int .i64 b, .func (.func 82) #[] #[]] w (IsV (if b = 0 then fV 1 else gV (scaledD a 10000 b)) w) := by
  by_cases h : b = 0
  · subst h
    rw [if_pos rfl]
    exact divided_zero a _ w
  · rw [if_neg h]
    obtain ⟨⟨n, k⟩, hs⟩ : ∃ q, scaledD a 10000 b = q := ⟨_, rfl⟩
    rw [hs]
    exact divided_some a b h _ (enters (fn := Tryz.f82) (by kernel_rfl) (by kernel_rfl) rfl) n k (fun w1 => drawn_b (div_c a b a2 b2 n k hs w1)) w
theorem single_v (u : Int) (w : World) : Calls Tryz.prog 208 #[.int .i64 u] w fun e w' => e = .returned (.tuple #[.string ⟨(Run.singleL u).toArray⟩, .bool (Run.runeB u)]) ∧ Below w.heap.size w w' :=
  (Run.single_c u _ rfl w).mono fun _ _ ⟨t, he, ht, hw⟩ => ⟨by rw [he, text_is ht], by subst hw; exact Below.refl _ _⟩
theorem abs_max (x : Int) : absI x = max x (-x) := by unfold absI; omega
set_option maxRecDepth 100000 in
set_option maxHeartbeats 2000000 in
theorem pone_ABS (x : Int) (x1 : -9223372036854775807 ≤ x) (x2 : x ≤ 9223372036854775807) (w : World) : Calls Tryz.prog 99 #[.int .i64 1, .int .i64 x] w (IsV (nV (absI x)) w) := by
  obtain ⟨h2, hb2⟩ := first w [.int .i64 0, .int .i64 0, .string ⟨#[]⟩] 23
  have ha := abs_max x
  have HZ : Hid (∀ w1, Calls Tryz.prog 23 #[.int .i64 (max x (-x))] w1 (IsV (nV (absI x)) w1)) := Lib.hid (fun w1 => by rw [ha]; exact num_v _ (by omega) w1 (by omega))
  obtain ⟨⟨a, b, c⟩, hz⟩ : ∃ v, (nV (absI x)) = v := ⟨_, rfl⟩
  rw [hz] at HZ ⊢
  clear hz
  have HZ2 : Hid (∀ w1, Calls Tryz.prog 23 #[.int .i64 (max x (-x))] w1 (ValIs a b c w1)) := HZ
  clear HZ
  show Calls Tryz.prog 99 _ w (ValIs a b c w)
  go_enter Tryz.func99, Tryz.ntmps99
  go_wp2_with fail
  refine (HZ2.out _).mono ?_
  rintro e w1 ⟨rfl, hb1⟩
  replace h2 := h2.on hb1
  replace hb2 := on hb2 hb1
  clear hb1
  obtain ⟨⟨g0, p0, p1, p2, q0, q1, q2⟩, ⟨z0, z1, z2⟩, hb3⟩ := val_ends h2 hb2 (Nat.le_refl _) (.int .i64 a) (.int .i64 b) (.string c)
  clear h2 hb2
  go_wp2
  exact bodyPost_ret (v := .agg #[.int .i64 a, .int .i64 b, .string c]) (by simp [results, Tryz.results99, go_sem, z0, z1, z2]) rfl ⟨rfl, hb3⟩
set_option maxRecDepth 100000 in
set_option maxHeartbeats 2000000 in
theorem pone_SIGN (x : Int) (x1 : -9223372036854775807 ≤ x) (x2 : x ≤ 9223372036854775807) (w : World) : Calls Tryz.prog 99 #[.int .i64 63, .int .i64 x] w (IsV (cV (sgnI x)) w) := by
  obtain ⟨h2, hb2⟩ := first w [.int .i64 0, .int .i64 0, .string ⟨#[]⟩] 23
  have hs : signD x = sgnI x := by unfold signD sgnI; rw [if_neg (by omega)]; repeat' split
                                   all_goals first | rfl | omega
  have hr : -1 ≤ sgnI x ∧ sgnI x ≤ 1 := by unfold sgnI; repeat' split
                                           all_goals omega
  have HA : Hid (∀ w1, Calls Tryz.prog 201 #[.int .i64 x] w1 fun e w' => e = .returned (.int .i64 (sgnI x)) ∧ Below w1.heap.size w1 w') := Lib.hid (fun w1 => (sign_c x _ hs w1).mono fun _ _ ⟨he, hw⟩ => ⟨he, by subst hw; exact Below.refl _ _⟩)
  clear hs
  have HZ : Hid (∀ w1, Calls Tryz.prog 101 #[.int .i64 (sgnI x)] w1 (IsV (cV (sgnI x)) w1)) := Lib.hid (fun w1 => counted_v (sgnI x) (by omega) (by omega) w1)
  obtain ⟨⟨a, b, c⟩, hz⟩ : ∃ v, (cV (sgnI x)) = v := ⟨_, rfl⟩
  rw [hz] at HZ ⊢
  clear hz
  have HZ2 : Hid (∀ w1, Calls Tryz.prog 101 #[.int .i64 (sgnI x)] w1 (ValIs a b c w1)) := HZ
  clear HZ
  show Calls Tryz.prog 99 _ w (ValIs a b c w)
  go_enter Tryz.func99, Tryz.ntmps99
  go_wp2_with fail
  refine (HA.out _).mono ?_
  rintro e w1 ⟨rfl, hb1⟩
  replace h2 := h2.on hb1
  replace hb2 := on hb2 hb1
  clear hb1
  go_wp2_with fail
  refine (HZ2.out _).mono ?_
  rintro e w1 ⟨rfl, hb1⟩
  replace h2 := h2.on hb1
  replace hb2 := on hb2 hb1
  clear hb1
  obtain ⟨⟨g0, p0, p1, p2, q0, q1, q2⟩, ⟨z0, z1, z2⟩, hb3⟩ := val_ends h2 hb2 (Nat.le_refl _) (.int .i64 a) (.int .i64 b) (.string c)
  clear h2 hb2
  go_wp2
  exact bodyPost_ret (v := .agg #[.int .i64 a, .int .i64 b, .string c]) (by simp [results, Tryz.results99, go_sem, z0, z1, z2]) rfl ⟨rfl, hb3⟩
set_option maxRecDepth 100000 in
set_option maxHeartbeats 2000000 in
theorem pone_INT (x : Int) (_x1 : -9223372036854775807 ≤ x) (x2 : x ≤ 9223372036854775807) (w : World) : Calls Tryz.prog 99 #[.int .i64 28, .int .i64 x] w (IsV (gV (Rnd.stepD x 10000 4)) w) := by
  obtain ⟨h2, hb2⟩ := first w [.int .i64 0, .int .i64 0, .string ⟨#[]⟩] 23
  obtain ⟨⟨n, k⟩, hs⟩ : ∃ q, Rnd.stepD x 10000 4 = q := ⟨_, rfl⟩
  rw [hs]
  have HA : Hid (∀ w1, Calls Tryz.prog 202 #[.int .i64 x] w1 fun e w' => e = .returned (.tuple #[.int .i64 n, .bool k]) ∧ Below w1.heap.size w1 w') := Lib.hid (fun w1 => two_b (Rnd.int_c x x2 n k hs w1))
  have HZ : Hid (∀ w1, Calls Tryz.prog 43 #[.int .i64 n, .bool k] w1 (IsV (gV (n, k)) w1)) := Lib.hid (fun w1 => got_v n k w1)
  obtain ⟨⟨a, b, c⟩, hz⟩ : ∃ v, (gV (n, k)) = v := ⟨_, rfl⟩
  rw [hz] at HZ ⊢
  clear hz hs
  have HZ2 : Hid (∀ w1, Calls Tryz.prog 43 #[.int .i64 n, .bool k] w1 (ValIs a b c w1)) := HZ
  clear HZ
  show Calls Tryz.prog 99 _ w (ValIs a b c w)
  go_enter Tryz.func99, Tryz.ntmps99
  go_wp2_with fail
  refine (HA.out _).mono ?_
  rintro e w1 ⟨rfl, hb1⟩
  replace h2 := h2.on hb1
  replace hb2 := on hb2 hb1
  clear hb1
  go_wp2_with fail
  refine (HZ2.out _).mono ?_
  rintro e w1 ⟨rfl, hb1⟩
  replace h2 := h2.on hb1
  replace hb2 := on hb2 hb1
  clear hb1
  obtain ⟨⟨g0, p0, p1, p2, q0, q1, q2⟩, ⟨z0, z1, z2⟩, hb3⟩ := val_ends h2 hb2 (Nat.le_refl _) (.int .i64 a) (.int .i64 b) (.string c)
  clear h2 hb2
  go_wp2
  exact bodyPost_ret (v := .agg #[.int .i64 a, .int .i64 b, .string c]) (by simp [results, Tryz.results99, go_sem, z0, z1, z2]) rfl ⟨rfl, hb3⟩
set_option maxRecDepth 100000 in
set_option maxHeartbeats 2000000 in
theorem pone_TRUNC (x : Int) (_x1 : -9223372036854775807 ≤ x) (x2 : x ≤ 9223372036854775807) (w : World) : Calls Tryz.prog 99 #[.int .i64 74, .int .i64 x] w (IsV (gV (Rnd.stepD x 10000 2)) w) := by
  obtain ⟨h2, hb2⟩ := first w [.int .i64 0, .int .i64 0, .string ⟨#[]⟩] 23
  obtain ⟨⟨n, k⟩, hs⟩ : ∃ q, Rnd.stepD x 10000 2 = q := ⟨_, rfl⟩
  rw [hs]
  have HA : Hid (∀ w1, Calls Tryz.prog 203 #[.int .i64 x, .int .i64 0, .int .i64 2] w1 fun e w' => e = .returned (.tuple #[.int .i64 n, .bool k]) ∧ Below w1.heap.size w1 w') := Lib.hid (fun w1 => two_b (Rnd.places_c x 0 2 x2 (by omega) n k (by rw [← hs]; rfl) w1))
  have HZ : Hid (∀ w1, Calls Tryz.prog 43 #[.int .i64 n, .bool k] w1 (IsV (gV (n, k)) w1)) := Lib.hid (fun w1 => got_v n k w1)
  obtain ⟨⟨a, b, c⟩, hz⟩ : ∃ v, (gV (n, k)) = v := ⟨_, rfl⟩
  rw [hz] at HZ ⊢
  clear hz hs
  have HZ2 : Hid (∀ w1, Calls Tryz.prog 43 #[.int .i64 n, .bool k] w1 (ValIs a b c w1)) := HZ
  clear HZ
  show Calls Tryz.prog 99 _ w (ValIs a b c w)
  go_enter Tryz.func99, Tryz.ntmps99
  go_wp2_with fail
  refine (HA.out _).mono ?_
  rintro e w1 ⟨rfl, hb1⟩
  replace h2 := h2.on hb1
  replace hb2 := on hb2 hb1
  clear hb1
  go_wp2_with fail
  refine (HZ2.out _).mono ?_
  rintro e w1 ⟨rfl, hb1⟩
  replace h2 := h2.on hb1
  replace hb2 := on hb2 hb1
  clear hb1
  obtain ⟨⟨g0, p0, p1, p2, q0, q1, q2⟩, ⟨z0, z1, z2⟩, hb3⟩ := val_ends h2 hb2 (Nat.le_refl _) (.int .i64 a) (.int .i64 b) (.string c)
  clear h2 hb2
  go_wp2
  exact bodyPost_ret (v := .agg #[.int .i64 a, .int .i64 b, .string c]) (by simp [results, Tryz.results99, go_sem, z0, z1, z2]) rfl ⟨rfl, hb3⟩
set_option maxRecDepth 100000 in
set_option maxHeartbeats 2000000 in
theorem pone_EVEN (x : Int) (_x1 : -9223372036854775807 ≤ x) (x2 : x ≤ 9223372036854775807) (w : World) : Calls Tryz.prog 99 #[.int .i64 18, .int .i64 x] w (IsV (gV (Rnd.stepD x 20000 3)) w) := by
  obtain ⟨h2, hb2⟩ := first w [.int .i64 0, .int .i64 0, .string ⟨#[]⟩] 23
  obtain ⟨⟨n, k⟩, hs⟩ : ∃ q, Rnd.stepD x 20000 3 = q := ⟨_, rfl⟩
  rw [hs]
  have HA : Hid (∀ w1, Calls Tryz.prog 204 #[.int .i64 x] w1 fun e w' => e = .returned (.tuple #[.int .i64 n, .bool k]) ∧ Below w1.heap.size w1 w') := Lib.hid (fun w1 => two_b (Rnd.even_c x x2 n k hs w1))
  have HZ : Hid (∀ w1, Calls Tryz.prog 43 #[.int .i64 n, .bool k] w1 (IsV (gV (n, k)) w1)) := Lib.hid (fun w1 => got_v n k w1)
  obtain ⟨⟨a, b, c⟩, hz⟩ : ∃ v, (gV (n, k)) = v := ⟨_, rfl⟩
  rw [hz] at HZ ⊢
  clear hz hs
  have HZ2 : Hid (∀ w1, Calls Tryz.prog 43 #[.int .i64 n, .bool k] w1 (ValIs a b c w1)) := HZ
  clear HZ
  show Calls Tryz.prog 99 _ w (ValIs a b c w)
  go_enter Tryz.func99, Tryz.ntmps99
  go_wp2_with fail
  refine (HA.out _).mono ?_
  rintro e w1 ⟨rfl, hb1⟩
  replace h2 := h2.on hb1
  replace hb2 := on hb2 hb1
  clear hb1
  go_wp2_with fail
  refine (HZ2.out _).mono ?_
  rintro e w1 ⟨rfl, hb1⟩
  replace h2 := h2.on hb1
  replace hb2 := on hb2 hb1
  clear hb1
  obtain ⟨⟨g0, p0, p1, p2, q0, q1, q2⟩, ⟨z0, z1, z2⟩, hb3⟩ := val_ends h2 hb2 (Nat.le_refl _) (.int .i64 a) (.int .i64 b) (.string c)
  clear h2 hb2
  go_wp2
  exact bodyPost_ret (v := .agg #[.int .i64 a, .int .i64 b, .string c]) (by simp [results, Tryz.results99, go_sem, z0, z1, z2]) rfl ⟨rfl, hb3⟩
set_option maxRecDepth 100000 in
set_option maxHeartbeats 2000000 in
theorem pone_ODD (x : Int) (_x1 : -9223372036854775807 ≤ x) (x2 : x ≤ 9223372036854775807) (w : World) : Calls Tryz.prog 99 #[.int .i64 48, .int .i64 x] w (IsV (gV (Rnd.oddD x)) w) := by
  obtain ⟨h2, hb2⟩ := first w [.int .i64 0, .int .i64 0, .string ⟨#[]⟩] 23
  obtain ⟨⟨n, k⟩, hs⟩ : ∃ q, Rnd.oddD x = q := ⟨_, rfl⟩
  rw [hs]
  have HA : Hid (∀ w1, Calls Tryz.prog 205 #[.int .i64 x] w1 fun e w' => e = .returned (.tuple #[.int .i64 n, .bool k]) ∧ Below w1.heap.size w1 w') := Lib.hid (fun w1 => two_b (Rnd.odd_c x x2 n k hs w1))
  have HZ : Hid (∀ w1, Calls Tryz.prog 43 #[.int .i64 n, .bool k] w1 (IsV (gV (n, k)) w1)) := Lib.hid (fun w1 => got_v n k w1)
  obtain ⟨⟨a, b, c⟩, hz⟩ : ∃ v, (gV (n, k)) = v := ⟨_, rfl⟩
  rw [hz] at HZ ⊢
  clear hz hs
  have HZ2 : Hid (∀ w1, Calls Tryz.prog 43 #[.int .i64 n, .bool k] w1 (ValIs a b c w1)) := HZ
  clear HZ
  show Calls Tryz.prog 99 _ w (ValIs a b c w)
  go_enter Tryz.func99, Tryz.ntmps99
  go_wp2_with fail
  refine (HA.out _).mono ?_
  rintro e w1 ⟨rfl, hb1⟩
  replace h2 := h2.on hb1
  replace hb2 := on hb2 hb1
  clear hb1
  go_wp2_with fail
  refine (HZ2.out _).mono ?_
  rintro e w1 ⟨rfl, hb1⟩
  replace h2 := h2.on hb1
  replace hb2 := on hb2 hb1
  clear hb1
  obtain ⟨⟨g0, p0, p1, p2, q0, q1, q2⟩, ⟨z0, z1, z2⟩, hb3⟩ := val_ends h2 hb2 (Nat.le_refl _) (.int .i64 a) (.int .i64 b) (.string c)
  clear h2 hb2
  go_wp2
  exact bodyPost_ret (v := .agg #[.int .i64 a, .int .i64 b, .string c]) (by simp [results, Tryz.results99, go_sem, z0, z1, z2]) rfl ⟨rfl, hb3⟩
set_option maxRecDepth 100000 in
set_option maxHeartbeats 2000000 in
theorem pone_FACT (x : Int) (_x1 : -9223372036854775807 ≤ x) (x2 : x ≤ 9223372036854775807) (w : World) : Calls Tryz.prog 99 #[.int .i64 20, .int .i64 x] w (IsV (gV (Pow.factD x)) w) := by
  obtain ⟨h2, hb2⟩ := first w [.int .i64 0, .int .i64 0, .string ⟨#[]⟩] 23
  obtain ⟨⟨n, k⟩, hs⟩ : ∃ q, Pow.factD x = q := ⟨_, rfl⟩
  rw [hs]
  have HA : Hid (∀ w1, Calls Tryz.prog 207 #[.int .i64 x] w1 fun e w' => e = .returned (.tuple #[.int .i64 n, .bool k]) ∧ Below w1.heap.size w1 w') := Lib.hid (fun w1 => drawn_b (Pow.fact_c x x2 n k hs w1))
  have HZ : Hid (∀ w1, Calls Tryz.prog 43 #[.int .i64 n, .bool k] w1 (IsV (gV (n, k)) w1)) := Lib.hid (fun w1 => got_v n k w1)
  obtain ⟨⟨a, b, c⟩, hz⟩ : ∃ v, (gV (n, k)) = v := ⟨_, rfl⟩
  rw [hz] at HZ ⊢
  clear hz hs
  have HZ2 : Hid (∀ w1, Calls Tryz.prog 43 #[.int .i64 n, .bool k] w1 (ValIs a b c w1)) := HZ
  clear HZ
  show Calls Tryz.prog 99 _ w (ValIs a b c w)
  go_enter Tryz.func99, Tryz.ntmps99
  go_wp2_with fail
  refine (HA.out _).mono ?_
  rintro e w1 ⟨rfl, hb1⟩
  replace h2 := h2.on hb1
  replace hb2 := on hb2 hb1
  clear hb1
  go_wp2_with fail
  refine (HZ2.out _).mono ?_
  rintro e w1 ⟨rfl, hb1⟩
  replace h2 := h2.on hb1
  replace hb2 := on hb2 hb1
  clear hb1
  obtain ⟨⟨g0, p0, p1, p2, q0, q1, q2⟩, ⟨z0, z1, z2⟩, hb3⟩ := val_ends h2 hb2 (Nat.le_refl _) (.int .i64 a) (.int .i64 b) (.string c)
  clear h2 hb2
  go_wp2
  exact bodyPost_ret (v := .agg #[.int .i64 a, .int .i64 b, .string c]) (by simp [results, Tryz.results99, go_sem, z0, z1, z2]) rfl ⟨rfl, hb3⟩
/-- what the root is, as a number that is there or not -/
noncomputable def sqrtD (x : Int) : Int × Bool := if x < 0 then (0, false) else ((rootN (x.toNat * 10000) : Int), true)
theorem sqrt_v (x : Int) (x2 : x ≤ 9223372036854775807) (n : Int) (k : Bool) (hs : sqrtD x = (n, k)) (w : World) : Calls Tryz.prog 206 #[.int .i64 x] w (TwoD n k w) := by
  unfold sqrtD at hs
  by_cases h : x < 0
  · rw [if_pos h] at hs
    obtain ⟨rfl, rfl⟩ := Prod.mk.inj hs
    exact Pow.sqrt_low x h w
  · rw [if_neg h] at hs
    obtain ⟨rfl, rfl⟩ := Prod.mk.inj hs
    obtain ⟨m, rfl⟩ := Int.eq_ofNat_of_zero_le (show 0 ≤ x by omega)
    rw [Int.toNat_natCast]
    exact Pow.sqrt_c m _ (by omega) (rootN_is _) w
set_option maxRecDepth 100000 in
set_option maxHeartbeats 2000000 in
theorem pone_SQRT0 (x : Int) (_x1 : -9223372036854775807 ≤ x) (x2 : x ≤ 9223372036854775807) (w : World) : Calls Tryz.prog 99 #[.int .i64 65, .int .i64 x] w (IsV (gV (sqrtD x)) w) := by
  obtain ⟨h2, hb2⟩ := first w [.int .i64 0, .int .i64 0, .string ⟨#[]⟩] 23
  obtain ⟨⟨n, k⟩, hs⟩ : ∃ q, sqrtD x = q := ⟨_, rfl⟩
  rw [hs]
  have HA : Hid (∀ w1, Calls Tryz.prog 206 #[.int .i64 x] w1 fun e w' => e = .returned (.tuple #[.int .i64 n, .bool k]) ∧ Below w1.heap.size w1 w') := Lib.hid (fun w1 => drawn_b (sqrt_v x x2 n k hs w1))
  have HZ : Hid (∀ w1, Calls Tryz.prog 43 #[.int .i64 n, .bool k] w1 (IsV (gV (n, k)) w1)) := Lib.hid (fun w1 => got_v n k w1)
  obtain ⟨⟨a, b, c⟩, hz⟩ : ∃ v, (gV (n, k)) = v := ⟨_, rfl⟩
  rw [hz] at HZ ⊢
  clear hz hs
  have HZ2 : Hid (∀ w1, Calls Tryz.prog 43 #[.int .i64 n, .bool k] w1 (ValIs a b c w1)) := HZ
  clear HZ
  show Calls Tryz.prog 99 _ w (ValIs a b c w)
  go_enter Tryz.func99, Tryz.ntmps99
  go_wp2_with fail
  refine (HA.out _).mono ?_
  rintro e w1 ⟨rfl, hb1⟩
  replace h2 := h2.on hb1
  replace hb2 := on hb2 hb1
  clear hb1
  go_wp2_with fail
  refine (HZ2.out _).mono ?_
  rintro e w1 ⟨rfl, hb1⟩
  replace h2 := h2.on hb1
  replace hb2 := on hb2 hb1
  clear hb1
  obtain ⟨⟨g0, p0, p1, p2, q0, q1, q2⟩, ⟨z0, z1, z2⟩, hb3⟩ := val_ends h2 hb2 (Nat.le_refl _) (.int .i64 a) (.int .i64 b) (.string c)
  clear h2 hb2
  go_wp2
  exact bodyPost_ret (v := .agg #[.int .i64 a, .int .i64 b, .string c]) (by simp [results, Tryz.results99, go_sem, z0, z1, z2]) rfl ⟨rfl, hb3⟩
theorem sqrt_is (x : Int) : gV (sqrtD x) = if x < 0 then fV 4 else nV (rootN (x.toNat * 10000)) := by
  unfold sqrtD
  split
  · exact gV_out
  · exact gV_in (decide_eq_true (by omega))
theorem pone_SQRT (x : Int) (x1 : -9223372036854775807 ≤ x) (x2 : x ≤ 9223372036854775807) (w : World) : Calls Tryz.prog 99 #[.int .i64 65, .int .i64 x] w (IsV (if x < 0 then fV 4 else nV (rootN (x.toNat * 10000))) w) := sqrt_is x ▸ pone_SQRT0 x x1 x2 w
set_option maxRecDepth 100000 in
set_option maxHeartbeats 2000000 in
theorem pone_CHAR0 (x : Int) (x1 : -9223372036854775807 ≤ x) (x2 : x ≤ 9223372036854775807) (w : World) : Calls Tryz.prog 99 #[.int .i64 6, .int .i64 x] w (IsV (tV (Run.singleL (unI x), Run.runeB (unI x))) w) := by
  obtain ⟨h2, hb2⟩ := first w [.int .i64 0, .int .i64 0, .string ⟨#[]⟩] 23
  have HU := Lib.hid (fun w1 => units_v x x1 x2 w1)
  have hu := un_room (show -9223372036854775808 ≤ x by omega) x2
  generalize unI x = u at *
  have HS := Lib.hid (fun w1 => single_v u w1)
  have hl := single_len u
  generalize Run.singleL u = m at *
  generalize Run.runeB u = q at *
  have HZ : Hid (∀ w1, Calls Tryz.prog 85 #[.string ⟨m.toArray⟩, .bool q] w1 (IsV (tV (m, q)) w1)) := Lib.hid (fun w1 => worded_v m q hl w1)
  obtain ⟨⟨a, b, c⟩, hz⟩ : ∃ v, (tV (m, q)) = v := ⟨_, rfl⟩
  rw [hz] at HZ ⊢
  clear hz
  have HZ2 : Hid (∀ w1, Calls Tryz.prog 85 #[.string ⟨m.toArray⟩, .bool q] w1 (ValIs a b c w1)) := HZ
  clear HZ
  show Calls Tryz.prog 99 _ w (ValIs a b c w)
  go_enter Tryz.func99, Tryz.ntmps99
  go_wp2_with fail
  refine (HU.out _).mono ?_
  rintro e w1 ⟨rfl, hb1⟩
  replace h2 := h2.on hb1
  replace hb2 := on hb2 hb1
  clear hb1
  go_wp2_with fail
  refine (HS.out _).mono ?_
  rintro e w1 ⟨rfl, hb1⟩
  replace h2 := h2.on hb1
  replace hb2 := on hb2 hb1
  clear hb1
  go_wp2_with fail
  refine (HZ2.out _).mono ?_
  rintro e w1 ⟨rfl, hb1⟩
  replace h2 := h2.on hb1
  replace hb2 := on hb2 hb1
  clear hb1
  obtain ⟨⟨g0, p0, p1, p2, q0, q1, q2⟩, ⟨z0, z1, z2⟩, hb3⟩ := val_ends h2 hb2 (Nat.le_refl _) (.int .i64 a) (.int .i64 b) (.string c)
  clear h2 hb2
  go_wp2
  exact bodyPost_ret (v := .agg #[.int .i64 a, .int .i64 b, .string c]) (by simp [results, Tryz.results99, go_sem, z0, z1, z2]) rfl ⟨rfl, hb3⟩
theorem pone_CHAR (x : Int) (x1 : -9223372036854775807 ≤ x) (x2 : x ≤ 9223372036854775807) (w : World) : Calls Tryz.prog 99 #[.int .i64 6, .int .i64 x] w (IsV (if Run.runeB (unI x) = true then sV (Run.singleL (unI x)) else fV 2) w) := pone_CHAR0 x x1 x2 w
set_option maxRecDepth 100000 in
set_option maxHeartbeats 2000000 in
theorem pone_VALUE (x : Int) (x1 : -9223372036854775807 ≤ x) (x2 : x ≤ 9223372036854775807) (w : World) : Calls Tryz.prog 99 #[.int .i64 76, .int .i64 x] w (IsV (nV x) w) := by
  obtain ⟨h2, hb2⟩ := first w [.int .i64 0, .int .i64 0, .string ⟨#[]⟩] 23
  have HZ : Hid (∀ w1, Calls Tryz.prog 23 #[.int .i64 x] w1 (IsV (nV x) w1)) := Lib.hid (fun w1 => num_v x x1 w1 x2)
  obtain ⟨⟨a, b, c⟩, hz⟩ : ∃ v, (nV x) = v := ⟨_, rfl⟩
  rw [hz] at HZ ⊢
  clear hz
  have HZ2 : Hid (∀ w1, Calls Tryz.prog 23 #[.int .i64 x] w1 (ValIs a b c w1)) := HZ
  clear HZ
  show Calls Tryz.prog 99 _ w (ValIs a b c w)
  go_enter Tryz.func99, Tryz.ntmps99
  go_wp2_with fail
  refine (HZ2.out _).mono ?_
  rintro e w1 ⟨rfl, hb1⟩
  replace h2 := h2.on hb1
  replace hb2 := on hb2 hb1
  clear hb1
  obtain ⟨⟨g0, p0, p1, p2, q0, q1, q2⟩, ⟨z0, z1, z2⟩, hb3⟩ := val_ends h2 hb2 (Nat.le_refl _) (.int .i64 a) (.int .i64 b) (.string c)
  clear h2 hb2
  go_wp2
  exact bodyPost_ret (v := .agg #[.int .i64 a, .int .i64 b, .string c]) (by simp [results, Tryz.results99, go_sem, z0, z1, z2]) rfl ⟨rfl, hb3⟩
end Go.Proofs.YtebjedbppiphgaaGreatDoor.Cal

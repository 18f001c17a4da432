/- The program's operators: Minus, reckoned, joined, compared, Binary. Written by wip/gen21j.py. -/
import Derived.Test.YtebjedbppiphgaaGreatDoorKtu39
import Derived.Test.YtebjedbppiphgaaGreatDoorKtu40
import Derived.Test.YtebjedbppiphgaaGreatDoorKtu22
namespace Go.Proofs.YtebjedbppiphgaaGreatDoor.Cal
open Go.RowKit Kit Reg Dec Dig Val Fld
open Txt (StrsO)
/-- two values in memory that is made for them -/
theorem vals_two (w : World) (a b : Vl) (fa : a.fits) (fb : b.fits) : ValsR (w.alloc (.cells #[.int .i64 a.k, .int .i64 a.n, .string a.t, .int .i64 b.k, .int .i64 b.n, .string b.t] 23)) (some ⟨w.heap.size, 0, none⟩) 2 [a, b] := by
  have h := CellsAt.new w [.int .i64 a.k, .int .i64 a.n, .string a.t, .int .i64 b.k, .int .i64 b.n, .string b.t] 23
  refine ⟨rfl, by decide, fun v hv => ?_, fun _ => ⟨w.heap.size, 0, rfl, h.1, fun k v hk j x hj => ?_⟩⟩
  · rcases List.mem_cons.1 hv with rfl | hv
    · exact fa
    · rw [List.mem_singleton] at hv
      rw [hv]
      exact fb
  · have e : ([.int .i64 a.k, .int .i64 a.n, .string a.t, .int .i64 b.k, .int .i64 b.n, .string b.t] : List Value)[0 + k * 3 + j]? = some x := by
      have h3 : j < 3 := (List.getElem?_eq_some_iff.1 hj).1
      match k, hk with
      | 0, hk =>
        obtain rfl : a = v := by simpa using hk
        match j, hj with
        | 0, hj => exact hj
        | 1, hj => exact hj
        | 2, hj => exact hj
      | 1, hk =>
        obtain rfl : b = v := by simpa using hk
        match j, hj with
        | 0, hj => exact hj
        | 1, hj => exact hj
        | 2, hj => exact hj
      | k + 2, hk => simp at hk
    exact (h.2 _ x e).1
set_option maxRecDepth 100000 in
set_option maxHeartbeats 2000000 in
theorem minus_f (ak an : Int) (at_ : ByteArray) (x : Int) (w : World) (HT0 : ∀ w1, Below w.heap.size w w1 → Calls Tryz.prog 19 #[.agg #[.int .i64 ak, .int .i64 an, .string at_]] w1 (ValIs 4 x ⟨#[]⟩ w1)) :
    Calls Tryz.prog 11 #[.agg #[.int .i64 ak, .int .i64 an, .string at_]] w (IsV (fV x) w) := by
  obtain ⟨h2, hb2⟩ := second w (.cells #[.int .i64 ak, .int .i64 an, .string at_] 23) [.int .i64 0, .int .i64 0, .string ⟨#[]⟩] 23
  obtain ⟨y0, y1, y2, -⟩ := (CellsAt.new w [.int .i64 ak, .int .i64 an, .string at_] 23).three
  have HT := Lib.hid HT0
  have HI : Hid (∀ w1, Calls Tryz.prog 42 #[.agg #[.int .i64 4, .int .i64 x, .string ⟨#[]⟩]] w1 fun e w' => e = .returned (.bool true) ∧ Below w1.heap.size w1 w') := Lib.hid (fun w1 => isfault_v _ _ _ true rfl w1)
  clear HT0
  show Calls Tryz.prog 11 _ w (ValIs 4 x ⟨#[]⟩ w)
  go_enter Tryz.func11, Tryz.ntmps11
  go_wp2_with fail
  clear y0 y1 y2
  generalize (w.alloc (.cells #[.int .i64 ak, .int .i64 an, .string at_] 23)).alloc (.cells #[.int .i64 0, .int .i64 0, .string ⟨#[]⟩] 23) = W at *
  refine (HT.out _ hb2).mono ?_
  rintro e w1 ⟨rfl, hb1⟩
  replace h2 := h2.on hb1
  replace hb2 := on hb2 hb1
  clear hb1
  replace h2 := h2.on_alloc (.cells #[.int .i64 4, .int .i64 x, .string ⟨#[]⟩] 23)
  replace hb2 := on_alloc hb2 (.cells #[.int .i64 4, .int .i64 x, .string ⟨#[]⟩] 23)
  have hx := CellsAt.new w1 [.int .i64 4, .int .i64 x, .string ⟨#[]⟩] 23
  obtain ⟨x0, x1, x2, -⟩ := hx.three
  go_wp2_with fail
  generalize w1.alloc (.cells #[.int .i64 4, .int .i64 x, .string ⟨#[]⟩] 23) = X1 at *
  clear x0 x1 x2
  refine (HI.out _).mono ?_
  rintro e w2 ⟨rfl, hb1⟩
  replace h2 := h2.on hb1
  replace hx := hx.on hb1
  replace hb2 := on hb2 hb1
  clear hb1
  obtain ⟨y0, y1, y2, -⟩ := hx.three
  obtain ⟨⟨g0, p0, p1, p2, q0, q1, q2⟩, ⟨z0, z1, z2⟩, hb3⟩ := val_ends h2 hb2 (Nat.le_add_right _ 1) (.int .i64 4) (.int .i64 x) (.string ⟨#[]⟩)
  clear h2 hb2
  go_wp2
  exact bodyPost_ret (v := .agg #[.int .i64 4, .int .i64 x, .string ⟨#[]⟩]) (by simp [results, Tryz.results11, go_sem, z0, z1, z2]) rfl ⟨rfl, hb3⟩
set_option maxRecDepth 100000 in
set_option maxHeartbeats 2000000 in
theorem minus_x (ak an : Int) (at_ : ByteArray) (x : Int) (x1 : -9223372036854775807 ≤ x) (x2 : x ≤ 9223372036854775807) (w : World) (HT0 : ∀ w1, Below w.heap.size w w1 → Calls Tryz.prog 19 #[.agg #[.int .i64 ak, .int .i64 an, .string at_]] w1 (ValIs 1 x ⟨#[]⟩ w1)) :
    Calls Tryz.prog 11 #[.agg #[.int .i64 ak, .int .i64 an, .string at_]] w (IsV (nV (-x)) w) := by
  obtain ⟨h2, hb2⟩ := second w (.cells #[.int .i64 ak, .int .i64 an, .string at_] 23) [.int .i64 0, .int .i64 0, .string ⟨#[]⟩] 23
  obtain ⟨y0, y1, y2, -⟩ := (CellsAt.new w [.int .i64 ak, .int .i64 an, .string at_] 23).three
  have HT := Lib.hid HT0
  have HI : Hid (∀ w1, Calls Tryz.prog 42 #[.agg #[.int .i64 1, .int .i64 x, .string ⟨#[]⟩]] w1 fun e w' => e = .returned (.bool false) ∧ Below w1.heap.size w1 w') := Lib.hid (fun w1 => isfault_v _ _ _ false rfl w1)
  have hm : mayD (-x) = true := decide_eq_true (by omega)
  have HA : Hid (∀ w1, Calls Tryz.prog 44 #[.int .i64 x] w1 fun e w' => e = .returned (.tuple #[.int .i64 (-x), .bool true]) ∧ Below w1.heap.size w1 w') := Lib.hid (fun w1 => two_b (neg_c x x2 (-x) true (by
    unfold negD giveD okD
    rw [show mayD x = true from decide_eq_true x1, decide_eq_true (show -9223372036854775807 ≤ -x by omega), decide_eq_true (show -x ≤ 9223372036854775807 by omega)]
    rfl) w1))
  have HZ : Hid (∀ w1, Calls Tryz.prog 43 #[.int .i64 (-x), .bool true] w1 (ValIs 1 (-x) ⟨#[]⟩ w1)) := Lib.hid (fun w1 => got_c (-x) true 1 (-x) (by unfold gotV numV; rw [hm]; rfl) w1)
  clear hm
  clear HT0
  show Calls Tryz.prog 11 _ w (ValIs 1 (-x) ⟨#[]⟩ w)
  go_enter Tryz.func11, Tryz.ntmps11
  go_wp2_with fail
  clear y0 y1 y2
  generalize (w.alloc (.cells #[.int .i64 ak, .int .i64 an, .string at_] 23)).alloc (.cells #[.int .i64 0, .int .i64 0, .string ⟨#[]⟩] 23) = W at *
  refine (HT.out _ hb2).mono ?_
  rintro e w1 ⟨rfl, hb1⟩
  replace h2 := h2.on hb1
  replace hb2 := on hb2 hb1
  clear hb1
  replace h2 := h2.on_alloc (.cells #[.int .i64 1, .int .i64 x, .string ⟨#[]⟩] 23)
  replace hb2 := on_alloc hb2 (.cells #[.int .i64 1, .int .i64 x, .string ⟨#[]⟩] 23)
  have hx := CellsAt.new w1 [.int .i64 1, .int .i64 x, .string ⟨#[]⟩] 23
  obtain ⟨x0, x1, x2, -⟩ := hx.three
  go_wp2_with fail
  generalize w1.alloc (.cells #[.int .i64 1, .int .i64 x, .string ⟨#[]⟩] 23) = X1 at *
  clear x0 x1 x2
  refine (HI.out _).mono ?_
  rintro e w2 ⟨rfl, hb1⟩
  replace h2 := h2.on hb1
  replace hx := hx.on hb1
  replace hb2 := on hb2 hb1
  clear hb1
  obtain ⟨y0, y1, y2, -⟩ := hx.three
  go_wp2_with fail
  refine (HA.out _).mono ?_
  rintro e w3 ⟨rfl, hb1⟩
  replace h2 := h2.on hb1
  replace hb2 := on hb2 hb1
  clear hb1
  go_wp2_with fail
  refine (HZ.out _).mono ?_
  rintro e w4 ⟨rfl, hb1⟩
  replace h2 := h2.on hb1
  replace hb2 := on hb2 hb1
  clear hb1
  obtain ⟨⟨g0, p0, p1, p2, q0, q1, q2⟩, ⟨z0, z1, z2⟩, hb3⟩ := val_ends h2 hb2 (Nat.le_add_right _ 1) (.int .i64 1) (.int .i64 (-x)) (.string ⟨#[]⟩)
  clear h2 hb2
  go_wp2
  exact bodyPost_ret (v := .agg #[.int .i64 1, .int .i64 (-x), .string ⟨#[]⟩]) (by simp [results, Tryz.results11, go_sem, z0, z1, z2]) rfl ⟨rfl, hb3⟩
theorem minus_c (v : Vl) (hv : Ok v) (w : World) (hL : Dig.Libs w) : Calls Tryz.prog 11 #[.agg #[.int .i64 v.k, .int .i64 v.n, .string v.t]] w (IsV (minV v) w) := by
  rcases num_ways hv with ⟨x, hx, x1, x2⟩ | ⟨c, hc, c1, c2⟩
  · rw [min_x hx]
    exact minus_x v.k v.n v.t x x1 x2 w fun w1 hb => by
      have h := num_c v hv w1 (hL.grown hb)
      rw [hx] at h
      exact h
  · rw [min_f hc]
    exact minus_f v.k v.n v.t c w fun w1 hb => by
      have h := num_c v hv w1 (hL.grown hb)
      rw [hc] at h
      exact h
set_option maxRecDepth 100000 in
set_option maxHeartbeats 2000000 in
theorem reckoned_bad (op : Int) (a b : Vl) (fa : a.fits) (fb : b.fits) (x : Vl) (h4 : x.k = 4) (w : World) (HN0 : ∀ A2 w1, Below w.heap.size w w1 → ValsR w1 A2 2 [a, b] → Calls Tryz.prog 77 #[.slice A2 2 2] w1 (FaultGot x w1)) :
    Calls Tryz.prog 28 #[.int .i64 op, .agg #[.int .i64 a.k, .int .i64 a.n, .string a.t], .agg #[.int .i64 b.k, .int .i64 b.n, .string b.t]] w (IsV x w) := by
  obtain ⟨h2, hb2⟩ := third w (.cells #[.int .i64 a.k, .int .i64 a.n, .string a.t] 23) (.cells #[.int .i64 b.k, .int .i64 b.n, .string b.t] 23) [.int .i64 0, .int .i64 0, .string ⟨#[]⟩] 23
  obtain ⟨y0, y1, y2, -⟩ := (((CellsAt.new w [.int .i64 a.k, .int .i64 a.n, .string a.t] 23).on_alloc (.cells #[.int .i64 b.k, .int .i64 b.n, .string b.t] 23)).on_alloc (.cells #[.int .i64 0, .int .i64 0, .string ⟨#[]⟩] 23)).three
  obtain ⟨u0, u1, u2, -⟩ := ((second w (.cells #[.int .i64 a.k, .int .i64 a.n, .string a.t] 23) [.int .i64 b.k, .int .i64 b.n, .string b.t] 23).1.on_alloc (.cells #[.int .i64 0, .int .i64 0, .string ⟨#[]⟩] 23)).three
  obtain ⟨xk, xn, xt⟩ := x
  obtain rfl : xk = 4 := h4
  have HN : Hid (∀ A2 w1, Below w.heap.size w w1 → ValsR w1 A2 2 [a, b] → Calls Tryz.prog 77 #[.slice A2 2 2] w1 fun e w' => e = .returned (.tuple #[.slice none 0 0, .agg #[.int .i64 4, .int .i64 xn, .string xt]]) ∧ Below w1.heap.size w1 w') := Lib.hid HN0
  have HI : Hid (∀ w1, Calls Tryz.prog 42 #[.agg #[.int .i64 4, .int .i64 xn, .string xt]] w1 fun e w' => e = .returned (.bool true) ∧ Below w1.heap.size w1 w') := Lib.hid (fun w1 => isfault_v _ _ _ true rfl w1)
  clear HN0
  show Calls Tryz.prog 28 _ w (ValIs 4 xn xt w)
  go_enter Tryz.func28, Tryz.ntmps28
  go_wp2_with fail
  have hz := vals_two (((w.alloc (.cells #[.int .i64 a.k, .int .i64 a.n, .string a.t] 23)).alloc (.cells #[.int .i64 b.k, .int .i64 b.n, .string b.t] 23)).alloc (.cells #[.int .i64 0, .int .i64 0, .string ⟨#[]⟩] 23)) a b fa fb
  rw [show (((w.alloc (.cells #[.int .i64 a.k, .int .i64 a.n, .string a.t] 23)).alloc (.cells #[.int .i64 b.k, .int .i64 b.n, .string b.t] 23)).alloc (.cells #[.int .i64 0, .int .i64 0, .string ⟨#[]⟩] 23)).heap.size = w.heap.size + 1 + 1 + 1 by simp] at hz
  replace h2 := h2.on_alloc (.cells #[.int .i64 a.k, .int .i64 a.n, .string a.t, .int .i64 b.k, .int .i64 b.n, .string b.t] 23)
  replace hb2 := on_alloc hb2 (.cells #[.int .i64 a.k, .int .i64 a.n, .string a.t, .int .i64 b.k, .int .i64 b.n, .string b.t] 23)
  clear y0 y1 y2 u0 u1 u2
  generalize (((w.alloc (.cells #[.int .i64 a.k, .int .i64 a.n, .string a.t] 23)).alloc (.cells #[.int .i64 b.k, .int .i64 b.n, .string b.t] 23)).alloc (.cells #[.int .i64 0, .int .i64 0, .string ⟨#[]⟩] 23)).alloc (.cells #[.int .i64 a.k, .int .i64 a.n, .string a.t, .int .i64 b.k, .int .i64 b.n, .string b.t] 23) = W at *
  refine (HN.out _ _ hb2 hz).mono ?_
  rintro e w1 ⟨rfl, hb1⟩
  replace h2 := h2.on hb1
  replace hb2 := on hb2 hb1
  clear hb1
  replace h2 := h2.on_alloc (.cells #[.int .i64 4, .int .i64 xn, .string xt] 23)
  replace hb2 := on_alloc hb2 (.cells #[.int .i64 4, .int .i64 xn, .string xt] 23)
  have hx := CellsAt.new w1 [.int .i64 4, .int .i64 xn, .string xt] 23
  obtain ⟨x0, x1, x2, -⟩ := hx.three
  go_wp2_with fail
  generalize w1.alloc (.cells #[.int .i64 4, .int .i64 xn, .string xt] 23) = X1 at *
  clear x0 x1 x2
  refine (HI.out _).mono ?_
  rintro e w2 ⟨rfl, hb1⟩
  replace h2 := h2.on hb1
  replace hx := hx.on hb1
  replace hb2 := on hb2 hb1
  clear hb1
  obtain ⟨x0, x1, x2, -⟩ := hx.three
  obtain ⟨⟨g0, p0, p1, p2, q0, q1, q2⟩, ⟨z0, z1, z2⟩, hb3⟩ := val_ends h2 hb2 (Nat.le_add_right _ 2) (.int .i64 4) (.int .i64 xn) (.string xt)
  clear h2 hb2
  go_wp2
  exact bodyPost_ret (v := .agg #[.int .i64 4, .int .i64 xn, .string xt]) (by simp [results, Tryz.results28, go_sem, z0, z1, z2]) rfl ⟨rfl, hb3⟩
set_option maxRecDepth 100000 in
set_option maxHeartbeats 2000000 in
theorem reckoned_ADD (a b : Vl) (fa : a.fits) (fb : b.fits) (p q : Int) (_p1 : -9223372036854775807 ≤ p) (p2 : p ≤ 9223372036854775807) (_q1 : -9223372036854775807 ≤ q) (q2 : q ≤ 9223372036854775807) (w : World) (HN0 : ∀ A2 w1, Below w.heap.size w w1 → ValsR w1 A2 2 [a, b] → Calls Tryz.prog 77 #[.slice A2 2 2] w1 fun e w' => ∃ A3 c3, e = .returned (.tuple #[.slice A3 2 c3, .agg #[.int .i64 0, .int .i64 0, .string ⟨#[]⟩]]) ∧ IntsR w' A3 [p, q] ∧ Below w1.heap.size w1 w') :
    Calls Tryz.prog 28 #[.int .i64 1, .agg #[.int .i64 a.k, .int .i64 a.n, .string a.t], .agg #[.int .i64 b.k, .int .i64 b.n, .string b.t]] w (IsV (gV (addD p q)) w) := by
  obtain ⟨h2, hb2⟩ := third w (.cells #[.int .i64 a.k, .int .i64 a.n, .string a.t] 23) (.cells #[.int .i64 b.k, .int .i64 b.n, .string b.t] 23) [.int .i64 0, .int .i64 0, .string ⟨#[]⟩] 23
  obtain ⟨y0, y1, y2, -⟩ := (((CellsAt.new w [.int .i64 a.k, .int .i64 a.n, .string a.t] 23).on_alloc (.cells #[.int .i64 b.k, .int .i64 b.n, .string b.t] 23)).on_alloc (.cells #[.int .i64 0, .int .i64 0, .string ⟨#[]⟩] 23)).three
  obtain ⟨u0, u1, u2, -⟩ := ((second w (.cells #[.int .i64 a.k, .int .i64 a.n, .string a.t] 23) [.int .i64 b.k, .int .i64 b.n, .string b.t] 23).1.on_alloc (.cells #[.int .i64 0, .int .i64 0, .string ⟨#[]⟩] 23)).three
  have HN := Lib.hid HN0
  have HI : Hid (∀ w1, Calls Tryz.prog 42 #[.agg #[.int .i64 0, .int .i64 0, .string ⟨#[]⟩]] w1 fun e w' => e = .returned (.bool false) ∧ Below w1.heap.size w1 w') := Lib.hid (fun w1 => isfault_v _ _ _ false rfl w1)
  obtain ⟨⟨n, k⟩, hd⟩ : ∃ y, addD p q = y := ⟨_, rfl⟩
  have HA : Hid (∀ w1, Calls Tryz.prog 78 #[.int .i64 p, .int .i64 q] w1 fun e w' => e = .returned (.tuple #[.int .i64 n, .bool k]) ∧ Below w1.heap.size w1 w') := Lib.hid (fun w1 => two_b (add_c p q p2 q2 n k hd w1))
  rw [hd]
  clear hd
  have HZ : Hid (∀ w1, Calls Tryz.prog 43 #[.int .i64 n, .bool k] w1 (IsV (gV (n, k)) w1)) := Lib.hid (fun w1 => got_v n k w1)
  obtain ⟨⟨c0, d0, e0⟩, hz9⟩ : ∃ v, (gV (n, k)) = v := ⟨_, rfl⟩
  rw [hz9] at HZ ⊢
  have HZ2 : Hid (∀ w1, Calls Tryz.prog 43 #[.int .i64 n, .bool k] w1 (ValIs c0 d0 e0 w1)) := HZ
  clear HZ hz9 HN0
  show Calls Tryz.prog 28 _ w (ValIs c0 d0 e0 w)
  go_enter Tryz.func28, Tryz.ntmps28
  go_wp2_with fail
  have hz := vals_two (((w.alloc (.cells #[.int .i64 a.k, .int .i64 a.n, .string a.t] 23)).alloc (.cells #[.int .i64 b.k, .int .i64 b.n, .string b.t] 23)).alloc (.cells #[.int .i64 0, .int .i64 0, .string ⟨#[]⟩] 23)) a b fa fb
  rw [show (((w.alloc (.cells #[.int .i64 a.k, .int .i64 a.n, .string a.t] 23)).alloc (.cells #[.int .i64 b.k, .int .i64 b.n, .string b.t] 23)).alloc (.cells #[.int .i64 0, .int .i64 0, .string ⟨#[]⟩] 23)).heap.size = w.heap.size + 1 + 1 + 1 by simp] at hz
  replace h2 := h2.on_alloc (.cells #[.int .i64 a.k, .int .i64 a.n, .string a.t, .int .i64 b.k, .int .i64 b.n, .string b.t] 23)
  replace hb2 := on_alloc hb2 (.cells #[.int .i64 a.k, .int .i64 a.n, .string a.t, .int .i64 b.k, .int .i64 b.n, .string b.t] 23)
  clear y0 y1 y2 u0 u1 u2
  generalize (((w.alloc (.cells #[.int .i64 a.k, .int .i64 a.n, .string a.t] 23)).alloc (.cells #[.int .i64 b.k, .int .i64 b.n, .string b.t] 23)).alloc (.cells #[.int .i64 0, .int .i64 0, .string ⟨#[]⟩] 23)).alloc (.cells #[.int .i64 a.k, .int .i64 a.n, .string a.t, .int .i64 b.k, .int .i64 b.n, .string b.t] 23) = W at *
  refine (HN.out _ _ hb2 hz).mono ?_
  rintro e w1 ⟨A2, c2, rfl, hr, hb1⟩
  replace h2 := (h2.on hb1).on_alloc (.cells #[.int .i64 0, .int .i64 0, .string ⟨#[]⟩] 23)
  replace hb2 := on_alloc (on hb2 hb1) (.cells #[.int .i64 0, .int .i64 0, .string ⟨#[]⟩] 23)
  replace hr := hr.on (below1 w1 (.cells #[.int .i64 0, .int .i64 0, .string ⟨#[]⟩] 23))
  clear hb1 hz
  obtain ⟨x0, x1, x2, -⟩ := (CellsAt.new w1 [.int .i64 0, .int .i64 0, .string ⟨#[]⟩] 23).three
  go_wp2_with fail
  generalize w1.alloc (.cells #[.int .i64 0, .int .i64 0, .string ⟨#[]⟩] 23) = X1 at *
  refine (HI.out _).mono ?_
  rintro e w2 ⟨rfl, hb1⟩
  replace h2 := h2.on hb1
  replace hb2 := on hb2 hb1
  replace hr := hr.on hb1
  clear x0 x1 x2 hb1 HN HI
  obtain ⟨g3, o3, rfl, hg3, k0⟩ := hr.at (k := 0) rfl
  obtain ⟨g9, o9, e9, hg9, k1⟩ := hr.at (k := 1) rfl
  simp only [Option.some.injEq, Addr.mk.injEq] at e9
  obtain ⟨rfl, rfl, -⟩ := e9
  rw [Nat.add_zero] at k0
  clear hr
  go_wp2_with fail
  have K0 := fun d os => cell_regrown k0 d os
  have K1 := fun d os => cell_regrown k1 d os
  clear k0 k1
  refine wp_region_mem 10 (fun d => match d with
    | 28 => some (Is (.tuple #[.int .i64 n, .bool k]))
    | 31 => some (Is (.agg #[.int .i64 c0, .int .i64 d0, .string e0]))
    | _ => none) (by kernel_rfl) (by kernel_rfl) ?_
  simp only [List.take_succ_cons, List.take_zero, List.drop_succ_cons, List.drop_zero]
  repeat (first | ((with_reducible refine wpM_calm ?_ ?_ ?_ ?_); exact rfl; exact rfl; exact rfl; intro K hK; go_big_quiet_op; go_big_quiet_on) | ((with_reducible refine wpM_skip ?_ ?_); exact rfl; simp only [Act.put, List.setIfInBounds_toArray, List.set_cons_succ, List.set_cons_zero]))
  refine wpM_exact rfl rfl rfl Tryz.func78 (by kernel_rfl) (by kernel_rfl) (fun w1 hw1 _ => HA.out w1) rfl (by simp only [Act.put, List.setIfInBounds_toArray, List.set_cons_succ, List.set_cons_zero]; rfl) ?_
  repeat (first | ((with_reducible refine wpM_calm ?_ ?_ ?_ ?_); exact rfl; exact rfl; exact rfl; intro K hK; go_big_quiet_op; go_big_quiet_on) | ((with_reducible refine wpM_skip ?_ ?_); exact rfl; simp only [Act.put, List.setIfInBounds_toArray, List.set_cons_succ, List.set_cons_zero]))
  refine wpM_exact rfl rfl rfl Tryz.func43 (by kernel_rfl) (by kernel_rfl) (fun w1 hw1 _ => HZ2.out w1) rfl (by simp only [Act.put, List.setIfInBounds_toArray, List.set_cons_succ, List.set_cons_zero]; rfl) ?_
  refine wpM_nil ?_
  intro w3 hw3 _
  replace h2 := h2.on hw3
  replace hb2 := on hb2 hw3
  clear hw3 HZ2 K0 K1 HA
  obtain ⟨⟨g0, p0, p1, p2, q0, q1, q2⟩, ⟨z0, z1, z2⟩, hb3⟩ := val_ends h2 hb2 (Nat.le_add_right _ 2) (.int .i64 c0) (.int .i64 d0) (.string e0)
  clear h2 hb2
  go_wp2
  exact bodyPost_ret (v := .agg #[.int .i64 c0, .int .i64 d0, .string e0]) (by simp [results, Tryz.results28, go_sem, z0, z1, z2]) rfl ⟨rfl, hb3⟩
set_option maxRecDepth 100000 in
set_option maxHeartbeats 2000000 in
theorem reckoned_SUB (a b : Vl) (fa : a.fits) (fb : b.fits) (p q : Int) (_p1 : -9223372036854775807 ≤ p) (p2 : p ≤ 9223372036854775807) (_q1 : -9223372036854775807 ≤ q) (q2 : q ≤ 9223372036854775807) (w : World) (HN0 : ∀ A2 w1, Below w.heap.size w w1 → ValsR w1 A2 2 [a, b] → Calls Tryz.prog 77 #[.slice A2 2 2] w1 fun e w' => ∃ A3 c3, e = .returned (.tuple #[.slice A3 2 c3, .agg #[.int .i64 0, .int .i64 0, .string ⟨#[]⟩]]) ∧ IntsR w' A3 [p, q] ∧ Below w1.heap.size w1 w') :
    Calls Tryz.prog 28 #[.int .i64 2, .agg #[.int .i64 a.k, .int .i64 a.n, .string a.t], .agg #[.int .i64 b.k, .int .i64 b.n, .string b.t]] w (IsV (gV (subD p q)) w) := by
  obtain ⟨h2, hb2⟩ := third w (.cells #[.int .i64 a.k, .int .i64 a.n, .string a.t] 23) (.cells #[.int .i64 b.k, .int .i64 b.n, .string b.t] 23) [.int .i64 0, .int .i64 0, .string ⟨#[]⟩] 23
  obtain ⟨y0, y1, y2, -⟩ := (((CellsAt.new w [.int .i64 a.k, .int .i64 a.n, .string a.t] 23).on_alloc (.cells #[.int .i64 b.k, .int .i64 b.n, .string b.t] 23)).on_alloc (.cells #[.int .i64 0, .int .i64 0, .string ⟨#[]⟩] 23)).three
  obtain ⟨u0, u1, u2, -⟩ := ((second w (.cells #[.int .i64 a.k, .int .i64 a.n, .string a.t] 23) [.int .i64 b.k, .int .i64 b.n, .string b.t] 23).1.on_alloc (.cells #[.int .i64 0, .int .i64 0, .string ⟨#[]⟩] 23)).three
  have HN := Lib.hid HN0
  have HI : Hid (∀ w1, Calls Tryz.prog 42 #[.agg #[.int .i64 0, .int .i64 0, .string ⟨#[]⟩]] w1 fun e w' => e = .returned (.bool false) ∧ Below w1.heap.size w1 w') := Lib.hid (fun w1 => isfault_v _ _ _ false rfl w1)
  obtain ⟨⟨n, k⟩, hd⟩ : ∃ y, subD p q = y := ⟨_, rfl⟩
  have HA : Hid (∀ w1, Calls Tryz.prog 79 #[.int .i64 p, .int .i64 q] w1 fun e w' => e = .returned (.tuple #[.int .i64 n, .bool k]) ∧ Below w1.heap.size w1 w') := Lib.hid (fun w1 => two_b (sub_c p q p2 q2 n k hd w1))
  rw [hd]
  clear hd
  have HZ : Hid (∀ w1, Calls Tryz.prog 43 #[.int .i64 n, .bool k] w1 (IsV (gV (n, k)) w1)) := Lib.hid (fun w1 => got_v n k w1)
  obtain ⟨⟨c0, d0, e0⟩, hz9⟩ : ∃ v, (gV (n, k)) = v := ⟨_, rfl⟩
  rw [hz9] at HZ ⊢
  have HZ2 : Hid (∀ w1, Calls Tryz.prog 43 #[.int .i64 n, .bool k] w1 (ValIs c0 d0 e0 w1)) := HZ
  clear HZ hz9 HN0
  show Calls Tryz.prog 28 _ w (ValIs c0 d0 e0 w)
  go_enter Tryz.func28, Tryz.ntmps28
  go_wp2_with fail
  have hz := vals_two (((w.alloc (.cells #[.int .i64 a.k, .int .i64 a.n, .string a.t] 23)).alloc (.cells #[.int .i64 b.k, .int .i64 b.n, .string b.t] 23)).alloc (.cells #[.int .i64 0, .int .i64 0, .string ⟨#[]⟩] 23)) a b fa fb
  rw [show (((w.alloc (.cells #[.int .i64 a.k, .int .i64 a.n, .string a.t] 23)).alloc (.cells #[.int .i64 b.k, .int .i64 b.n, .string b.t] 23)).alloc (.cells #[.int .i64 0, .int .i64 0, .string ⟨#[]⟩] 23)).heap.size = w.heap.size + 1 + 1 + 1 by simp] at hz
  replace h2 := h2.on_alloc (.cells #[.int .i64 a.k, .int .i64 a.n, .string a.t, .int .i64 b.k, .int .i64 b.n, .string b.t] 23)
  replace hb2 := on_alloc hb2 (.cells #[.int .i64 a.k, .int .i64 a.n, .string a.t, .int .i64 b.k, .int .i64 b.n, .string b.t] 23)
  clear y0 y1 y2 u0 u1 u2
  generalize (((w.alloc (.cells #[.int .i64 a.k, .int .i64 a.n, .string a.t] 23)).alloc (.cells #[.int .i64 b.k, .int .i64 b.n, .string b.t] 23)).alloc (.cells #[.int .i64 0, .int .i64 0, .string ⟨#[]⟩] 23)).alloc (.cells #[.int .i64 a.k, .int .i64 a.n, .string a.t, .int .i64 b.k, .int .i64 b.n, .string b.t] 23) = W at *
  refine (HN.out _ _ hb2 hz).mono ?_
  rintro e w1 ⟨A2, c2, rfl, hr, hb1⟩
  replace h2 := (h2.on hb1).on_alloc (.cells #[.int .i64 0, .int .i64 0, .string ⟨#[]⟩] 23)
  replace hb2 := on_alloc (on hb2 hb1) (.cells #[.int .i64 0, .int .i64 0, .string ⟨#[]⟩] 23)
  replace hr := hr.on (below1 w1 (.cells #[.int .i64 0, .int .i64 0, .string ⟨#[]⟩] 23))
  clear hb1 hz
  obtain ⟨x0, x1, x2, -⟩ := (CellsAt.new w1 [.int .i64 0, .int .i64 0, .string ⟨#[]⟩] 23).three
  go_wp2_with fail
  generalize w1.alloc (.cells #[.int .i64 0, .int .i64 0, .string ⟨#[]⟩] 23) = X1 at *
  refine (HI.out _).mono ?_
  rintro e w2 ⟨rfl, hb1⟩
  replace h2 := h2.on hb1
  replace hb2 := on hb2 hb1
  replace hr := hr.on hb1
  clear x0 x1 x2 hb1 HN HI
  obtain ⟨g3, o3, rfl, hg3, k0⟩ := hr.at (k := 0) rfl
  obtain ⟨g9, o9, e9, hg9, k1⟩ := hr.at (k := 1) rfl
  simp only [Option.some.injEq, Addr.mk.injEq] at e9
  obtain ⟨rfl, rfl, -⟩ := e9
  rw [Nat.add_zero] at k0
  clear hr
  go_wp2_with fail
  have K0 := fun d os => cell_regrown k0 d os
  have K1 := fun d os => cell_regrown k1 d os
  clear k0 k1
  refine wp_region_mem 10 (fun d => match d with
    | 40 => some (Is (.tuple #[.int .i64 n, .bool k]))
    | 43 => some (Is (.agg #[.int .i64 c0, .int .i64 d0, .string e0]))
    | _ => none) (by kernel_rfl) (by kernel_rfl) ?_
  simp only [List.take_succ_cons, List.take_zero, List.drop_succ_cons, List.drop_zero]
  repeat (first | ((with_reducible refine wpM_calm ?_ ?_ ?_ ?_); exact rfl; exact rfl; exact rfl; intro K hK; go_big_quiet_op; go_big_quiet_on) | ((with_reducible refine wpM_skip ?_ ?_); exact rfl; simp only [Act.put, List.setIfInBounds_toArray, List.set_cons_succ, List.set_cons_zero]))
  refine wpM_exact rfl rfl rfl Tryz.func79 (by kernel_rfl) (by kernel_rfl) (fun w1 hw1 _ => HA.out w1) rfl (by simp only [Act.put, List.setIfInBounds_toArray, List.set_cons_succ, List.set_cons_zero]; rfl) ?_
  repeat (first | ((with_reducible refine wpM_calm ?_ ?_ ?_ ?_); exact rfl; exact rfl; exact rfl; intro K hK; go_big_quiet_op; go_big_quiet_on) | ((with_reducible refine wpM_skip ?_ ?_); exact rfl; simp only [Act.put, List.setIfInBounds_toArray, List.set_cons_succ, List.set_cons_zero]))
  refine wpM_exact rfl rfl rfl Tryz.func43 (by kernel_rfl) (by kernel_rfl) (fun w1 hw1 _ => HZ2.out w1) rfl (by simp only [Act.put, List.setIfInBounds_toArray, List.set_cons_succ, List.set_cons_zero]; rfl) ?_
  refine wpM_nil ?_
  intro w3 hw3 _
  replace h2 := h2.on hw3
  replace hb2 := on hb2 hw3
  clear hw3 HZ2 K0 K1 HA
  obtain ⟨⟨g0, p0, p1, p2, q0, q1, q2⟩, ⟨z0, z1, z2⟩, hb3⟩ := val_ends h2 hb2 (Nat.le_add_right _ 2) (.int .i64 c0) (.int .i64 d0) (.string e0)
  clear h2 hb2
  go_wp2
  exact bodyPost_ret (v := .agg #[.int .i64 c0, .int .i64 d0, .string e0]) (by simp [results, Tryz.results28, go_sem, z0, z1, z2]) rfl ⟨rfl, hb3⟩
set_option maxRecDepth 100000 in
set_option maxHeartbeats 2000000 in
theorem reckoned_MUL (a b : Vl) (fa : a.fits) (fb : b.fits) (p q : Int) (_p1 : -9223372036854775807 ≤ p) (p2 : p ≤ 9223372036854775807) (_q1 : -9223372036854775807 ≤ q) (q2 : q ≤ 9223372036854775807) (w : World) (HN0 : ∀ A2 w1, Below w.heap.size w w1 → ValsR w1 A2 2 [a, b] → Calls Tryz.prog 77 #[.slice A2 2 2] w1 fun e w' => ∃ A3 c3, e = .returned (.tuple #[.slice A3 2 c3, .agg #[.int .i64 0, .int .i64 0, .string ⟨#[]⟩]]) ∧ IntsR w' A3 [p, q] ∧ Below w1.heap.size w1 w') :
    Calls Tryz.prog 28 #[.int .i64 3, .agg #[.int .i64 a.k, .int .i64 a.n, .string a.t], .agg #[.int .i64 b.k, .int .i64 b.n, .string b.t]] w (IsV (gV (scaledD p q 10000)) w) := by
  obtain ⟨h2, hb2⟩ := third w (.cells #[.int .i64 a.k, .int .i64 a.n, .string a.t] 23) (.cells #[.int .i64 b.k, .int .i64 b.n, .string b.t] 23) [.int .i64 0, .int .i64 0, .string ⟨#[]⟩] 23
  obtain ⟨y0, y1, y2, -⟩ := (((CellsAt.new w [.int .i64 a.k, .int .i64 a.n, .string a.t] 23).on_alloc (.cells #[.int .i64 b.k, .int .i64 b.n, .string b.t] 23)).on_alloc (.cells #[.int .i64 0, .int .i64 0, .string ⟨#[]⟩] 23)).three
  obtain ⟨u0, u1, u2, -⟩ := ((second w (.cells #[.int .i64 a.k, .int .i64 a.n, .string a.t] 23) [.int .i64 b.k, .int .i64 b.n, .string b.t] 23).1.on_alloc (.cells #[.int .i64 0, .int .i64 0, .string ⟨#[]⟩] 23)).three
  have HN := Lib.hid HN0
  have HI : Hid (∀ w1, Calls Tryz.prog 42 #[.agg #[.int .i64 0, .int .i64 0, .string ⟨#[]⟩]] w1 fun e w' => e = .returned (.bool false) ∧ Below w1.heap.size w1 w') := Lib.hid (fun w1 => isfault_v _ _ _ false rfl w1)
  obtain ⟨⟨n, k⟩, hd⟩ : ∃ y, scaledD p q 10000 = y := ⟨_, rfl⟩
  have HA : Hid (∀ w1, Calls Tryz.prog 80 #[.int .i64 p, .int .i64 q] w1 fun e w' => e = .returned (.tuple #[.int .i64 n, .bool k]) ∧ Below w1.heap.size w1 w') := Lib.hid (fun w1 => drawn_b (mul_c p q p2 q2 n k hd w1))
  rw [hd]
  clear hd
  have HZ : Hid (∀ w1, Calls Tryz.prog 43 #[.int .i64 n, .bool k] w1 (IsV (gV (n, k)) w1)) := Lib.hid (fun w1 => got_v n k w1)
  obtain ⟨⟨c0, d0, e0⟩, hz9⟩ : ∃ v, (gV (n, k)) = v := ⟨_, rfl⟩
  rw [hz9] at HZ ⊢
  have HZ2 : Hid (∀ w1, Calls Tryz.prog 43 #[.int .i64 n, .bool k] w1 (ValIs c0 d0 e0 w1)) := HZ
  clear HZ hz9 HN0
  show Calls Tryz.prog 28 _ w (ValIs c0 d0 e0 w)
  go_enter Tryz.func28, Tryz.ntmps28
  go_wp2_with fail
  have hz := vals_two (((w.alloc (.cells #[.int .i64 a.k, .int .i64 a.n, .string a.t] 23)).alloc (.cells #[.int .i64 b.k, .int .i64 b.n, .string b.t] 23)).alloc (.cells #[.int .i64 0, .int .i64 0, .string ⟨#[]⟩] 23)) a b fa fb
  rw [show (((w.alloc (.cells #[.int .i64 a.k, .int .i64 a.n, .string a.t] 23)).alloc (.cells #[.int .i64 b.k, .int .i64 b.n, .string b.t] 23)).alloc (.cells #[.int .i64 0, .int .i64 0, .string ⟨#[]⟩] 23)).heap.size = w.heap.size + 1 + 1 + 1 by simp] at hz
  replace h2 := h2.on_alloc (.cells #[.int .i64 a.k, .int .i64 a.n, .string a.t, .int .i64 b.k, .int .i64 b.n, .string b.t] 23)
  replace hb2 := on_alloc hb2 (.cells #[.int .i64 a.k, .int .i64 a.n, .string a.t, .int .i64 b.k, .int .i64 b.n, .string b.t] 23)
  clear y0 y1 y2 u0 u1 u2
  generalize (((w.alloc (.cells #[.int .i64 a.k, .int .i64 a.n, .string a.t] 23)).alloc (.cells #[.int .i64 b.k, .int .i64 b.n, .string b.t] 23)).alloc (.cells #[.int .i64 0, .int .i64 0, .string ⟨#[]⟩] 23)).alloc (.cells #[.int .i64 a.k, .int .i64 a.n, .string a.t, .int .i64 b.k, .int .i64 b.n, .string b.t] 23) = W at *
  refine (HN.out _ _ hb2 hz).mono ?_
  rintro e w1 ⟨A2, c2, rfl, hr, hb1⟩
  replace h2 := (h2.on hb1).on_alloc (.cells #[.int .i64 0, .int .i64 0, .string ⟨#[]⟩] 23)
  replace hb2 := on_alloc (on hb2 hb1) (.cells #[.int .i64 0, .int .i64 0, .string ⟨#[]⟩] 23)
  replace hr := hr.on (below1 w1 (.cells #[.int .i64 0, .int .i64 0, .string ⟨#[]⟩] 23))
  clear hb1 hz
  obtain ⟨x0, x1, x2, -⟩ := (CellsAt.new w1 [.int .i64 0, .int .i64 0, .string ⟨#[]⟩] 23).three
  go_wp2_with fail
  generalize w1.alloc (.cells #[.int .i64 0, .int .i64 0, .string ⟨#[]⟩] 23) = X1 at *
  refine (HI.out _).mono ?_
  rintro e w2 ⟨rfl, hb1⟩
  replace h2 := h2.on hb1
  replace hb2 := on hb2 hb1
  replace hr := hr.on hb1
  clear x0 x1 x2 hb1 HN HI
  obtain ⟨g3, o3, rfl, hg3, k0⟩ := hr.at (k := 0) rfl
  obtain ⟨g9, o9, e9, hg9, k1⟩ := hr.at (k := 1) rfl
  simp only [Option.some.injEq, Addr.mk.injEq] at e9
  obtain ⟨rfl, rfl, -⟩ := e9
  rw [Nat.add_zero] at k0
  clear hr
  go_wp2_with fail
  have K0 := fun d os => cell_regrown k0 d os
  have K1 := fun d os => cell_regrown k1 d os
  clear k0 k1
  refine wp_region_mem 10 (fun d => match d with
    | 52 => some (Is (.tuple #[.int .i64 n, .bool k]))
    | 55 => some (Is (.agg #[.int .i64 c0, .int .i64 d0, .string e0]))
    | _ => none) (by kernel_rfl) (by kernel_rfl) ?_
  simp only [List.take_succ_cons, List.take_zero, List.drop_succ_cons, List.drop_zero]
  repeat (first | ((with_reducible refine wpM_calm ?_ ?_ ?_ ?_); exact rfl; exact rfl; exact rfl; intro K hK; go_big_quiet_op; go_big_quiet_on) | ((with_reducible refine wpM_skip ?_ ?_); exact rfl; simp only [Act.put, List.setIfInBounds_toArray, List.set_cons_succ, List.set_cons_zero]))
  refine wpM_exact rfl rfl rfl Tryz.func80 (by kernel_rfl) (by kernel_rfl) (fun w1 hw1 _ => HA.out w1) rfl (by simp only [Act.put, List.setIfInBounds_toArray, List.set_cons_succ, List.set_cons_zero]; rfl) ?_
  repeat (first | ((with_reducible refine wpM_calm ?_ ?_ ?_ ?_); exact rfl; exact rfl; exact rfl; intro K hK; go_big_quiet_op; go_big_quiet_on) | ((with_reducible refine wpM_skip ?_ ?_); exact rfl; simp only [Act.put, List.setIfInBounds_toArray, List.set_cons_succ, List.set_cons_zero]))
  refine wpM_exact rfl rfl rfl Tryz.func43 (by kernel_rfl) (by kernel_rfl) (fun w1 hw1 _ => HZ2.out w1) rfl (by simp only [Act.put, List.setIfInBounds_toArray, List.set_cons_succ, List.set_cons_zero]; rfl) ?_
  refine wpM_nil ?_
  intro w3 hw3 _
  replace h2 := h2.on hw3
  replace hb2 := on hb2 hw3
  clear hw3 HZ2 K0 K1 HA
  obtain ⟨⟨g0, p0, p1, p2, q0, q1, q2⟩, ⟨z0, z1, z2⟩, hb3⟩ := val_ends h2 hb2 (Nat.le_add_right _ 2) (.int .i64 c0) (.int .i64 d0) (.string e0)
  clear h2 hb2
  go_wp2
  exact bodyPost_ret (v := .agg #[.int .i64 c0, .int .i64 d0, .string e0]) (by simp [results, Tryz.results28, go_sem, z0, z1, z2]) rfl ⟨rfl, hb3⟩
set_option maxRecDepth 100000 in
set_option maxHeartbeats 2000000 in
theorem reckoned_DIV (a b : Vl) (fa : a.fits) (fb : b.fits) (p q : Int) (_p1 : -9223372036854775807 ≤ p) (p2 : p ≤ 9223372036854775807) (_q1 : -9223372036854775807 ≤ q) (q2 : q ≤ 9223372036854775807) (w : World) (HN0 : ∀ A2 w1, Below w.heap.size w w1 → ValsR w1 A2 2 [a, b] → Calls Tryz.prog 77 #[.slice A2 2 2] w1 fun e w' => ∃ A3 c3, e = .returned (.tuple #[.slice A3 2 c3, .agg #[.int .i64 0, .int .i64 0, .string ⟨#[]⟩]]) ∧ IntsR w' A3 [p, q] ∧ Below w1.heap.size w1 w') :
    Calls Tryz.prog 28 #[.int .i64 4, .agg #[.int .i64 a.k, .int .i64 a.n, .string a.t], .agg #[.int .i64 b.k, .int .i64 b.n, .string b.t]] w (IsV (if q = 0 then fV 1 else gV (scaledD p 10000 q)) w) := by
  obtain ⟨h2, hb2⟩ := third w (.cells #[.int .i64 a.k, .int .i64 a.n, .string a.t] 23) (.cells #[.int .i64 b.k, .int .i64 b.n, .string b.t] 23) [.int .i64 0, .int .i64 0, .string ⟨#[]⟩] 23
  obtain ⟨y0, y1, y2, -⟩ := (((CellsAt.new w [.int .i64 a.k, .int .i64 a.n, .string a.t] 23).on_alloc (.cells #[.int .i64 b.k, .int .i64 b.n, .string b.t] 23)).on_alloc (.cells #[.int .i64 0, .int .i64 0, .string ⟨#[]⟩] 23)).three
  obtain ⟨u0, u1, u2, -⟩ := ((second w (.cells #[.int .i64 a.k, .int .i64 a.n, .string a.t] 23) [.int .i64 b.k, .int .i64 b.n, .string b.t] 23).1.on_alloc (.cells #[.int .i64 0, .int .i64 0, .string ⟨#[]⟩] 23)).three
  have HN := Lib.hid HN0
  have HI : Hid (∀ w1, Calls Tryz.prog 42 #[.agg #[.int .i64 0, .int .i64 0, .string ⟨#[]⟩]] w1 fun e w' => e = .returned (.bool false) ∧ Below w1.heap.size w1 w') := Lib.hid (fun w1 => isfault_v _ _ _ false rfl w1)
  have HZ : Hid (∀ w1, Calls Tryz.prog 81 #[.int .i64 p, .int .i64 q, .func (.func 82) #[] #[]] w1 (IsV (if q = 0 then fV 1 else gV (scaledD p 10000 q)) w1)) := Lib.hid (fun w1 => divided_div p q p2 q2 w1)
  obtain ⟨⟨c0, d0, e0⟩, hz9⟩ : ∃ v, (if q = 0 then fV 1 else gV (scaledD p 10000 q)) = v := ⟨_, rfl⟩
  rw [hz9] at HZ ⊢
  have HZ2 : Hid (∀ w1, Calls Tryz.prog 81 #[.int .i64 p, .int .i64 q, .func (.func 82) #[] #[]] w1 (ValIs c0 d0 e0 w1)) := HZ
  clear HZ hz9 HN0
  show Calls Tryz.prog 28 _ w (ValIs c0 d0 e0 w)
  go_enter Tryz.func28, Tryz.ntmps28
  go_wp2_with fail
  have hz := vals_two (((w.alloc (.cells #[.int .i64 a.k, .int .i64 a.n, .string a.t] 23)).alloc (.cells #[.int .i64 b.k, .int .i64 b.n, .string b.t] 23)).alloc (.cells #[.int .i64 0, .int .i64 0, .string ⟨#[]⟩] 23)) a b fa fb
  rw [show (((w.alloc (.cells #[.int .i64 a.k, .int .i64 a.n, .string a.t] 23)).alloc (.cells #[.int .i64 b.k, .int .i64 b.n, .string b.t] 23)).alloc (.cells #[.int .i64 0, .int .i64 0, .string ⟨#[]⟩] 23)).heap.size = w.heap.size + 1 + 1 + 1 by simp] at hz
  replace h2 := h2.on_alloc (.cells #[.int .i64 a.k, .int .i64 a.n, .string a.t, .int .i64 b.k, .int .i64 b.n, .string b.t] 23)
  replace hb2 := on_alloc hb2 (.cells #[.int .i64 a.k, .int .i64 a.n, .string a.t, .int .i64 b.k, .int .i64 b.n, .string b.t] 23)
  clear y0 y1 y2 u0 u1 u2
  generalize (((w.alloc (.cells #[.int .i64 a.k, .int .i64 a.n, .string a.t] 23)).alloc (.cells #[.int .i64 b.k, .int .i64 b.n, .string b.t] 23)).alloc (.cells #[.int .i64 0, .int .i64 0, .string ⟨#[]⟩] 23)).alloc (.cells #[.int .i64 a.k, .int .i64 a.n, .string a.t, .int .i64 b.k, .int .i64 b.n, .string b.t] 23) = W at *
  refine (HN.out _ _ hb2 hz).mono ?_
  rintro e w1 ⟨A2, c2, rfl, hr, hb1⟩
  replace h2 := (h2.on hb1).on_alloc (.cells #[.int .i64 0, .int .i64 0, .string ⟨#[]⟩] 23)
  replace hb2 := on_alloc (on hb2 hb1) (.cells #[.int .i64 0, .int .i64 0, .string ⟨#[]⟩] 23)
  replace hr := hr.on (below1 w1 (.cells #[.int .i64 0, .int .i64 0, .string ⟨#[]⟩] 23))
  clear hb1 hz
  obtain ⟨x0, x1, x2, -⟩ := (CellsAt.new w1 [.int .i64 0, .int .i64 0, .string ⟨#[]⟩] 23).three
  go_wp2_with fail
  generalize w1.alloc (.cells #[.int .i64 0, .int .i64 0, .string ⟨#[]⟩] 23) = X1 at *
  refine (HI.out _).mono ?_
  rintro e w2 ⟨rfl, hb1⟩
  replace h2 := h2.on hb1
  replace hb2 := on hb2 hb1
  replace hr := hr.on hb1
  clear x0 x1 x2 hb1 HN HI
  obtain ⟨g3, o3, rfl, hg3, k0⟩ := hr.at (k := 0) rfl
  obtain ⟨g9, o9, e9, hg9, k1⟩ := hr.at (k := 1) rfl
  simp only [Option.some.injEq, Addr.mk.injEq] at e9
  obtain ⟨rfl, rfl, -⟩ := e9
  rw [Nat.add_zero] at k0
  clear hr
  go_wp2_with fail
  have K0 := fun d os => cell_regrown k0 d os
  have K1 := fun d os => cell_regrown k1 d os
  clear k0 k1
  refine wp_region_mem 7 (fun d => match d with
    | 64 => some (Is (.agg #[.int .i64 c0, .int .i64 d0, .string e0]))
    | _ => none) (by kernel_rfl) (by kernel_rfl) ?_
  simp only [List.take_succ_cons, List.take_zero, List.drop_succ_cons, List.drop_zero]
  repeat (first | ((with_reducible refine wpM_calm ?_ ?_ ?_ ?_); exact rfl; exact rfl; exact rfl; intro K hK; go_big_quiet_op; go_big_quiet_on) | ((with_reducible refine wpM_skip ?_ ?_); exact rfl; simp only [Act.put, List.setIfInBounds_toArray, List.set_cons_succ, List.set_cons_zero]))
  refine wpM_exact rfl rfl rfl Tryz.func81 (by kernel_rfl) (by kernel_rfl) (fun w1 hw1 _ => HZ2.out w1) rfl (by simp only [Act.put, List.setIfInBounds_toArray, List.set_cons_succ, List.set_cons_zero]; rfl) ?_
  refine wpM_nil ?_
  intro w3 hw3 _
  replace h2 := h2.on hw3
  replace hb2 := on hb2 hw3
  clear hw3 HZ2 K0 K1
  obtain ⟨⟨g0, p0, p1, p2, q0, q1, q2⟩, ⟨z0, z1, z2⟩, hb3⟩ := val_ends h2 hb2 (Nat.le_add_right _ 2) (.int .i64 c0) (.int .i64 d0) (.string e0)
  clear h2 hb2
  go_wp2
  exact bodyPost_ret (v := .agg #[.int .i64 c0, .int .i64 d0, .string e0]) (by simp [results, Tryz.results28, go_sem, z0, z1, z2]) rfl ⟨rfl, hb3⟩
set_option maxRecDepth 100000 in
set_option maxHeartbeats 2000000 in
theorem reckoned_POW (a b : Vl) (fa : a.fits) (fb : b.fits) (p q : Int) (_p1 : -9223372036854775807 ≤ p) (p2 : p ≤ 9223372036854775807) (_q1 : -9223372036854775807 ≤ q) (q2 : q ≤ 9223372036854775807) (w : World) (HN0 : ∀ A2 w1, Below w.heap.size w w1 → ValsR w1 A2 2 [a, b] → Calls Tryz.prog 77 #[.slice A2 2 2] w1 fun e w' => ∃ A3 c3, e = .returned (.tuple #[.slice A3 2 c3, .agg #[.int .i64 0, .int .i64 0, .string ⟨#[]⟩]]) ∧ IntsR w' A3 [p, q] ∧ Below w1.heap.size w1 w') :
    Calls Tryz.prog 28 #[.int .i64 5, .agg #[.int .i64 a.k, .int .i64 a.n, .string a.t], .agg #[.int .i64 b.k, .int .i64 b.n, .string b.t]] w (IsV (gV (Pow.powerD p q)) w) := by
  obtain ⟨h2, hb2⟩ := third w (.cells #[.int .i64 a.k, .int .i64 a.n, .string a.t] 23) (.cells #[.int .i64 b.k, .int .i64 b.n, .string b.t] 23) [.int .i64 0, .int .i64 0, .string ⟨#[]⟩] 23
  obtain ⟨y0, y1, y2, -⟩ := (((CellsAt.new w [.int .i64 a.k, .int .i64 a.n, .string a.t] 23).on_alloc (.cells #[.int .i64 b.k, .int .i64 b.n, .string b.t] 23)).on_alloc (.cells #[.int .i64 0, .int .i64 0, .string ⟨#[]⟩] 23)).three
  obtain ⟨u0, u1, u2, -⟩ := ((second w (.cells #[.int .i64 a.k, .int .i64 a.n, .string a.t] 23) [.int .i64 b.k, .int .i64 b.n, .string b.t] 23).1.on_alloc (.cells #[.int .i64 0, .int .i64 0, .string ⟨#[]⟩] 23)).three
  have HN := Lib.hid HN0
  have HI : Hid (∀ w1, Calls Tryz.prog 42 #[.agg #[.int .i64 0, .int .i64 0, .string ⟨#[]⟩]] w1 fun e w' => e = .returned (.bool false) ∧ Below w1.heap.size w1 w') := Lib.hid (fun w1 => isfault_v _ _ _ false rfl w1)
  obtain ⟨⟨n, k⟩, hd⟩ : ∃ y, Pow.powerD p q = y := ⟨_, rfl⟩
  have HA : Hid (∀ w1, Calls Tryz.prog 83 #[.int .i64 p, .int .i64 q] w1 fun e w' => e = .returned (.tuple #[.int .i64 n, .bool k]) ∧ Below w1.heap.size w1 w') := Lib.hid (fun w1 => drawn_b (Pow.power_c p q p2 q2 n k hd w1))
  rw [hd]
  clear hd
  have HZ : Hid (∀ w1, Calls Tryz.prog 43 #[.int .i64 n, .bool k] w1 (IsV (gV (n, k)) w1)) := Lib.hid (fun w1 => got_v n k w1)
  obtain ⟨⟨c0, d0, e0⟩, hz9⟩ : ∃ v, (gV (n, k)) = v := ⟨_, rfl⟩
  rw [hz9] at HZ ⊢
  have HZ2 : Hid (∀ w1, Calls Tryz.prog 43 #[.int .i64 n, .bool k] w1 (ValIs c0 d0 e0 w1)) := HZ
  clear HZ hz9 HN0
  show Calls Tryz.prog 28 _ w (ValIs c0 d0 e0 w)
  go_enter Tryz.func28, Tryz.ntmps28
  go_wp2_with fail
  have hz := vals_two (((w.alloc (.cells #[.int .i64 a.k, .int .i64 a.n, .string a.t] 23)).alloc (.cells #[.int .i64 b.k, .int .i64 b.n, .string b.t] 23)).alloc (.cells #[.int .i64 0, .int .i64 0, .string ⟨#[]⟩] 23)) a b fa fb
  rw [show (((w.alloc (.cells #[.int .i64 a.k, .int .i64 a.n, .string a.t] 23)).alloc (.cells #[.int .i64 b.k, .int .i64 b.n, .string b.t] 23)).alloc (.cells #[.int .i64 0, .int .i64 0, .string ⟨#[]⟩] 23)).heap.size = w.heap.size + 1 + 1 + 1 by simp] at hz
  replace h2 := h2.on_alloc (.cells #[.int .i64 a.k, .int .i64 a.n, .string a.t, .int .i64 b.k, .int .i64 b.n, .string b.t] 23)
  replace hb2 := on_alloc hb2 (.cells #[.int .i64 a.k, .int .i64 a.n, .string a.t, .int .i64 b.k, .int .i64 b.n, .string b.t] 23)
  clear y0 y1 y2 u0 u1 u2
  generalize (((w.alloc (.cells #[.int .i64 a.k, .int .i64 a.n, .string a.t] 23)).alloc (.cells #[.int .i64 b.k, .int .i64 b.n, .string b.t] 23)).alloc (.cells #[.int .i64 0, .int .i64 0, .string ⟨#[]⟩] 23)).alloc (.cells #[.int .i64 a.k, .int .i64 a.n, .string a.t, .int .i64 b.k, .int .i64 b.n, .string b.t] 23) = W at *
  refine (HN.out _ _ hb2 hz).mono ?_
  rintro e w1 ⟨A2, c2, rfl, hr, hb1⟩
  replace h2 := (h2.on hb1).on_alloc (.cells #[.int .i64 0, .int .i64 0, .string ⟨#[]⟩] 23)
  replace hb2 := on_alloc (on hb2 hb1) (.cells #[.int .i64 0, .int .i64 0, .string ⟨#[]⟩] 23)
  replace hr := hr.on (below1 w1 (.cells #[.int .i64 0, .int .i64 0, .string ⟨#[]⟩] 23))
  clear hb1 hz
  obtain ⟨x0, x1, x2, -⟩ := (CellsAt.new w1 [.int .i64 0, .int .i64 0, .string ⟨#[]⟩] 23).three
  go_wp2_with fail
  generalize w1.alloc (.cells #[.int .i64 0, .int .i64 0, .string ⟨#[]⟩] 23) = X1 at *
  refine (HI.out _).mono ?_
  rintro e w2 ⟨rfl, hb1⟩
  replace h2 := h2.on hb1
  replace hb2 := on hb2 hb1
  replace hr := hr.on hb1
  clear x0 x1 x2 hb1 HN HI
  obtain ⟨g3, o3, rfl, hg3, k0⟩ := hr.at (k := 0) rfl
  obtain ⟨g9, o9, e9, hg9, k1⟩ := hr.at (k := 1) rfl
  simp only [Option.some.injEq, Addr.mk.injEq] at e9
  obtain ⟨rfl, rfl, -⟩ := e9
  rw [Nat.add_zero] at k0
  clear hr
  go_wp2_with fail
  have K0 := fun d os => cell_regrown k0 d os
  have K1 := fun d os => cell_regrown k1 d os
  clear k0 k1
  refine wp_region_mem 10 (fun d => match d with
    | 71 => some (Is (.tuple #[.int .i64 n, .bool k]))
    | 74 => some (Is (.agg #[.int .i64 c0, .int .i64 d0, .string e0]))
    | _ => none) (by kernel_rfl) (by kernel_rfl) ?_
  simp only [List.take_succ_cons, List.take_zero, List.drop_succ_cons, List.drop_zero]
  repeat (first | ((with_reducible refine wpM_calm ?_ ?_ ?_ ?_); exact rfl; exact rfl; exact rfl; intro K hK; go_big_quiet_op; go_big_quiet_on) | ((with_reducible refine wpM_skip ?_ ?_); exact rfl; simp only [Act.put, List.setIfInBounds_toArray, List.set_cons_succ, List.set_cons_zero]))
  refine wpM_exact rfl rfl rfl Tryz.func83 (by kernel_rfl) (by kernel_rfl) (fun w1 hw1 _ => HA.out w1) rfl (by simp only [Act.put, List.setIfInBounds_toArray, List.set_cons_succ, List.set_cons_zero]; rfl) ?_
  repeat (first | ((with_reducible refine wpM_calm ?_ ?_ ?_ ?_); exact rfl; exact rfl; exact rfl; intro K hK; go_big_quiet_op; go_big_quiet_on) | ((with_reducible refine wpM_skip ?_ ?_); exact rfl; simp only [Act.put, List.setIfInBounds_toArray, List.set_cons_succ, List.set_cons_zero]))
  refine wpM_exact rfl rfl rfl Tryz.func43 (by kernel_rfl) (by kernel_rfl) (fun w1 hw1 _ => HZ2.out w1) rfl (by simp only [Act.put, List.setIfInBounds_toArray, List.set_cons_succ, List.set_cons_zero]; rfl) ?_
  refine wpM_nil ?_
  intro w3 hw3 _
  replace h2 := h2.on hw3
  replace hb2 := on hb2 hw3
  clear hw3 HZ2 K0 K1 HA
  obtain ⟨⟨g0, p0, p1, p2, q0, q1, q2⟩, ⟨z0, z1, z2⟩, hb3⟩ := val_ends h2 hb2 (Nat.le_add_right _ 2) (.int .i64 c0) (.int .i64 d0) (.string e0)
  clear h2 hb2
  go_wp2
  exact bodyPost_ret (v := .agg #[.int .i64 c0, .int .i64 d0, .string e0]) (by simp [results, Tryz.results28, go_sem, z0, z1, z2]) rfl ⟨rfl, hb3⟩
set_option maxRecDepth 100000 in
set_option maxHeartbeats 2000000 in
theorem joined_bad (a b : Vl) (fa : a.fits) (fb : b.fits) (x : Vl) (h4 : x.k = 4) (w : World) (HN0 : ∀ A2 w1, Below w.heap.size w w1 → ValsR w1 A2 2 [a, b] → Calls Tryz.prog 84 #[.slice A2 2 2] w1 (FaultGot x w1)) :
    Calls Tryz.prog 29 #[.agg #[.int .i64 a.k, .int .i64 a.n, .string a.t], .agg #[.int .i64 b.k, .int .i64 b.n, .string b.t]] w (IsV x w) := by
  obtain ⟨h2, hb2⟩ := third w (.cells #[.int .i64 a.k, .int .i64 a.n, .string a.t] 23) (.cells #[.int .i64 b.k, .int .i64 b.n, .string b.t] 23) [.int .i64 0, .int .i64 0, .string ⟨#[]⟩] 23
  obtain ⟨y0, y1, y2, -⟩ := (((CellsAt.new w [.int .i64 a.k, .int .i64 a.n, .string a.t] 23).on_alloc (.cells #[.int .i64 b.k, .int .i64 b.n, .string b.t] 23)).on_alloc (.cells #[.int .i64 0, .int .i64 0, .string ⟨#[]⟩] 23)).three
  obtain ⟨u0, u1, u2, -⟩ := ((second w (.cells #[.int .i64 a.k, .int .i64 a.n, .string a.t] 23) [.int .i64 b.k, .int .i64 b.n, .string b.t] 23).1.on_alloc (.cells #[.int .i64 0, .int .i64 0, .string ⟨#[]⟩] 23)).three
  obtain ⟨xk, xn, xt⟩ := x
  obtain rfl : xk = 4 := h4
  have HN : Hid (∀ A2 w1, Below w.heap.size w w1 → ValsR w1 A2 2 [a, b] → Calls Tryz.prog 84 #[.slice A2 2 2] w1 fun e w' => e = .returned (.tuple #[.slice none 0 0, .agg #[.int .i64 4, .int .i64 xn, .string xt]]) ∧ Below w1.heap.size w1 w') := Lib.hid HN0
  have HI : Hid (∀ w1, Calls Tryz.prog 42 #[.agg #[.int .i64 4, .int .i64 xn, .string xt]] w1 fun e w' => e = .returned (.bool true) ∧ Below w1.heap.size w1 w') := Lib.hid (fun w1 => isfault_v _ _ _ true rfl w1)
  clear HN0
  show Calls Tryz.prog 29 _ w (ValIs 4 xn xt w)
  go_enter Tryz.func29, Tryz.ntmps29
  go_wp2_with fail
  have hz := vals_two (((w.alloc (.cells #[.int .i64 a.k, .int .i64 a.n, .string a.t] 23)).alloc (.cells #[.int .i64 b.k, .int .i64 b.n, .string b.t] 23)).alloc (.cells #[.int .i64 0, .int .i64 0, .string ⟨#[]⟩] 23)) a b fa fb
  rw [show (((w.alloc (.cells #[.int .i64 a.k, .int .i64 a.n, .string a.t] 23)).alloc (.cells #[.int .i64 b.k, .int .i64 b.n, .string b.t] 23)).alloc (.cells #[.int .i64 0, .int .i64 0, .string ⟨#[]⟩] 23)).heap.size = w.heap.size + 1 + 1 + 1 by simp] at hz
  replace h2 := h2.on_alloc (.cells #[.int .i64 a.k, .int .i64 a.n, .string a.t, .int .i64 b.k, .int .i64 b.n, .string b.t] 23)
  replace hb2 := on_alloc hb2 (.cells #[.int .i64 a.k, .int .i64 a.n, .string a.t, .int .i64 b.k, .int .i64 b.n, .string b.t] 23)
  clear y0 y1 y2 u0 u1 u2
  generalize (((w.alloc (.cells #[.int .i64 a.k, .int .i64 a.n, .string a.t] 23)).alloc (.cells #[.int .i64 b.k, .int .i64 b.n, .string b.t] 23)).alloc (.cells #[.int .i64 0, .int .i64 0, .string ⟨#[]⟩] 23)).alloc (.cells #[.int .i64 a.k, .int .i64 a.n, .string a.t, .int .i64 b.k, .int .i64 b.n, .string b.t] 23) = W at *
  refine (HN.out _ _ hb2 hz).mono ?_
  rintro e w1 ⟨rfl, hb1⟩
  replace h2 := h2.on hb1
  replace hb2 := on hb2 hb1
  clear hb1
  replace h2 := h2.on_alloc (.cells #[.int .i64 4, .int .i64 xn, .string xt] 23)
  replace hb2 := on_alloc hb2 (.cells #[.int .i64 4, .int .i64 xn, .string xt] 23)
  have hx := CellsAt.new w1 [.int .i64 4, .int .i64 xn, .string xt] 23
  obtain ⟨x0, x1, x2, -⟩ := hx.three
  go_wp2_with fail
  generalize w1.alloc (.cells #[.int .i64 4, .int .i64 xn, .string xt] 23) = X1 at *
  clear x0 x1 x2
  refine (HI.out _).mono ?_
  rintro e w2 ⟨rfl, hb1⟩
  replace h2 := h2.on hb1
  replace hx := hx.on hb1
  replace hb2 := on hb2 hb1
  clear hb1
  obtain ⟨x0, x1, x2, -⟩ := hx.three
  obtain ⟨⟨g0, p0, p1, p2, q0, q1, q2⟩, ⟨z0, z1, z2⟩, hb3⟩ := val_ends h2 hb2 (Nat.le_add_right _ 2) (.int .i64 4) (.int .i64 xn) (.string xt)
  clear h2 hb2
  go_wp2
  exact bodyPost_ret (v := .agg #[.int .i64 4, .int .i64 xn, .string xt]) (by simp [results, Tryz.results29, go_sem, z0, z1, z2]) rfl ⟨rfl, hb3⟩
set_option maxRecDepth 100000 in
set_option maxHeartbeats 2000000 in
theorem joined_in (a b : Vl) (fa : a.fits) (fb : b.fits) (la lb : List UInt8) (ha9 : la.length ≤ 256) (hb9 : lb.length ≤ 256) (w : World) (HN0 : ∀ A2 w1, Below w.heap.size w w1 → ValsR w1 A2 2 [a, b] → Calls Tryz.prog 84 #[.slice A2 2 2] w1 fun e w' => ∃ A3 c3, e = .returned (.tuple #[.slice A3 2 c3, .agg #[.int .i64 0, .int .i64 0, .string ⟨#[]⟩]]) ∧ StrsO w' A3 [la, lb] ∧ Below w1.heap.size w1 w') :
    Calls Tryz.prog 29 #[.agg #[.int .i64 a.k, .int .i64 a.n, .string a.t], .agg #[.int .i64 b.k, .int .i64 b.n, .string b.t]] w (IsV (tV (Txt.roomD (la ++ lb))) w) := by
  obtain ⟨h2, hb2⟩ := third w (.cells #[.int .i64 a.k, .int .i64 a.n, .string a.t] 23) (.cells #[.int .i64 b.k, .int .i64 b.n, .string b.t] 23) [.int .i64 0, .int .i64 0, .string ⟨#[]⟩] 23
  obtain ⟨y0, y1, y2, -⟩ := (((CellsAt.new w [.int .i64 a.k, .int .i64 a.n, .string a.t] 23).on_alloc (.cells #[.int .i64 b.k, .int .i64 b.n, .string b.t] 23)).on_alloc (.cells #[.int .i64 0, .int .i64 0, .string ⟨#[]⟩] 23)).three
  obtain ⟨u0, u1, u2, -⟩ := ((second w (.cells #[.int .i64 a.k, .int .i64 a.n, .string a.t] 23) [.int .i64 b.k, .int .i64 b.n, .string b.t] 23).1.on_alloc (.cells #[.int .i64 0, .int .i64 0, .string ⟨#[]⟩] 23)).three
  have HN := Lib.hid HN0
  have HI : Hid (∀ w1, Calls Tryz.prog 42 #[.agg #[.int .i64 0, .int .i64 0, .string ⟨#[]⟩]] w1 fun e w' => e = .returned (.bool false) ∧ Below w1.heap.size w1 w') := Lib.hid (fun w1 => isfault_v _ _ _ false rfl w1)
  obtain ⟨⟨m, k⟩, hd⟩ : ∃ y, Txt.roomD (la ++ lb) = y := ⟨_, rfl⟩
  have hl : m.length ≤ 256 := Txt.room_len hd
  have HA : Hid (∀ A2 c2 w1, StrsO w1 A2 [la, lb] → Calls Tryz.prog 86 #[.slice A2 2 c2] w1 fun e w' => e = .returned (.tuple #[.string ⟨m.toArray⟩, .bool k]) ∧ w1 = w') := Lib.hid (fun A2 c2 w1 hs => Txt.join_c A2 c2 2 [la, lb] rfl (by omega) (fun x hx => by
    rcases List.mem_cons.1 hx with rfl | hx
    · omega
    · rw [List.mem_singleton] at hx
      rw [hx]; omega) m k (by simpa using hd) w1 hs)
  rw [hd]
  clear hd
  have HZ : Hid (∀ w1, Calls Tryz.prog 85 #[.string ⟨m.toArray⟩, .bool k] w1 (IsV (tV (m, k)) w1)) := Lib.hid (fun w1 => worded_v m k hl w1)
  obtain ⟨⟨c0, d0, e0⟩, hz9⟩ : ∃ v, (tV (m, k)) = v := ⟨_, rfl⟩
  rw [hz9] at HZ ⊢
  have HZ2 : Hid (∀ w1, Calls Tryz.prog 85 #[.string ⟨m.toArray⟩, .bool k] w1 (ValIs c0 d0 e0 w1)) := HZ
  clear HZ hz9 HN0
  show Calls Tryz.prog 29 _ w (ValIs c0 d0 e0 w)
  go_enter Tryz.func29, Tryz.ntmps29
  go_wp2_with fail
  have hz := vals_two (((w.alloc (.cells #[.int .i64 a.k, .int .i64 a.n, .string a.t] 23)).alloc (.cells #[.int .i64 b.k, .int .i64 b.n, .string b.t] 23)).alloc (.cells #[.int .i64 0, .int .i64 0, .string ⟨#[]⟩] 23)) a b fa fb
  rw [show (((w.alloc (.cells #[.int .i64 a.k, .int .i64 a.n, .string a.t] 23)).alloc (.cells #[.int .i64 b.k, .int .i64 b.n, .string b.t] 23)).alloc (.cells #[.int .i64 0, .int .i64 0, .string ⟨#[]⟩] 23)).heap.size = w.heap.size + 1 + 1 + 1 by simp] at hz
  replace h2 := h2.on_alloc (.cells #[.int .i64 a.k, .int .i64 a.n, .string a.t, .int .i64 b.k, .int .i64 b.n, .string b.t] 23)
  replace hb2 := on_alloc hb2 (.cells #[.int .i64 a.k, .int .i64 a.n, .string a.t, .int .i64 b.k, .int .i64 b.n, .string b.t] 23)
  clear y0 y1 y2 u0 u1 u2
  generalize (((w.alloc (.cells #[.int .i64 a.k, .int .i64 a.n, .string a.t] 23)).alloc (.cells #[.int .i64 b.k, .int .i64 b.n, .string b.t] 23)).alloc (.cells #[.int .i64 0, .int .i64 0, .string ⟨#[]⟩] 23)).alloc (.cells #[.int .i64 a.k, .int .i64 a.n, .string a.t, .int .i64 b.k, .int .i64 b.n, .string b.t] 23) = W at *
  refine (HN.out _ _ hb2 hz).mono ?_
  rintro e w1 ⟨A2, c2, rfl, hr, hb1⟩
  replace h2 := (h2.on hb1).on_alloc (.cells #[.int .i64 0, .int .i64 0, .string ⟨#[]⟩] 23)
  replace hb2 := on_alloc (on hb2 hb1) (.cells #[.int .i64 0, .int .i64 0, .string ⟨#[]⟩] 23)
  replace hr := hr.on (below1 w1 (.cells #[.int .i64 0, .int .i64 0, .string ⟨#[]⟩] 23))
  clear hb1 hz
  obtain ⟨x0, x1, x2, -⟩ := (CellsAt.new w1 [.int .i64 0, .int .i64 0, .string ⟨#[]⟩] 23).three
  go_wp2_with fail
  generalize w1.alloc (.cells #[.int .i64 0, .int .i64 0, .string ⟨#[]⟩] 23) = X1 at *
  refine (HI.out _).mono ?_
  rintro e w2 ⟨rfl, hb1⟩
  replace h2 := h2.on hb1
  replace hb2 := on hb2 hb1
  replace hr := hr.on hb1
  clear x0 x1 x2 hb1 HN HI
  go_wp2_with fail
  refine (HA.out _ _ _ hr).mono ?_
  rintro e w3 ⟨rfl, rfl⟩
  clear hr HA
  go_wp2_with fail
  refine (HZ2.out _).mono ?_
  rintro e w4 ⟨rfl, hb1⟩
  replace h2 := h2.on hb1
  replace hb2 := on hb2 hb1
  clear hb1
  obtain ⟨⟨g0, p0, p1, p2, q0, q1, q2⟩, ⟨z0, z1, z2⟩, hb3⟩ := val_ends h2 hb2 (Nat.le_add_right _ 2) (.int .i64 c0) (.int .i64 d0) (.string e0)
  clear h2 hb2
  go_wp2
  exact bodyPost_ret (v := .agg #[.int .i64 c0, .int .i64 d0, .string e0]) (by simp [results, Tryz.results29, go_sem, z0, z1, z2]) rfl ⟨rfl, hb3⟩
set_option maxRecDepth 100000 in
set_option maxHeartbeats 2000000 in
theorem compared_a (op : Int) (ak an : Int) (at_ : ByteArray) (bk bn : Int) (bt : ByteArray) (a4 : ak = 4) (w : World) : Calls Tryz.prog 30 #[.int .i64 op, .agg #[.int .i64 ak, .int .i64 an, .string at_], .agg #[.int .i64 bk, .int .i64 bn, .string bt]] w (IsV (⟨ak, an, at_⟩) w) := by
  obtain ⟨h2, hb2⟩ := third w (.cells #[.int .i64 ak, .int .i64 an, .string at_] 23) (.cells #[.int .i64 bk, .int .i64 bn, .string bt] 23) [.int .i64 0, .int .i64 0, .string ⟨#[]⟩] 23
  have ha := ((CellsAt.new w [.int .i64 ak, .int .i64 an, .string at_] 23).on_alloc (.cells #[.int .i64 bk, .int .i64 bn, .string bt] 23)).on_alloc (.cells #[.int .i64 0, .int .i64 0, .string ⟨#[]⟩] 23)
  have hc := (second w (.cells #[.int .i64 ak, .int .i64 an, .string at_] 23) [.int .i64 bk, .int .i64 bn, .string bt] 23).1.on_alloc (.cells #[.int .i64 0, .int .i64 0, .string ⟨#[]⟩] 23)
  subst a4
  have HI : Hid (∀ w1, Calls Tryz.prog 42 #[.agg #[.int .i64 4, .int .i64 an, .string at_]] w1 fun e w' => e = .returned (.bool true) ∧ Below w1.heap.size w1 w') := Lib.hid (fun w1 => isfault_v _ _ _ true rfl w1)
  show Calls Tryz.prog 30 _ w (ValIs 4 an at_ w)
  obtain ⟨y0, y1, y2, -⟩ := ha.three
  go_enter Tryz.func30, Tryz.ntmps30
  go_wp2_with fail
  generalize ((w.alloc (.cells #[.int .i64 4, .int .i64 an, .string at_] 23)).alloc (.cells #[.int .i64 bk, .int .i64 bn, .string bt] 23)).alloc (.cells #[.int .i64 0, .int .i64 0, .string ⟨#[]⟩] 23) = W at *
  clear y0 y1 y2
  refine (HI.out _).mono ?_
  rintro e w1 ⟨rfl, hb1⟩
  replace h2 := h2.on hb1
  replace ha := ha.on hb1
  replace hb2 := on hb2 hb1
  clear hb1
  clear hc
  obtain ⟨y0, y1, y2, -⟩ := ha.three
  obtain ⟨⟨g0, p0, p1, p2, q0, q1, q2⟩, ⟨z0, z1, z2⟩, hb3⟩ := val_ends h2 hb2 (Nat.le_add_right _ 2) (.int .i64 4) (.int .i64 an) (.string at_)
  clear h2 hb2
  go_wp2
  exact bodyPost_ret (v := .agg #[.int .i64 4, .int .i64 an, .string at_]) (by simp [results, Tryz.results30, go_sem, z0, z1, z2]) rfl ⟨rfl, hb3⟩
set_option maxRecDepth 100000 in
set_option maxHeartbeats 2000000 in
theorem compared_b (op : Int) (ak an : Int) (at_ : ByteArray) (bk bn : Int) (bt : ByteArray) (a4 : ¬ ak = 4) (b4 : bk = 4) (w : World) : Calls Tryz.prog 30 #[.int .i64 op, .agg #[.int .i64 ak, .int .i64 an, .string at_], .agg #[.int .i64 bk, .int .i64 bn, .string bt]] w (IsV (⟨bk, bn, bt⟩) w) := by
  obtain ⟨h2, hb2⟩ := third w (.cells #[.int .i64 ak, .int .i64 an, .string at_] 23) (.cells #[.int .i64 bk, .int .i64 bn, .string bt] 23) [.int .i64 0, .int .i64 0, .string ⟨#[]⟩] 23
  have ha := ((CellsAt.new w [.int .i64 ak, .int .i64 an, .string at_] 23).on_alloc (.cells #[.int .i64 bk, .int .i64 bn, .string bt] 23)).on_alloc (.cells #[.int .i64 0, .int .i64 0, .string ⟨#[]⟩] 23)
  have hc := (second w (.cells #[.int .i64 ak, .int .i64 an, .string at_] 23) [.int .i64 bk, .int .i64 bn, .string bt] 23).1.on_alloc (.cells #[.int .i64 0, .int .i64 0, .string ⟨#[]⟩] 23)
  subst b4
  have HI : Hid (∀ w1, Calls Tryz.prog 42 #[.agg #[.int .i64 ak, .int .i64 an, .string at_]] w1 fun e w' => e = .returned (.bool false) ∧ Below w1.heap.size w1 w') := Lib.hid (fun w1 => isfault_v _ _ _ false (beq_eq_false_iff_ne.2 a4) w1)
  have HJ : Hid (∀ w1, Calls Tryz.prog 42 #[.agg #[.int .i64 4, .int .i64 bn, .string bt]] w1 fun e w' => e = .returned (.bool true) ∧ Below w1.heap.size w1 w') := Lib.hid (fun w1 => isfault_v _ _ _ true rfl w1)
  show Calls Tryz.prog 30 _ w (ValIs 4 bn bt w)
  obtain ⟨y0, y1, y2, -⟩ := ha.three
  go_enter Tryz.func30, Tryz.ntmps30
  go_wp2_with fail
  generalize ((w.alloc (.cells #[.int .i64 ak, .int .i64 an, .string at_] 23)).alloc (.cells #[.int .i64 4, .int .i64 bn, .string bt] 23)).alloc (.cells #[.int .i64 0, .int .i64 0, .string ⟨#[]⟩] 23) = W at *
  clear y0 y1 y2
  refine (HI.out _).mono ?_
  rintro e w1 ⟨rfl, hb1⟩
  replace h2 := h2.on hb1
  replace hc := hc.on hb1
  replace hb2 := on hb2 hb1
  clear hb1
  clear ha
  obtain ⟨y0, y1, y2, -⟩ := hc.three
  go_wp2_with fail
  refine (HJ.out _).mono ?_
  rintro e w2 ⟨rfl, hb1⟩
  replace h2 := h2.on hb1
  replace hc := hc.on hb1
  replace hb2 := on hb2 hb1
  clear hb1
  clear y0 y1 y2
  obtain ⟨y0, y1, y2, -⟩ := hc.three
  obtain ⟨⟨g0, p0, p1, p2, q0, q1, q2⟩, ⟨z0, z1, z2⟩, hb3⟩ := val_ends h2 hb2 (Nat.le_add_right _ 2) (.int .i64 4) (.int .i64 bn) (.string bt)
  clear h2 hb2
  go_wp2
  exact bodyPost_ret (v := .agg #[.int .i64 4, .int .i64 bn, .string bt]) (by simp [results, Tryz.results30, go_sem, z0, z1, z2]) rfl ⟨rfl, hb3⟩
set_option maxRecDepth 100000 in
set_option maxHeartbeats 2000000 in
theorem compared_EQ (ak an : Int) (at_ : ByteArray) (bk bn : Int) (bt : ByteArray) (a4 : ¬ ak = 4) (b4 : ¬ bk = 4) (r : Int) (hr : r = -1 ∨ r = 0 ∨ r = 1) (w : World) (HC0 : ∀ w1, Below w.heap.size w w1 → Calls Tryz.prog 87 #[.agg #[.int .i64 ak, .int .i64 an, .string at_], .agg #[.int .i64 bk, .int .i64 bn, .string bt]] w1 fun e w' => e = .returned (.int .i64 r) ∧ Below w1.heap.size w1 w') : Calls Tryz.prog 30 #[.int .i64 7, .agg #[.int .i64 ak, .int .i64 an, .string at_], .agg #[.int .i64 bk, .int .i64 bn, .string bt]] w (IsV (bV (truthC 6 r)) w) := by
  obtain ⟨h2, hb2⟩ := third w (.cells #[.int .i64 ak, .int .i64 an, .string at_] 23) (.cells #[.int .i64 bk, .int .i64 bn, .string bt] 23) [.int .i64 0, .int .i64 0, .string ⟨#[]⟩] 23
  have ha := ((CellsAt.new w [.int .i64 ak, .int .i64 an, .string at_] 23).on_alloc (.cells #[.int .i64 bk, .int .i64 bn, .string bt] 23)).on_alloc (.cells #[.int .i64 0, .int .i64 0, .string ⟨#[]⟩] 23)
  have hc := (second w (.cells #[.int .i64 ak, .int .i64 an, .string at_] 23) [.int .i64 bk, .int .i64 bn, .string bt] 23).1.on_alloc (.cells #[.int .i64 0, .int .i64 0, .string ⟨#[]⟩] 23)
  have HC := Lib.hid HC0
  have HI : Hid (∀ w1, Calls Tryz.prog 42 #[.agg #[.int .i64 ak, .int .i64 an, .string at_]] w1 fun e w' => e = .returned (.bool false) ∧ Below w1.heap.size w1 w') := Lib.hid (fun w1 => isfault_v _ _ _ false (beq_eq_false_iff_ne.2 a4) w1)
  have HJ : Hid (∀ w1, Calls Tryz.prog 42 #[.agg #[.int .i64 bk, .int .i64 bn, .string bt]] w1 fun e w' => e = .returned (.bool false) ∧ Below w1.heap.size w1 w') := Lib.hid (fun w1 => isfault_v _ _ _ false (beq_eq_false_iff_ne.2 b4) w1)
  clear HC0 a4 b4
  obtain ⟨y0, y1, y2, -⟩ := ha.three
  obtain ⟨t0, t1, t2, -⟩ := hc.three
  go_enter Tryz.func30, Tryz.ntmps30
  go_wp2_with fail
  generalize ((w.alloc (.cells #[.int .i64 ak, .int .i64 an, .string at_] 23)).alloc (.cells #[.int .i64 bk, .int .i64 bn, .string bt] 23)).alloc (.cells #[.int .i64 0, .int .i64 0, .string ⟨#[]⟩] 23) = W at *
  refine (HI.out _).mono ?_
  rintro e w1 ⟨rfl, hb1⟩
  replace h2 := h2.on hb1
  replace ha := ha.on hb1
  replace hc := hc.on hb1
  replace hb2 := on hb2 hb1
  clear hb1
  clear y0 y1 y2 t0 t1 t2
  obtain ⟨y0, y1, y2, -⟩ := ha.three
  obtain ⟨t0, t1, t2, -⟩ := hc.three
  go_wp2_with fail
  refine (HJ.out _).mono ?_
  rintro e w2 ⟨rfl, hb1⟩
  replace h2 := h2.on hb1
  replace ha := ha.on hb1
  replace hc := hc.on hb1
  replace hb2 := on hb2 hb1
  clear hb1
  clear y0 y1 y2 t0 t1 t2
  obtain ⟨y0, y1, y2, -⟩ := ha.three
  obtain ⟨t0, t1, t2, -⟩ := hc.three
  go_wp2_with fail
  refine (HC.out _ hb2).mono ?_
  rintro e w3 ⟨rfl, hb1⟩
  replace h2 := h2.on hb1
  replace hb2 := on hb2 hb1
  clear hb1
  clear y0 y1 y2 t0 t1 t2 ha hc HI HJ HC
  rcases hr with rfl | rfl | rfl
  · have HZ : Hid (∀ w1, Calls Tryz.prog 27 #[.bool false] w1 (ValIs 3 0 ⟨#[]⟩ w1)) := Lib.hid (fun w1 => bool_c false w1)
    rw [show bV (truthC 6 (-1)) = ⟨3, 0, ⟨#[]⟩⟩ by rfl]
    go_wp2_with fail
    refine (HZ.out _).mono ?_
    rintro e w4 ⟨rfl, hb1⟩
    replace h2 := h2.on hb1
    replace hb2 := on hb2 hb1
    clear hb1
    obtain ⟨⟨g0, p0, p1, p2, q0, q1, q2⟩, ⟨z0, z1, z2⟩, hb3⟩ := val_ends h2 hb2 (Nat.le_add_right _ 2) (.int .i64 3) (.int .i64 0) (.string ⟨#[]⟩)
    clear h2 hb2
    go_wp2
    exact bodyPost_ret (v := .agg #[.int .i64 3, .int .i64 0, .string ⟨#[]⟩]) (by simp [results, Tryz.results30, go_sem, z0, z1, z2]) rfl ⟨rfl, hb3⟩
  · have HZ : Hid (∀ w1, Calls Tryz.prog 27 #[.bool true] w1 (ValIs 3 1 ⟨#[]⟩ w1)) := Lib.hid (fun w1 => bool_c true w1)
    rw [show bV (truthC 6 (0)) = ⟨3, 1, ⟨#[]⟩⟩ by rfl]
    go_wp2_with fail
    refine (HZ.out _).mono ?_
    rintro e w4 ⟨rfl, hb1⟩
    replace h2 := h2.on hb1
    replace hb2 := on hb2 hb1
    clear hb1
    obtain ⟨⟨g0, p0, p1, p2, q0, q1, q2⟩, ⟨z0, z1, z2⟩, hb3⟩ := val_ends h2 hb2 (Nat.le_add_right _ 2) (.int .i64 3) (.int .i64 1) (.string ⟨#[]⟩)
    clear h2 hb2
    go_wp2
    exact bodyPost_ret (v := .agg #[.int .i64 3, .int .i64 1, .string ⟨#[]⟩]) (by simp [results, Tryz.results30, go_sem, z0, z1, z2]) rfl ⟨rfl, hb3⟩
  · have HZ : Hid (∀ w1, Calls Tryz.prog 27 #[.bool false] w1 (ValIs 3 0 ⟨#[]⟩ w1)) := Lib.hid (fun w1 => bool_c false w1)
    rw [show bV (truthC 6 (1)) = ⟨3, 0, ⟨#[]⟩⟩ by rfl]
    go_wp2_with fail
    refine (HZ.out _).mono ?_
    rintro e w4 ⟨rfl, hb1⟩
    replace h2 := h2.on hb1
    replace hb2 := on hb2 hb1
    clear hb1
    obtain ⟨⟨g0, p0, p1, p2, q0, q1, q2⟩, ⟨z0, z1, z2⟩, hb3⟩ := val_ends h2 hb2 (Nat.le_add_right _ 2) (.int .i64 3) (.int .i64 0) (.string ⟨#[]⟩)
    clear h2 hb2
    go_wp2
    exact bodyPost_ret (v := .agg #[.int .i64 3, .int .i64 0, .string ⟨#[]⟩]) (by simp [results, Tryz.results30, go_sem, z0, z1, z2]) rfl ⟨rfl, hb3⟩
set_option maxRecDepth 100000 in
set_option maxHeartbeats 2000000 in
theorem compared_NE (ak an : Int) (at_ : ByteArray) (bk bn : Int) (bt : ByteArray) (a4 : ¬ ak = 4) (b4 : ¬ bk = 4) (r : Int) (hr : r = -1 ∨ r = 0 ∨ r = 1) (w : World) (HC0 : ∀ w1, Below w.heap.size w w1 → Calls Tryz.prog 87 #[.agg #[.int .i64 ak, .int .i64 an, .string at_], .agg #[.int .i64 bk, .int .i64 bn, .string bt]] w1 fun e w' => e = .returned (.int .i64 r) ∧ Below w1.heap.size w1 w') : Calls Tryz.prog 30 #[.int .i64 8, .agg #[.int .i64 ak, .int .i64 an, .string at_], .agg #[.int .i64 bk, .int .i64 bn, .string bt]] w (IsV (bV (truthC 7 r)) w) := by
  obtain ⟨h2, hb2⟩ := third w (.cells #[.int .i64 ak, .int .i64 an, .string at_] 23) (.cells #[.int .i64 bk, .int .i64 bn, .string bt] 23) [.int .i64 0, .int .i64 0, .string ⟨#[]⟩] 23
  have ha := ((CellsAt.new w [.int .i64 ak, .int .i64 an, .string at_] 23).on_alloc (.cells #[.int .i64 bk, .int .i64 bn, .string bt] 23)).on_alloc (.cells #[.int .i64 0, .int .i64 0, .string ⟨#[]⟩] 23)
  have hc := (second w (.cells #[.int .i64 ak, .int .i64 an, .string at_] 23) [.int .i64 bk, .int .i64 bn, .string bt] 23).1.on_alloc (.cells #[.int .i64 0, .int .i64 0, .string ⟨#[]⟩] 23)
  have HC := Lib.hid HC0
  have HI : Hid (∀ w1, Calls Tryz.prog 42 #[.agg #[.int .i64 ak, .int .i64 an, .string at_]] w1 fun e w' => e = .returned (.bool false) ∧ Below w1.heap.size w1 w') := Lib.hid (fun w1 => isfault_v _ _ _ false (beq_eq_false_iff_ne.2 a4) w1)
  have HJ : Hid (∀ w1, Calls Tryz.prog 42 #[.agg #[.int .i64 bk, .int .i64 bn, .string bt]] w1 fun e w' => e = .returned (.bool false) ∧ Below w1.heap.size w1 w') := Lib.hid (fun w1 => isfault_v _ _ _ false (beq_eq_false_iff_ne.2 b4) w1)
  clear HC0 a4 b4
  obtain ⟨y0, y1, y2, -⟩ := ha.three
  obtain ⟨t0, t1, t2, -⟩ := hc.three
  go_enter Tryz.func30, Tryz.ntmps30
  go_wp2_with fail
  generalize ((w.alloc (.cells #[.int .i64 ak, .int .i64 an, .string at_] 23)).alloc (.cells #[.int .i64 bk, .int .i64 bn, .string bt] 23)).alloc (.cells #[.int .i64 0, .int .i64 0, .string ⟨#[]⟩] 23) = W at *
  refine (HI.out _).mono ?_
  rintro e w1 ⟨rfl, hb1⟩
  replace h2 := h2.on hb1
  replace ha := ha.on hb1
  replace hc := hc.on hb1
  replace hb2 := on hb2 hb1
  clear hb1
  clear y0 y1 y2 t0 t1 t2
  obtain ⟨y0, y1, y2, -⟩ := ha.three
  obtain ⟨t0, t1, t2, -⟩ := hc.three
  go_wp2_with fail
  refine (HJ.out _).mono ?_
  rintro e w2 ⟨rfl, hb1⟩
  replace h2 := h2.on hb1
  replace ha := ha.on hb1
  replace hc := hc.on hb1
  replace hb2 := on hb2 hb1
  clear hb1
  clear y0 y1 y2 t0 t1 t2
  obtain ⟨y0, y1, y2, -⟩ := ha.three
  obtain ⟨t0, t1, t2, -⟩ := hc.three
  go_wp2_with fail
  refine (HC.out _ hb2).mono ?_
  rintro e w3 ⟨rfl, hb1⟩
  replace h2 := h2.on hb1
  replace hb2 := on hb2 hb1
  clear hb1
  clear y0 y1 y2 t0 t1 t2 ha hc HI HJ HC
  rcases hr with rfl | rfl | rfl
  · have HZ : Hid (∀ w1, Calls Tryz.prog 27 #[.bool true] w1 (ValIs 3 1 ⟨#[]⟩ w1)) := Lib.hid (fun w1 => bool_c true w1)
    rw [show bV (truthC 7 (-1)) = ⟨3, 1, ⟨#[]⟩⟩ by rfl]
    go_wp2_with fail
    refine (HZ.out _).mono ?_
    rintro e w4 ⟨rfl, hb1⟩
    replace h2 := h2.on hb1
    replace hb2 := on hb2 hb1
    clear hb1
    obtain ⟨⟨g0, p0, p1, p2, q0, q1, q2⟩, ⟨z0, z1, z2⟩, hb3⟩ := val_ends h2 hb2 (Nat.le_add_right _ 2) (.int .i64 3) (.int .i64 1) (.string ⟨#[]⟩)
    clear h2 hb2
    go_wp2
    exact bodyPost_ret (v := .agg #[.int .i64 3, .int .i64 1, .string ⟨#[]⟩]) (by simp [results, Tryz.results30, go_sem, z0, z1, z2]) rfl ⟨rfl, hb3⟩
  · have HZ : Hid (∀ w1, Calls Tryz.prog 27 #[.bool false] w1 (ValIs 3 0 ⟨#[]⟩ w1)) := Lib.hid (fun w1 => bool_c false w1)
    rw [show bV (truthC 7 (0)) = ⟨3, 0, ⟨#[]⟩⟩ by rfl]
    go_wp2_with fail
    refine (HZ.out _).mono ?_
    rintro e w4 ⟨rfl, hb1⟩
    replace h2 := h2.on hb1
    replace hb2 := on hb2 hb1
    clear hb1
    obtain ⟨⟨g0, p0, p1, p2, q0, q1, q2⟩, ⟨z0, z1, z2⟩, hb3⟩ := val_ends h2 hb2 (Nat.le_add_right _ 2) (.int .i64 3) (.int .i64 0) (.string ⟨#[]⟩)
    clear h2 hb2
    go_wp2
    exact bodyPost_ret (v := .agg #[.int .i64 3, .int .i64 0, .string ⟨#[]⟩]) (by simp [results, Tryz.results30, go_sem, z0, z1, z2]) rfl ⟨rfl, hb3⟩
  · have HZ : Hid (∀ w1, Calls Tryz.prog 27 #[.bool true] w1 (ValIs 3 1 ⟨#[]⟩ w1)) := Lib.hid (fun w1 => bool_c true w1)
    rw [show bV (truthC 7 (1)) = ⟨3, 1, ⟨#[]⟩⟩ by rfl]
    go_wp2_with fail
    refine (HZ.out _).mono ?_
    rintro e w4 ⟨rfl, hb1⟩
    replace h2 := h2.on hb1
    replace hb2 := on hb2 hb1
    clear hb1
    obtain ⟨⟨g0, p0, p1, p2, q0, q1, q2⟩, ⟨z0, z1, z2⟩, hb3⟩ := val_ends h2 hb2 (Nat.le_add_right _ 2) (.int .i64 3) (.int .i64 1) (.string ⟨#[]⟩)
    clear h2 hb2
    go_wp2
    exact bodyPost_ret (v := .agg #[.int .i64 3, .int .i64 1, .string ⟨#[]⟩]) (by simp [results, Tryz.results30, go_sem, z0, z1, z2]) rfl ⟨rfl, hb3⟩
set_option maxRecDepth 100000 in
set_option maxHeartbeats 2000000 in
theorem compared_LT (ak an : Int) (at_ : ByteArray) (bk bn : Int) (bt : ByteArray) (a4 : ¬ ak = 4) (b4 : ¬ bk = 4) (r : Int) (hr : r = -1 ∨ r = 0 ∨ r = 1) (w : World) (HC0 : ∀ w1, Below w.heap.size w w1 → Calls Tryz.prog 87 #[.agg #[.int .i64 ak, .int .i64 an, .string at_], .agg #[.int .i64 bk, .int .i64 bn, .string bt]] w1 fun e w' => e = .returned (.int .i64 r) ∧ Below w1.heap.size w1 w') : Calls Tryz.prog 30 #[.int .i64 9, .agg #[.int .i64 ak, .int .i64 an, .string at_], .agg #[.int .i64 bk, .int .i64 bn, .string bt]] w (IsV (bV (truthC 8 r)) w) := by
  obtain ⟨h2, hb2⟩ := third w (.cells #[.int .i64 ak, .int .i64 an, .string at_] 23) (.cells #[.int .i64 bk, .int .i64 bn, .string bt] 23) [.int .i64 0, .int .i64 0, .string ⟨#[]⟩] 23
  have ha := ((CellsAt.new w [.int .i64 ak, .int .i64 an, .string at_] 23).on_alloc (.cells #[.int .i64 bk, .int .i64 bn, .string bt] 23)).on_alloc (.cells #[.int .i64 0, .int .i64 0, .string ⟨#[]⟩] 23)
  have hc := (second w (.cells #[.int .i64 ak, .int .i64 an, .string at_] 23) [.int .i64 bk, .int .i64 bn, .string bt] 23).1.on_alloc (.cells #[.int .i64 0, .int .i64 0, .string ⟨#[]⟩] 23)
  have HC := Lib.hid HC0
  have HI : Hid (∀ w1, Calls Tryz.prog 42 #[.agg #[.int .i64 ak, .int .i64 an, .string at_]] w1 fun e w' => e = .returned (.bool false) ∧ Below w1.heap.size w1 w') := Lib.hid (fun w1 => isfault_v _ _ _ false (beq_eq_false_iff_ne.2 a4) w1)
  have HJ : Hid (∀ w1, Calls Tryz.prog 42 #[.agg #[.int .i64 bk, .int .i64 bn, .string bt]] w1 fun e w' => e = .returned (.bool false) ∧ Below w1.heap.size w1 w') := Lib.hid (fun w1 => isfault_v _ _ _ false (beq_eq_false_iff_ne.2 b4) w1)
  clear HC0 a4 b4
  obtain ⟨y0, y1, y2, -⟩ := ha.three
  obtain ⟨t0, t1, t2, -⟩ := hc.three
  go_enter Tryz.func30, Tryz.ntmps30
  go_wp2_with fail
  generalize ((w.alloc (.cells #[.int .i64 ak, .int .i64 an, .string at_] 23)).alloc (.cells #[.int .i64 bk, .int .i64 bn, .string bt] 23)).alloc (.cells #[.int .i64 0, .int .i64 0, .string ⟨#[]⟩] 23) = W at *
  refine (HI.out _).mono ?_
  rintro e w1 ⟨rfl, hb1⟩
  replace h2 := h2.on hb1
  replace ha := ha.on hb1
  replace hc := hc.on hb1
  replace hb2 := on hb2 hb1
  clear hb1
  clear y0 y1 y2 t0 t1 t2
  obtain ⟨y0, y1, y2, -⟩ := ha.three
  obtain ⟨t0, t1, t2, -⟩ := hc.three
  go_wp2_with fail
  refine (HJ.out _).mono ?_
  rintro e w2 ⟨rfl, hb1⟩
  replace h2 := h2.on hb1
  replace ha := ha.on hb1
  replace hc := hc.on hb1
  replace hb2 := on hb2 hb1
  clear hb1
  clear y0 y1 y2 t0 t1 t2
  obtain ⟨y0, y1, y2, -⟩ := ha.three
  obtain ⟨t0, t1, t2, -⟩ := hc.three
  go_wp2_with fail
  refine (HC.out _ hb2).mono ?_
  rintro e w3 ⟨rfl, hb1⟩
  replace h2 := h2.on hb1
  replace hb2 := on hb2 hb1
  clear hb1
  clear y0 y1 y2 t0 t1 t2 ha hc HI HJ HC
  rcases hr with rfl | rfl | rfl
  · have HZ : Hid (∀ w1, Calls Tryz.prog 27 #[.bool true] w1 (ValIs 3 1 ⟨#[]⟩ w1)) := Lib.hid (fun w1 => bool_c true w1)
    rw [show bV (truthC 8 (-1)) = ⟨3, 1, ⟨#[]⟩⟩ by rfl]
    go_wp2_with fail
    refine (HZ.out _).mono ?_
    rintro e w4 ⟨rfl, hb1⟩
    replace h2 := h2.on hb1
    replace hb2 := on hb2 hb1
    clear hb1
    obtain ⟨⟨g0, p0, p1, p2, q0, q1, q2⟩, ⟨z0, z1, z2⟩, hb3⟩ := val_ends h2 hb2 (Nat.le_add_right _ 2) (.int .i64 3) (.int .i64 1) (.string ⟨#[]⟩)
    clear h2 hb2
    go_wp2
    exact bodyPost_ret (v := .agg #[.int .i64 3, .int .i64 1, .string ⟨#[]⟩]) (by simp [results, Tryz.results30, go_sem, z0, z1, z2]) rfl ⟨rfl, hb3⟩
  · have HZ : Hid (∀ w1, Calls Tryz.prog 27 #[.bool false] w1 (ValIs 3 0 ⟨#[]⟩ w1)) := Lib.hid (fun w1 => bool_c false w1)
    rw [show bV (truthC 8 (0)) = ⟨3, 0, ⟨#[]⟩⟩ by rfl]
    go_wp2_with fail
    refine (HZ.out _).mono ?_
    rintro e w4 ⟨rfl, hb1⟩
    replace h2 := h2.on hb1
    replace hb2 := on hb2 hb1
    clear hb1
    obtain ⟨⟨g0, p0, p1, p2, q0, q1, q2⟩, ⟨z0, z1, z2⟩, hb3⟩ := val_ends h2 hb2 (Nat.le_add_right _ 2) (.int .i64 3) (.int .i64 0) (.string ⟨#[]⟩)
    clear h2 hb2
    go_wp2
    exact bodyPost_ret (v := .agg #[.int .i64 3, .int .i64 0, .string ⟨#[]⟩]) (by simp [results, Tryz.results30, go_sem, z0, z1, z2]) rfl ⟨rfl, hb3⟩
  · have HZ : Hid (∀ w1, Calls Tryz.prog 27 #[.bool false] w1 (ValIs 3 0 ⟨#[]⟩ w1)) := Lib.hid (fun w1 => bool_c false w1)
    rw [show bV (truthC 8 (1)) = ⟨3, 0, ⟨#[]⟩⟩ by rfl]
    go_wp2_with fail
    refine (HZ.out _).mono ?_
    rintro e w4 ⟨rfl, hb1⟩
    replace h2 := h2.on hb1
    replace hb2 := on hb2 hb1
    clear hb1
    obtain ⟨⟨g0, p0, p1, p2, q0, q1, q2⟩, ⟨z0, z1, z2⟩, hb3⟩ := val_ends h2 hb2 (Nat.le_add_right _ 2) (.int .i64 3) (.int .i64 0) (.string ⟨#[]⟩)
    clear h2 hb2
    go_wp2
    exact bodyPost_ret (v := .agg #[.int .i64 3, .int .i64 0, .string ⟨#[]⟩]) (by simp [results, Tryz.results30, go_sem, z0, z1, z2]) rfl ⟨rfl, hb3⟩
set_option maxRecDepth 100000 in
set_option maxHeartbeats 2000000 in
theorem compared_LE (ak an : Int) (at_ : ByteArray) (bk bn : Int) (bt : ByteArray) (a4 : ¬ ak = 4) (b4 : ¬ bk = 4) (r : Int) (hr : r = -1 ∨ r = 0 ∨ r = 1) (w : World) (HC0 : ∀ w1, Below w.heap.size w w1 → Calls Tryz.prog 87 #[.agg #[.int .i64 ak, .int .i64 an, .string at_], .agg #[.int .i64 bk, .int .i64 bn, .string bt]] w1 fun e w' => e = .returned (.int .i64 r) ∧ Below w1.heap.size w1 w') : Calls Tryz.prog 30 #[.int .i64 10, .agg #[.int .i64 ak, .int .i64 an, .string at_], .agg #[.int .i64 bk, .int .i64 bn, .string bt]] w (IsV (bV (truthC 9 r)) w) := by
  obtain ⟨h2, hb2⟩ := third w (.cells #[.int .i64 ak, .int .i64 an, .string at_] 23) (.cells #[.int .i64 bk, .int .i64 bn, .string bt] 23) [.int .i64 0, .int .i64 0, .string ⟨#[]⟩] 23
  have ha := ((CellsAt.new w [.int .i64 ak, .int .i64 an, .string at_] 23).on_alloc (.cells #[.int .i64 bk, .int .i64 bn, .string bt] 23)).on_alloc (.cells #[.int .i64 0, .int .i64 0, .string ⟨#[]⟩] 23)
  have hc := (second w (.cells #[.int .i64 ak, .int .i64 an, .string at_] 23) [.int .i64 bk, .int .i64 bn, .string bt] 23).1.on_alloc (.cells #[.int .i64 0, .int .i64 0, .string ⟨#[]⟩] 23)
  have HC := Lib.hid HC0
  have HI : Hid (∀ w1, Calls Tryz.prog 42 #[.agg #[.int .i64 ak, .int .i64 an, .string at_]] w1 fun e w' => e = .returned (.bool false) ∧ Below w1.heap.size w1 w') := Lib.hid (fun w1 => isfault_v _ _ _ false (beq_eq_false_iff_ne.2 a4) w1)
  have HJ : Hid (∀ w1, Calls Tryz.prog 42 #[.agg #[.int .i64 bk, .int .i64 bn, .string bt]] w1 fun e w' => e = .returned (.bool false) ∧ Below w1.heap.size w1 w') := Lib.hid (fun w1 => isfault_v _ _ _ false (beq_eq_false_iff_ne.2 b4) w1)
  clear HC0 a4 b4
  obtain ⟨y0, y1, y2, -⟩ := ha.three
  obtain ⟨t0, t1, t2, -⟩ := hc.three
  go_enter Tryz.func30, Tryz.ntmps30
  go_wp2_with fail
  generalize ((w.alloc (.cells #[.int .i64 ak, .int .i64 an, .string at_] 23)).alloc (.cells #[.int .i64 bk, .int .i64 bn, .string bt] 23)).alloc (.cells #[.int .i64 0, .int .i64 0, .string ⟨#[]⟩] 23) = W at *
  refine (HI.out _).mono ?_
  rintro e w1 ⟨rfl, hb1⟩
  replace h2 := h2.on hb1
  replace ha := ha.on hb1
  replace hc := hc.on hb1
  replace hb2 := on hb2 hb1
  clear hb1
  clear y0 y1 y2 t0 t1 t2
  obtain ⟨y0, y1, y2, -⟩ := ha.three
  obtain ⟨t0, t1, t2, -⟩ := hc.three
  go_wp2_with fail
  refine (HJ.out _).mono ?_
  rintro e w2 ⟨rfl, hb1⟩
  replace h2 := h2.on hb1
  replace ha := ha.on hb1
  replace hc := hc.on hb1
  replace hb2 := on hb2 hb1
  clear hb1
  clear y0 y1 y2 t0 t1 t2
  obtain ⟨y0, y1, y2, -⟩ := ha.three
  obtain ⟨t0, t1, t2, -⟩ := hc.three
  go_wp2_with fail
  refine (HC.out _ hb2).mono ?_
  rintro e w3 ⟨rfl, hb1⟩
  replace h2 := h2.on hb1
  replace hb2 := on hb2 hb1
  clear hb1
  clear y0 y1 y2 t0 t1 t2 ha hc HI HJ HC
  rcases hr with rfl | rfl | rfl
  · have HZ : Hid (∀ w1, Calls Tryz.prog 27 #[.bool true] w1 (ValIs 3 1 ⟨#[]⟩ w1)) := Lib.hid (fun w1 => bool_c true w1)
    rw [show bV (truthC 9 (-1)) = ⟨3, 1, ⟨#[]⟩⟩ by rfl]
    go_wp2_with fail
    refine (HZ.out _).mono ?_
    rintro e w4 ⟨rfl, hb1⟩
    replace h2 := h2.on hb1
    replace hb2 := on hb2 hb1
    clear hb1
    obtain ⟨⟨g0, p0, p1, p2, q0, q1, q2⟩, ⟨z0, z1, z2⟩, hb3⟩ := val_ends h2 hb2 (Nat.le_add_right _ 2) (.int .i64 3) (.int .i64 1) (.string ⟨#[]⟩)
    clear h2 hb2
    go_wp2
    exact bodyPost_ret (v := .agg #[.int .i64 3, .int .i64 1, .string ⟨#[]⟩]) (by simp [results, Tryz.results30, go_sem, z0, z1, z2]) rfl ⟨rfl, hb3⟩
  · have HZ : Hid (∀ w1, Calls Tryz.prog 27 #[.bool true] w1 (ValIs 3 1 ⟨#[]⟩ w1)) := Lib.hid (fun w1 => bool_c true w1)
    rw [show bV (truthC 9 (0)) = ⟨3, 1, ⟨#[]⟩⟩ by rfl]
    go_wp2_with fail
    refine (HZ.out _).mono ?_
    rintro e w4 ⟨rfl, hb1⟩
    replace h2 := h2.on hb1
    replace hb2 := on hb2 hb1
    clear hb1
    obtain ⟨⟨g0, p0, p1, p2, q0, q1, q2⟩, ⟨z0, z1, z2⟩, hb3⟩ := val_ends h2 hb2 (Nat.le_add_right _ 2) (.int .i64 3) (.int .i64 1) (.string ⟨#[]⟩)
    clear h2 hb2
    go_wp2
    exact bodyPost_ret (v := .agg #[.int .i64 3, .int .i64 1, .string ⟨#[]⟩]) (by simp [results, Tryz.results30, go_sem, z0, z1, z2]) rfl ⟨rfl, hb3⟩
  · have HZ : Hid (∀ w1, Calls Tryz.prog 27 #[.bool false] w1 (ValIs 3 0 ⟨#[]⟩ w1)) := Lib.hid (fun w1 => bool_c false w1)
    rw [show bV (truthC 9 (1)) = ⟨3, 0, ⟨#[]⟩⟩ by rfl]
    go_wp2_with fail
    refine (HZ.out _).mono ?_
    rintro e w4 ⟨rfl, hb1⟩
    replace h2 := h2.on hb1
    replace hb2 := on hb2 hb1
    clear hb1
    obtain ⟨⟨g0, p0, p1, p2, q0, q1, q2⟩, ⟨z0, z1, z2⟩, hb3⟩ := val_ends h2 hb2 (Nat.le_add_right _ 2) (.int .i64 3) (.int .i64 0) (.string ⟨#[]⟩)
    clear h2 hb2
    go_wp2
    exact bodyPost_ret (v := .agg #[.int .i64 3, .int .i64 0, .string ⟨#[]⟩]) (by simp [results, Tryz.results30, go_sem, z0, z1, z2]) rfl ⟨rfl, hb3⟩
set_option maxRecDepth 100000 in
set_option maxHeartbeats 2000000 in
theorem compared_GT (ak an : Int) (at_ : ByteArray) (bk bn : Int) (bt : ByteArray) (a4 : ¬ ak = 4) (b4 : ¬ bk = 4) (r : Int) (hr : r = -1 ∨ r = 0 ∨ r = 1) (w : World) (HC0 : ∀ w1, Below w.heap.size w w1 → Calls Tryz.prog 87 #[.agg #[.int .i64 ak, .int .i64 an, .string at_], .agg #[.int .i64 bk, .int .i64 bn, .string bt]] w1 fun e w' => e = .returned (.int .i64 r) ∧ Below w1.heap.size w1 w') : Calls Tryz.prog 30 #[.int .i64 11, .agg #[.int .i64 ak, .int .i64 an, .string at_], .agg #[.int .i64 bk, .int .i64 bn, .string bt]] w (IsV (bV (truthC 10 r)) w) := by
  obtain ⟨h2, hb2⟩ := third w (.cells #[.int .i64 ak, .int .i64 an, .string at_] 23) (.cells #[.int .i64 bk, .int .i64 bn, .string bt] 23) [.int .i64 0, .int .i64 0, .string ⟨#[]⟩] 23
  have ha := ((CellsAt.new w [.int .i64 ak, .int .i64 an, .string at_] 23).on_alloc (.cells #[.int .i64 bk, .int .i64 bn, .string bt] 23)).on_alloc (.cells #[.int .i64 0, .int .i64 0, .string ⟨#[]⟩] 23)
  have hc := (second w (.cells #[.int .i64 ak, .int .i64 an, .string at_] 23) [.int .i64 bk, .int .i64 bn, .string bt] 23).1.on_alloc (.cells #[.int .i64 0, .int .i64 0, .string ⟨#[]⟩] 23)
  have HC := Lib.hid HC0
  have HI : Hid (∀ w1, Calls Tryz.prog 42 #[.agg #[.int .i64 ak, .int .i64 an, .string at_]] w1 fun e w' => e = .returned (.bool false) ∧ Below w1.heap.size w1 w') := Lib.hid (fun w1 => isfault_v _ _ _ false (beq_eq_false_iff_ne.2 a4) w1)
  have HJ : Hid (∀ w1, Calls Tryz.prog 42 #[.agg #[.int .i64 bk, .int .i64 bn, .string bt]] w1 fun e w' => e = .returned (.bool false) ∧ Below w1.heap.size w1 w') := Lib.hid (fun w1 => isfault_v _ _ _ false (beq_eq_false_iff_ne.2 b4) w1)
  clear HC0 a4 b4
  obtain ⟨y0, y1, y2, -⟩ := ha.three
  obtain ⟨t0, t1, t2, -⟩ := hc.three
  go_enter Tryz.func30, Tryz.ntmps30
  go_wp2_with fail
  generalize ((w.alloc (.cells #[.int .i64 ak, .int .i64 an, .string at_] 23)).alloc (.cells #[.int .i64 bk, .int .i64 bn, .string bt] 23)).alloc (.cells #[.int .i64 0, .int .i64 0, .string ⟨#[]⟩] 23) = W at *
  refine (HI.out _).mono ?_
  rintro e w1 ⟨rfl, hb1⟩
  replace h2 := h2.on hb1
  replace ha := ha.on hb1
  replace hc := hc.on hb1
  replace hb2 := on hb2 hb1
  clear hb1
  clear y0 y1 y2 t0 t1 t2
  obtain ⟨y0, y1, y2, -⟩ := ha.three
  obtain ⟨t0, t1, t2, -⟩ := hc.three
  go_wp2_with fail
  refine (HJ.out _).mono ?_
  rintro e w2 ⟨rfl, hb1⟩
  replace h2 := h2.on hb1
  replace ha := ha.on hb1
  replace hc := hc.on hb1
  replace hb2 := on hb2 hb1
  clear hb1
  clear y0 y1 y2 t0 t1 t2
  obtain ⟨y0, y1, y2, -⟩ := ha.three
  obtain ⟨t0, t1, t2, -⟩ := hc.three
  go_wp2_with fail
  refine (HC.out _ hb2).mono ?_
  rintro e w3 ⟨rfl, hb1⟩
  replace h2 := h2.on hb1
  replace hb2 := on hb2 hb1
  clear hb1
  clear y0 y1 y2 t0 t1 t2 ha hc HI HJ HC
  rcases hr with rfl | rfl | rfl
  · have HZ : Hid (∀ w1, Calls Tryz.prog 27 #[.bool false] w1 (ValIs 3 0 ⟨#[]⟩ w1)) := Lib.hid (fun w1 => bool_c false w1)
    rw [show bV (truthC 10 (-1)) = ⟨3, 0, ⟨#[]⟩⟩ by rfl]
    go_wp2_with fail
    refine (HZ.out _).mono ?_
    rintro e w4 ⟨rfl, hb1⟩
    replace h2 := h2.on hb1
    replace hb2 := on hb2 hb1
    clear hb1
    obtain ⟨⟨g0, p0, p1, p2, q0, q1, q2⟩, ⟨z0, z1, z2⟩, hb3⟩ := val_ends h2 hb2 (Nat.le_add_right _ 2) (.int .i64 3) (.int .i64 0) (.string ⟨#[]⟩)
    clear h2 hb2
    go_wp2
    exact bodyPost_ret (v := .agg #[.int .i64 3, .int .i64 0, .string ⟨#[]⟩]) (by simp [results, Tryz.results30, go_sem, z0, z1, z2]) rfl ⟨rfl, hb3⟩
  · have HZ : Hid (∀ w1, Calls Tryz.prog 27 #[.bool false] w1 (ValIs 3 0 ⟨#[]⟩ w1)) := Lib.hid (fun w1 => bool_c false w1)
    rw [show bV (truthC 10 (0)) = ⟨3, 0, ⟨#[]⟩⟩ by rfl]
    go_wp2_with fail
    refine (HZ.out _).mono ?_
    rintro e w4 ⟨rfl, hb1⟩
    replace h2 := h2.on hb1
    replace hb2 := on hb2 hb1
    clear hb1
    obtain ⟨⟨g0, p0, p1, p2, q0, q1, q2⟩, ⟨z0, z1, z2⟩, hb3⟩ := val_ends h2 hb2 (Nat.le_add_right _ 2) (.int .i64 3) (.int .i64 0) (.string ⟨#[]⟩)
    clear h2 hb2
    go_wp2
    exact bodyPost_ret (v := .agg #[.int .i64 3, .int .i64 0, .string ⟨#[]⟩]) (by simp [results, Tryz.results30, go_sem, z0, z1, z2]) rfl ⟨rfl, hb3⟩
  · have HZ : Hid (∀ w1, Calls Tryz.prog 27 #[.bool true] w1 (ValIs 3 1 ⟨#[]⟩ w1)) := Lib.hid (fun w1 => bool_c true w1)
    rw [show bV (truthC 10 (1)) = ⟨3, 1, ⟨#[]⟩⟩ by rfl]
    go_wp2_with fail
    refine (HZ.out _).mono ?_
    rintro e w4 ⟨rfl, hb1⟩
    replace h2 := h2.on hb1
    replace hb2 := on hb2 hb1
    clear hb1
    obtain ⟨⟨g0, p0, p1, p2, q0, q1, q2⟩, ⟨z0, z1, z2⟩, hb3⟩ := val_ends h2 hb2 (Nat.le_add_right _ 2) (.int .i64 3) (.int .i64 1) (.string ⟨#[]⟩)
    clear h2 hb2
    go_wp2
    exact bodyPost_ret (v := .agg #[.int .i64 3, .int .i64 1, .string ⟨#[]⟩]) (by simp [results, Tryz.results30, go_sem, z0, z1, z2]) rfl ⟨rfl, hb3⟩
set_option maxRecDepth 100000 in
set_option maxHeartbeats 2000000 in
theorem compared_GE (ak an : Int) (at_ : ByteArray) (bk bn : Int) (bt : ByteArray) (a4 : ¬ ak = 4) (b4 : ¬ bk = 4) (r : Int) (hr : r = -1 ∨ r = 0 ∨ r = 1) (w : World) (HC0 : ∀ w1, Below w.heap.size w w1 → Calls Tryz.prog 87 #[.agg #[.int .i64 ak, .int .i64 an, .string at_], .agg #[.int .i64 bk, .int .i64 bn, .string bt]] w1 fun e w' => e = .returned (.int .i64 r) ∧ Below w1.heap.size w1 w') : Calls Tryz.prog 30 #[.int .i64 12, .agg #[.int .i64 ak, .int .i64 an, .string at_], .agg #[.int .i64 bk, .int .i64 bn, .string bt]] w (IsV (bV (truthC 11 r)) w) := by
  obtain ⟨h2, hb2⟩ := third w (.cells #[.int .i64 ak, .int .i64 an, .string at_] 23) (.cells #[.int .i64 bk, .int .i64 bn, .string bt] 23) [.int .i64 0, .int .i64 0, .string ⟨#[]⟩] 23
  have ha := ((CellsAt.new w [.int .i64 ak, .int .i64 an, .string at_] 23).on_alloc (.cells #[.int .i64 bk, .int .i64 bn, .string bt] 23)).on_alloc (.cells #[.int .i64 0, .int .i64 0, .string ⟨#[]⟩] 23)
  have hc := (second w (.cells #[.int .i64 ak, .int .i64 an, .string at_] 23) [.int .i64 bk, .int .i64 bn, .string bt] 23).1.on_alloc (.cells #[.int .i64 0, .int .i64 0, .string ⟨#[]⟩] 23)
  have HC := Lib.hid HC0
  have HI : Hid (∀ w1, Calls Tryz.prog 42 #[.agg #[.int .i64 ak, .int .i64 an, .string at_]] w1 fun e w' => e = .returned (.bool false) ∧ Below w1.heap.size w1 w') := Lib.hid (fun w1 => isfault_v _ _ _ false (beq_eq_false_iff_ne.2 a4) w1)
  have HJ : Hid (∀ w1, Calls Tryz.prog 42 #[.agg #[.int .i64 bk, .int .i64 bn, .string bt]] w1 fun e w' => e = .returned (.bool false) ∧ Below w1.heap.size w1 w') := Lib.hid (fun w1 => isfault_v _ _ _ false (beq_eq_false_iff_ne.2 b4) w1)
  clear HC0 a4 b4
  obtain ⟨y0, y1, y2, -⟩ := ha.three
  obtain ⟨t0, t1, t2, -⟩ := hc.three
  go_enter Tryz.func30, Tryz.ntmps30
  go_wp2_with fail
  generalize ((w.alloc (.cells #[.int .i64 ak, .int .i64 an, .string at_] 23)).alloc (.cells #[.int .i64 bk, .int .i64 bn, .string bt] 23)).alloc (.cells #[.int .i64 0, .int .i64 0, .string ⟨#[]⟩] 23) = W at *
  refine (HI.out _).mono ?_
  rintro e w1 ⟨rfl, hb1⟩
  replace h2 := h2.on hb1
  replace ha := ha.on hb1
  replace hc := hc.on hb1
  replace hb2 := on hb2 hb1
  clear hb1
  clear y0 y1 y2 t0 t1 t2
  obtain ⟨y0, y1, y2, -⟩ := ha.three
  obtain ⟨t0, t1, t2, -⟩ := hc.three
  go_wp2_with fail
  refine (HJ.out _).mono ?_
  rintro e w2 ⟨rfl, hb1⟩
  replace h2 := h2.on hb1
  replace ha := ha.on hb1
  replace hc := hc.on hb1
  replace hb2 := on hb2 hb1
  clear hb1
  clear y0 y1 y2 t0 t1 t2
  obtain ⟨y0, y1, y2, -⟩ := ha.three
  obtain ⟨t0, t1, t2, -⟩ := hc.three
  go_wp2_with fail
  refine (HC.out _ hb2).mono ?_
  rintro e w3 ⟨rfl, hb1⟩
  replace h2 := h2.on hb1
  replace hb2 := on hb2 hb1
  clear hb1
  clear y0 y1 y2 t0 t1 t2 ha hc HI HJ HC
  rcases hr with rfl | rfl | rfl
  · have HZ : Hid (∀ w1, Calls Tryz.prog 27 #[.bool false] w1 (ValIs 3 0 ⟨#[]⟩ w1)) := Lib.hid (fun w1 => bool_c false w1)
    rw [show bV (truthC 11 (-1)) = ⟨3, 0, ⟨#[]⟩⟩ by rfl]
    go_wp2_with fail
    refine (HZ.out _).mono ?_
    rintro e w4 ⟨rfl, hb1⟩
    replace h2 := h2.on hb1
    replace hb2 := on hb2 hb1
    clear hb1
    obtain ⟨⟨g0, p0, p1, p2, q0, q1, q2⟩, ⟨z0, z1, z2⟩, hb3⟩ := val_ends h2 hb2 (Nat.le_add_right _ 2) (.int .i64 3) (.int .i64 0) (.string ⟨#[]⟩)
    clear h2 hb2
    go_wp2
    exact bodyPost_ret (v := .agg #[.int .i64 3, .int .i64 0, .string ⟨#[]⟩]) (by simp [results, Tryz.results30, go_sem, z0, z1, z2]) rfl ⟨rfl, hb3⟩
  · have HZ : Hid (∀ w1, Calls Tryz.prog 27 #[.bool true] w1 (ValIs 3 1 ⟨#[]⟩ w1)) := Lib.hid (fun w1 => bool_c true w1)
    rw [show bV (truthC 11 (0)) = ⟨3, 1, ⟨#[]⟩⟩ by rfl]
    go_wp2_with fail
    refine (HZ.out _).mono ?_
    rintro e w4 ⟨rfl, hb1⟩
    replace h2 := h2.on hb1
    replace hb2 := on hb2 hb1
    clear hb1
    obtain ⟨⟨g0, p0, p1, p2, q0, q1, q2⟩, ⟨z0, z1, z2⟩, hb3⟩ := val_ends h2 hb2 (Nat.le_add_right _ 2) (.int .i64 3) (.int .i64 1) (.string ⟨#[]⟩)
    clear h2 hb2
    go_wp2
    exact bodyPost_ret (v := .agg #[.int .i64 3, .int .i64 1, .string ⟨#[]⟩]) (by simp [results, Tryz.results30, go_sem, z0, z1, z2]) rfl ⟨rfl, hb3⟩
  · have HZ : Hid (∀ w1, Calls Tryz.prog 27 #[.bool true] w1 (ValIs 3 1 ⟨#[]⟩ w1)) := Lib.hid (fun w1 => bool_c true w1)
    rw [show bV (truthC 11 (1)) = ⟨3, 1, ⟨#[]⟩⟩ by rfl]
    go_wp2_with fail
    refine (HZ.out _).mono ?_
    rintro e w4 ⟨rfl, hb1⟩
    replace h2 := h2.on hb1
    replace hb2 := on hb2 hb1
    clear hb1
    obtain ⟨⟨g0, p0, p1, p2, q0, q1, q2⟩, ⟨z0, z1, z2⟩, hb3⟩ := val_ends h2 hb2 (Nat.le_add_right _ 2) (.int .i64 3) (.int .i64 1) (.string ⟨#[]⟩)
    clear h2 hb2
    go_wp2
    exact bodyPost_ret (v := .agg #[.int .i64 3, .int .i64 1, .string ⟨#[]⟩]) (by simp [results, Tryz.results30, go_sem, z0, z1, z2]) rfl ⟨rfl, hb3⟩
set_option maxRecDepth 100000 in
set_option maxHeartbeats 2000000 in
theorem bin_r (op : Int) (ho : op = 1 ∨ op = 2 ∨ op = 3 ∨ op = 4 ∨ op = 5) (ak an : Int) (at_ : ByteArray) (bk bn : Int) (bt : ByteArray) (z : Vl) (w : World) (HZ0 : ∀ w1, Below w.heap.size w w1 → Calls Tryz.prog 28 #[.int .i64 op, .agg #[.int .i64 ak, .int .i64 an, .string at_], .agg #[.int .i64 bk, .int .i64 bn, .string bt]] w1 (IsV z w1)) :
    Calls Tryz.prog 9 #[.int .i64 op, .agg #[.int .i64 ak, .int .i64 an, .string at_], .agg #[.int .i64 bk, .int .i64 bn, .string bt]] w (IsV z w) := by
  obtain ⟨c0, d0, e0⟩ := z
  have HZ : Hid (∀ w1, Below w.heap.size w w1 → Calls Tryz.prog 28 #[.int .i64 op, .agg #[.int .i64 ak, .int .i64 an, .string at_], .agg #[.int .i64 bk, .int .i64 bn, .string bt]] w1 (ValIs c0 d0 e0 w1)) := Lib.hid HZ0
  clear HZ0
  show Calls Tryz.prog 9 _ w (ValIs c0 d0 e0 w)
  obtain ⟨h2, hb2⟩ := third w (.cells #[.int .i64 ak, .int .i64 an, .string at_] 23) (.cells #[.int .i64 bk, .int .i64 bn, .string bt] 23) [.int .i64 0, .int .i64 0, .string ⟨#[]⟩] 23
  obtain ⟨y0, y1, y2, -⟩ := (((CellsAt.new w [.int .i64 ak, .int .i64 an, .string at_] 23).on_alloc (.cells #[.int .i64 bk, .int .i64 bn, .string bt] 23)).on_alloc (.cells #[.int .i64 0, .int .i64 0, .string ⟨#[]⟩] 23)).three
  obtain ⟨t0, t1, t2, -⟩ := ((second w (.cells #[.int .i64 ak, .int .i64 an, .string at_] 23) [.int .i64 bk, .int .i64 bn, .string bt] 23).1.on_alloc (.cells #[.int .i64 0, .int .i64 0, .string ⟨#[]⟩] 23)).three
  rcases ho with rfl | rfl | rfl | rfl | rfl
  all_goals
    go_enter Tryz.func9, Tryz.ntmps9
    go_wp2_with fail
    clear y0 y1 y2 t0 t1 t2
    generalize ((w.alloc (.cells #[.int .i64 ak, .int .i64 an, .string at_] 23)).alloc (.cells #[.int .i64 bk, .int .i64 bn, .string bt] 23)).alloc (.cells #[.int .i64 0, .int .i64 0, .string ⟨#[]⟩] 23) = W at *
    refine (HZ.out _ hb2).mono ?_
    rintro e w1 ⟨rfl, hb1⟩
    replace h2 := h2.on hb1
    replace hb2 := on hb2 hb1
    clear hb1
    obtain ⟨⟨g0, p0, p1, p2, q0, q1, q2⟩, ⟨z0, z1, z2⟩, hb3⟩ := val_ends h2 hb2 (Nat.le_add_right _ 2) (.int .i64 c0) (.int .i64 d0) (.string e0)
    clear h2 hb2
    go_wp2
    exact bodyPost_ret (v := .agg #[.int .i64 c0, .int .i64 d0, .string e0]) (by simp [results, Tryz.results9, go_sem, z0, z1, z2]) rfl ⟨rfl, hb3⟩
set_option maxRecDepth 100000 in
set_option maxHeartbeats 2000000 in
theorem bin_j (ak an : Int) (at_ : ByteArray) (bk bn : Int) (bt : ByteArray) (z : Vl) (w : World) (HZ0 : ∀ w1, Below w.heap.size w w1 → Calls Tryz.prog 29 #[.agg #[.int .i64 ak, .int .i64 an, .string at_], .agg #[.int .i64 bk, .int .i64 bn, .string bt]] w1 (IsV z w1)) :
    Calls Tryz.prog 9 #[.int .i64 6, .agg #[.int .i64 ak, .int .i64 an, .string at_], .agg #[.int .i64 bk, .int .i64 bn, .string bt]] w (IsV z w) := by
  obtain ⟨c0, d0, e0⟩ := z
  have HZ : Hid (∀ w1, Below w.heap.size w w1 → Calls Tryz.prog 29 #[.agg #[.int .i64 ak, .int .i64 an, .string at_], .agg #[.int .i64 bk, .int .i64 bn, .string bt]] w1 (ValIs c0 d0 e0 w1)) := Lib.hid HZ0
  clear HZ0
  show Calls Tryz.prog 9 _ w (ValIs c0 d0 e0 w)
  obtain ⟨h2, hb2⟩ := third w (.cells #[.int .i64 ak, .int .i64 an, .string at_] 23) (.cells #[.int .i64 bk, .int .i64 bn, .string bt] 23) [.int .i64 0, .int .i64 0, .string ⟨#[]⟩] 23
  obtain ⟨y0, y1, y2, -⟩ := (((CellsAt.new w [.int .i64 ak, .int .i64 an, .string at_] 23).on_alloc (.cells #[.int .i64 bk, .int .i64 bn, .string bt] 23)).on_alloc (.cells #[.int .i64 0, .int .i64 0, .string ⟨#[]⟩] 23)).three
  obtain ⟨t0, t1, t2, -⟩ := ((second w (.cells #[.int .i64 ak, .int .i64 an, .string at_] 23) [.int .i64 bk, .int .i64 bn, .string bt] 23).1.on_alloc (.cells #[.int .i64 0, .int .i64 0, .string ⟨#[]⟩] 23)).three
  go_enter Tryz.func9, Tryz.ntmps9
  go_wp2_with fail
  clear y0 y1 y2 t0 t1 t2
  generalize ((w.alloc (.cells #[.int .i64 ak, .int .i64 an, .string at_] 23)).alloc (.cells #[.int .i64 bk, .int .i64 bn, .string bt] 23)).alloc (.cells #[.int .i64 0, .int .i64 0, .string ⟨#[]⟩] 23) = W at *
  refine (HZ.out _ hb2).mono ?_
  rintro e w1 ⟨rfl, hb1⟩
  replace h2 := h2.on hb1
  replace hb2 := on hb2 hb1
  clear hb1
  obtain ⟨⟨g0, p0, p1, p2, q0, q1, q2⟩, ⟨z0, z1, z2⟩, hb3⟩ := val_ends h2 hb2 (Nat.le_add_right _ 2) (.int .i64 c0) (.int .i64 d0) (.string e0)
  clear h2 hb2
  go_wp2
  exact bodyPost_ret (v := .agg #[.int .i64 c0, .int .i64 d0, .string e0]) (by simp [results, Tryz.results9, go_sem, z0, z1, z2]) rfl ⟨rfl, hb3⟩
set_option maxRecDepth 100000 in
set_option maxHeartbeats 2000000 in
theorem bin_cc (op : Int) (ho : op = 7 ∨ op = 8 ∨ op = 9 ∨ op = 10 ∨ op = 11 ∨ op = 12) (ak an : Int) (at_ : ByteArray) (bk bn : Int) (bt : ByteArray) (z : Vl) (w : World) (HZ0 : ∀ w1, Below w.heap.size w w1 → Calls Tryz.prog 30 #[.int .i64 op, .agg #[.int .i64 ak, .int .i64 an, .string at_], .agg #[.int .i64 bk, .int .i64 bn, .string bt]] w1 (IsV z w1)) :
    Calls Tryz.prog 9 #[.int .i64 op, .agg #[.int .i64 ak, .int .i64 an, .string at_], .agg #[.int .i64 bk, .int .i64 bn, .string bt]] w (IsV z w) := by
  obtain ⟨c0, d0, e0⟩ := z
  have HZ : Hid (∀ w1, Below w.heap.size w w1 → Calls Tryz.prog 30 #[.int .i64 op, .agg #[.int .i64 ak, .int .i64 an, .string at_], .agg #[.int .i64 bk, .int .i64 bn, .string bt]] w1 (ValIs c0 d0 e0 w1)) := Lib.hid HZ0
  clear HZ0
  show Calls Tryz.prog 9 _ w (ValIs c0 d0 e0 w)
  obtain ⟨h2, hb2⟩ := third w (.cells #[.int .i64 ak, .int .i64 an, .string at_] 23) (.cells #[.int .i64 bk, .int .i64 bn, .string bt] 23) [.int .i64 0, .int .i64 0, .string ⟨#[]⟩] 23
  obtain ⟨y0, y1, y2, -⟩ := (((CellsAt.new w [.int .i64 ak, .int .i64 an, .string at_] 23).on_alloc (.cells #[.int .i64 bk, .int .i64 bn, .string bt] 23)).on_alloc (.cells #[.int .i64 0, .int .i64 0, .string ⟨#[]⟩] 23)).three
  obtain ⟨t0, t1, t2, -⟩ := ((second w (.cells #[.int .i64 ak, .int .i64 an, .string at_] 23) [.int .i64 bk, .int .i64 bn, .string bt] 23).1.on_alloc (.cells #[.int .i64 0, .int .i64 0, .string ⟨#[]⟩] 23)).three
  rcases ho with rfl | rfl | rfl | rfl | rfl | rfl
  all_goals
    go_enter Tryz.func9, Tryz.ntmps9
    go_wp2_with fail
    clear y0 y1 y2 t0 t1 t2
    generalize ((w.alloc (.cells #[.int .i64 ak, .int .i64 an, .string at_] 23)).alloc (.cells #[.int .i64 bk, .int .i64 bn, .string bt] 23)).alloc (.cells #[.int .i64 0, .int .i64 0, .string ⟨#[]⟩] 23) = W at *
    refine (HZ.out _ hb2).mono ?_
    rintro e w1 ⟨rfl, hb1⟩
    replace h2 := h2.on hb1
    replace hb2 := on hb2 hb1
    clear hb1
    obtain ⟨⟨g0, p0, p1, p2, q0, q1, q2⟩, ⟨z0, z1, z2⟩, hb3⟩ := val_ends h2 hb2 (Nat.le_add_right _ 2) (.int .i64 c0) (.int .i64 d0) (.string e0)
    clear h2 hb2
    go_wp2
    exact bodyPost_ret (v := .agg #[.int .i64 c0, .int .i64 d0, .string e0]) (by simp [results, Tryz.results9, go_sem, z0, z1, z2]) rfl ⟨rfl, hb3⟩
set_option maxRecDepth 100000 in
set_option maxHeartbeats 2000000 in
theorem bin_out (op : Int) (ho : op < 1 ∨ 12 < op) (ak an : Int) (at_ : ByteArray) (bk bn : Int) (bt : ByteArray) (w : World) : Calls Tryz.prog 9 #[.int .i64 op, .agg #[.int .i64 ak, .int .i64 an, .string at_], .agg #[.int .i64 bk, .int .i64 bn, .string bt]] w (IsV (fV 2) w) := by
  have HB := Lib.hid (fun w1 => bad_v 2 (by decide) (by decide) w1)
  show Calls Tryz.prog 9 _ w (ValIs 4 2 ⟨#[]⟩ w)
  obtain ⟨h2, hb2⟩ := third w (.cells #[.int .i64 ak, .int .i64 an, .string at_] 23) (.cells #[.int .i64 bk, .int .i64 bn, .string bt] 23) [.int .i64 0, .int .i64 0, .string ⟨#[]⟩] 23
  obtain ⟨y0, y1, y2, -⟩ := (((CellsAt.new w [.int .i64 ak, .int .i64 an, .string at_] 23).on_alloc (.cells #[.int .i64 bk, .int .i64 bn, .string bt] 23)).on_alloc (.cells #[.int .i64 0, .int .i64 0, .string ⟨#[]⟩] 23)).three
  obtain ⟨t0, t1, t2, -⟩ := ((second w (.cells #[.int .i64 ak, .int .i64 an, .string at_] 23) [.int .i64 bk, .int .i64 bn, .string bt] 23).1.on_alloc (.cells #[.int .i64 0, .int .i64 0, .string ⟨#[]⟩] 23)).three
  have o1 : (op == 1) = false := by rw [beq_eq_false_iff_ne]; omega
  have o2 : (op == 2) = false := by rw [beq_eq_false_iff_ne]; omega
  have o3 : (op == 3) = false := by rw [beq_eq_false_iff_ne]; omega
  have o4 : (op == 4) = false := by rw [beq_eq_false_iff_ne]; omega
  have o5 : (op == 5) = false := by rw [beq_eq_false_iff_ne]; omega
  have o6 : (op == 6) = false := by rw [beq_eq_false_iff_ne]; omega
  have o7 : (op == 7) = false := by rw [beq_eq_false_iff_ne]; omega
  have o8 : (op == 8) = false := by rw [beq_eq_false_iff_ne]; omega
  have o9 : (op == 9) = false := by rw [beq_eq_false_iff_ne]; omega
  have o10 : (op == 10) = false := by rw [beq_eq_false_iff_ne]; omega
  have o11 : (op == 11) = false := by rw [beq_eq_false_iff_ne]; omega
  have o12 : (op == 12) = false := by rw [beq_eq_false_iff_ne]; omega
  go_enter Tryz.func9, Tryz.ntmps9
  go_wp2_with fail
  clear y0 y1 y2 t0 t1 t2
  generalize ((w.alloc (.cells #[.int .i64 ak, .int .i64 an, .string at_] 23)).alloc (.cells #[.int .i64 bk, .int .i64 bn, .string bt] 23)).alloc (.cells #[.int .i64 0, .int .i64 0, .string ⟨#[]⟩] 23) = W at *
  refine (HB.out _).mono ?_
  rintro e w1 ⟨rfl, hb1⟩
  replace h2 := h2.on hb1
  replace hb2 := on hb2 hb1
  clear hb1
  obtain ⟨⟨g0, p0, p1, p2, q0, q1, q2⟩, ⟨z0, z1, z2⟩, hb3⟩ := val_ends h2 hb2 (Nat.le_add_right _ 2) (.int .i64 4) (.int .i64 2) (.string ⟨#[]⟩)
  clear h2 hb2
  go_wp2
  exact bodyPost_ret (v := .agg #[.int .i64 4, .int .i64 2, .string ⟨#[]⟩]) (by simp [results, Tryz.results9, go_sem, z0, z1, z2]) rfl ⟨rfl, hb3⟩
end Go.Proofs.YtebjedbppiphgaaGreatDoor.Cal

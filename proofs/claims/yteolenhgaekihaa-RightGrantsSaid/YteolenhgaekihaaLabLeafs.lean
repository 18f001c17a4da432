/- What the program's small functions on labels answer (May, Below, Join): for every label, whatever its level. -/
import Derived.Test.YteolenhgaekihaaLabDefs
import Derived.Test.YteolenhgaekihaaKit
namespace Go.Proofs.Yteolenhgaekihaa.Lab
open Go.RowKit Kit
open Go.Proofs.Yteolenhgaekihaa.Cats (U U_or withinB andNot_zero_int)

theorem mayL_yes {l : Int} (h0 : 0 ≤ l) (h1 : l ≤ 15) : mayL l = true := by simp [mayL, h0, h1]
theorem mayL_neg {l : Int} (h : l < 0) : mayL l = false := by simp [mayL]; omega
theorem mayL_big {l : Int} (h : 15 < l) : mayL l = false := by simp [mayL]; omega
set_option maxRecDepth 100000 in
set_option maxHeartbeats 1000000 in
theorem may_c (l : Int) (s : Nat) (b : Bool) (hb : mayL l = b) (w : World) : Calls Try.prog 33 #[.agg #[.int .i64 l, .int .u64 s]] w fun e w' => e = .returned (.bool b) ∧ Below w.heap.size w w' := by
  have HB := Lib.hid hb
  clear hb
  by_cases h0 : 0 ≤ l
  · by_cases h1 : l ≤ 15
    · go_enter Try.func33, Try.ntmps33
      go_wp2
      go_ret
      exact ⟨ret_bool (by rw [← HB.out, mayL_yes h0 h1]), below1 _ _⟩
    · go_enter Try.func33, Try.ntmps33
      go_wp2
      go_ret
      exact ⟨ret_bool (by rw [← HB.out, mayL_big (by omega)]), below1 _ _⟩
  · have hd : decide (0 ≤ l) = false := by simpa using h0
    go_enter Try.func33, Try.ntmps33
    go_wp2
    go_ret
    exact ⟨ret_bool (by rw [← HB.out, mayL_neg (by omega)]), below1 _ _⟩
set_option maxRecDepth 100000 in
set_option maxHeartbeats 400000 in
theorem within_c (a b : Nat) (r : Bool) (ha : U a) (hb : U b) (hr : withinB a b = r) (w : World) : Calls Try.prog 37 #[.int .u64 a, .int .u64 b] w fun e w' => e = .returned (.bool r) ∧ w = w' := by
  have HR := Lib.hid hr
  clear hr
  go_enter Try.func37, Try.ntmps37
  go_wp2
  go_ret
  exact ⟨ret_bool (by rw [← HR.out]; exact andNot_zero_int a b ha hb), rfl⟩
set_option maxRecDepth 100000 in
set_option maxHeartbeats 1000000 in
theorem below_c (l1 l2 : Int) (s1 s2 : Nat) (b : Bool) (h1 : U s1) (h2 : U s2) (hb : belowL l1 s1 l2 s2 = b) (w : World) :
    Calls Try.prog 25 #[.agg #[.int .i64 l1, .int .u64 s1], .agg #[.int .i64 l2, .int .u64 s2]] w fun e w' => e = .returned (.bool b) ∧ Below w.heap.size w w' := by
  have HB := Lib.hid hb
  have Hw := Lib.hid (fun w1 => within_c s1 s2 _ h1 h2 rfl w1)
  clear hb h1 h2
  by_cases hl : l1 ≤ l2
  · go_enter Try.func25, Try.ntmps25
    go_wp2_with (go_at_call 37; refine (Hw.out _).mono ?_; rintro e w' ⟨rfl, rfl⟩)
    go_ret
    exact ⟨ret_bool (by rw [← HB.out, belowL]; simp [hl]), below2 _ _ _⟩
  · have hd : decide (l1 ≤ l2) = false := by simpa using hl
    go_enter Try.func25, Try.ntmps25
    go_wp2
    go_ret
    exact ⟨ret_bool (by rw [← HB.out, belowL, hd]; rfl), below2 _ _ _⟩
theorem or_int (a b : Nat) (ha : U a) (hb : U b) : bits .or .u64 (a : Int) (b : Int) = ((a ||| b : Nat) : Int) := u64_or_nat a b ha hb
theorem ret_pair {a b c d : Int} (h : a = c) (k : b = d) : Ending.returned (.agg #[.int .i64 a, .int .u64 b]) = .returned (.agg #[.int .i64 c, .int .u64 d]) := by rw [h, k]
set_option maxRecDepth 100000 in
set_option maxHeartbeats 1000000 in
theorem join_c (l1 l2 : Int) (s1 s2 : Nat) (h1 : U s1) (h2 : U s2) (w : World) :
    Calls Try.prog 24 #[.agg #[.int .i64 l1, .int .u64 s1], .agg #[.int .i64 l2, .int .u64 s2]] w fun e w' => e = .returned (.agg #[.int .i64 (joinI l1 l2), .int .u64 (s1 ||| s2 : Nat)]) ∧ Below w.heap.size w w' := by
  have Hj := Lib.hid (or_int s1 s2 h1 h2)
  clear h1 h2
  go_enter Try.func24, Try.ntmps24
  go_wp2
  · exact bodyPost_ret (v := .agg #[.int .i64 l2, .int .u64 (bits .or .u64 s1 s2)]) (by simp [results, Try.results24, go_sem]) rfl ⟨ret_pair (by unfold joinI; split <;> omega) Hj.out, below3 _ _ _ _⟩
  · exact bodyPost_ret (v := .agg #[.int .i64 l1, .int .u64 (bits .or .u64 s1 s2)]) (by simp [results, Try.results24, go_sem]) rfl ⟨ret_pair (by unfold joinI; split <;> omega) Hj.out, below3 _ _ _ _⟩
end Go.Proofs.Yteolenhgaekihaa.Lab

/- The meet of two labels: plain facts, and what the program's Meet answers. -/
import Derived.Test.YteolenhgaekihaaLabLeafs
namespace Go.Proofs.Yteolenhgaekihaa.Lab
open Go.RowKit Kit
open Go.Proofs.Yteolenhgaekihaa.Cats (U U_or U_and withinB)

def meetI (a b : Int) : Int := if b < a then b else a
theorem meetI_le (a b : Int) : meetI a b ≤ a ∧ meetI a b ≤ b := by unfold meetI; split <;> omega
theorem meet_below_l {la lb : Int} {sa sb : Nat} (ha : U sa) : belowL (meetI la lb) (sa &&& sb) la sa = true :=
  (belowL_iff (U_and sb ha) ha).2 ⟨(meetI_le la lb).1, fun i h => by rw [Nat.testBit_and, Bool.and_eq_true] at h; exact h.1⟩
theorem and_int (a b : Nat) (ha : U a) (hb : U b) : bits .and .u64 (a : Int) (b : Int) = ((a &&& b : Nat) : Int) := u64_and_nat a b ha hb
set_option maxRecDepth 100000 in
set_option maxHeartbeats 1000000 in
theorem meet_c (l1 l2 : Int) (s1 s2 : Nat) (h1 : U s1) (h2 : U s2) (w : World) :
    Calls Try.prog 23 #[.agg #[.int .i64 l1, .int .u64 s1], .agg #[.int .i64 l2, .int .u64 s2]] w fun e w' => e = .returned (.agg #[.int .i64 (meetI l1 l2), .int .u64 (s1 &&& s2 : Nat)]) ∧ Below w.heap.size w w' := by
  have Hj := Lib.hid (and_int s1 s2 h1 h2)
  clear h1 h2
  go_enter Try.func23, Try.ntmps23
  go_wp2
  · exact bodyPost_ret (v := .agg #[.int .i64 l2, .int .u64 (bits .and .u64 s1 s2)]) (by simp [results, Try.results23, go_sem]) rfl ⟨ret_pair (by unfold meetI; split <;> omega) Hj.out, below3 _ _ _ _⟩
  · exact bodyPost_ret (v := .agg #[.int .i64 l1, .int .u64 (bits .and .u64 s1 s2)]) (by simp [results, Try.results23, go_sem]) rfl ⟨ret_pair (by unfold meetI; split <;> omega) Hj.out, below3 _ _ _ _⟩
end Go.Proofs.Yteolenhgaekihaa.Lab

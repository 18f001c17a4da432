/- How far two numbers of 128 bits are from one another, as the law on decimals reckons it. -/
import Derived.Test.YtplaacmieonimaaDecAlive
namespace Go.Proofs.Ytplaacmieonimaa.Dec
open Go.RowKit Kit Reg

set_option maxRecDepth 100000 in
set_option maxHeartbeats 1000000 in
/-- the first is greater by the upper half, one is borrowed -/
theorem apart_n2 (ah al bh bl p q : Nat) (h1 : bh < ah) (h2 : al < bl) (hp : ah - bh = p + 1) (hq : al + 18446744073709551616 - bl = q) (u1 : ah < 18446744073709551616) (u2 : al < 18446744073709551616) (u3 : bh < 18446744073709551616) (u4 : bl < 18446744073709551616) (w : World) :
    Calls Try.prog 21 #[.agg #[.int .u64 ah, .int .u64 al], .agg #[.int .u64 bh, .int .u64 bl]] w fun e w' => e = .returned (.agg #[.int .u64 p, .int .u64 q]) ∧ Below w.heap.size w w' := by
  have t1 : decide (ah < bh) = false := decide_eq_false (by omega)
  have t2 : ((ah : Int) == (bh : Int)) = false := by simp; omega
  have t3 : decide (ah = bh) = false := decide_eq_false (by omega)
  have t5 : decide (al < bl) = true := decide_eq_true (by omega)
  obtain ⟨p1, hp1⟩ : ∃ p1, p + 1 = p1 := ⟨_, rfl⟩
  have s1 : (ah : Int) - (bh : Int) = (p1 : Int) := by omega
  have s2 : IntKind.u64.wrap ((al : Int) - (bl : Int)) = (q : Int) := by rw [IntKind.wrap_u64]; omega
  have s3 : (p1 : Int) - 1 = (p : Int) := by omega
  have v3 : p1 < 18446744073709551616 := by omega
  have v1 : p < 18446744073709551616 := by omega
  have v2 : q < 18446744073709551616 := by omega
  clear hp hq h1 h2 hp1 u1 u2 u3 u4
  go_enter Try.func21, Try.ntmps21
  go_wp2
  exact bodyPost_ret (v := .agg #[.int .u64 p, .int .u64 q]) (by simp [results, Try.results21, go_sem]) rfl ⟨rfl, below4 _ _ _ _ _⟩
set_option maxRecDepth 100000 in
set_option maxHeartbeats 1000000 in
/-- the upper halves are the same, the first is no less -/
theorem apart_n3 (ah al bh bl p q : Nat) (h1 : ah = bh) (h2 : bl ≤ al) (hp : 0 = p) (hq : al - bl = q) (u2 : al < 18446744073709551616) (u4 : bl < 18446744073709551616) (w : World) :
    Calls Try.prog 21 #[.agg #[.int .u64 ah, .int .u64 al], .agg #[.int .u64 bh, .int .u64 bl]] w fun e w' => e = .returned (.agg #[.int .u64 p, .int .u64 q]) ∧ Below w.heap.size w w' := by
  have t1 : decide (ah < bh) = false := decide_eq_false (by omega)
  have t2 : ((ah : Int) == (bh : Int)) = true := by simp; omega
  have t3 : decide (ah = bh) = true := decide_eq_true (by omega)
  have t4 : decide (al < bl) = false := decide_eq_false (by omega)
  have s1 : (ah : Int) - (bh : Int) = (p : Int) := by omega
  have s2 : (al : Int) - (bl : Int) = (q : Int) := by omega
  have v1 : p < 18446744073709551616 := by omega
  have v2 : q < 18446744073709551616 := by omega
  clear hp hq h1 h2 u2 u4
  go_enter Try.func21, Try.ntmps21
  go_wp2
  exact bodyPost_ret (v := .agg #[.int .u64 p, .int .u64 q]) (by simp [results, Try.results21, go_sem]) rfl ⟨rfl, below4 _ _ _ _ _⟩
set_option maxRecDepth 100000 in
set_option maxHeartbeats 1000000 in
/-- the second is greater by the upper half, one is borrowed -/
theorem apart_s2 (ah al bh bl p q : Nat) (h1 : ah < bh) (h2 : bl < al) (hp : bh - ah = p + 1) (hq : bl + 18446744073709551616 - al = q) (u1 : ah < 18446744073709551616) (u2 : al < 18446744073709551616) (u3 : bh < 18446744073709551616) (u4 : bl < 18446744073709551616) (w : World) :
    Calls Try.prog 21 #[.agg #[.int .u64 ah, .int .u64 al], .agg #[.int .u64 bh, .int .u64 bl]] w fun e w' => e = .returned (.agg #[.int .u64 p, .int .u64 q]) ∧ Below w.heap.size w w' := by
  have t1 : decide (ah < bh) = true := decide_eq_true (by omega)
  have t5 : decide (bl < al) = true := decide_eq_true (by omega)
  obtain ⟨p1, hp1⟩ : ∃ p1, p + 1 = p1 := ⟨_, rfl⟩
  have s1 : (bh : Int) - (ah : Int) = (p1 : Int) := by omega
  have s2 : IntKind.u64.wrap ((bl : Int) - (al : Int)) = (q : Int) := by rw [IntKind.wrap_u64]; omega
  have s3 : (p1 : Int) - 1 = (p : Int) := by omega
  have v3 : p1 < 18446744073709551616 := by omega
  have v1 : p < 18446744073709551616 := by omega
  have v2 : q < 18446744073709551616 := by omega
  clear hp hq h1 h2 hp1 u1 u2 u3 u4
  go_enter Try.func21, Try.ntmps21
  go_wp2
  exact bodyPost_ret (v := .agg #[.int .u64 p, .int .u64 q]) (by simp [results, Try.results21, go_sem]) rfl ⟨rfl, below4 _ _ _ _ _⟩
set_option maxRecDepth 100000 in
set_option maxHeartbeats 1000000 in
/-- the upper halves are the same, the first is less -/
theorem apart_s3 (ah al bh bl p q : Nat) (h1 : ah = bh) (h2 : al < bl) (hp : 0 = p) (hq : bl - al = q) (u2 : al < 18446744073709551616) (u4 : bl < 18446744073709551616) (w : World) :
    Calls Try.prog 21 #[.agg #[.int .u64 ah, .int .u64 al], .agg #[.int .u64 bh, .int .u64 bl]] w fun e w' => e = .returned (.agg #[.int .u64 p, .int .u64 q]) ∧ Below w.heap.size w w' := by
  have t1 : decide (ah < bh) = false := decide_eq_false (by omega)
  have t2 : ((ah : Int) == (bh : Int)) = true := by simp; omega
  have t3 : decide (ah = bh) = true := decide_eq_true (by omega)
  have t4 : decide (al < bl) = true := decide_eq_true (by omega)
  have t5 : decide (bl < al) = false := decide_eq_false (by omega)
  have s1 : (bh : Int) - (ah : Int) = (p : Int) := by omega
  have s2 : (bl : Int) - (al : Int) = (q : Int) := by omega
  have v1 : p < 18446744073709551616 := by omega
  have v2 : q < 18446744073709551616 := by omega
  clear hp hq h1 h2 u2 u4
  go_enter Try.func21, Try.ntmps21
  go_wp2
  exact bodyPost_ret (v := .agg #[.int .u64 p, .int .u64 q]) (by simp [results, Try.results21, go_sem]) rfl ⟨rfl, below4 _ _ _ _ _⟩
/-- how far two numbers are from one another -/
def dist (a b : Nat) : Nat := (a - b) + (b - a)
theorem apart_c (ah al bh bl d : Nat) (u1 : ah < 18446744073709551616) (u2 : al < 18446744073709551616) (u3 : bh < 18446744073709551616) (u4 : bl < 18446744073709551616)
    (hd : dist (ah * 18446744073709551616 + al) (bh * 18446744073709551616 + bl) = d) (hl : d < 18446744073709551616) (w : World) :
    Calls Try.prog 21 #[.agg #[.int .u64 ah, .int .u64 al], .agg #[.int .u64 bh, .int .u64 bl]] w fun e w' => e = .returned (.agg #[.int .u64 0, .int .u64 d]) ∧ Below w.heap.size w w' := by
  unfold dist at hd
  by_cases h1 : bh < ah
  · by_cases h2 : bl ≤ al
    · exact absurd hl (by omega)
    · exact apart_n2 ah al bh bl 0 d h1 (by omega) (by omega) (by omega) u1 u2 u3 u4 w
  by_cases h3 : ah < bh
  · by_cases h2 : al ≤ bl
    · exact absurd hl (by omega)
    · exact apart_s2 ah al bh bl 0 d h3 (by omega) (by omega) (by omega) u1 u2 u3 u4 w
  by_cases h2 : bl ≤ al
  · exact apart_n3 ah al bh bl 0 d (by omega) h2 rfl (by omega) u2 u4 w
  · exact apart_s3 ah al bh bl 0 d (by omega) (by omega) rfl (by omega) u2 u4 w
end Go.Proofs.Ytplaacmieonimaa.Dec

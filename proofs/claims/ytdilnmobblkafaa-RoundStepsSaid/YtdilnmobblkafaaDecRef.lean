/- What the reference's May, Abs, Add, Times on decimals answer: for every number of 64 bits. -/
import Derived.Test.YtdilnmobblkafaaDecLeaf
namespace Go.Proofs.Ytdilnmobblkafaa.Dec
open Go.RowKit Kit

/-- a decimal, or that there is none, as the reference tells it -/
def GotIs (n : Int) (k : Bool) (w : World) : Ending → World → Prop := fun e w' => e = .returned (.agg #[.int .i64 n, .bool k]) ∧ Below w.heap.size w w'
set_option maxRecDepth 100000 in
set_option maxHeartbeats 400000 in
theorem rmay_c (x : Int) (b : Bool) (hb : mayD x = b) (w : World) : Calls Try.prog 24 #[.int .i64 x] w fun e w' => e = .returned (.bool b) ∧ w = w' := by
  have HB := Lib.hid hb
  clear hb
  go_enter Try.func24, Try.ntmps24
  go_wp2
  go_ret
  exact ⟨ret_bool (by rw [← HB.out]; rfl), rfl⟩
set_option maxRecDepth 100000 in
set_option maxHeartbeats 400000 in
theorem rabs_c (x : Int) (h1 : -9223372036854775807 ≤ x) (h2 : x ≤ 9223372036854775807) (w : World) : Calls Try.prog 12 #[.int .i64 x] w fun e w' => e = .returned (.int .u64 (x.natAbs : Int)) ∧ w = w' := by
  by_cases h : x < 0
  · go_enter Try.func12, Try.ntmps12
    go_wp2
    go_ret
    exact ⟨ret_u64 (by omega), rfl⟩
  · go_enter Try.func12, Try.ntmps12
    go_wp2
    go_ret
    exact ⟨ret_u64 (by omega), rfl⟩
end Go.Proofs.Ytdilnmobblkafaa.Dec

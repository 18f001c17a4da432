/- What the reference's Less of two cells answers. -/
import Derived.Test.YtkebapdbibdheaaDoorAddrLeaf
namespace Go.Proofs.YtkebapdbibdheaaDoor.Addr
open Go.RowKit Kit

/-- which of two cells stands ahead -/
def lessB (a b c d : Int) : Bool := if a = c then decide (b < d) else decide (a < c)
set_option maxRecDepth 100000 in
set_option maxHeartbeats 1000000 in
theorem rless_c (a b c d : Int) (x : Bool) (hx : lessB a b c d = x) (w : World) : Calls Tryd.prog 22 #[.agg #[.int .i64 a, .int .i64 b], .agg #[.int .i64 c, .int .i64 d]] w fun e w' => e = .returned (.bool x) ∧ Below w.heap.size w w' := by
  have HX := Lib.hid hx
  clear hx
  by_cases h : a = c
  · have hd : (a != c) = false := by simp [h]
    go_enter Tryd.func22, Tryd.ntmps22
    go_wp2
    go_ret
    exact ⟨ret_bool (by rw [← HX.out]; simp [lessB, h]), below2 _ _ _⟩
  · have hd : (a != c) = true := by simp [h]
    go_enter Tryd.func22, Tryd.ntmps22
    go_wp2
    go_ret
    exact ⟨ret_bool (by rw [← HX.out]; simp [lessB, h]), below2 _ _ _⟩
end Go.Proofs.YtkebapdbibdheaaDoor.Addr

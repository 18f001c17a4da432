/- What the check of life of the laws on rounding answers; how a law's call ends. -/
import Derived.Test.YtdilnmobblkafaaRndOdd
import Derived.Test.YtdilnmobblkafaaKit4
namespace Go.Proofs.Ytdilnmobblkafaa.Rnd
open Go.RowKit Kit Dec

/-- what a law's call answers -/
def LawEnd (w : World) : Ending → World → Prop := fun e w' => e = .returned (.bool true) ∧ Below w.heap.size w w'
set_option maxRecDepth 100000 in
set_option maxHeartbeats 400000 in
theorem alive_c (w : World) : Calls Try.prog 11 #[] w fun e w' => e = .returned (.bool true) ∧ w = w' := by
  have C1 := Lib.hid (fun w1 => places_c (-25000) 0 1 (by omega) (by omega) (-30000) true (by decide) w1)
  have C2 := Lib.hid (fun w1 => places_c (-25000) 0 5 (by omega) (by omega) (-20000) true (by decide) w1)
  have C3 := Lib.hid (fun w1 => mod_c (-70000) 30000 (by omega) (by omega) 20000 true (by decide) w1)
  have C4 := Lib.hid (fun w1 => odd_c 20000 (by omega) 30000 true (by decide) w1)
  go_enter Try.func11, Try.ntmps11
  go_wp2_with (first
    | (go_at_call 8; first | ((with_reducible refine (C1.out _).mono ?_); rintro e w' ⟨rfl, rfl⟩) | ((with_reducible refine (C2.out _).mono ?_); rintro e w' ⟨rfl, rfl⟩))
    | (go_at_call 13; refine (C3.out _).mono ?_; rintro e w' ⟨rfl, rfl⟩)
    | (go_at_call 18; refine (C4.out _).mono ?_; rintro e w' ⟨rfl, rfl⟩))
  go_ret
  exact ⟨rfl, rfl⟩
end Go.Proofs.Ytdilnmobblkafaa.Rnd

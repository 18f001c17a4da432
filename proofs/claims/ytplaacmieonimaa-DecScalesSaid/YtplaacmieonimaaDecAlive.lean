/- What the check of life of the laws on decimals answers, and how far two numbers of 128 bits are from one another. -/
import Derived.Test.YtplaacmieonimaaDecScale
import Derived.Test.YtplaacmieonimaaKit4
namespace Go.Proofs.Ytplaacmieonimaa.Dec
open Go.RowKit Kit Reg

set_option maxRecDepth 100000 in
set_option maxHeartbeats 400000 in
theorem alive_c (w : World) : Calls Try.prog 13 #[] w fun e w' => e = .returned (.bool true) ∧ Drawn w w' := by
  have C1 := Lib.hid (fun w1 => mul_c (-15) 5000 (by omega) (by omega) (-8) true (by decide) w1)
  have C2 := Lib.hid (fun w1 => add_c 9223372036854775807 1 (by omega) (by omega) 0 false (by decide) w1)
  have C3 := Lib.hid (fun w1 => div_c 10000 30000 (by omega) (by omega) 3333 true (by decide) w1)
  have C4 := Lib.hid (fun w1 => units_c (-19999) (by omega) (-1) (by decide) w1)
  have C5 := Lib.hid (fun w1 => whole_c 20000 (by omega) true (by decide) w1)
  have C6 := Lib.hid (fun w1 => whole_c 1 (by omega) false (by decide) w1)
  go_enter Try.func13, Try.ntmps13
  go_wp2_with (first
    | (go_at_call 16; refine (C1.out _).mono ?_; rintro e w' ⟨rfl, q, rfl⟩)
    | (go_at_call 7; refine (C2.out _).mono ?_; rintro e w' ⟨rfl, rfl⟩)
    | (go_at_call 18; refine (C3.out _).mono ?_; rintro e w' ⟨rfl, q2, rfl⟩)
    | (go_at_call 24; refine (C4.out _).mono ?_; rintro e w' ⟨rfl, rfl⟩)
    | (go_at_call 25; first | ((with_reducible refine (C5.out _).mono ?_); rintro e w' ⟨rfl, rfl⟩) | ((with_reducible refine (C6.out _).mono ?_); rintro e w' ⟨rfl, rfl⟩)))
  go_ret
  exact ⟨rfl, _, rfl⟩
end Go.Proofs.Ytplaacmieonimaa.Dec

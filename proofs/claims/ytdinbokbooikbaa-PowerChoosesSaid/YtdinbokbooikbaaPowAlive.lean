/- What the check of life of the laws on powers answers; how a law's call ends. -/
import Derived.Test.YtdinbokbooikbaaPowFact
import Derived.Test.YtdinbokbooikbaaKit4
namespace Go.Proofs.Ytdinbokbooikbaa.Pow
open Go.RowKit Kit Dec

/-- what a law's call answers -/
def LawEnd (w : World) : Ending → World → Prop := fun e w' => e = .returned (.bool true) ∧ Below w.heap.size w w'
set_option maxRecDepth 100000 in
set_option maxHeartbeats 400000 in
theorem alive_c (w : World) : Calls Try.prog 9 #[] w fun e w' => e = .returned (.bool true) ∧ Drawn w w' := by
  have C1 := Lib.hid (fun w1 => power_c 15000 20000 (by omega) (by omega) 22500 true (by decide) w1)
  have C2 := Lib.hid (fun w1 => power_c 20000 (-20000) (by omega) (by omega) 2500 true (by decide) w1)
  have C3 : Hid (∀ w1, Calls Try.prog 10 #[.int .i64 20000] w1 (TwoD 14142 true w1)) := Lib.hid (fun w1 => sqrt_c 20000 14142 (by omega) (by constructor <;> decide) w1)
  have C4 := Lib.hid (fun w1 => comb_c 60000 20000 (by omega) (by omega) 150000 true (by decide) w1)
  have C5 := Lib.hid (fun w1 => lcm_c 40000 60000 (by omega) (by omega) 120000 true (by decide) w1)
  go_enter Try.func9, Try.ntmps9
  go_wp2_with (first
    | (go_at_call 7; first | ((with_reducible refine (C1.out _).mono ?_); rintro e w' ⟨rfl, q1, rfl⟩) | ((with_reducible refine (C2.out _).mono ?_); rintro e w' ⟨rfl, q2, rfl⟩))
    | (go_at_call 10; refine (C3.out _).mono ?_; rintro e w' ⟨rfl, q3, rfl⟩)
    | (go_at_call 19; refine (C4.out _).mono ?_; rintro e w' ⟨rfl, q4, rfl⟩)
    | (go_at_call 13; refine (C5.out _).mono ?_; rintro e w' ⟨rfl, q5, rfl⟩))
  go_ret
  exact ⟨rfl, _, rfl⟩
end Go.Proofs.Ytdinbokbooikbaa.Pow

/- What the reference's Below on labels answers: for every label, whatever its level. -/
import Derived.Test.YteolenhgaekihaaLabDefs
import Derived.Test.YteolenhgaekihaaCatsRefLite
namespace Go.Proofs.Yteolenhgaekihaa.Lab
open Go.RowKit Kit
open Go.Proofs.Yteolenhgaekihaa.Cats (U U_or withinB rwithin_c)

set_option maxRecDepth 100000 in
set_option maxHeartbeats 1000000 in
theorem rbelow_c (l1 l2 : Int) (s1 s2 : Nat) (b : Bool) (h1 : U s1) (h2 : U s2) (hb : belowL l1 s1 l2 s2 = b) (w : World) :
    Calls Try.prog 34 #[.agg #[.int .i64 l1, .int .u64 s1], .agg #[.int .i64 l2, .int .u64 s2]] w fun e w' => e = .returned (.bool b) ∧ Below w.heap.size w w' := by
  have HB := Lib.hid hb
  have Hw := Lib.hid (fun w1 => rwithin_c s1 s2 _ h1 h2 rfl w1)
  clear hb h1 h2
  by_cases hl : l1 ≤ l2
  · go_enter Try.func34, Try.ntmps34
    go_wp2_with (go_at_call 39; refine (Hw.out _).mono ?_; rintro e w' ⟨rfl, rfl⟩)
    go_ret
    exact ⟨ret_bool (by rw [← HB.out, belowL]; simp [hl]), below2 _ _ _⟩
  · have hd : decide (l1 ≤ l2) = false := by simpa using hl
    go_enter Try.func34, Try.ntmps34
    go_wp2
    go_ret
    exact ⟨ret_bool (by rw [← HB.out, belowL, hd]; rfl), below2 _ _ _⟩
end Go.Proofs.Yteolenhgaekihaa.Lab

/- RightGrants: the law returns true for every list of grants and of users, and makes new memory alone. -/
import Derived.Test.YteolenhgaekihaaRightAlive
import Derived.Test.YteolenhgaekihaaRightRefGrants
namespace Go.Proofs.Yteolenhgaekihaa.Right
open Go.RowKit Kit Reg Go.Proofs.Yteolenhgaekihaa.Lab
open Go.Proofs.Yteolenhgaekihaa.Cats (U U_or U_zero)

set_option maxRecDepth 100000 in
set_option maxHeartbeats 2000000 in
theorem grants_law (S : Says) (A : Option Addr) (n cap : Nat) (gs : List Gr) (A2 : Option Addr) (n2 cap2 : Nat) (us : List Us) (w : World) (hz : n ≤ 60 → GrantsR w A n gs) (hz2 : n2 ≤ 40 → UsersR w A2 n2 us) :
    Calls Try.prog 6 #[.slice A n cap, .slice A2 n2 cap2] w fun e w' => e = .returned (.bool true) ∧ Below w.heap.size w w' := by
  have HA := Lib.hid (fun w1 => alive_c S w1)
  by_cases hn : 60 < n
  · have hd : decide (60 < (n : Int)) = true := decide_eq_true (by omega)
    clear hz hz2 S
    go_enter Try.func6, Try.ntmps6
    go_wp2_with fail
    refine (HA.out _).mono ?_
    rintro e w1 ⟨rfl, hb1⟩
    go_wp2
    go_ret
    exact ⟨rfl, hb1⟩
  have hd : decide (60 < (n : Int)) = false := decide_eq_false (by omega)
  by_cases hn2 : 40 < n2
  · have hd2 : decide (40 < (n2 : Int)) = true := decide_eq_true (by omega)
    clear hz hz2 S
    go_enter Try.func6, Try.ntmps6
    go_wp2_with fail
    refine (HA.out _).mono ?_
    rintro e w1 ⟨rfl, hb1⟩
    go_wp2
    go_ret
    exact ⟨rfl, hb1⟩
  have hd2 : decide (40 < (n2 : Int)) = false := decide_eq_false (by omega)
  have HZ := Lib.hid (hz (by omega))
  have HZ2 := Lib.hid (hz2 (by omega))
  clear hz hz2
  have H1 := Lib.hid (fun w1 h h2 => S.grants A n cap gs A2 n2 cap2 us w1 h h2)
  obtain ⟨p, e, hpe⟩ : ∃ p e, wrongG us 0 gs = (p, e) := ⟨_, _, rfl⟩
  have H2 := Lib.hid (fun w1 h h2 => rgrants_c A n cap gs A2 n2 cap2 us p e hpe w1 h h2)
  simp only [hpe] at H1
  have hp : (p == p) = true := by simp
  have he : (e == e) = true := by simp
  clear hpe S
  go_enter Try.func6, Try.ntmps6
  go_wp2_with fail
  refine (H1.out _ HZ.out HZ2.out).mono ?_
  rintro e' w1 ⟨rfl, hb0⟩
  have HZb := Lib.hid (HZ.out.on hb0)
  have HZ2b := Lib.hid (HZ2.out.on hb0)
  go_wp2_with fail
  refine (H2.out _ HZb.out HZ2b.out).mono ?_
  rintro e' w2 ⟨rfl, hb2⟩
  replace hb0 := on_alloc (on hb0 hb2) (.cells #[.int .i64 p, .int .i64 e] 37)
  clear hb2
  go_wp2_with fail
  refine (HA.out _).mono ?_
  rintro e' w3 ⟨rfl, hb3⟩
  replace hb0 := on hb0 hb3
  clear hb3
  go_wp2
  go_ret
  exact ⟨rfl, hb0⟩
end Go.Proofs.Yteolenhgaekihaa.Right

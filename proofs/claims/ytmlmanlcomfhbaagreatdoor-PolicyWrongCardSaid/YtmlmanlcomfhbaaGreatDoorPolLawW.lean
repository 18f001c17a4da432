/- PolicyWrong: the law returns true for every policy and every cell, and makes new memory alone. -/
import Derived.Test.YtmlmanlcomfhbaaGreatDoorGt
import Derived.Test.YtmlmanlcomfhbaaGreatDoorGm
namespace Go.Proofs.YtmlmanlcomfhbaaGreatDoor.Pol
open Go.RowKit Kit Reg
open Go.Proofs.YtmlmanlcomfhbaaGreatDoor.Zone (Zn ZonesR)
open Go.Proofs.YtmlmanlcomfhbaaGreatDoor.Right (Us Gr UsersR GrantsR)
open Go.Proofs.YtmlmanlcomfhbaaGreatDoor.Cats (U U_zero)
open Go.Proofs.YtmlmanlcomfhbaaGreatDoor.Addr (Libs)

set_option maxRecDepth 100000 in
set_option maxHeartbeats 4000000 in
theorem wrong_law (p : Pl) (A1 : Option Addr) (n1 c1 : Nat) (A2 : Option Addr) (n2 c2 : Nat) (A3 : Option Addr) (n3 c3 : Nat) (x y : Int) (w : World) (hL : PLibs w) (hcap : n2 ≤ c2) (hz : n1 ≤ 60 → ZonesR w A1 n1 p.zs) (hu : n2 ≤ 60 → UsersR w A2 n2 p.us) (hg : n3 ≤ 60 → GrantsR w A3 n3 p.gs) :
    Calls Tryz.prog 3 #[.agg #[.int .i64 p.rows, .int .i64 p.cols, .slice A1 n1 c1, .slice A2 n2 c2, .slice A3 n3 c3], .agg #[.int .i64 x, .int .i64 y]] w fun e w' => e = .returned (.bool true) ∧ Below w.heap.size w w' := by
  have HA := Lib.hid (fun w1 h => alive_c w1 h)
  have HL := Lib.hid hL
  obtain ⟨b, hb⟩ : ∃ b, (decide (n1 ≤ 50) && decide (n2 ≤ 30) && decide (n3 ≤ 50)) = b := ⟨_, rfl⟩
  have HS := Lib.hid (fun w1 => small_c p.rows p.cols A1 n1 c1 A2 n2 c2 A3 n3 c3 b hb w1)
  have hb0 := below2 w (.cells #[.int .i64 p.rows, .int .i64 p.cols, .slice A1 n1 c1, .slice A2 n2 c2, .slice A3 n3 c3] 26) (.cells #[.int .i64 x, .int .i64 y] 28)
  have kp := (CellsAt.new w [.int .i64 p.rows, .int .i64 p.cols, .slice A1 n1 c1, .slice A2 n2 c2, .slice A3 n3 c3] 26).on_alloc (.cells #[.int .i64 x, .int .i64 y] 28)
  have kc := CellsAt.new (w.alloc (.cells #[.int .i64 p.rows, .int .i64 p.cols, .slice A1 n1 c1, .slice A2 n2 c2, .slice A3 n3 c3] 26)) [.int .i64 x, .int .i64 y] 28
  rw [show (w.alloc (.cells #[.int .i64 p.rows, .int .i64 p.cols, .slice A1 n1 c1, .slice A2 n2 c2, .slice A3 n3 c3] 26)).heap.size = w.heap.size + 1 by simp] at kc
  clear hL
  cases b
  case false =>
    clear hz hu hg hb
    generalize p.rows = r at *
    generalize p.cols = q at *
    go_enter Tryz.func3, Tryz.ntmps3
    go_wp2_with fail
    generalize (w.alloc (.cells #[.int .i64 r, .int .i64 q, .slice A1 n1 c1, .slice A2 n2 c2, .slice A3 n3 c3] 26)).alloc (.cells #[.int .i64 x, .int .i64 y] 28) = W at *
    refine (HS.out _).mono ?_
    rintro e w1 ⟨rfl, hb1⟩
    replace hb0 := on hb0 hb1
    clear hb1
    go_wp2_with fail
    refine (HA.out _ (HL.out.grown hb0)).mono ?_
    rintro e w2 ⟨rfl, hb2⟩
    go_wp2
    go_ret
    exact ⟨rfl, on hb0 hb2⟩
  case true =>
    simp only [Bool.and_eq_true, decide_eq_true_eq] at hb
    obtain ⟨⟨s1, s2⟩, s3⟩ := hb
    have HZ := Lib.hid (hz (by omega))
    have HU := Lib.hid (hu (by omega))
    have HG := Lib.hid (hg (by omega))
    have HW := Lib.hid (fun w1 h1 h2 h3 => wrongP_c p A1 n1 c1 A2 n2 c2 A3 n3 c3 hcap w1 h1 h2 h3)
    have HR := Lib.hid (fun w1 h1 h2 h3 => rwrongP_c p A1 n1 c1 A2 n2 c2 A3 n3 c3 w1 h1 h2 h3)
    have HI := Lib.hid (fun w1 => in_c p.rows p.cols x y (.slice A1 n1 c1) (.slice A2 n2 c2) (.slice A3 n3 c3) w1)
    have HJ := Lib.hid (fun w1 => rin_c p.rows p.cols x y (.slice A1 n1 c1) (.slice A2 n2 c2) (.slice A3 n3 c3) w1)
    obtain ⟨wa, we, hwp⟩ : ∃ a b, wrongP p = (a, b) := ⟨_, _, rfl⟩
    simp only [hwp] at HW HR
    have ha : (wa == wa) = true := by simp
    have he : (we == we) = true := by simp
    generalize inB p.rows p.cols x y = z at *
    have hzz : (z == z) = true := by simp
    clear hz hu hg hwp
    generalize p.rows = r at *
    generalize p.cols = q at *
    obtain ⟨p0, p1, p2, p3, p4, _⟩ := kp.five
    have lp := kp.1
    go_enter Tryz.func3, Tryz.ntmps3
    go_wp2_with fail
    generalize (w.alloc (.cells #[.int .i64 r, .int .i64 q, .slice A1 n1 c1, .slice A2 n2 c2, .slice A3 n3 c3] 26)).alloc (.cells #[.int .i64 x, .int .i64 y] 28) = W at *
    refine (HS.out _).mono ?_
    rintro e w1 ⟨rfl, hb1⟩
    replace hb0 := on hb0 hb1
    replace kp := kp.on hb1
    replace kc := kc.on hb1
    clear hb1 p0 p1 p2 p3 p4 lp HS
    obtain ⟨p0, p1, p2, p3, p4, _⟩ := kp.five
    have lp := kp.1
    go_wp2_with fail
    refine (HW.out _ (HZ.out.on hb0) (HU.out.on hb0) (HG.out.on hb0)).mono ?_
    rintro e w2 ⟨rfl, hb2⟩
    replace hb0 := on hb0 hb2
    replace kp := kp.on hb2
    replace kc := kc.on hb2
    clear hb2 p0 p1 p2 p3 p4 lp HW
    obtain ⟨p0, p1, p2, p3, p4, _⟩ := kp.five
    have lp := kp.1
    go_wp2_with fail
    refine (HR.out _ (HZ.out.on hb0) (HU.out.on hb0) (HG.out.on hb0)).mono ?_
    rintro e w3 ⟨rfl, hb3⟩
    have kf := CellsAt.new w3 [.int .i64 wa, .int .i64 we] 35
    change CellsAt (w3.alloc (.cells #[.int .i64 wa, .int .i64 we] 35)) w3.heap.size [.int .i64 wa, .int .i64 we] at kf
    replace hb3 := on hb3 (below1 w3 (.cells #[.int .i64 wa, .int .i64 we] 35))
    replace hb0 := on hb0 hb3
    replace kp := kp.on hb3
    replace kc := kc.on hb3
    clear hb3 p0 p1 p2 p3 p4 lp HR HZ HU HG
    go_wp2_with fail
    generalize w3.alloc (.cells #[.int .i64 wa, .int .i64 we] 35) = X at *
    generalize w3.heap.size = bf at *
    have F0 := fun d os => cell_regrown (kf.2 0 _ rfl).1 d os
    have F1 := fun d os => cell_regrown (kf.2 1 _ rfl).1 d os
    have P0 := fun d os => cell_regrown (kp.2 0 _ rfl).1 d os
    have P1 := fun d os => cell_regrown (kp.2 1 _ rfl).1 d os
    have P2 := fun d os => cell_regrown (kp.2 2 _ rfl).1 d os
    have P3 := fun d os => cell_regrown (kp.2 3 _ rfl).1 d os
    have P4 := fun d os => cell_regrown (kp.2 4 _ rfl).1 d os
    have C0 := fun d os => cell_regrown (kc.2 0 _ rfl).1 d os
    have C1 := fun d os => cell_regrown (kc.2 1 _ rfl).1 d os
    have lf := kf.1
    have lp := kp.1
    have lc := kc.1
    have HLX := Lib.hid (HL.out.grown hb0)
    clear kf kp kc
    refine wp_region_mem 23 (fun d => match d with
      | 32 => some (Is (.bool z))
      | 35 => some (Is (.bool z))
      | 39 => some (Is (.bool true))
      | _ => none) (by kernel_rfl) (by kernel_rfl) ?_
    simp only [List.take_succ_cons, List.take_zero, List.drop_succ_cons, List.drop_zero]
    repeat (first | ((with_reducible refine wpM_calm ?_ ?_ ?_ ?_); exact rfl; exact rfl; exact rfl; intro K hK; go_big_quiet_op; go_big_quiet_on) | ((with_reducible refine wpM_skip ?_ ?_); exact rfl; simp only [Act.put, List.setIfInBounds_toArray, List.set_cons_succ, List.set_cons_zero]))
    refine wpM_exact rfl rfl rfl Tryz.func10 (by kernel_rfl) (by kernel_rfl) (fun w1 _ _ => HI.out w1) rfl (by simp only [Act.put, List.setIfInBounds_toArray, List.set_cons_succ, List.set_cons_zero]; rfl) ?_
    repeat (first | ((with_reducible refine wpM_calm ?_ ?_ ?_ ?_); exact rfl; exact rfl; exact rfl; intro K hK; go_big_quiet_op; go_big_quiet_on) | ((with_reducible refine wpM_skip ?_ ?_); exact rfl; simp only [Act.put, List.setIfInBounds_toArray, List.set_cons_succ, List.set_cons_zero]))
    refine wpM_exact rfl rfl rfl Tryz.func11 (by kernel_rfl) (by kernel_rfl) (fun w1 _ _ => HJ.out w1) rfl (by simp only [Act.put, List.setIfInBounds_toArray, List.set_cons_succ, List.set_cons_zero]; rfl) ?_
    repeat (first | ((with_reducible refine wpM_calm ?_ ?_ ?_ ?_); exact rfl; exact rfl; exact rfl; intro K hK; go_big_quiet_op; go_big_quiet_on) | ((with_reducible refine wpM_skip ?_ ?_); exact rfl; simp only [Act.put, List.setIfInBounds_toArray, List.set_cons_succ, List.set_cons_zero]))
    refine wpM_exact rfl rfl rfl Tryz.func7 (by kernel_rfl) (by kernel_rfl) (fun w1 hw1 _ => HA.out w1 (HLX.out.grown hw1)) rfl (by simp only [Act.put, List.setIfInBounds_toArray, List.set_cons_succ, List.set_cons_zero]; rfl) ?_
    repeat (first | ((with_reducible refine wpM_calm ?_ ?_ ?_ ?_); exact rfl; exact rfl; exact rfl; intro K hK; go_big_quiet_op; go_big_quiet_on) | ((with_reducible refine wpM_skip ?_ ?_); exact rfl; simp only [Act.put, List.setIfInBounds_toArray, List.set_cons_succ, List.set_cons_zero]))
    refine wpM_nil ?_
    intro w4 hb4 _
    go_wp2
    go_ret
    exact ⟨rfl, on hb0 hb4⟩
end Go.Proofs.YtmlmanlcomfhbaaGreatDoor.Pol

/- That the statements' own check of life of package addr answers yes: where the library's variables hold what they are laid. -/
import Derived.Test.YtoomggpjdnbggaaDoorAddrGo
namespace Go.Proofs.YtoomggpjdnbggaaDoor.Addr
open Go.RowKit Kit Cats

theorem ab12 : CellIs [65, 66, 49, 50] 11 27 true := .inl ⟨rfl, 11, 27, by omega, by omega, rfl, rfl, by decide +kernel⟩
theorem name_ab12 : nameI 11 27 = [65, 66, 49, 50] := by decide +kernel
theorem col_zz : colT 701 = [90, 90] := by decide +kernel
set_option maxRecDepth 100000 in
set_option maxHeartbeats 2000000 in
theorem alive_c (w : World) (hL : Libs w) : Calls Tryd.prog 14 #[] w fun e w' => e = .returned (.bool true) ∧ Below w.heap.size w w' := by
  have HP := Lib.hid (fun w1 h => parse_c ⟨#[65, 66, 49, 50]⟩ (by decide) w1 h)
  have HN : Hid (∀ w1, Libs w1 → Calls Tryd.prog 8 #[.agg #[.int .i64 11, .int .i64 27]] w1 fun e w' => e = .returned (.string ⟨#[65, 66, 49, 50]⟩) ∧ Below w1.heap.size w1 w') := fun w1 h => by
    have h := name_c 11 27 w1 h
    rwa [name_ab12] at h
  have HZ : Hid (∀ w1, Calls Tryd.prog 10 #[.int .i64 701] w1 fun e w' => e = .returned (.string ⟨#[90, 90]⟩) ∧ w' = w1) := fun w1 => by
    have h := letters_c 701 w1
    rwa [col_zz] at h
  have HM := Lib.hid (fun w1 => may_c 11 27 true (by decide +kernel) w1)
  have HM2 := Lib.hid (fun w1 => may_c 999 0 false (by decide +kernel) w1)
  have HLs := Lib.hid (fun w1 => less_c 11 27 12 0 true (by decide +kernel) w1)
  have HE := Lib.hid hL
  clear hL
  go_enter Tryd.func14, Tryd.ntmps14
  go_wp2_with fail
  refine (HP.out _ HE.out).mono ?_
  rintro e w1 ⟨r, c, b, rfl, hl, hb1⟩
  obtain ⟨rfl, rfl, rfl⟩ := hl.unique ab12
  clear hl
  obtain ⟨c0, c1, _, _⟩ := (CellsAt.new w1 [.int .i64 11, .int .i64 27] 23).two
  have hb2 := on_alloc hb1 (.cells #[.int .i64 11, .int .i64 27] 23)
  have HE2 := Lib.hid (HE.out.grown hb2)
  clear hb1 HE HP
  go_wp2_with fail
  refine (HN.out _ HE2.out).mono ?_
  rintro e w2 ⟨rfl, hb3⟩
  replace c0 := kept hb3 c0
  replace c1 := kept hb3 c1
  replace hb2 := on hb2 hb3
  clear hb3 HE2 HN
  go_wp2_with fail
  refine (HZ.out _).mono ?_
  rintro e w3 ⟨rfl, rfl⟩
  go_wp2_with fail
  refine (HM.out _).mono ?_
  rintro e w4 ⟨rfl, hb4⟩
  replace c0 := kept hb4 c0
  replace c1 := kept hb4 c1
  replace hb2 := on hb2 hb4
  clear hb4
  go_wp2_with fail
  refine (HM2.out _).mono ?_
  rintro e w5 ⟨rfl, hb5⟩
  replace c0 := kept hb5 c0
  replace c1 := kept hb5 c1
  replace hb2 := on hb2 hb5
  clear hb5
  go_wp2_with fail
  refine (HLs.out _).mono ?_
  rintro e w6 ⟨rfl, hb6⟩
  replace hb2 := on hb2 hb6
  go_wp2
  go_ret
  exact ⟨rfl, hb2⟩
end Go.Proofs.YtoomggpjdnbggaaDoor.Addr

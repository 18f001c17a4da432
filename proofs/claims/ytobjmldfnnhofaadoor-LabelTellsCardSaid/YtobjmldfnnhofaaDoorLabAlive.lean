/- That the statements' own check of life of package label answers yes: in every world in which the library's sentinels hold values of an interface. -/
import Derived.Test.YtobjmldfnnhofaaDoorLabParse
namespace Go.Proofs.YtobjmldfnnhofaaDoor.Cats
open Go.RowKit

theorem lab_two : LabIs [50, 58, 48, 44, 53] 2 33 true := .inl ⟨rfl, by omega, by omega, by unfold U; omega, by decide +kernel⟩
theorem labT_two : labT 2 33 = [50, 58, 48, 44, 53] := by decide +kernel
theorem labT_top : labT 15 allN = [116, 111, 112] := by decide +kernel
set_option maxRecDepth 100000 in
set_option maxHeartbeats 2000000 in
theorem lalive_c (w : World) (hE : Errs w) : Calls Tryd.prog 17 #[] w fun e w' => e = .returned (.bool true) ∧ Below w.heap.size w w' := by
  have HP := Lib.hid (fun w1 h => lparse_c ⟨#[50, 58, 48, 44, 53]⟩ (by decide) w1 h)
  have HT : Hid (∀ w1, Calls Tryd.prog 18 #[.agg #[.int .i64 2, .int .u64 33]] w1 fun e w' => e = .returned (.string ⟨#[50, 58, 48, 44, 53]⟩) ∧ Below w1.heap.size w1 w') := fun w1 => by
    have h := ltext_c 2 33 (by unfold U; omega) w1
    rwa [labT_two] at h
  have HT2 : Hid (∀ w1, Calls Tryd.prog 18 #[.agg #[.int .i64 15, .int .u64 (allN : Nat)]] w1 fun e w' => e = .returned (.string ⟨#[116, 111, 112]⟩) ∧ Below w1.heap.size w1 w') := fun w1 => by
    have h := ltext_c 15 allN U_all w1
    rwa [labT_top] at h
  have Ht := Lib.hid (fun w1 => ltop_c w1)
  have Hb := Lib.hid (fun w1 => lbottom_c w1)
  have Hw1 := Lib.hid (fun w1 => lbelow_c 0 2 0 33 true U_zero (by unfold U; omega) (by decide +kernel) w1)
  have Hw2 := Lib.hid (fun w1 => lbelow_c 2 9 33 0 false (by unfold U; omega) U_zero (by decide +kernel) w1)
  have HE := Lib.hid hE
  clear hE
  generalize allN = N at *
  go_enter Tryd.func17, Tryd.ntmps17
  go_wp2_with fail
  refine (HP.out _ HE.out).mono ?_
  rintro e w1 ⟨l, s, b, rfl, hl, hb1⟩
  obtain ⟨rfl, rfl, rfl⟩ := hl.unique lab_two
  clear hl
  go_wp2_with fail
  have c0 : (w1.alloc (.cells #[.int .i64 2, .int .u64 33] 24)).cell? ⟨w1.heap.size, 0, none⟩ = some (.int .i64 2) := by rw [World.cell?_alloc_at _ _ _ _ rfl]; rfl
  have c1 : (w1.alloc (.cells #[.int .i64 2, .int .u64 33] 24)).cell? ⟨w1.heap.size, 1, none⟩ = some (.int .u64 33) := by rw [World.cell?_alloc_at _ _ _ _ rfl]; rfl
  have hb2 : Below w.heap.size w (w1.alloc (.cells #[.int .i64 2, .int .u64 33] 24)) := hb1.alloc hb1.size _
  clear hb1
  generalize w1.alloc (.cells #[.int .i64 2, .int .u64 33] 24) = W at *
  have C0 := fun d os => cell_regrown c0 d os
  have C1 := fun d os => cell_regrown c1 d os
  clear c0 c1
  refine wp_region_quiet_below (by kernel_rfl) (by kernel_rfl) ?_
  repeat (go_big_quiet_step (first | (go_at_call 18; with_reducible exact Calls.regrown_of (HT.out _)) | (go_at_call 18; with_reducible exact Calls.regrown_of (HT2.out _)) | (go_at_call 15; with_reducible exact Calls.regrown_of (Ht.out _)) | (go_at_call 14; with_reducible exact Calls.regrown_of (Hb.out _)) | (go_at_call 8; with_reducible exact Calls.regrown_of (Hw1.out _)) | (go_at_call 8; with_reducible exact Calls.regrown_of (Hw2.out _))))
  refine wpQuiet_nil ?_
  intro _ hw'
  obtain ⟨⟨dq, osq⟩, hw''⟩ := hw'
  subst hw''
  go_wp2
  go_ret
  exact ⟨rfl, hb2.trans ((below_regrown W dq osq).mono hb2.size)⟩
end Go.Proofs.YtobjmldfnnhofaaDoor.Cats

/- What the check of life of the laws on texts answers. -/
import Derived.Test.YtckcoogmfgegeaaDoorTxtFix
namespace Go.Proofs.YtckcoogmfgegeaaDoor.Txt
open Go.RowKit Kit Reg Dec Dig Rnd

theorem put_life : roomD (putL [97, 110] [120] [98, 97, 110, 97, 110, 97]) = ([98, 120, 120, 97], true) := by decide +kernel
theorem rept_life : reptD [97, 98] 129 = ([], false) := by decide +kernel
theorem proper_life : wrL 0 1 0 [111, 78, 32, 97, 49, 66] = [79, 110, 32, 65, 49, 66] := by decide +kernel
theorem trim_life : trimL [32, 32, 97, 32, 32, 32, 98, 32] = [97, 32, 98] := by decide +kernel
theorem fix_life : fixD (-15) 3 = ([45, 48, 46, 48, 48, 50], true) := by
  have h : placesD (-15) (3 : Nat) 1 = (-20, true) := by decide +kernel
  rw [show (3 : Int) = ((3 : Nat) : Int) from rfl, fix_yes (by omega) h]
  unfold fixL wholeT
  rw [show (-20 : Int).natAbs / 10000 = 0 from rfl, dd_small (by omega)]
  rfl
set_option maxRecDepth 100000 in
set_option maxHeartbeats 2000000 in
theorem alive_c (w : World) (hL : PLibs w) : Calls Tryd.prog 7 #[] w fun e w' => e = .returned (.bool true) ∧ Below w.heap.size w w' := by
  have H1 : Hid (∀ w1, PLibs w1 → Calls Tryd.prog 14 #[.string ⟨#[98, 97, 110, 97, 110, 97]⟩, .string ⟨#[97, 110]⟩, .string ⟨#[120]⟩] w1 fun e w' => e = .returned (.tuple #[.string ⟨#[98, 120, 120, 97]⟩, .bool true]) ∧ Below w1.heap.size w1 w') :=
    Lib.hid fun w1 hL => put_c _ _ _ (by decide) (by decide) (by decide) _ _ put_life w1 hL
  have H2 : Hid (∀ w1, PLibs w1 → Calls Tryd.prog 20 #[.int .i64 (-15), .int .i64 3] w1 fun e w' => e = .returned (.tuple #[.string ⟨#[45, 48, 46, 48, 48, 50]⟩, .bool true]) ∧ Below w1.heap.size w1 w') :=
    Lib.hid fun w1 hL => fixed_c (-15) (by omega) 3 _ _ fix_life w1 hL
  have H3 : Hid (∀ w1, Calls Tryd.prog 16 #[.string ⟨#[97, 98]⟩, .int .i64 129] w1 fun e w' => e = .returned (.tuple #[.string ⟨#[]⟩, .bool false]) ∧ Below w1.heap.size w1 w') :=
    Lib.hid fun w1 => rept_c ⟨#[97, 98]⟩ 129 (by omega) _ _ rept_life w1
  have H4 : Hid (∀ w1, Calls Tryd.prog 10 #[.string ⟨#[111, 78, 32, 97, 49, 66]⟩] w1 fun e w' => e = .returned (.string ⟨#[79, 110, 32, 65, 49, 66]⟩) ∧ Below w1.heap.size w1 w') :=
    Lib.hid fun w1 => by
      have h := proper_c ⟨#[111, 78, 32, 97, 49, 66]⟩ (by decide) w1
      rw [show (⟨#[111, 78, 32, 97, 49, 66]⟩ : ByteArray).data.toList = [111, 78, 32, 97, 49, 66] from rfl, proper_life] at h
      exact h
  have H5 : Hid (∀ w1, Calls Tryd.prog 11 #[.string ⟨#[32, 32, 97, 32, 32, 32, 98, 32]⟩] w1 fun e w' => e = .returned (.string ⟨#[97, 32, 98]⟩) ∧ Below w1.heap.size w1 w') :=
    Lib.hid fun w1 => by
      have h := trim_c cutsBlank ⟨#[32, 32, 97, 32, 32, 32, 98, 32]⟩ _ rfl (by decide) w1
      rw [show (⟨#[32, 32, 97, 32, 32, 32, 98, 32]⟩ : ByteArray).data.toList = [32, 32, 97, 32, 32, 32, 98, 32] from rfl, trim_life] at h
      exact h
  have HL := Lib.hid hL
  clear hL
  go_enter Tryd.func7, Tryd.ntmps7
  go_wp2_with fail
  refine (H1.out _ HL.out).mono ?_
  rintro e w1 ⟨rfl, hb1⟩
  have HL1 := Lib.hid (HL.out.grown hb1)
  go_wp2_with fail
  refine (H2.out _ HL1.out).mono ?_
  rintro e w2 ⟨rfl, hb2⟩
  have hb3 := on hb1 hb2
  clear hb1 hb2 HL1
  go_wp2_with fail
  refine (H3.out _).mono ?_
  rintro e w3 ⟨rfl, hb4⟩
  have hb5 := on hb3 hb4
  clear hb3 hb4
  go_wp2_with fail
  refine (H4.out _).mono ?_
  rintro e w4 ⟨rfl, hb6⟩
  have hb7 := on hb5 hb6
  clear hb5 hb6
  go_wp2_with fail
  refine (H5.out _).mono ?_
  rintro e w5 ⟨rfl, hb8⟩
  have hb9 := on hb7 hb8
  clear hb7 hb8 H1 H2 H3 H4 H5 HL
  go_wp2
  go_ret
  exact ⟨rfl, hb9⟩
end Go.Proofs.YtckcoogmfgegeaaDoor.Txt

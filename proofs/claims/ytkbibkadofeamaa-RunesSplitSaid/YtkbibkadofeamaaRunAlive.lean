/- The laws' check of life: true. -/
import Derived.Test.YtkbibkadofeamaaRunRefF
namespace Go.Proofs.Ytkbibkadofeamaa.Run
open Go.RowKit Kit Reg

theorem a_list : (⟨#[97, 195, 169, 255, 122]⟩ : ByteArray).data.toList = [97, 195, 169, 255, 122] := rfl
theorem a_small : (⟨#[97, 195, 169, 255, 122]⟩ : ByteArray).size ≤ 1000000 := by decide +kernel
theorem a_find (w : World) : Calls Try.prog 15 #[.string ⟨#[255]⟩, .string ⟨#[97, 195, 169, 255, 122]⟩] w fun e w' => e = .returned (.tuple #[.int .i64 2, .bool true]) ∧ Below w.heap.size w w' :=
  (find_c ⟨#[255]⟩ ⟨#[97, 195, 169, 255, 122]⟩ [255] [97, 195, 169, 255, 122] rfl rfl (by decide +kernel) a_small w).mono fun e w' ⟨r, h1, h2, h3⟩ => by
    have h4 : FindIs [255] [97, 195, 169, 255, 122] (some 2) := .inr ⟨by simp, by decide +kernel, by decide +kernel, by decide +kernel⟩
    rw [FindIs.unique h2 h4] at h1
    exact ⟨h1, h3⟩
theorem a_first (w : World) : Calls Try.prog 21 #[.string ⟨#[226, 130, 172, 120]⟩] w fun e w' => e = .returned (.tuple #[.int .i32 8364, .bool true]) ∧ Below w.heap.size w w' :=
  first_c ⟨#[226, 130, 172, 120]⟩ [226, 130, 172, 120] rfl (by simp) 8364 (by decide +kernel) w
theorem a_single (w : World) : Calls Try.prog 17 #[.int .i64 8364] w fun e w' => e = .returned (.tuple #[.string ⟨#[226, 130, 172]⟩, .bool true]) ∧ w = w' :=
  (single_c 8364 true (by decide +kernel) w).mono fun e w' ⟨t, h1, h2, h3⟩ => by
    rw [str_is h2, show singleL 8364 = [226, 130, 172] by decide +kernel] at h1
    exact ⟨h1, h3⟩
theorem a_count (w : World) : Calls Try.prog 8 #[.string ⟨#[97, 195, 169, 255, 122]⟩] w fun e w' => e = .returned (.int .i64 4) ∧ Below w.heap.size w w' :=
  count_c ⟨#[97, 195, 169, 255, 122]⟩ _ rfl a_small 4 (by decide +kernel) w
theorem a_left (w : World) : Calls Try.prog 10 #[.string ⟨#[97, 195, 169, 255, 122]⟩, .int .i64 2] w fun e w' => e = .returned (.string ⟨#[97, 195, 169]⟩) ∧ Below w.heap.size w w' :=
  (left_c ⟨#[97, 195, 169, 255, 122]⟩ [97, 195, 169, 255, 122] rfl a_small 2 (by omega) w).mono fun e w' ⟨t, h1, h2, h3⟩ => by
    rw [str_is h2, show leftL [97, 195, 169, 255, 122] (Int.toNat 2) = [97, 195, 169] by decide +kernel] at h1
    exact ⟨h1, h3⟩
theorem a_right (w : World) : Calls Try.prog 12 #[.string ⟨#[97, 195, 169, 255, 122]⟩, .int .i64 1] w fun e w' => e = .returned (.string ⟨#[122]⟩) ∧ Below w.heap.size w w' :=
  (right_c ⟨#[97, 195, 169, 255, 122]⟩ [97, 195, 169, 255, 122] rfl a_small 1 (by omega) (by omega) w).mono fun e w' ⟨t, h1, h2, h3⟩ => by
    rw [str_is h2, show rightL [97, 195, 169, 255, 122] (Int.toNat 1) = [122] by decide +kernel] at h1
    exact ⟨h1, h3⟩
theorem a_mid (w : World) : Calls Try.prog 14 #[.string ⟨#[97, 195, 169, 255, 122]⟩, .int .i64 1, .int .i64 2] w fun e w' => e = .returned (.string ⟨#[195, 169, 255]⟩) ∧ Below w.heap.size w w' :=
  (mid_c ⟨#[97, 195, 169, 255, 122]⟩ [97, 195, 169, 255, 122] rfl a_small 1 2 (by omega) (by omega) w).mono fun e w' ⟨t, h1, h2, h3⟩ => by
    rw [str_is h2, show midL [97, 195, 169, 255, 122] 1 2 = [195, 169, 255] by decide +kernel] at h1
    exact ⟨h1, h3⟩

set_option maxRecDepth 100000 in
set_option maxHeartbeats 4000000 in
theorem alive_c (w : World) : Calls Try.prog 7 #[] w fun e w' => e = .returned (.bool true) ∧ Below w.heap.size w w' := by
  have H1 := Lib.hid a_find
  have H2 := Lib.hid a_first
  have H3 := Lib.hid a_single
  have H4 := Lib.hid a_count
  have H5 := Lib.hid a_left
  have H6 := Lib.hid a_right
  have H7 := Lib.hid a_mid
  have hb0 := Below.refl w.heap.size w
  go_enter Try.func7, Try.ntmps7
  go_wp2_with fail
  refine (H1.out _).mono ?_
  rintro e w1 ⟨rfl, hb1⟩
  replace hb0 := on hb0 hb1
  clear hb1
  go_wp2_with fail
  refine (H2.out _).mono ?_
  rintro e w2 ⟨rfl, hb1⟩
  replace hb0 := on hb0 hb1
  clear hb1
  go_wp2_with fail
  refine (H3.out _).mono ?_
  rintro e w3 ⟨rfl, rfl⟩
  go_wp2_with fail
  refine (H4.out _).mono ?_
  rintro e w4 ⟨rfl, hb1⟩
  replace hb0 := on hb0 hb1
  clear hb1
  go_wp2_with fail
  refine (H5.out _).mono ?_
  rintro e w5 ⟨rfl, hb1⟩
  replace hb0 := on hb0 hb1
  clear hb1
  go_wp2_with fail
  refine (H6.out _).mono ?_
  rintro e w6 ⟨rfl, hb1⟩
  replace hb0 := on hb0 hb1
  clear hb1
  go_wp2_with fail
  refine (H7.out _).mono ?_
  rintro e w7 ⟨rfl, hb1⟩
  replace hb0 := on hb0 hb1
  clear hb1
  go_wp2
  go_ret
  exact ⟨rfl, hb0⟩
end Go.Proofs.Ytkbibkadofeamaa.Run

/- What the reference's small functions on values answer: FaultText, Bad, Num, Str, Bool, Of: for every input. -/
import Derived.Test.YtgikagdfmbkfdaaGreatDoorValLeaf
import Derived.Test.YtgikagdfmbkfdaaGreatDoorDecRef
namespace Go.Proofs.YtgikagdfmbkfdaaGreatDoor.Val
open Go.RowKit Kit Dec Dig

set_option maxRecDepth 100000 in
set_option maxHeartbeats 1000000 in
theorem rbad_c (c : Int) (w : World) : Calls Tryz.prog 59 #[.int .i64 c] w (ValIs 4 (badV c) ⟨#[]⟩ w) := by
  by_cases h1 : c < 1
  · rw [bad_out (.inl h1)]
    go_enter Tryz.func59, Tryz.ntmps59
    go_wp2
    exact bodyPost_ret (v := .agg #[.int .i64 4, .int .i64 2, .string ⟨#[]⟩]) (by simp [results, Tryz.results59, go_sem]) rfl ⟨rfl, below1 _ _⟩
  · have d1 : decide (c < 1) = false := decide_eq_false h1
    by_cases h2 : 7 < c
    · have d2 : decide (7 < c) = true := decide_eq_true h2
      rw [bad_out (.inr h2)]
      go_enter Tryz.func59, Tryz.ntmps59
      go_wp2
      exact bodyPost_ret (v := .agg #[.int .i64 4, .int .i64 2, .string ⟨#[]⟩]) (by simp [results, Tryz.results59, go_sem]) rfl ⟨rfl, below1 _ _⟩
    · have d2 : decide (7 < c) = false := decide_eq_false h2
      rw [bad_in (by omega) (by omega)]
      go_enter Tryz.func59, Tryz.ntmps59
      go_wp2
      exact bodyPost_ret (v := .agg #[.int .i64 4, .int .i64 c, .string ⟨#[]⟩]) (by simp [results, Tryz.results59, go_sem]) rfl ⟨rfl, below1 _ _⟩
set_option maxRecDepth 100000 in
set_option maxHeartbeats 400000 in
theorem rnum_in_c (x : Int) (h : mayD x = true) (w : World) : Calls Tryz.prog 35 #[.int .i64 x] w (ValIs 1 x ⟨#[]⟩ w) := by
  have HM := Lib.hid (fun w1 => rmay_c x true h w1)
  clear h
  go_enter Tryz.func35, Tryz.ntmps35
  go_wp2_with (go_at_call 15; refine (HM.out _).mono ?_; rintro e w' ⟨rfl, rfl⟩)
  exact bodyPost_ret (v := .agg #[.int .i64 1, .int .i64 x, .string ⟨#[]⟩]) (by simp [results, Tryz.results35, go_sem]) rfl ⟨rfl, below1 _ _⟩
set_option maxRecDepth 100000 in
set_option maxHeartbeats 400000 in
theorem rnum_out_c (x : Int) (h : mayD x = false) (w : World) : Calls Tryz.prog 35 #[.int .i64 x] w (ValIs 4 4 ⟨#[]⟩ w) := by
  have HM := Lib.hid (fun w1 => rmay_c x false h w1)
  have HB := Lib.hid (fun w1 => rbad_c 4 w1)
  rw [bad_in (by omega) (by omega)] at HB
  clear h
  go_enter Tryz.func35, Tryz.ntmps35
  go_wp2_with (go_at_call 15; refine (HM.out _).mono ?_; rintro e w' ⟨rfl, rfl⟩)
  refine (HB.out _).mono ?_
  rintro e w1 ⟨rfl, hb⟩
  obtain ⟨hA, hb1⟩ := slot hb
  obtain ⟨p0, p1, p2, q0, q1, q2⟩ := hA.three
  obtain ⟨z0, z1, z2⟩ := three_set (u := .int .i64 4) (v := .int .i64 4) (r := .string ⟨#[]⟩) p0 p1 p2
  have hb2 := set3 hb1 (Nat.le_refl _) (.int .i64 4) (.int .i64 4) (.string ⟨#[]⟩)
  clear hA hb hb1
  go_wp2
  exact bodyPost_ret (v := .agg #[.int .i64 4, .int .i64 4, .string ⟨#[]⟩]) (by simp [results, Tryz.results35, go_sem, z0, z1, z2]) rfl ⟨rfl, hb2⟩
theorem rnum_c (x k n : Int) (h : numV x = (k, n)) (w : World) : Calls Tryz.prog 35 #[.int .i64 x] w (ValIs k n ⟨#[]⟩ w) := by
  cases hm : mayD x
  · obtain ⟨rfl, rfl⟩ := Prod.mk.inj ((num_out hm).symm.trans h); exact rnum_out_c x hm w
  · obtain ⟨rfl, rfl⟩ := Prod.mk.inj ((num_in hm).symm.trans h); exact rnum_in_c x hm w
set_option maxRecDepth 100000 in
set_option maxHeartbeats 400000 in
theorem rstr_in_c (t : ByteArray) (h : t.size ≤ 256) (w : World) : Calls Tryz.prog 37 #[.string t] w (ValIs 2 0 t w) := by
  have d0 : decide (256 < t.size) = false := decide_eq_false (by omega)
  go_enter Tryz.func37, Tryz.ntmps37
  go_wp2
  exact bodyPost_ret (v := .agg #[.int .i64 2, .int .i64 0, .string t]) (by simp [results, Tryz.results37, go_sem]) rfl ⟨rfl, below1 _ _⟩
set_option maxRecDepth 100000 in
set_option maxHeartbeats 400000 in
theorem rstr_out_c (t : ByteArray) (h : 256 < t.size) (w : World) : Calls Tryz.prog 37 #[.string t] w (ValIs 4 2 ⟨#[]⟩ w) := by
  have d0 : decide (256 < t.size) = true := decide_eq_true h
  have HB := Lib.hid (fun w1 => rbad_c 2 w1)
  rw [bad_in (by omega) (by omega)] at HB
  go_enter Tryz.func37, Tryz.ntmps37
  go_wp2_with fail
  refine (HB.out _).mono ?_
  rintro e w1 ⟨rfl, hb⟩
  obtain ⟨hA, hb1⟩ := slot hb
  obtain ⟨p0, p1, p2, q0, q1, q2⟩ := hA.three
  obtain ⟨z0, z1, z2⟩ := three_set (u := .int .i64 4) (v := .int .i64 2) (r := .string ⟨#[]⟩) p0 p1 p2
  have hb2 := set3 hb1 (Nat.le_refl _) (.int .i64 4) (.int .i64 2) (.string ⟨#[]⟩)
  clear hA hb hb1
  go_wp2
  exact bodyPost_ret (v := .agg #[.int .i64 4, .int .i64 2, .string ⟨#[]⟩]) (by simp [results, Tryz.results37, go_sem, z0, z1, z2]) rfl ⟨rfl, hb2⟩
theorem rstr_c (t : ByteArray) (k n : Int) (s : ByteArray) (h : strV t = (k, n, s)) (w : World) : Calls Tryz.prog 37 #[.string t] w (ValIs k n s w) := by
  by_cases hm : t.size ≤ 256
  · obtain ⟨rfl, h2⟩ := Prod.mk.inj ((str_in hm).symm.trans h); obtain ⟨rfl, rfl⟩ := Prod.mk.inj h2; exact rstr_in_c t hm w
  · obtain ⟨rfl, h2⟩ := Prod.mk.inj ((str_out (by omega)).symm.trans h); obtain ⟨rfl, rfl⟩ := Prod.mk.inj h2; exact rstr_out_c t (by omega) w
set_option maxRecDepth 100000 in
set_option maxHeartbeats 400000 in
theorem rbool_c (b : Bool) (w : World) : Calls Tryz.prog 36 #[.bool b] w (ValIs 3 (if b then 1 else 0) ⟨#[]⟩ w) := by
  cases b
  all_goals
    go_enter Tryz.func36, Tryz.ntmps36
    go_wp2
    exact bodyPost_ret (by simp [results, Tryz.results36, go_sem]) rfl ⟨rfl, below1 _ _⟩
end Go.Proofs.YtgikagdfmbkfdaaGreatDoor.Val

/- What package value's small functions answer: FaultText, Bad, Num, Str, Bool, Got: for every input. -/
import Derived.Test.YtcgpggknmhlnkaaDoorPs22
import Derived.Test.YtcgpggknmhlnkaaDoorPs03
import Derived.Test.YtcgpggknmhlnkaaDoorPs19
namespace Go.Proofs.YtcgpggknmhlnkaaDoor.Val
open Go.RowKit Kit Dec Dig
/-- one value -/
def ValIs (k n : Int) (s : ByteArray) (w : World) : Ending → World → Prop := fun e w' => e = .returned (.agg #[.int .i64 k, .int .i64 n, .string s]) ∧ Below w.heap.size w w'
theorem codes (c : Int) : (c < 1 ∨ 7 < c) ∨ c = 1 ∨ c = 2 ∨ c = 3 ∨ c = 4 ∨ c = 5 ∨ c = 6 ∨ c = 7 := by omega
set_option maxRecDepth 100000 in
set_option maxHeartbeats 1000000 in
theorem fault_c (c : Int) (w : World) : Calls Tryd.prog 44 #[.int .i64 c] w fun e w' => e = .returned (.string ⟨(faultL c).toArray⟩) ∧ w = w' := by
  rcases codes c with h | rfl | rfl | rfl | rfl | rfl | rfl | rfl
  · have h1 : (c == 1) = false := by simp; omega
    have h2 : (c == 2) = false := by simp; omega
    have h3 : (c == 3) = false := by simp; omega
    have h4 : (c == 4) = false := by simp; omega
    have h5 : (c == 5) = false := by simp; omega
    have h6 : (c == 6) = false := by simp; omega
    have h7 : (c == 7) = false := by simp; omega
    rw [fault_out h]
    clear h
    go_enter Tryd.func44, Tryd.ntmps44
    go_wp2
    go_ret
    exact ⟨rfl, rfl⟩
  all_goals
    go_enter Tryd.func44, Tryd.ntmps44
    go_wp2
    go_ret
    exact ⟨rfl, rfl⟩
set_option maxRecDepth 100000 in
set_option maxHeartbeats 1000000 in
theorem bad_c (c : Int) (w : World) : Calls Tryd.prog 37 #[.int .i64 c] w (ValIs 4 (badV c) ⟨#[]⟩ w) := by
  have HF := Lib.hid (fun w1 => fault_c c w1)
  rcases codes c with h | rfl | rfl | rfl | rfl | rfl | rfl | rfl
  · rw [fault_out h] at HF
    rw [bad_out h]
    clear h
    go_enter Tryd.func37, Tryd.ntmps37
    go_wp2_with (go_at_call 44; refine (HF.out _).mono ?_; rintro e w' ⟨rfl, rfl⟩)
    exact bodyPost_ret (v := .agg #[.int .i64 4, .int .i64 2, .string ⟨#[]⟩]) (by simp [results, Tryd.results37, go_sem]) rfl ⟨rfl, below1 _ _⟩
  all_goals
    rw [bad_in (by omega) (by omega)]
    simp only [faultL, Int.reduceEq, if_true, if_false] at HF
    go_enter Tryd.func37, Tryd.ntmps37
    go_wp2_with (go_at_call 44; refine (HF.out _).mono ?_; rintro e w' ⟨rfl, rfl⟩)
    exact bodyPost_ret (by simp [results, Tryd.results37, go_sem]) rfl ⟨rfl, below1 _ _⟩
set_option maxRecDepth 100000 in
set_option maxHeartbeats 400000 in
theorem num_in_c (x : Int) (h : mayD x = true) (w : World) : Calls Tryd.prog 34 #[.int .i64 x] w (ValIs 1 x ⟨#[]⟩ w) := by
  have HM := Lib.hid (fun w1 => may_c x true h w1)
  clear h
  go_enter Tryd.func34, Tryd.ntmps34
  go_wp2_with (go_at_call 43; refine (HM.out _).mono ?_; rintro e w' ⟨rfl, rfl⟩)
  exact bodyPost_ret (v := .agg #[.int .i64 1, .int .i64 x, .string ⟨#[]⟩]) (by simp [results, Tryd.results34, go_sem]) rfl ⟨rfl, below1 _ _⟩
set_option maxRecDepth 100000 in
set_option maxHeartbeats 400000 in
theorem num_out_c (x : Int) (h : mayD x = false) (w : World) : Calls Tryd.prog 34 #[.int .i64 x] w (ValIs 4 4 ⟨#[]⟩ w) := by
  have HM := Lib.hid (fun w1 => may_c x false h w1)
  have HB := Lib.hid (fun w1 => bad_c 4 w1)
  rw [bad_in (by omega) (by omega)] at HB
  clear h
  go_enter Tryd.func34, Tryd.ntmps34
  go_wp2_with (go_at_call 43; refine (HM.out _).mono ?_; rintro e w' ⟨rfl, rfl⟩)
  refine (HB.out _).mono ?_
  rintro e w1 ⟨rfl, hb⟩
  obtain ⟨hA, hb1⟩ := slot hb
  obtain ⟨p0, p1, p2, q0, q1, q2⟩ := hA.three
  obtain ⟨z0, z1, z2⟩ := three_set (u := .int .i64 4) (v := .int .i64 4) (r := .string ⟨#[]⟩) p0 p1 p2
  have hb2 := set3 hb1 (Nat.le_refl _) (.int .i64 4) (.int .i64 4) (.string ⟨#[]⟩)
  clear hA hb hb1
  go_wp2
  exact bodyPost_ret (v := .agg #[.int .i64 4, .int .i64 4, .string ⟨#[]⟩]) (by simp [results, Tryd.results34, go_sem, z0, z1, z2]) rfl ⟨rfl, hb2⟩
theorem num_c (x k n : Int) (h : numV x = (k, n)) (w : World) : Calls Tryd.prog 34 #[.int .i64 x] w (ValIs k n ⟨#[]⟩ w) := by
  cases hm : mayD x
  · obtain ⟨rfl, rfl⟩ := Prod.mk.inj ((num_out hm).symm.trans h); exact num_out_c x hm w
  · obtain ⟨rfl, rfl⟩ := Prod.mk.inj ((num_in hm).symm.trans h); exact num_in_c x hm w
set_option maxRecDepth 100000 in
set_option maxHeartbeats 400000 in
theorem str_in_c (t : ByteArray) (h : t.size ≤ 256) (w : World) : Calls Tryd.prog 35 #[.string t] w (ValIs 2 0 t w) := by
  have d0 : decide (256 < t.size) = false := decide_eq_false (by omega)
  go_enter Tryd.func35, Tryd.ntmps35
  go_wp2
  exact bodyPost_ret (v := .agg #[.int .i64 2, .int .i64 0, .string t]) (by simp [results, Tryd.results35, go_sem]) rfl ⟨rfl, below1 _ _⟩
set_option maxRecDepth 100000 in
set_option maxHeartbeats 400000 in
theorem str_out_c (t : ByteArray) (h : 256 < t.size) (w : World) : Calls Tryd.prog 35 #[.string t] w (ValIs 4 2 ⟨#[]⟩ w) := by
  have d0 : decide (256 < t.size) = true := decide_eq_true h
  have HB := Lib.hid (fun w1 => bad_c 2 w1)
  rw [bad_in (by omega) (by omega)] at HB
  go_enter Tryd.func35, Tryd.ntmps35
  go_wp2_with fail
  refine (HB.out _).mono ?_
  rintro e w1 ⟨rfl, hb⟩
  obtain ⟨hA, hb1⟩ := slot hb
  obtain ⟨p0, p1, p2, q0, q1, q2⟩ := hA.three
  obtain ⟨z0, z1, z2⟩ := three_set (u := .int .i64 4) (v := .int .i64 2) (r := .string ⟨#[]⟩) p0 p1 p2
  have hb2 := set3 hb1 (Nat.le_refl _) (.int .i64 4) (.int .i64 2) (.string ⟨#[]⟩)
  clear hA hb hb1
  go_wp2
  exact bodyPost_ret (v := .agg #[.int .i64 4, .int .i64 2, .string ⟨#[]⟩]) (by simp [results, Tryd.results35, go_sem, z0, z1, z2]) rfl ⟨rfl, hb2⟩
theorem str_c (t : ByteArray) (k n : Int) (s : ByteArray) (h : strV t = (k, n, s)) (w : World) : Calls Tryd.prog 35 #[.string t] w (ValIs k n s w) := by
  by_cases hm : t.size ≤ 256
  · obtain ⟨rfl, h2⟩ := Prod.mk.inj ((str_in hm).symm.trans h); obtain ⟨rfl, rfl⟩ := Prod.mk.inj h2; exact str_in_c t hm w
  · obtain ⟨rfl, h2⟩ := Prod.mk.inj ((str_out (by omega)).symm.trans h); obtain ⟨rfl, rfl⟩ := Prod.mk.inj h2; exact str_out_c t (by omega) w
set_option maxRecDepth 100000 in
set_option maxHeartbeats 400000 in
theorem bool_c (b : Bool) (w : World) : Calls Tryd.prog 36 #[.bool b] w (ValIs 3 (if b then 1 else 0) ⟨#[]⟩ w) := by
  cases b
  all_goals
    go_enter Tryd.func36, Tryd.ntmps36
    go_wp2
    exact bodyPost_ret (by simp [results, Tryd.results36, go_sem]) rfl ⟨rfl, below1 _ _⟩
end Go.Proofs.YtcgpggknmhlnkaaDoor.Val

/- What the reference's AsNumber, Words, AsText, AsTruth and Show answer: for every value that may be, kind by kind. Written by wip/genval4.py. -/
import Derived.Test.YtcampdedhfhkbaaDoorValGo
import Derived.Test.YtcampdedhfhkbaaDoorValRefLeaf
import Derived.Test.YtcampdedhfhkbaaDoorValRQuote
import Derived.Test.YtcampdedhfhkbaaDoorDigRef
import Derived.Test.YtcampdedhfhkbaaDoorDigRRead
namespace Go.Proofs.YtcampdedhfhkbaaDoor.Val
open Go.RowKit Kit Dec Dig

set_option maxRecDepth 100000 in
set_option maxHeartbeats 2000000 in
theorem rwords_n (x : Int) (h2 : x ≤ 9223372036854775807) (w : World) : Calls Tryd.prog 49 #[.agg #[.int .i64 1, .int .i64 x, .string ⟨#[]⟩]] w (TextB (textD x) w) := by
  have HN := Lib.hid (fun w1 => rtext_c x h2 w1)
  go_enter Tryd.func49, Tryd.ntmps49
  go_wp2_with fail
  refine (HN.out _).mono ?_
  rintro e w1 ⟨s, rfl, hs, hb⟩
  replace hs := Lib.hid hs
  have hb2 := on (below1 w _) hb
  go_wp2
  go_ret
  exact ⟨s, rfl, hs.out, hb2⟩
set_option maxRecDepth 100000 in
set_option maxHeartbeats 2000000 in
theorem rwords_e (w : World) : Calls Tryd.prog 49 #[.agg #[.int .i64 0, .int .i64 0, .string ⟨#[]⟩]] w (fun e w' => e = .returned (.string ⟨#[]⟩) ∧ Below w.heap.size w w') := by
  go_enter Tryd.func49, Tryd.ntmps49
  go_wp2
  go_ret
  exact ⟨rfl, below1 _ _⟩
set_option maxRecDepth 100000 in
set_option maxHeartbeats 2000000 in
theorem rwords_t (t : ByteArray) (w : World) : Calls Tryd.prog 49 #[.agg #[.int .i64 2, .int .i64 0, .string t]] w (fun e w' => e = .returned (.string t) ∧ Below w.heap.size w w') := by
  go_enter Tryd.func49, Tryd.ntmps49
  go_wp2
  go_ret
  exact ⟨rfl, below1 _ _⟩
set_option maxRecDepth 100000 in
set_option maxHeartbeats 2000000 in
theorem rwords_b0 (w : World) : Calls Tryd.prog 49 #[.agg #[.int .i64 3, .int .i64 0, .string ⟨#[]⟩]] w (fun e w' => e = .returned (.string noT) ∧ Below w.heap.size w w') := by
  go_enter Tryd.func49, Tryd.ntmps49
  go_wp2
  go_ret
  exact ⟨rfl, below1 _ _⟩
set_option maxRecDepth 100000 in
set_option maxHeartbeats 2000000 in
theorem rwords_b1 (w : World) : Calls Tryd.prog 49 #[.agg #[.int .i64 3, .int .i64 1, .string ⟨#[]⟩]] w (fun e w' => e = .returned (.string yesT) ∧ Below w.heap.size w w') := by
  go_enter Tryd.func49, Tryd.ntmps49
  go_wp2
  go_ret
  exact ⟨rfl, below1 _ _⟩
set_option maxRecDepth 100000 in
set_option maxHeartbeats 2000000 in
theorem rastruth_e (w : World) : Calls Tryd.prog 53 #[.agg #[.int .i64 0, .int .i64 0, .string ⟨#[]⟩]] w (ValIs 3 0 ⟨#[]⟩ w) := by
  have HB : Hid (∀ w1, Calls Tryd.prog 54 #[.bool false] w1 (ValIs 3 0 ⟨#[]⟩ w1)) := Lib.hid (fun w1 => rbool_c false w1)
  go_enter Tryd.func53, Tryd.ntmps53
  go_wp2_with fail
  refine (HB.out _).mono ?_
  rintro e w1 ⟨rfl, hb⟩
  obtain ⟨hA, hb1⟩ := slot2 hb
  obtain ⟨p0, p1, p2, q0, q1, q2⟩ := hA.three
  obtain ⟨z0, z1, z2⟩ := three_set (u := .int .i64 3) (v := .int .i64 0) (r := .string ⟨#[]⟩) p0 p1 p2
  have hb2 := set3 hb1 (Nat.le_add_right _ 1) (.int .i64 3) (.int .i64 0) (.string ⟨#[]⟩)
  clear hA hb hb1
  go_wp2
  exact bodyPost_ret (v := .agg #[.int .i64 3, .int .i64 0, .string ⟨#[]⟩]) (by simp [results, Tryd.results53, go_sem, z0, z1, z2]) rfl ⟨rfl, hb2⟩
set_option maxRecDepth 100000 in
set_option maxHeartbeats 2000000 in
theorem rastruth_n0 (w : World) : Calls Tryd.prog 53 #[.agg #[.int .i64 1, .int .i64 0, .string ⟨#[]⟩]] w (ValIs 3 0 ⟨#[]⟩ w) := by
  have HB : Hid (∀ w1, Calls Tryd.prog 54 #[.bool false] w1 (ValIs 3 0 ⟨#[]⟩ w1)) := Lib.hid (fun w1 => rbool_c false w1)
  go_enter Tryd.func53, Tryd.ntmps53
  go_wp2_with fail
  refine (HB.out _).mono ?_
  rintro e w1 ⟨rfl, hb⟩
  obtain ⟨hA, hb1⟩ := slot2 hb
  obtain ⟨p0, p1, p2, q0, q1, q2⟩ := hA.three
  obtain ⟨z0, z1, z2⟩ := three_set (u := .int .i64 3) (v := .int .i64 0) (r := .string ⟨#[]⟩) p0 p1 p2
  have hb2 := set3 hb1 (Nat.le_add_right _ 1) (.int .i64 3) (.int .i64 0) (.string ⟨#[]⟩)
  clear hA hb hb1
  go_wp2
  exact bodyPost_ret (v := .agg #[.int .i64 3, .int .i64 0, .string ⟨#[]⟩]) (by simp [results, Tryd.results53, go_sem, z0, z1, z2]) rfl ⟨rfl, hb2⟩
set_option maxRecDepth 100000 in
set_option maxHeartbeats 2000000 in
theorem rastruth_n1 (n : Int) (hn : ¬ n = 0) (w : World) : Calls Tryd.prog 53 #[.agg #[.int .i64 1, .int .i64 n, .string ⟨#[]⟩]] w (ValIs 3 1 ⟨#[]⟩ w) := by
  have hz1 : (n != 0) = true := by simpa using hn
  have hz2 : (n == 0) = false := by simpa using hn
  have HB : Hid (∀ w1, Calls Tryd.prog 54 #[.bool true] w1 (ValIs 3 1 ⟨#[]⟩ w1)) := Lib.hid (fun w1 => rbool_c true w1)
  go_enter Tryd.func53, Tryd.ntmps53
  go_wp2_with fail
  refine (HB.out _).mono ?_
  rintro e w1 ⟨rfl, hb⟩
  obtain ⟨hA, hb1⟩ := slot2 hb
  obtain ⟨p0, p1, p2, q0, q1, q2⟩ := hA.three
  obtain ⟨z0, z1, z2⟩ := three_set (u := .int .i64 3) (v := .int .i64 1) (r := .string ⟨#[]⟩) p0 p1 p2
  have hb2 := set3 hb1 (Nat.le_add_right _ 1) (.int .i64 3) (.int .i64 1) (.string ⟨#[]⟩)
  clear hA hb hb1
  go_wp2
  exact bodyPost_ret (v := .agg #[.int .i64 3, .int .i64 1, .string ⟨#[]⟩]) (by simp [results, Tryd.results53, go_sem, z0, z1, z2]) rfl ⟨rfl, hb2⟩
set_option maxRecDepth 100000 in
set_option maxHeartbeats 2000000 in
theorem rastruth_tyes (w : World) : Calls Tryd.prog 53 #[.agg #[.int .i64 2, .int .i64 0, .string yesT]] w (ValIs 3 1 ⟨#[]⟩ w) := by
  have HB : Hid (∀ w1, Calls Tryd.prog 54 #[.bool true] w1 (ValIs 3 1 ⟨#[]⟩ w1)) := Lib.hid (fun w1 => rbool_c true w1)
  unfold yesT
  go_enter Tryd.func53, Tryd.ntmps53
  go_wp2_with fail
  refine (HB.out _).mono ?_
  rintro e w1 ⟨rfl, hb⟩
  obtain ⟨hA, hb1⟩ := slot2 hb
  obtain ⟨p0, p1, p2, q0, q1, q2⟩ := hA.three
  obtain ⟨z0, z1, z2⟩ := three_set (u := .int .i64 3) (v := .int .i64 1) (r := .string ⟨#[]⟩) p0 p1 p2
  have hb2 := set3 hb1 (Nat.le_add_right _ 1) (.int .i64 3) (.int .i64 1) (.string ⟨#[]⟩)
  clear hA hb hb1
  go_wp2
  exact bodyPost_ret (v := .agg #[.int .i64 3, .int .i64 1, .string ⟨#[]⟩]) (by simp [results, Tryd.results53, go_sem, z0, z1, z2]) rfl ⟨rfl, hb2⟩
set_option maxRecDepth 100000 in
set_option maxHeartbeats 2000000 in
theorem rastruth_tno (w : World) : Calls Tryd.prog 53 #[.agg #[.int .i64 2, .int .i64 0, .string noT]] w (ValIs 3 0 ⟨#[]⟩ w) := by
  have HB : Hid (∀ w1, Calls Tryd.prog 54 #[.bool false] w1 (ValIs 3 0 ⟨#[]⟩ w1)) := Lib.hid (fun w1 => rbool_c false w1)
  unfold noT
  go_enter Tryd.func53, Tryd.ntmps53
  go_wp2_with fail
  refine (HB.out _).mono ?_
  rintro e w1 ⟨rfl, hb⟩
  obtain ⟨hA, hb1⟩ := slot2 hb
  obtain ⟨p0, p1, p2, q0, q1, q2⟩ := hA.three
  obtain ⟨z0, z1, z2⟩ := three_set (u := .int .i64 3) (v := .int .i64 0) (r := .string ⟨#[]⟩) p0 p1 p2
  have hb2 := set3 hb1 (Nat.le_add_right _ 1) (.int .i64 3) (.int .i64 0) (.string ⟨#[]⟩)
  clear hA hb hb1
  go_wp2
  exact bodyPost_ret (v := .agg #[.int .i64 3, .int .i64 0, .string ⟨#[]⟩]) (by simp [results, Tryd.results53, go_sem, z0, z1, z2]) rfl ⟨rfl, hb2⟩
set_option maxRecDepth 100000 in
set_option maxHeartbeats 2000000 in
theorem rastruth_telse (t : ByteArray) (h1 : t ≠ yesT) (h2 : t ≠ noT) (w : World) : Calls Tryd.prog 53 #[.agg #[.int .i64 2, .int .i64 0, .string t]] w (ValIs 4 2 ⟨#[]⟩ w) := by
  have d1 : (t.toList == [84, 82, 85, 69]) = false := yes_ne h1
  have d2 : (t.toList == [70, 65, 76, 83, 69]) = false := no_ne h2
  have d3 : (t.toList != [84, 82, 85, 69]) = true := by rw [bne, d1]; rfl
  have d4 : (t.toList != [70, 65, 76, 83, 69]) = true := by rw [bne, d2]; rfl
  clear h1 h2
  have HB := Lib.hid (fun w1 => rbad_c 2 w1)
  rw [bad_in (by omega) (by omega)] at HB
  go_enter Tryd.func53, Tryd.ntmps53
  go_wp2_with fail
  refine (HB.out _).mono ?_
  rintro e w1 ⟨rfl, hb⟩
  obtain ⟨hA, hb1⟩ := slot2 hb
  obtain ⟨p0, p1, p2, q0, q1, q2⟩ := hA.three
  obtain ⟨z0, z1, z2⟩ := three_set (u := .int .i64 4) (v := .int .i64 2) (r := .string ⟨#[]⟩) p0 p1 p2
  have hb2 := set3 hb1 (Nat.le_add_right _ 1) (.int .i64 4) (.int .i64 2) (.string ⟨#[]⟩)
  clear hA hb hb1
  go_wp2
  exact bodyPost_ret (v := .agg #[.int .i64 4, .int .i64 2, .string ⟨#[]⟩]) (by simp [results, Tryd.results53, go_sem, z0, z1, z2]) rfl ⟨rfl, hb2⟩
set_option maxRecDepth 100000 in
set_option maxHeartbeats 2000000 in
theorem rastruth_b (n : Int) (w : World) : Calls Tryd.prog 53 #[.agg #[.int .i64 3, .int .i64 n, .string ⟨#[]⟩]] w (ValIs 3 n ⟨#[]⟩ w) := by
  go_enter Tryd.func53, Tryd.ntmps53
  go_wp2
  exact bodyPost_ret (v := .agg #[.int .i64 3, .int .i64 n, .string ⟨#[]⟩]) (by simp [results, Tryd.results53, go_sem]) rfl ⟨rfl, below2 _ _ _⟩
set_option maxRecDepth 100000 in
set_option maxHeartbeats 2000000 in
theorem rastruth_f (c : Int) (w : World) : Calls Tryd.prog 53 #[.agg #[.int .i64 4, .int .i64 c, .string ⟨#[]⟩]] w (ValIs 4 c ⟨#[]⟩ w) := by
  go_enter Tryd.func53, Tryd.ntmps53
  go_wp2
  exact bodyPost_ret (v := .agg #[.int .i64 4, .int .i64 c, .string ⟨#[]⟩]) (by simp [results, Tryd.results53, go_sem]) rfl ⟨rfl, below2 _ _ _⟩
end Go.Proofs.YtcampdedhfhkbaaDoor.Val

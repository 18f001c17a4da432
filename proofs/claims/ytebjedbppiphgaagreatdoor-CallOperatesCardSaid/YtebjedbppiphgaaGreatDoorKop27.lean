/- What the reference's AsNumber, Words, AsText, AsTruth and Show answer: for every value that may be, kind by kind. Written by wip/genval4.py. -/
import Derived.Test.YtebjedbppiphgaaGreatDoorKop14
import Derived.Test.YtebjedbppiphgaaGreatDoorKop23
import Derived.Test.YtebjedbppiphgaaGreatDoorKop25
import Derived.Test.YtebjedbppiphgaaGreatDoorKop26
namespace Go.Proofs.YtebjedbppiphgaaGreatDoor.Val
open Go.RowKit Kit Dec Dig
set_option maxRecDepth 100000 in
set_option maxHeartbeats 2000000 in
theorem rasnum_e (w : World) : Calls Tryz.prog 16 #[.agg #[.int .i64 0, .int .i64 0, .string ⟨#[]⟩]] w (ValIs 1 0 ⟨#[]⟩ w) := by
  have HN := Lib.hid (fun w1 => rnum_c 0 1 0 (num_in (by decide)) w1)
  go_enter Tryz.func16, Tryz.ntmps16
  go_wp2_with fail
  refine (HN.out _).mono ?_
  rintro e w1 ⟨rfl, hb⟩
  obtain ⟨hA, hb1⟩ := slot2 hb
  obtain ⟨p0, p1, p2, q0, q1, q2⟩ := hA.three
  obtain ⟨z0, z1, z2⟩ := three_set (u := .int .i64 1) (v := .int .i64 0) (r := .string ⟨#[]⟩) p0 p1 p2
  have hb2 := set3 hb1 (Nat.le_add_right _ 1) (.int .i64 1) (.int .i64 0) (.string ⟨#[]⟩)
  clear hA hb hb1
  go_wp2
  exact bodyPost_ret (v := .agg #[.int .i64 1, .int .i64 0, .string ⟨#[]⟩]) (by simp [results, Tryz.results16, go_sem, z0, z1, z2]) rfl ⟨rfl, hb2⟩
set_option maxRecDepth 100000 in
set_option maxHeartbeats 2000000 in
theorem rasnum_n (n : Int) (w : World) : Calls Tryz.prog 16 #[.agg #[.int .i64 1, .int .i64 n, .string ⟨#[]⟩]] w (ValIs 1 n ⟨#[]⟩ w) := by
  go_enter Tryz.func16, Tryz.ntmps16
  go_wp2
  exact bodyPost_ret (v := .agg #[.int .i64 1, .int .i64 n, .string ⟨#[]⟩]) (by simp [results, Tryz.results16, go_sem]) rfl ⟨rfl, below2 _ _ _⟩
set_option maxRecDepth 100000 in
set_option maxHeartbeats 2000000 in
theorem rasnum_tyes (t : ByteArray) (x : Int) (hn : readD t.data.toList = (x, true)) (w : World) : Calls Tryz.prog 16 #[.agg #[.int .i64 2, .int .i64 0, .string t]] w (ValIs 1 x ⟨#[]⟩ w) := by
  have HR := Lib.hid (fun w1 => rread_c t x true hn w1)
  have hm := mayD_yes (readD_room hn).1.1
  have HN := Lib.hid (fun w1 => rnum_c x 1 x (num_in hm) w1)
  clear hm hn
  go_enter Tryz.func16, Tryz.ntmps16
  go_wp2_with fail
  refine (HR.out _).mono ?_
  rintro e w1 ⟨rfl, hb0⟩
  go_wp2_with fail
  refine (HN.out _).mono ?_
  rintro e w2 ⟨rfl, hb9⟩
  have hb := on (on_alloc hb0 _) hb9
  clear hb0 hb9
  obtain ⟨hA, hb1⟩ := slot2 hb
  obtain ⟨p0, p1, p2, q0, q1, q2⟩ := hA.three
  obtain ⟨z0, z1, z2⟩ := three_set (u := .int .i64 1) (v := .int .i64 x) (r := .string ⟨#[]⟩) p0 p1 p2
  have hb2 := set3 hb1 (Nat.le_add_right _ 1) (.int .i64 1) (.int .i64 x) (.string ⟨#[]⟩)
  clear hA hb hb1
  go_wp2
  exact bodyPost_ret (v := .agg #[.int .i64 1, .int .i64 x, .string ⟨#[]⟩]) (by simp [results, Tryz.results16, go_sem, z0, z1, z2]) rfl ⟨rfl, hb2⟩
set_option maxRecDepth 100000 in
set_option maxHeartbeats 2000000 in
theorem rasnum_tno (t : ByteArray) (x : Int) (hn : readD t.data.toList = (x, false)) (w : World) : Calls Tryz.prog 16 #[.agg #[.int .i64 2, .int .i64 0, .string t]] w (ValIs 4 2 ⟨#[]⟩ w) := by
  have HR := Lib.hid (fun w1 => rread_c t x false hn w1)
  have HN := Lib.hid (fun w1 => rbad_c 2 w1)
  rw [bad_in (by omega) (by omega)] at HN
  clear hn
  go_enter Tryz.func16, Tryz.ntmps16
  go_wp2_with fail
  refine (HR.out _).mono ?_
  rintro e w1 ⟨rfl, hb0⟩
  go_wp2_with fail
  refine (HN.out _).mono ?_
  rintro e w2 ⟨rfl, hb9⟩
  have hb := on (on_alloc hb0 _) hb9
  clear hb0 hb9
  obtain ⟨hA, hb1⟩ := slot2 hb
  obtain ⟨p0, p1, p2, q0, q1, q2⟩ := hA.three
  obtain ⟨z0, z1, z2⟩ := three_set (u := .int .i64 4) (v := .int .i64 2) (r := .string ⟨#[]⟩) p0 p1 p2
  have hb2 := set3 hb1 (Nat.le_add_right _ 1) (.int .i64 4) (.int .i64 2) (.string ⟨#[]⟩)
  clear hA hb hb1
  go_wp2
  exact bodyPost_ret (v := .agg #[.int .i64 4, .int .i64 2, .string ⟨#[]⟩]) (by simp [results, Tryz.results16, go_sem, z0, z1, z2]) rfl ⟨rfl, hb2⟩
set_option maxRecDepth 100000 in
set_option maxHeartbeats 2000000 in
theorem rasnum_b0 (w : World) : Calls Tryz.prog 16 #[.agg #[.int .i64 3, .int .i64 0, .string ⟨#[]⟩]] w (ValIs 1 0 ⟨#[]⟩ w) := by
  have HN := Lib.hid (fun w1 => rnum_c 0 1 0 (num_in (by decide)) w1)
  go_enter Tryz.func16, Tryz.ntmps16
  go_wp2_with fail
  refine (HN.out _).mono ?_
  rintro e w1 ⟨rfl, hb⟩
  obtain ⟨hA, hb1⟩ := slot2 hb
  obtain ⟨p0, p1, p2, q0, q1, q2⟩ := hA.three
  obtain ⟨z0, z1, z2⟩ := three_set (u := .int .i64 1) (v := .int .i64 0) (r := .string ⟨#[]⟩) p0 p1 p2
  have hb2 := set3 hb1 (Nat.le_add_right _ 1) (.int .i64 1) (.int .i64 0) (.string ⟨#[]⟩)
  clear hA hb hb1
  go_wp2
  exact bodyPost_ret (v := .agg #[.int .i64 1, .int .i64 0, .string ⟨#[]⟩]) (by simp [results, Tryz.results16, go_sem, z0, z1, z2]) rfl ⟨rfl, hb2⟩
set_option maxRecDepth 100000 in
set_option maxHeartbeats 2000000 in
theorem rasnum_b1 (w : World) : Calls Tryz.prog 16 #[.agg #[.int .i64 3, .int .i64 1, .string ⟨#[]⟩]] w (ValIs 1 10000 ⟨#[]⟩ w) := by
  have HN := Lib.hid (fun w1 => rnum_c 10000 1 10000 (num_in (by decide)) w1)
  go_enter Tryz.func16, Tryz.ntmps16
  go_wp2_with fail
  refine (HN.out _).mono ?_
  rintro e w1 ⟨rfl, hb⟩
  obtain ⟨hA, hb1⟩ := slot2 hb
  obtain ⟨p0, p1, p2, q0, q1, q2⟩ := hA.three
  obtain ⟨z0, z1, z2⟩ := three_set (u := .int .i64 1) (v := .int .i64 10000) (r := .string ⟨#[]⟩) p0 p1 p2
  have hb2 := set3 hb1 (Nat.le_add_right _ 1) (.int .i64 1) (.int .i64 10000) (.string ⟨#[]⟩)
  clear hA hb hb1
  go_wp2
  exact bodyPost_ret (v := .agg #[.int .i64 1, .int .i64 10000, .string ⟨#[]⟩]) (by simp [results, Tryz.results16, go_sem, z0, z1, z2]) rfl ⟨rfl, hb2⟩
set_option maxRecDepth 100000 in
set_option maxHeartbeats 2000000 in
theorem rasnum_f (c : Int) (w : World) : Calls Tryz.prog 16 #[.agg #[.int .i64 4, .int .i64 c, .string ⟨#[]⟩]] w (ValIs 4 c ⟨#[]⟩ w) := by
  go_enter Tryz.func16, Tryz.ntmps16
  go_wp2
  exact bodyPost_ret (v := .agg #[.int .i64 4, .int .i64 c, .string ⟨#[]⟩]) (by simp [results, Tryz.results16, go_sem]) rfl ⟨rfl, below2 _ _ _⟩
set_option maxRecDepth 100000 in
set_option maxHeartbeats 2000000 in
theorem rwords_n (x : Int) (h2 : x ≤ 9223372036854775807) (w : World) : Calls Tryz.prog 196 #[.agg #[.int .i64 1, .int .i64 x, .string ⟨#[]⟩]] w (TextB (textD x) w) := by
  have HN := Lib.hid (fun w1 => rtext_c x h2 w1)
  go_enter Tryz.func196, Tryz.ntmps196
  go_wp2_with fail
  refine (HN.out _).mono ?_
  rintro e w1 ⟨s, rfl, hs, hb⟩
  replace hs := Lib.hid hs
  have hb2 := on (below1 w _) hb
  go_wp2
  go_ret
  exact ⟨s, rfl, hs.out, hb2⟩
set_option maxRecDepth 100000 in
set_option maxHeartbeats 2000000 in
theorem rwords_e (w : World) : Calls Tryz.prog 196 #[.agg #[.int .i64 0, .int .i64 0, .string ⟨#[]⟩]] w (fun e w' => e = .returned (.string ⟨#[]⟩) ∧ Below w.heap.size w w') := by
  go_enter Tryz.func196, Tryz.ntmps196
  go_wp2
  go_ret
  exact ⟨rfl, below1 _ _⟩
set_option maxRecDepth 100000 in
set_option maxHeartbeats 2000000 in
theorem rwords_t (t : ByteArray) (w : World) : Calls Tryz.prog 196 #[.agg #[.int .i64 2, .int .i64 0, .string t]] w (fun e w' => e = .returned (.string t) ∧ Below w.heap.size w w') := by
  go_enter Tryz.func196, Tryz.ntmps196
  go_wp2
  go_ret
  exact ⟨rfl, below1 _ _⟩
set_option maxRecDepth 100000 in
set_option maxHeartbeats 2000000 in
theorem rwords_b0 (w : World) : Calls Tryz.prog 196 #[.agg #[.int .i64 3, .int .i64 0, .string ⟨#[]⟩]] w (fun e w' => e = .returned (.string noT) ∧ Below w.heap.size w w') := by
  go_enter Tryz.func196, Tryz.ntmps196
  go_wp2
  go_ret
  exact ⟨rfl, below1 _ _⟩
set_option maxRecDepth 100000 in
set_option maxHeartbeats 2000000 in
theorem rwords_b1 (w : World) : Calls Tryz.prog 196 #[.agg #[.int .i64 3, .int .i64 1, .string ⟨#[]⟩]] w (fun e w' => e = .returned (.string yesT) ∧ Below w.heap.size w w') := by
  go_enter Tryz.func196, Tryz.ntmps196
  go_wp2
  go_ret
  exact ⟨rfl, below1 _ _⟩
set_option maxRecDepth 100000 in
set_option maxHeartbeats 2000000 in
theorem rastext_e (w : World) : Calls Tryz.prog 88 #[.agg #[.int .i64 0, .int .i64 0, .string ⟨#[]⟩]] w (ValIs 2 0 ⟨#[]⟩ w) := by
  have HW := Lib.hid (fun w1 => rwords_e w1)
  have HS := Lib.hid (fun w1 => rstr_c ⟨#[]⟩ 2 0 ⟨#[]⟩ (str_in (by decide)) w1)
  go_enter Tryz.func88, Tryz.ntmps88
  go_wp2_with fail
  refine (HW.out _).mono ?_
  rintro e w1 ⟨rfl, hb0⟩
  go_wp2_with fail
  refine (HS.out _).mono ?_
  rintro e w2 ⟨rfl, hb9⟩
  have hb := on hb0 hb9
  clear hb0 hb9
  obtain ⟨hA, hb1⟩ := slot2 hb
  obtain ⟨p0, p1, p2, q0, q1, q2⟩ := hA.three
  obtain ⟨z0, z1, z2⟩ := three_set (u := .int .i64 2) (v := .int .i64 0) (r := .string ⟨#[]⟩) p0 p1 p2
  have hb2 := set3 hb1 (Nat.le_add_right _ 1) (.int .i64 2) (.int .i64 0) (.string ⟨#[]⟩)
  clear hA hb hb1
  go_wp2
  exact bodyPost_ret (v := .agg #[.int .i64 2, .int .i64 0, .string ⟨#[]⟩]) (by simp [results, Tryz.results88, go_sem, z0, z1, z2]) rfl ⟨rfl, hb2⟩
set_option maxRecDepth 100000 in
set_option maxHeartbeats 2000000 in
theorem rastext_n (x : Int) (h1 : -9223372036854775808 ≤ x) (h2 : x ≤ 9223372036854775807) (w : World) : Calls Tryz.prog 88 #[.agg #[.int .i64 1, .int .i64 x, .string ⟨#[]⟩]] w (ValT 2 0 (textD x) w) := by
  have H21 := Lib.hid (fun s hs => text21 x h1 h2 s hs)
  have HW := Lib.hid (fun w1 => rwords_n x h2 w1)
  go_enter Tryz.func88, Tryz.ntmps88
  go_wp2_with fail
  refine (HW.out _).mono ?_
  rintro e w1 ⟨s, rfl, hs, hb0⟩
  have HS := Lib.hid (fun w1 => rstr_c s 2 0 s (str_in (H21.out s hs)) w1)
  replace hs := Lib.hid hs
  go_wp2_with fail
  refine (HS.out _).mono ?_
  rintro e w2 ⟨rfl, hb9⟩
  have hb := on hb0 hb9
  clear hb0 hb9
  obtain ⟨hA, hb1⟩ := slot2 hb
  obtain ⟨p0, p1, p2, q0, q1, q2⟩ := hA.three
  obtain ⟨z0, z1, z2⟩ := three_set (u := .int .i64 2) (v := .int .i64 0) (r := .string s) p0 p1 p2
  have hb2 := set3 hb1 (Nat.le_add_right _ 1) (.int .i64 2) (.int .i64 0) (.string s)
  clear hA hb hb1
  go_wp2
  exact bodyPost_ret (v := .agg #[.int .i64 2, .int .i64 0, .string s]) (by simp [results, Tryz.results88, go_sem, z0, z1, z2]) rfl ⟨s, rfl, hs.out, hb2⟩
set_option maxRecDepth 100000 in
set_option maxHeartbeats 2000000 in
theorem rastext_t (t : ByteArray) (ht : t.size ≤ 256) (w : World) : Calls Tryz.prog 88 #[.agg #[.int .i64 2, .int .i64 0, .string t]] w (ValIs 2 0 t w) := by
  have HW := Lib.hid (fun w1 => rwords_t t w1)
  have HS := Lib.hid (fun w1 => rstr_c t 2 0 t (str_in ht) w1)
  go_enter Tryz.func88, Tryz.ntmps88
  go_wp2_with fail
  refine (HW.out _).mono ?_
  rintro e w1 ⟨rfl, hb0⟩
  go_wp2_with fail
  refine (HS.out _).mono ?_
  rintro e w2 ⟨rfl, hb9⟩
  have hb := on hb0 hb9
  clear hb0 hb9
  obtain ⟨hA, hb1⟩ := slot2 hb
  obtain ⟨p0, p1, p2, q0, q1, q2⟩ := hA.three
  obtain ⟨z0, z1, z2⟩ := three_set (u := .int .i64 2) (v := .int .i64 0) (r := .string t) p0 p1 p2
  have hb2 := set3 hb1 (Nat.le_add_right _ 1) (.int .i64 2) (.int .i64 0) (.string t)
  clear hA hb hb1
  go_wp2
  exact bodyPost_ret (v := .agg #[.int .i64 2, .int .i64 0, .string t]) (by simp [results, Tryz.results88, go_sem, z0, z1, z2]) rfl ⟨rfl, hb2⟩
set_option maxRecDepth 100000 in
set_option maxHeartbeats 2000000 in
theorem rastext_b0 (w : World) : Calls Tryz.prog 88 #[.agg #[.int .i64 3, .int .i64 0, .string ⟨#[]⟩]] w (ValIs 2 0 noT w) := by
  have HW := Lib.hid (fun w1 => rwords_b0 w1)
  have HS := Lib.hid (fun w1 => rstr_c noT 2 0 noT (str_in (by decide)) w1)
  go_enter Tryz.func88, Tryz.ntmps88
  go_wp2_with fail
  refine (HW.out _).mono ?_
  rintro e w1 ⟨rfl, hb0⟩
  go_wp2_with fail
  refine (HS.out _).mono ?_
  rintro e w2 ⟨rfl, hb9⟩
  have hb := on hb0 hb9
  clear hb0 hb9
  obtain ⟨hA, hb1⟩ := slot2 hb
  obtain ⟨p0, p1, p2, q0, q1, q2⟩ := hA.three
  obtain ⟨z0, z1, z2⟩ := three_set (u := .int .i64 2) (v := .int .i64 0) (r := .string noT) p0 p1 p2
  have hb2 := set3 hb1 (Nat.le_add_right _ 1) (.int .i64 2) (.int .i64 0) (.string noT)
  clear hA hb hb1
  go_wp2
  exact bodyPost_ret (v := .agg #[.int .i64 2, .int .i64 0, .string noT]) (by simp [results, Tryz.results88, go_sem, z0, z1, z2]) rfl ⟨rfl, hb2⟩
set_option maxRecDepth 100000 in
set_option maxHeartbeats 2000000 in
theorem rastext_b1 (w : World) : Calls Tryz.prog 88 #[.agg #[.int .i64 3, .int .i64 1, .string ⟨#[]⟩]] w (ValIs 2 0 yesT w) := by
  have HW := Lib.hid (fun w1 => rwords_b1 w1)
  have HS := Lib.hid (fun w1 => rstr_c yesT 2 0 yesT (str_in (by decide)) w1)
  go_enter Tryz.func88, Tryz.ntmps88
  go_wp2_with fail
  refine (HW.out _).mono ?_
  rintro e w1 ⟨rfl, hb0⟩
  go_wp2_with fail
  refine (HS.out _).mono ?_
  rintro e w2 ⟨rfl, hb9⟩
  have hb := on hb0 hb9
  clear hb0 hb9
  obtain ⟨hA, hb1⟩ := slot2 hb
  obtain ⟨p0, p1, p2, q0, q1, q2⟩ := hA.three
  obtain ⟨z0, z1, z2⟩ := three_set (u := .int .i64 2) (v := .int .i64 0) (r := .string yesT) p0 p1 p2
  have hb2 := set3 hb1 (Nat.le_add_right _ 1) (.int .i64 2) (.int .i64 0) (.string yesT)
  clear hA hb hb1
  go_wp2
  exact bodyPost_ret (v := .agg #[.int .i64 2, .int .i64 0, .string yesT]) (by simp [results, Tryz.results88, go_sem, z0, z1, z2]) rfl ⟨rfl, hb2⟩
set_option maxRecDepth 100000 in
set_option maxHeartbeats 2000000 in
theorem rastext_f (c : Int) (w : World) : Calls Tryz.prog 88 #[.agg #[.int .i64 4, .int .i64 c, .string ⟨#[]⟩]] w (ValIs 4 c ⟨#[]⟩ w) := by
  go_enter Tryz.func88, Tryz.ntmps88
  go_wp2
  exact bodyPost_ret (v := .agg #[.int .i64 4, .int .i64 c, .string ⟨#[]⟩]) (by simp [results, Tryz.results88, go_sem]) rfl ⟨rfl, below2 _ _ _⟩
set_option maxRecDepth 100000 in
set_option maxHeartbeats 2000000 in
theorem rastruth_e (w : World) : Calls Tryz.prog 89 #[.agg #[.int .i64 0, .int .i64 0, .string ⟨#[]⟩]] w (ValIs 3 0 ⟨#[]⟩ w) := by
  have HB : Hid (∀ w1, Calls Tryz.prog 41 #[.bool false] w1 (ValIs 3 0 ⟨#[]⟩ w1)) := Lib.hid (fun w1 => rbool_c false w1)
  go_enter Tryz.func89, Tryz.ntmps89
  go_wp2_with fail
  refine (HB.out _).mono ?_
  rintro e w1 ⟨rfl, hb⟩
  obtain ⟨hA, hb1⟩ := slot2 hb
  obtain ⟨p0, p1, p2, q0, q1, q2⟩ := hA.three
  obtain ⟨z0, z1, z2⟩ := three_set (u := .int .i64 3) (v := .int .i64 0) (r := .string ⟨#[]⟩) p0 p1 p2
  have hb2 := set3 hb1 (Nat.le_add_right _ 1) (.int .i64 3) (.int .i64 0) (.string ⟨#[]⟩)
  clear hA hb hb1
  go_wp2
  exact bodyPost_ret (v := .agg #[.int .i64 3, .int .i64 0, .string ⟨#[]⟩]) (by simp [results, Tryz.results89, go_sem, z0, z1, z2]) rfl ⟨rfl, hb2⟩
set_option maxRecDepth 100000 in
set_option maxHeartbeats 2000000 in
theorem rastruth_n0 (w : World) : Calls Tryz.prog 89 #[.agg #[.int .i64 1, .int .i64 0, .string ⟨#[]⟩]] w (ValIs 3 0 ⟨#[]⟩ w) := by
  have HB : Hid (∀ w1, Calls Tryz.prog 41 #[.bool false] w1 (ValIs 3 0 ⟨#[]⟩ w1)) := Lib.hid (fun w1 => rbool_c false w1)
  go_enter Tryz.func89, Tryz.ntmps89
  go_wp2_with fail
  refine (HB.out _).mono ?_
  rintro e w1 ⟨rfl, hb⟩
  obtain ⟨hA, hb1⟩ := slot2 hb
  obtain ⟨p0, p1, p2, q0, q1, q2⟩ := hA.three
  obtain ⟨z0, z1, z2⟩ := three_set (u := .int .i64 3) (v := .int .i64 0) (r := .string ⟨#[]⟩) p0 p1 p2
  have hb2 := set3 hb1 (Nat.le_add_right _ 1) (.int .i64 3) (.int .i64 0) (.string ⟨#[]⟩)
  clear hA hb hb1
  go_wp2
  exact bodyPost_ret (v := .agg #[.int .i64 3, .int .i64 0, .string ⟨#[]⟩]) (by simp [results, Tryz.results89, go_sem, z0, z1, z2]) rfl ⟨rfl, hb2⟩
set_option maxRecDepth 100000 in
set_option maxHeartbeats 2000000 in
theorem rastruth_n1 (n : Int) (hn : ¬ n = 0) (w : World) : Calls Tryz.prog 89 #[.agg #[.int .i64 1, .int .i64 n, .string ⟨#[]⟩]] w (ValIs 3 1 ⟨#[]⟩ w) := by
  have hz1 : (n != 0) = true := by simpa using hn
  have hz2 : (n == 0) = false := by simpa using hn
  have HB : Hid (∀ w1, Calls Tryz.prog 41 #[.bool true] w1 (ValIs 3 1 ⟨#[]⟩ w1)) := Lib.hid (fun w1 => rbool_c true w1)
  go_enter Tryz.func89, Tryz.ntmps89
  go_wp2_with fail
  refine (HB.out _).mono ?_
  rintro e w1 ⟨rfl, hb⟩
  obtain ⟨hA, hb1⟩ := slot2 hb
  obtain ⟨p0, p1, p2, q0, q1, q2⟩ := hA.three
  obtain ⟨z0, z1, z2⟩ := three_set (u := .int .i64 3) (v := .int .i64 1) (r := .string ⟨#[]⟩) p0 p1 p2
  have hb2 := set3 hb1 (Nat.le_add_right _ 1) (.int .i64 3) (.int .i64 1) (.string ⟨#[]⟩)
  clear hA hb hb1
  go_wp2
  exact bodyPost_ret (v := .agg #[.int .i64 3, .int .i64 1, .string ⟨#[]⟩]) (by simp [results, Tryz.results89, go_sem, z0, z1, z2]) rfl ⟨rfl, hb2⟩
set_option maxRecDepth 100000 in
set_option maxHeartbeats 2000000 in
theorem rastruth_tyes (w : World) : Calls Tryz.prog 89 #[.agg #[.int .i64 2, .int .i64 0, .string yesT]] w (ValIs 3 1 ⟨#[]⟩ w) := by
  have HB : Hid (∀ w1, Calls Tryz.prog 41 #[.bool true] w1 (ValIs 3 1 ⟨#[]⟩ w1)) := Lib.hid (fun w1 => rbool_c true w1)
  unfold yesT
  go_enter Tryz.func89, Tryz.ntmps89
  go_wp2_with fail
  refine (HB.out _).mono ?_
  rintro e w1 ⟨rfl, hb⟩
  obtain ⟨hA, hb1⟩ := slot2 hb
  obtain ⟨p0, p1, p2, q0, q1, q2⟩ := hA.three
  obtain ⟨z0, z1, z2⟩ := three_set (u := .int .i64 3) (v := .int .i64 1) (r := .string ⟨#[]⟩) p0 p1 p2
  have hb2 := set3 hb1 (Nat.le_add_right _ 1) (.int .i64 3) (.int .i64 1) (.string ⟨#[]⟩)
  clear hA hb hb1
  go_wp2
  exact bodyPost_ret (v := .agg #[.int .i64 3, .int .i64 1, .string ⟨#[]⟩]) (by simp [results, Tryz.results89, go_sem, z0, z1, z2]) rfl ⟨rfl, hb2⟩
set_option maxRecDepth 100000 in
set_option maxHeartbeats 2000000 in
theorem rastruth_tno (w : World) : Calls Tryz.prog 89 #[.agg #[.int .i64 2, .int .i64 0, .string noT]] w (ValIs 3 0 ⟨#[]⟩ w) := by
  have HB : Hid (∀ w1, Calls Tryz.prog 41 #[.bool false] w1 (ValIs 3 0 ⟨#[]⟩ w1)) := Lib.hid (fun w1 => rbool_c false w1)
  unfold noT
  go_enter Tryz.func89, Tryz.ntmps89
  go_wp2_with fail
  refine (HB.out _).mono ?_
  rintro e w1 ⟨rfl, hb⟩
  obtain ⟨hA, hb1⟩ := slot2 hb
  obtain ⟨p0, p1, p2, q0, q1, q2⟩ := hA.three
  obtain ⟨z0, z1, z2⟩ := three_set (u := .int .i64 3) (v := .int .i64 0) (r := .string ⟨#[]⟩) p0 p1 p2
  have hb2 := set3 hb1 (Nat.le_add_right _ 1) (.int .i64 3) (.int .i64 0) (.string ⟨#[]⟩)
  clear hA hb hb1
  go_wp2
  exact bodyPost_ret (v := .agg #[.int .i64 3, .int .i64 0, .string ⟨#[]⟩]) (by simp [results, Tryz.results89, go_sem, z0, z1, z2]) rfl ⟨rfl, hb2⟩
set_option maxRecDepth 100000 in
set_option maxHeartbeats 2000000 in
theorem rastruth_telse (t : ByteArray) (h1 : t ≠ yesT) (h2 : t ≠ noT) (w : World) : Calls Tryz.prog 89 #[.agg #[.int .i64 2, .int .i64 0, .string t]] w (ValIs 4 2 ⟨#[]⟩ w) := by
  have d1 : (t.toList == [84, 82, 85, 69]) = false := yes_ne h1
  have d2 : (t.toList == [70, 65, 76, 83, 69]) = false := no_ne h2
  have d3 : (t.toList != [84, 82, 85, 69]) = true := by rw [bne, d1]; rfl
  have d4 : (t.toList != [70, 65, 76, 83, 69]) = true := by rw [bne, d2]; rfl
  clear h1 h2
  have HB := Lib.hid (fun w1 => rbad_c 2 w1)
  rw [bad_in (by omega) (by omega)] at HB
  go_enter Tryz.func89, Tryz.ntmps89
  go_wp2_with fail
  refine (HB.out _).mono ?_
  rintro e w1 ⟨rfl, hb⟩
  obtain ⟨hA, hb1⟩ := slot2 hb
  obtain ⟨p0, p1, p2, q0, q1, q2⟩ := hA.three
  obtain ⟨z0, z1, z2⟩ := three_set (u := .int .i64 4) (v := .int .i64 2) (r := .string ⟨#[]⟩) p0 p1 p2
  have hb2 := set3 hb1 (Nat.le_add_right _ 1) (.int .i64 4) (.int .i64 2) (.string ⟨#[]⟩)
  clear hA hb hb1
  go_wp2
  exact bodyPost_ret (v := .agg #[.int .i64 4, .int .i64 2, .string ⟨#[]⟩]) (by simp [results, Tryz.results89, go_sem, z0, z1, z2]) rfl ⟨rfl, hb2⟩
set_option maxRecDepth 100000 in
set_option maxHeartbeats 2000000 in
theorem rastruth_b (n : Int) (w : World) : Calls Tryz.prog 89 #[.agg #[.int .i64 3, .int .i64 n, .string ⟨#[]⟩]] w (ValIs 3 n ⟨#[]⟩ w) := by
  go_enter Tryz.func89, Tryz.ntmps89
  go_wp2
  exact bodyPost_ret (v := .agg #[.int .i64 3, .int .i64 n, .string ⟨#[]⟩]) (by simp [results, Tryz.results89, go_sem]) rfl ⟨rfl, below2 _ _ _⟩
set_option maxRecDepth 100000 in
set_option maxHeartbeats 2000000 in
theorem rastruth_f (c : Int) (w : World) : Calls Tryz.prog 89 #[.agg #[.int .i64 4, .int .i64 c, .string ⟨#[]⟩]] w (ValIs 4 c ⟨#[]⟩ w) := by
  go_enter Tryz.func89, Tryz.ntmps89
  go_wp2
  exact bodyPost_ret (v := .agg #[.int .i64 4, .int .i64 c, .string ⟨#[]⟩]) (by simp [results, Tryz.results89, go_sem]) rfl ⟨rfl, below2 _ _ _⟩
end Go.Proofs.YtebjedbppiphgaaGreatDoor.Val

/- What the reference's May answers: for every value. Written by wip/genval2.py. -/
import Derived.Test.YtcgpggknmhlnkaaGreatDoorPt31
import Derived.Test.YtcgpggknmhlnkaaGreatDoorPt29
namespace Go.Proofs.YtcgpggknmhlnkaaGreatDoor.Val
open Go.RowKit Kit Dec Dig
theorem eq_none {t : ByteArray} (h : ¬ t.toList = []) : (t.toList == []) = false := by
  rw [beq_eq_false_iff_ne]
  exact h

set_option maxRecDepth 100000 in
set_option maxHeartbeats 4000000 in
theorem rmayv_0 (n : Int) (t : ByteArray) (w : World) : Calls Tryz.prog 31 #[.agg #[.int .i64 0, .int .i64 n, .string t]] w (Bit (mayV 0 n t) w) := by
  by_cases hn : n = 0
  · subst hn
    rcases empty_or t with rfl | ⟨ht, hz⟩
    · skip
      generalize hM : mayV _ _ _ = M
      replace hM := Lib.hid hM
      go_enter Tryz.func31, Tryz.ntmps31
      simp only [List.append]
      go_wp2
      go_ret
      exact ⟨ret_bool (by rw [← hM.out]; exact (by first | rfl | (simp [mayV, *]; done) | (unfold mayV; rw [size_none]; simp [*]; done) | (unfold mayV; rw [hz]; simp; done) | (unfold mayV; rw [hz]; simp [*]; done))), below1 _ _⟩
    · have hq := eq_none ht
      generalize hM : mayV _ _ _ = M
      replace hM := Lib.hid hM
      go_enter Tryz.func31, Tryz.ntmps31
      simp only [List.append]
      go_wp2
      go_ret
      exact ⟨ret_bool (by rw [← hM.out]; exact (by first | rfl | (simp [mayV, *]; done) | (unfold mayV; rw [size_none]; simp [*]; done) | (unfold mayV; rw [hz]; simp; done) | (unfold mayV; rw [hz]; simp [*]; done))), below1 _ _⟩
  · have hb : (n == 0) = false := by simpa using hn
    rcases empty_or t with rfl | ⟨ht, hz⟩
    · skip
      generalize hM : mayV _ _ _ = M
      replace hM := Lib.hid hM
      go_enter Tryz.func31, Tryz.ntmps31
      simp only [List.append]
      go_wp2
      go_ret
      exact ⟨ret_bool (by rw [← hM.out]; exact (by first | rfl | (simp [mayV, *]; done) | (unfold mayV; rw [size_none]; simp [*]; done) | (unfold mayV; rw [hz]; simp; done) | (unfold mayV; rw [hz]; simp [*]; done))), below1 _ _⟩
    · have hq := eq_none ht
      generalize hM : mayV _ _ _ = M
      replace hM := Lib.hid hM
      go_enter Tryz.func31, Tryz.ntmps31
      simp only [List.append]
      go_wp2
      go_ret
      exact ⟨ret_bool (by rw [← hM.out]; exact (by first | rfl | (simp [mayV, *]; done) | (unfold mayV; rw [size_none]; simp [*]; done) | (unfold mayV; rw [hz]; simp; done) | (unfold mayV; rw [hz]; simp [*]; done))), below1 _ _⟩
set_option maxRecDepth 100000 in
set_option maxHeartbeats 4000000 in
theorem rmayv_1 (n : Int) (t : ByteArray) (w : World) : Calls Tryz.prog 31 #[.agg #[.int .i64 1, .int .i64 n, .string t]] w (Bit (mayV 1 n t) w) := by
  cases hm : mayD n
  · have HN := Lib.hid (fun w1 => rmay_c n false hm w1)
    rcases empty_or t with rfl | ⟨ht, hz⟩
    · skip
      generalize hM : mayV _ _ _ = M
      replace hM := Lib.hid hM
      go_enter Tryz.func31, Tryz.ntmps31
      simp only [List.append]
      go_wp2_with (go_at_call 43; refine (HN.out _).mono ?_; rintro e w' ⟨rfl, rfl⟩)
      go_ret
      exact ⟨ret_bool (by rw [← hM.out]; exact (by first | rfl | (simp [mayV, *]; done) | (unfold mayV; rw [size_none]; simp [*]; done) | (unfold mayV; rw [hz]; simp; done) | (unfold mayV; rw [hz]; simp [*]; done))), below1 _ _⟩
    · have hq := eq_none ht
      generalize hM : mayV _ _ _ = M
      replace hM := Lib.hid hM
      go_enter Tryz.func31, Tryz.ntmps31
      simp only [List.append]
      go_wp2
      go_ret
      exact ⟨ret_bool (by rw [← hM.out]; exact (by first | rfl | (simp [mayV, *]; done) | (unfold mayV; rw [size_none]; simp [*]; done) | (unfold mayV; rw [hz]; simp; done) | (unfold mayV; rw [hz]; simp [*]; done))), below1 _ _⟩
  · have HN := Lib.hid (fun w1 => rmay_c n true hm w1)
    rcases empty_or t with rfl | ⟨ht, hz⟩
    · skip
      generalize hM : mayV _ _ _ = M
      replace hM := Lib.hid hM
      go_enter Tryz.func31, Tryz.ntmps31
      simp only [List.append]
      go_wp2_with (go_at_call 43; refine (HN.out _).mono ?_; rintro e w' ⟨rfl, rfl⟩)
      go_ret
      exact ⟨ret_bool (by rw [← hM.out]; exact (by first | rfl | (simp [mayV, *]; done) | (unfold mayV; rw [size_none]; simp [*]; done) | (unfold mayV; rw [hz]; simp; done) | (unfold mayV; rw [hz]; simp [*]; done))), below1 _ _⟩
    · have hq := eq_none ht
      generalize hM : mayV _ _ _ = M
      replace hM := Lib.hid hM
      go_enter Tryz.func31, Tryz.ntmps31
      simp only [List.append]
      go_wp2
      go_ret
      exact ⟨ret_bool (by rw [← hM.out]; exact (by first | rfl | (simp [mayV, *]; done) | (unfold mayV; rw [size_none]; simp [*]; done) | (unfold mayV; rw [hz]; simp; done) | (unfold mayV; rw [hz]; simp [*]; done))), below1 _ _⟩
set_option maxRecDepth 100000 in
set_option maxHeartbeats 4000000 in
theorem rmayv_2 (n : Int) (t : ByteArray) (w : World) : Calls Tryz.prog 31 #[.agg #[.int .i64 2, .int .i64 n, .string t]] w (Bit (mayV 2 n t) w) := by
  by_cases hn : n = 0
  · subst hn
    by_cases hs : t.size ≤ 256
    · have d0 : decide (t.size ≤ 256) = true := decide_eq_true hs
      rcases empty_or t with rfl | ⟨ht, hz⟩
      · skip
        generalize hM : mayV _ _ _ = M
        replace hM := Lib.hid hM
        go_enter Tryz.func31, Tryz.ntmps31
        simp only [List.append]
        go_wp2
        go_ret
        exact ⟨ret_bool (by rw [← hM.out]; exact (by first | rfl | (simp [mayV, *]; done) | (unfold mayV; rw [size_none]; simp [*]; done) | (unfold mayV; rw [hz]; simp; done) | (unfold mayV; rw [hz]; simp [*]; done))), below1 _ _⟩
      · have hq := eq_none ht
        generalize hM : mayV _ _ _ = M
        replace hM := Lib.hid hM
        go_enter Tryz.func31, Tryz.ntmps31
        simp only [List.append]
        go_wp2
        go_ret
        exact ⟨ret_bool (by rw [← hM.out]; exact (by first | rfl | (simp [mayV, *]; done) | (unfold mayV; rw [size_none]; simp [*]; done) | (unfold mayV; rw [hz]; simp; done) | (unfold mayV; rw [hz]; simp [*]; done))), below1 _ _⟩
    · have d0 : decide (t.size ≤ 256) = false := decide_eq_false hs
      rcases empty_or t with rfl | ⟨ht, hz⟩
      · skip
        generalize hM : mayV _ _ _ = M
        replace hM := Lib.hid hM
        go_enter Tryz.func31, Tryz.ntmps31
        simp only [List.append]
        go_wp2
        go_ret
        exact ⟨ret_bool (by rw [← hM.out]; exact (by first | rfl | (simp [mayV, *]; done) | (unfold mayV; rw [size_none]; simp [*]; done) | (unfold mayV; rw [hz]; simp; done) | (unfold mayV; rw [hz]; simp [*]; done))), below1 _ _⟩
      · have hq := eq_none ht
        generalize hM : mayV _ _ _ = M
        replace hM := Lib.hid hM
        go_enter Tryz.func31, Tryz.ntmps31
        simp only [List.append]
        go_wp2
        go_ret
        exact ⟨ret_bool (by rw [← hM.out]; exact (by first | rfl | (simp [mayV, *]; done) | (unfold mayV; rw [size_none]; simp [*]; done) | (unfold mayV; rw [hz]; simp; done) | (unfold mayV; rw [hz]; simp [*]; done))), below1 _ _⟩
  · have hb : (n == 0) = false := by simpa using hn
    rcases empty_or t with rfl | ⟨ht, hz⟩
    · skip
      generalize hM : mayV _ _ _ = M
      replace hM := Lib.hid hM
      go_enter Tryz.func31, Tryz.ntmps31
      simp only [List.append]
      go_wp2
      go_ret
      exact ⟨ret_bool (by rw [← hM.out]; exact (by first | rfl | (simp [mayV, *]; done) | (unfold mayV; rw [size_none]; simp [*]; done) | (unfold mayV; rw [hz]; simp; done) | (unfold mayV; rw [hz]; simp [*]; done))), below1 _ _⟩
    · have hq := eq_none ht
      generalize hM : mayV _ _ _ = M
      replace hM := Lib.hid hM
      go_enter Tryz.func31, Tryz.ntmps31
      simp only [List.append]
      go_wp2
      go_ret
      exact ⟨ret_bool (by rw [← hM.out]; exact (by first | rfl | (simp [mayV, *]; done) | (unfold mayV; rw [size_none]; simp [*]; done) | (unfold mayV; rw [hz]; simp; done) | (unfold mayV; rw [hz]; simp [*]; done))), below1 _ _⟩
set_option maxRecDepth 100000 in
set_option maxHeartbeats 4000000 in
theorem rmayv_3 (n : Int) (t : ByteArray) (w : World) : Calls Tryz.prog 31 #[.agg #[.int .i64 3, .int .i64 n, .string t]] w (Bit (mayV 3 n t) w) := by
  by_cases hn : n = 0
  · subst hn
    rcases empty_or t with rfl | ⟨ht, hz⟩
    · skip
      generalize hM : mayV _ _ _ = M
      replace hM := Lib.hid hM
      go_enter Tryz.func31, Tryz.ntmps31
      simp only [List.append]
      go_wp2
      go_ret
      exact ⟨ret_bool (by rw [← hM.out]; exact (by first | rfl | (simp [mayV, *]; done) | (unfold mayV; rw [size_none]; simp [*]; done) | (unfold mayV; rw [hz]; simp; done) | (unfold mayV; rw [hz]; simp [*]; done))), below1 _ _⟩
    · have hq := eq_none ht
      generalize hM : mayV _ _ _ = M
      replace hM := Lib.hid hM
      go_enter Tryz.func31, Tryz.ntmps31
      simp only [List.append]
      go_wp2
      go_ret
      exact ⟨ret_bool (by rw [← hM.out]; exact (by first | rfl | (simp [mayV, *]; done) | (unfold mayV; rw [size_none]; simp [*]; done) | (unfold mayV; rw [hz]; simp; done) | (unfold mayV; rw [hz]; simp [*]; done))), below1 _ _⟩
  · have hb : (n == 0) = false := by simpa using hn
    by_cases hm : n = 1
    · subst hm
      rcases empty_or t with rfl | ⟨ht, hz⟩
      · skip
        generalize hM : mayV _ _ _ = M
        replace hM := Lib.hid hM
        go_enter Tryz.func31, Tryz.ntmps31
        simp only [List.append]
        go_wp2
        go_ret
        exact ⟨ret_bool (by rw [← hM.out]; exact (by first | rfl | (simp [mayV, *]; done) | (unfold mayV; rw [size_none]; simp [*]; done) | (unfold mayV; rw [hz]; simp; done) | (unfold mayV; rw [hz]; simp [*]; done))), below1 _ _⟩
      · have hq := eq_none ht
        generalize hM : mayV _ _ _ = M
        replace hM := Lib.hid hM
        go_enter Tryz.func31, Tryz.ntmps31
        simp only [List.append]
        go_wp2
        go_ret
        exact ⟨ret_bool (by rw [← hM.out]; exact (by first | rfl | (simp [mayV, *]; done) | (unfold mayV; rw [size_none]; simp [*]; done) | (unfold mayV; rw [hz]; simp; done) | (unfold mayV; rw [hz]; simp [*]; done))), below1 _ _⟩
    · have hb1 : (n == 1) = false := by simpa using hm
      rcases empty_or t with rfl | ⟨ht, hz⟩
      · skip
        generalize hM : mayV _ _ _ = M
        replace hM := Lib.hid hM
        go_enter Tryz.func31, Tryz.ntmps31
        simp only [List.append]
        go_wp2
        go_ret
        exact ⟨ret_bool (by rw [← hM.out]; exact (by first | rfl | (simp [mayV, *]; done) | (unfold mayV; rw [size_none]; simp [*]; done) | (unfold mayV; rw [hz]; simp; done) | (unfold mayV; rw [hz]; simp [*]; done))), below1 _ _⟩
      · have hq := eq_none ht
        generalize hM : mayV _ _ _ = M
        replace hM := Lib.hid hM
        go_enter Tryz.func31, Tryz.ntmps31
        simp only [List.append]
        go_wp2
        go_ret
        exact ⟨ret_bool (by rw [← hM.out]; exact (by first | rfl | (simp [mayV, *]; done) | (unfold mayV; rw [size_none]; simp [*]; done) | (unfold mayV; rw [hz]; simp; done) | (unfold mayV; rw [hz]; simp [*]; done))), below1 _ _⟩
set_option maxRecDepth 100000 in
set_option maxHeartbeats 4000000 in
theorem rmayv_4 (n : Int) (t : ByteArray) (w : World) : Calls Tryz.prog 31 #[.agg #[.int .i64 4, .int .i64 n, .string t]] w (Bit (mayV 4 n t) w) := by
  by_cases h1 : 1 ≤ n
  · have d1 : decide (1 ≤ n) = true := decide_eq_true h1
    by_cases h7 : n ≤ 7
    · have d7 : decide (n ≤ 7) = true := decide_eq_true h7
      rcases empty_or t with rfl | ⟨ht, hz⟩
      · skip
        generalize hM : mayV _ _ _ = M
        replace hM := Lib.hid hM
        go_enter Tryz.func31, Tryz.ntmps31
        simp only [List.append]
        go_wp2
        go_ret
        exact ⟨ret_bool (by rw [← hM.out]; exact (by first | rfl | (simp [mayV, *]; done) | (unfold mayV; rw [size_none]; simp [*]; done) | (unfold mayV; rw [hz]; simp; done) | (unfold mayV; rw [hz]; simp [*]; done))), below1 _ _⟩
      · have hq := eq_none ht
        generalize hM : mayV _ _ _ = M
        replace hM := Lib.hid hM
        go_enter Tryz.func31, Tryz.ntmps31
        simp only [List.append]
        go_wp2
        go_ret
        exact ⟨ret_bool (by rw [← hM.out]; exact (by first | rfl | (simp [mayV, *]; done) | (unfold mayV; rw [size_none]; simp [*]; done) | (unfold mayV; rw [hz]; simp; done) | (unfold mayV; rw [hz]; simp [*]; done))), below1 _ _⟩
    · have d7 : decide (n ≤ 7) = false := decide_eq_false h7
      rcases empty_or t with rfl | ⟨ht, hz⟩
      · skip
        generalize hM : mayV _ _ _ = M
        replace hM := Lib.hid hM
        go_enter Tryz.func31, Tryz.ntmps31
        simp only [List.append]
        go_wp2
        go_ret
        exact ⟨ret_bool (by rw [← hM.out]; exact (by first | rfl | (simp [mayV, *]; done) | (unfold mayV; rw [size_none]; simp [*]; done) | (unfold mayV; rw [hz]; simp; done) | (unfold mayV; rw [hz]; simp [*]; done))), below1 _ _⟩
      · have hq := eq_none ht
        generalize hM : mayV _ _ _ = M
        replace hM := Lib.hid hM
        go_enter Tryz.func31, Tryz.ntmps31
        simp only [List.append]
        go_wp2
        go_ret
        exact ⟨ret_bool (by rw [← hM.out]; exact (by first | rfl | (simp [mayV, *]; done) | (unfold mayV; rw [size_none]; simp [*]; done) | (unfold mayV; rw [hz]; simp; done) | (unfold mayV; rw [hz]; simp [*]; done))), below1 _ _⟩
  · have d1 : decide (1 ≤ n) = false := decide_eq_false h1
    rcases empty_or t with rfl | ⟨ht, hz⟩
    · skip
      generalize hM : mayV _ _ _ = M
      replace hM := Lib.hid hM
      go_enter Tryz.func31, Tryz.ntmps31
      simp only [List.append]
      go_wp2
      go_ret
      exact ⟨ret_bool (by rw [← hM.out]; exact (by first | rfl | (simp [mayV, *]; done) | (unfold mayV; rw [size_none]; simp [*]; done) | (unfold mayV; rw [hz]; simp; done) | (unfold mayV; rw [hz]; simp [*]; done))), below1 _ _⟩
    · have hq := eq_none ht
      generalize hM : mayV _ _ _ = M
      replace hM := Lib.hid hM
      go_enter Tryz.func31, Tryz.ntmps31
      simp only [List.append]
      go_wp2
      go_ret
      exact ⟨ret_bool (by rw [← hM.out]; exact (by first | rfl | (simp [mayV, *]; done) | (unfold mayV; rw [size_none]; simp [*]; done) | (unfold mayV; rw [hz]; simp; done) | (unfold mayV; rw [hz]; simp [*]; done))), below1 _ _⟩
set_option maxRecDepth 100000 in
set_option maxHeartbeats 4000000 in
theorem rmayv_5 (k : Int) (h0 : ¬ k = 0) (h1 : ¬ k = 1) (h2 : ¬ k = 2) (h3 : ¬ k = 3) (h4 : ¬ k = 4) (n : Int) (t : ByteArray) (w : World) : Calls Tryz.prog 31 #[.agg #[.int .i64 k, .int .i64 n, .string t]] w (Bit (mayV k n t) w) := by
  have e0 : (k == 0) = false := by simpa using h0
  have e1 : (k == 1) = false := by simpa using h1
  have e2 : (k == 2) = false := by simpa using h2
  have e3 : (k == 3) = false := by simpa using h3
  have e4 : (k == 4) = false := by simpa using h4
  rcases empty_or t with rfl | ⟨ht, hz⟩
  · skip
    generalize hM : mayV _ _ _ = M
    replace hM := Lib.hid hM
    go_enter Tryz.func31, Tryz.ntmps31
    simp only [List.append]
    go_wp2
    go_ret
    exact ⟨ret_bool (by rw [← hM.out]; exact (by first | rfl | (simp [mayV, *]; done) | (unfold mayV; rw [size_none]; simp [*]; done) | (unfold mayV; rw [hz]; simp; done) | (unfold mayV; rw [hz]; simp [*]; done))), below1 _ _⟩
  · have hq := eq_none ht
    generalize hM : mayV _ _ _ = M
    replace hM := Lib.hid hM
    go_enter Tryz.func31, Tryz.ntmps31
    simp only [List.append]
    go_wp2
    go_ret
    exact ⟨ret_bool (by rw [← hM.out]; exact (by first | rfl | (simp [mayV, *]; done) | (unfold mayV; rw [size_none]; simp [*]; done) | (unfold mayV; rw [hz]; simp; done) | (unfold mayV; rw [hz]; simp [*]; done))), below1 _ _⟩
theorem rmayv_c (k n : Int) (t : ByteArray) (b : Bool) (h : mayV k n t = b) (w : World) : Calls Tryz.prog 31 #[.agg #[.int .i64 k, .int .i64 n, .string t]] w (Bit b w) := by
  subst h
  by_cases h0 : k = 0
  · subst h0; exact rmayv_0 n t w
  by_cases h1 : k = 1
  · subst h1; exact rmayv_1 n t w
  by_cases h2 : k = 2
  · subst h2; exact rmayv_2 n t w
  by_cases h3 : k = 3
  · subst h3; exact rmayv_3 n t w
  by_cases h4 : k = 4
  · subst h4; exact rmayv_4 n t w
  · exact rmayv_5 k h0 h1 h2 h3 h4 n t w
end Go.Proofs.YtcgpggknmhlnkaaGreatDoor.Val

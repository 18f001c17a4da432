/- DigitsReads, walked: which decimal any text means, whether it is its text, and with which one it begins. -/
import Derived.Test.YtfaidiigglkmiaaDoorDigAlive
import Derived.Test.YtfaidiigglkmiaaDoorDigRLead
namespace Go.Proofs.YtfaidiigglkmiaaDoor.Dig
open Go.RowKit Kit Dec

set_option maxRecDepth 100000 in
set_option maxHeartbeats 2000000 in
theorem reads_long (t : ByteArray) (h : 100 < t.size) (w : World) (hL : Libs w) : Calls Tryd.prog 4 #[.string t] w (LawEnd w) := by
  have d0 : decide (100 < t.size) = true := decide_eq_true h
  have HL := Lib.hid hL
  clear hL
  go_enter Tryd.func4, Tryd.ntmps4
  go_wp2_with fail
  refine (alive_c _ HL.out).mono ?_
  rintro e w1 ⟨rfl, hb1⟩
  go_wp2
  go_ret
  exact ⟨rfl, hb1⟩
theorem parse_none {L : List UInt8} {x : Int} (h : readD L = (x, false)) : parseD L = (0, false) := by
  unfold parseD
  rw [h, if_neg (fun e => by cases e.1)]
theorem parse_its {L : List UInt8} {x : Int} (h : readD L = (x, true)) (he : textD x = L) : parseD L = (x, true) := by
  unfold parseD
  rw [h, if_pos ⟨rfl, he⟩]
theorem parse_other {L : List UInt8} {x : Int} (h : readD L = (x, true)) (he : ¬ textD x = L) : parseD L = (0, false) := by
  unfold parseD
  rw [h, if_neg (fun e => he e.2)]
set_option maxRecDepth 100000 in
set_option maxHeartbeats 4000000 in
theorem reads_none (t : ByteArray) (h : t.size ≤ 100) (x : Int) (hx : readD t.data.toList = (x, false)) (w : World) (hL : Libs w) : Calls Tryd.prog 4 #[.string t] w (LawEnd w) := by
  have d0 : decide (100 < t.size) = false := decide_eq_false (by omega)
  have C1 := Lib.hid (fun w1 hL => read_c t (by omega) x false hx w1 hL)
  have R1 := Lib.hid (fun w1 => rread_c t x false hx w1)
  have C2 := Lib.hid (fun w1 hL => dparse_c t (by omega) 0 false (parse_none hx) w1 hL)
  obtain ⟨⟨z, n, b⟩, hz⟩ : ∃ r, leadD t.data.toList = r := ⟨_, rfl⟩
  have C3 := Lib.hid (fun w1 hL => lead_c t (by omega) z n b hz w1 hL)
  have R3 := Lib.hid (fun w1 => rlead_c t (by omega) z n b hz w1)
  have HL := Lib.hid hL
  clear hx hz hL
  go_enter Tryd.func4, Tryd.ntmps4
  go_wp2_with fail
  refine (C1.out _ HL.out).mono ?_
  rintro e w1 ⟨rfl, hb1⟩
  go_wp2_with fail
  refine (R1.out _).mono ?_
  rintro e w2 ⟨rfl, hb2⟩
  have hA := CellsAt.new w2 [.int .i64 x, .bool false] 28
  have hb3 := on_alloc (on hb1 hb2) (.cells #[.int .i64 x, .bool false] 28)
  have HL2 := Lib.hid (HL.out.grown hb3)
  have la := hA.1
  clear hb1 hb2
  go_wp2_with fail
  refine (C2.out _ HL2.out).mono ?_
  rintro e w3 ⟨rfl, hb4⟩
  have hA2 := hA.on hb4
  have hb5 := on hb3 hb4
  have HL3 := Lib.hid (HL.out.grown hb5)
  have la2 := hA2.1
  obtain ⟨p0, p1, _, _⟩ := hA2.two
  clear hb3 hb4 hA HL2
  go_wp2_with fail
  refine (C3.out _ HL3.out).mono ?_
  rintro e w4 ⟨rfl, hb6⟩
  have hb7 := on hb5 hb6
  clear hb5 hb6 HL3 p0 p1 hA2
  go_wp2_with fail
  refine (R3.out _).mono ?_
  rintro e w5 ⟨rfl, hb8⟩
  have hB := CellsAt.new w5 [.int .i64 z, .int .i64 n, .bool b] 33
  have hb9 := on_alloc (on hb7 hb8) (.cells #[.int .i64 z, .int .i64 n, .bool b] 33)
  have HL4 := Lib.hid (HL.out.grown hb9)
  have lb := hB.1
  obtain ⟨q0, q1, q2, _, _, _⟩ := hB.three
  clear hb7 hb8 hB
  go_wp2_with fail
  refine (alive_c _ HL4.out).mono ?_
  rintro e w6 ⟨rfl, hb10⟩
  have hb11 := on hb9 hb10
  clear hb9 hb10
  go_wp2
  go_ret
  exact ⟨rfl, hb11⟩
set_option maxRecDepth 100000 in
set_option maxHeartbeats 4000000 in
theorem reads_its (t : ByteArray) (h : t.size ≤ 100) (x : Int) (hx : readD t.data.toList = (x, true)) (he : textD x = t.data.toList) (w : World) (hL : Libs w) : Calls Tryd.prog 4 #[.string t] w (LawEnd w) := by
  have d0 : decide (100 < t.size) = false := decide_eq_false (by omega)
  have C1 := Lib.hid (fun w1 hL => read_c t (by omega) x true hx w1 hL)
  have R1 := Lib.hid (fun w1 => rread_c t x true hx w1)
  have C2 := Lib.hid (fun w1 hL => dparse_c t (by omega) x true (parse_its hx he) w1 hL)
  have R2 := Lib.hid (fun w1 => rtext_c x (readD_room hx).1.2 w1)
  have HE := Lib.hid he
  obtain ⟨⟨z, n, b⟩, hz⟩ : ∃ r, leadD t.data.toList = r := ⟨_, rfl⟩
  have C3 := Lib.hid (fun w1 hL => lead_c t (by omega) z n b hz w1 hL)
  have R3 := Lib.hid (fun w1 => rlead_c t (by omega) z n b hz w1)
  have HL := Lib.hid hL
  clear hx hz hL he
  go_enter Tryd.func4, Tryd.ntmps4
  go_wp2_with fail
  refine (C1.out _ HL.out).mono ?_
  rintro e w1 ⟨rfl, hb1⟩
  go_wp2_with fail
  refine (R1.out _).mono ?_
  rintro e w2 ⟨rfl, hb2⟩
  have hA := CellsAt.new w2 [.int .i64 x, .bool true] 28
  have hb3 := on_alloc (on hb1 hb2) (.cells #[.int .i64 x, .bool true] 28)
  have HL2 := Lib.hid (HL.out.grown hb3)
  have la := hA.1
  clear hb1 hb2
  go_wp2_with fail
  refine (C2.out _ HL2.out).mono ?_
  rintro e w3 ⟨rfl, hb4⟩
  have hA2 := hA.on hb4
  have hb5 := on hb3 hb4
  have HL3 := Lib.hid (HL.out.grown hb5)
  have la2 := hA2.1
  obtain ⟨p0, p1, _, _⟩ := hA2.two
  clear hb3 hb4 hA HL2
  go_wp2_with fail
  refine (R2.out _).mono ?_
  rintro e w3 ⟨s, rfl, hs, hb6⟩
  obtain rfl : t = s := bytes_eq (HE.out.symm.trans hs.symm)
  have hb7 := on hb5 hb6
  have HL3 := Lib.hid (HL.out.grown hb7)
  clear hb5 hb6 p0 p1 hA2 hs
  go_wp2_with fail
  refine (C3.out _ HL3.out).mono ?_
  rintro e w4 ⟨rfl, hb6⟩
  have hb5 := on hb7 hb6
  clear hb7 hb6 HL3
  go_wp2_with fail
  refine (R3.out _).mono ?_
  rintro e w5 ⟨rfl, hb8⟩
  have hB := CellsAt.new w5 [.int .i64 z, .int .i64 n, .bool b] 33
  have hb9 := on_alloc (on hb5 hb8) (.cells #[.int .i64 z, .int .i64 n, .bool b] 33)
  have HL4 := Lib.hid (HL.out.grown hb9)
  have lb := hB.1
  obtain ⟨q0, q1, q2, _, _, _⟩ := hB.three
  clear hb5 hb8 hB
  go_wp2_with fail
  refine (alive_c _ HL4.out).mono ?_
  rintro e w6 ⟨rfl, hb10⟩
  have hb11 := on hb9 hb10
  clear hb9 hb10
  go_wp2
  go_ret
  exact ⟨rfl, hb11⟩
set_option maxRecDepth 100000 in
set_option maxHeartbeats 4000000 in
theorem reads_other (t : ByteArray) (h : t.size ≤ 100) (x : Int) (hx : readD t.data.toList = (x, true)) (he : ¬ textD x = t.data.toList) (w : World) (hL : Libs w) : Calls Tryd.prog 4 #[.string t] w (LawEnd w) := by
  have d0 : decide (100 < t.size) = false := decide_eq_false (by omega)
  have C1 := Lib.hid (fun w1 hL => read_c t (by omega) x true hx w1 hL)
  have R1 := Lib.hid (fun w1 => rread_c t x true hx w1)
  have C2 := Lib.hid (fun w1 hL => dparse_c t (by omega) 0 false (parse_other hx he) w1 hL)
  have R2 := Lib.hid (fun w1 => rtext_c x (readD_room hx).1.2 w1)
  have HE := Lib.hid he
  obtain ⟨⟨z, n, b⟩, hz⟩ : ∃ r, leadD t.data.toList = r := ⟨_, rfl⟩
  have C3 := Lib.hid (fun w1 hL => lead_c t (by omega) z n b hz w1 hL)
  have R3 := Lib.hid (fun w1 => rlead_c t (by omega) z n b hz w1)
  have HL := Lib.hid hL
  clear hx hz hL he
  go_enter Tryd.func4, Tryd.ntmps4
  go_wp2_with fail
  refine (C1.out _ HL.out).mono ?_
  rintro e w1 ⟨rfl, hb1⟩
  go_wp2_with fail
  refine (R1.out _).mono ?_
  rintro e w2 ⟨rfl, hb2⟩
  have hA := CellsAt.new w2 [.int .i64 x, .bool true] 28
  have hb3 := on_alloc (on hb1 hb2) (.cells #[.int .i64 x, .bool true] 28)
  have HL2 := Lib.hid (HL.out.grown hb3)
  have la := hA.1
  clear hb1 hb2
  go_wp2_with fail
  refine (C2.out _ HL2.out).mono ?_
  rintro e w3 ⟨rfl, hb4⟩
  have hA2 := hA.on hb4
  have hb5 := on hb3 hb4
  have HL3 := Lib.hid (HL.out.grown hb5)
  have la2 := hA2.1
  obtain ⟨p0, p1, _, _⟩ := hA2.two
  clear hb3 hb4 hA HL2
  go_wp2_with fail
  refine (R2.out _).mono ?_
  rintro e w3 ⟨s, rfl, hs, hb6⟩
  have est : (s.toList == t.toList) = false := by rw [toList_eq, hs]; exact decide_eq_false HE.out
  have hb7 := on hb5 hb6
  have HL3 := Lib.hid (HL.out.grown hb7)
  clear hb5 hb6 p0 p1 hA2 hs
  go_wp2_with fail
  refine (C3.out _ HL3.out).mono ?_
  rintro e w4 ⟨rfl, hb6⟩
  have hb5 := on hb7 hb6
  clear hb7 hb6 HL3
  go_wp2_with fail
  refine (R3.out _).mono ?_
  rintro e w5 ⟨rfl, hb8⟩
  have hB := CellsAt.new w5 [.int .i64 z, .int .i64 n, .bool b] 33
  have hb9 := on_alloc (on hb5 hb8) (.cells #[.int .i64 z, .int .i64 n, .bool b] 33)
  have HL4 := Lib.hid (HL.out.grown hb9)
  have lb := hB.1
  obtain ⟨q0, q1, q2, _, _, _⟩ := hB.three
  clear hb5 hb8 hB
  go_wp2_with fail
  refine (alive_c _ HL4.out).mono ?_
  rintro e w6 ⟨rfl, hb10⟩
  have hb11 := on hb9 hb10
  clear hb9 hb10
  go_wp2
  go_ret
  exact ⟨rfl, hb11⟩
theorem reads_law (t : ByteArray) (w : World) (hL : Libs w) : Calls Tryd.prog 4 #[.string t] w (LawEnd w) := by
  by_cases h : 100 < t.size
  · exact reads_long t h w hL
  · obtain ⟨⟨x, b⟩, hx⟩ : ∃ r, readD t.data.toList = r := ⟨_, rfl⟩
    cases b
    · exact reads_none t (by omega) x hx w hL
    · by_cases he : textD x = t.data.toList
      · exact reads_its t (by omega) x hx he w hL
      · exact reads_other t (by omega) x hx he w hL
end Go.Proofs.YtfaidiigglkmiaaDoor.Dig

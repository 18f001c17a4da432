/- What package value's AsNumber, AsText, AsTruth, Show and Quote answer: for every value that may be, kind by kind. Written by wip/genval3.py. -/
import Derived.Test.YtebjedbppiphgaaGreatDoorKtu11
import Derived.Test.YtebjedbppiphgaaGreatDoorKtu13
import Derived.Lib.SlicesS
namespace Go.Proofs.YtebjedbppiphgaaGreatDoor.Val
open Go.RowKit Kit Dec Dig
/-- what the library's variables hold: those of decimals' texts, and some number in bytealg.MaxLen -/
def PLibs (w : World) : Prop := Libs w ∧ ∃ m, w.cell? ⟨0, 0, none⟩ = some (.int .i64 m)
theorem PLibs.grown {w w' : World} (h : PLibs w) (hb : Below w.heap.size w w') : PLibs w' := ⟨h.1.grown hb, h.2.elim fun m hm => ⟨m, kept hb hm⟩⟩
/-- one value with such a text -/
def ValT (k n : Int) (l : List UInt8) (w : World) (e : Ending) (w' : World) : Prop := ∃ s : ByteArray, e = .returned (.agg #[.int .i64 k, .int .i64 n, .string s]) ∧ s.data.toList = l ∧ Below w.heap.size w w'
def yesT : ByteArray := ⟨#[84, 82, 85, 69]⟩
def noT : ByteArray := ⟨#[70, 65, 76, 83, 69]⟩
theorem text21 (x : Int) (h1 : -9223372036854775808 ≤ x) (h2 : x ≤ 9223372036854775807) (s : ByteArray) (hs : s.data.toList = textD x) : s.size ≤ 256 := by
  rw [← len, hs]
  have := text_len h1 h2
  omega
theorem scaled_zero : scaledD 0 10000 1 = (0, true) := by decide +kernel
theorem scaled_one : scaledD 1 10000 1 = (10000, true) := by decide +kernel
theorem drawn_below {w w' : World} (h : Drawn w w') : Below w.heap.size w w' := by
  obtain ⟨n, rfl⟩ := h
  exact drew_below rfl
set_option maxRecDepth 100000 in
set_option maxHeartbeats 1000000 in
theorem truetext_c (b : Bool) (w : World) : Calls Tryz.prog 222 #[.bool b] w fun e w' => e = .returned (.string (if b then yesT else noT)) ∧ w = w' := by
  cases b
  all_goals
    go_enter Tryz.func222, Tryz.ntmps222
    go_wp2
    go_ret
    exact ⟨rfl, rfl⟩

set_option maxRecDepth 100000 in
set_option maxHeartbeats 2000000 in
theorem meant_yes (t : ByteArray) (ht : t.size ≤ 281474976710656) (x : Int) (hn : readD t.data.toList = (x, true)) (w : World) (hL : Libs w) : Calls Tryz.prog 71 #[.string t] w (ValIs 1 x ⟨#[]⟩ w) := by
  have HR := Lib.hid (fun w1 hL => read_c t ht x true hn w1 hL)
  have hm := mayD_yes (readD_room hn).1.1
  have HN := Lib.hid (fun w1 => num_c x 1 x (num_in hm) w1)
  have HL := Lib.hid (hL.grown (below1 w (.cells #[.int .i64 0, .int .i64 0, .string ⟨#[]⟩] 23)))
  clear hL hn hm
  go_enter Tryz.func71, Tryz.ntmps71
  go_wp2_with fail
  refine (HR.out _ HL.out).mono ?_
  rintro e w1 ⟨rfl, hb0⟩
  go_wp2_with fail
  refine (HN.out _).mono ?_
  rintro e w2 ⟨rfl, hb9⟩
  have hb := on hb0 hb9
  obtain ⟨hA, hb1⟩ := slot hb
  obtain ⟨p0, p1, p2, q0, q1, q2⟩ := hA.three
  obtain ⟨z0, z1, z2⟩ := three_set (u := .int .i64 1) (v := .int .i64 x) (r := .string ⟨#[]⟩) p0 p1 p2
  have hb2 := set3 hb1 (Nat.le_refl _) (.int .i64 1) (.int .i64 x) (.string ⟨#[]⟩)
  clear hA hb hb1
  go_wp2
  exact bodyPost_ret (v := .agg #[.int .i64 1, .int .i64 x, .string ⟨#[]⟩]) (by simp [results, Tryz.results71, go_sem, z0, z1, z2]) rfl ⟨rfl, hb2⟩
set_option maxRecDepth 100000 in
set_option maxHeartbeats 2000000 in
theorem meant_no (t : ByteArray) (ht : t.size ≤ 281474976710656) (x : Int) (hn : readD t.data.toList = (x, false)) (w : World) (hL : Libs w) : Calls Tryz.prog 71 #[.string t] w (ValIs 4 2 ⟨#[]⟩ w) := by
  have HR := Lib.hid (fun w1 hL => read_c t ht x false hn w1 hL)
  have HB := Lib.hid (fun w1 => bad_c 2 w1)
  rw [bad_in (by omega) (by omega)] at HB
  have HL := Lib.hid (hL.grown (below1 w (.cells #[.int .i64 0, .int .i64 0, .string ⟨#[]⟩] 23)))
  clear hL hn
  go_enter Tryz.func71, Tryz.ntmps71
  go_wp2_with fail
  refine (HR.out _ HL.out).mono ?_
  rintro e w1 ⟨rfl, hb0⟩
  go_wp2_with fail
  refine (HB.out _).mono ?_
  rintro e w2 ⟨rfl, hb9⟩
  have hb := on hb0 hb9
  obtain ⟨hA, hb1⟩ := slot hb
  obtain ⟨p0, p1, p2, q0, q1, q2⟩ := hA.three
  obtain ⟨z0, z1, z2⟩ := three_set (u := .int .i64 4) (v := .int .i64 2) (r := .string ⟨#[]⟩) p0 p1 p2
  have hb2 := set3 hb1 (Nat.le_refl _) (.int .i64 4) (.int .i64 2) (.string ⟨#[]⟩)
  clear hA hb hb1
  go_wp2
  exact bodyPost_ret (v := .agg #[.int .i64 4, .int .i64 2, .string ⟨#[]⟩]) (by simp [results, Tryz.results71, go_sem, z0, z1, z2]) rfl ⟨rfl, hb2⟩
set_option maxRecDepth 100000 in
set_option maxHeartbeats 2000000 in
theorem asnum_e (w : World) : Calls Tryz.prog 19 #[.agg #[.int .i64 0, .int .i64 0, .string ⟨#[]⟩]] w (ValIs 1 0 ⟨#[]⟩ w) := by
  have HN := Lib.hid (fun w1 => num_c 0 1 0 (num_in (by decide)) w1)
  go_enter Tryz.func19, Tryz.ntmps19
  go_wp2_with fail
  refine (HN.out _).mono ?_
  rintro e w1 ⟨rfl, hb⟩
  obtain ⟨hA, hb1⟩ := slot2 hb
  obtain ⟨p0, p1, p2, q0, q1, q2⟩ := hA.three
  obtain ⟨z0, z1, z2⟩ := three_set (u := .int .i64 1) (v := .int .i64 0) (r := .string ⟨#[]⟩) p0 p1 p2
  have hb2 := set3 hb1 (Nat.le_add_right _ 1) (.int .i64 1) (.int .i64 0) (.string ⟨#[]⟩)
  clear hA hb hb1
  go_wp2
  exact bodyPost_ret (v := .agg #[.int .i64 1, .int .i64 0, .string ⟨#[]⟩]) (by simp [results, Tryz.results19, go_sem, z0, z1, z2]) rfl ⟨rfl, hb2⟩
set_option maxRecDepth 100000 in
set_option maxHeartbeats 2000000 in
theorem asnum_n (n : Int) (w : World) : Calls Tryz.prog 19 #[.agg #[.int .i64 1, .int .i64 n, .string ⟨#[]⟩]] w (ValIs 1 n ⟨#[]⟩ w) := by
  go_enter Tryz.func19, Tryz.ntmps19
  go_wp2
  exact bodyPost_ret (v := .agg #[.int .i64 1, .int .i64 n, .string ⟨#[]⟩]) (by simp [results, Tryz.results19, go_sem]) rfl ⟨rfl, below2 _ _ _⟩
set_option maxRecDepth 100000 in
set_option maxHeartbeats 2000000 in
theorem asnum_tyes (t : ByteArray) (ht : t.size ≤ 281474976710656) (x : Int) (hn : readD t.data.toList = (x, true)) (w : World) (hL : Libs w) : Calls Tryz.prog 19 #[.agg #[.int .i64 2, .int .i64 0, .string t]] w (ValIs 1 x ⟨#[]⟩ w) := by
  have HN := Lib.hid (fun w1 hL => meant_yes t ht x hn w1 hL)
  have HL := Lib.hid (hL.grown (below2 w (.cells #[.int .i64 2, .int .i64 0, .string t] 23) (.cells #[.int .i64 0, .int .i64 0, .string ⟨#[]⟩] 23)))
  clear hL hn
  go_enter Tryz.func19, Tryz.ntmps19
  go_wp2_with fail
  refine (HN.out _ HL.out).mono ?_
  rintro e w1 ⟨rfl, hb⟩
  obtain ⟨hA, hb1⟩ := slot2 hb
  obtain ⟨p0, p1, p2, q0, q1, q2⟩ := hA.three
  obtain ⟨z0, z1, z2⟩ := three_set (u := .int .i64 1) (v := .int .i64 x) (r := .string ⟨#[]⟩) p0 p1 p2
  have hb2 := set3 hb1 (Nat.le_add_right _ 1) (.int .i64 1) (.int .i64 x) (.string ⟨#[]⟩)
  clear hA hb hb1
  go_wp2
  exact bodyPost_ret (v := .agg #[.int .i64 1, .int .i64 x, .string ⟨#[]⟩]) (by simp [results, Tryz.results19, go_sem, z0, z1, z2]) rfl ⟨rfl, hb2⟩
set_option maxRecDepth 100000 in
set_option maxHeartbeats 2000000 in
theorem asnum_tno (t : ByteArray) (ht : t.size ≤ 281474976710656) (x : Int) (hn : readD t.data.toList = (x, false)) (w : World) (hL : Libs w) : Calls Tryz.prog 19 #[.agg #[.int .i64 2, .int .i64 0, .string t]] w (ValIs 4 2 ⟨#[]⟩ w) := by
  have HN := Lib.hid (fun w1 hL => meant_no t ht x hn w1 hL)
  have HL := Lib.hid (hL.grown (below2 w (.cells #[.int .i64 2, .int .i64 0, .string t] 23) (.cells #[.int .i64 0, .int .i64 0, .string ⟨#[]⟩] 23)))
  clear hL hn
  go_enter Tryz.func19, Tryz.ntmps19
  go_wp2_with fail
  refine (HN.out _ HL.out).mono ?_
  rintro e w1 ⟨rfl, hb⟩
  obtain ⟨hA, hb1⟩ := slot2 hb
  obtain ⟨p0, p1, p2, q0, q1, q2⟩ := hA.three
  obtain ⟨z0, z1, z2⟩ := three_set (u := .int .i64 4) (v := .int .i64 2) (r := .string ⟨#[]⟩) p0 p1 p2
  have hb2 := set3 hb1 (Nat.le_add_right _ 1) (.int .i64 4) (.int .i64 2) (.string ⟨#[]⟩)
  clear hA hb hb1
  go_wp2
  exact bodyPost_ret (v := .agg #[.int .i64 4, .int .i64 2, .string ⟨#[]⟩]) (by simp [results, Tryz.results19, go_sem, z0, z1, z2]) rfl ⟨rfl, hb2⟩
set_option maxRecDepth 100000 in
set_option maxHeartbeats 2000000 in
theorem asnum_b0 (w : World) : Calls Tryz.prog 19 #[.agg #[.int .i64 3, .int .i64 0, .string ⟨#[]⟩]] w (ValIs 1 0 ⟨#[]⟩ w) := by
  have HO := Lib.hid (fun w1 => of_c 0 (by omega) 0 true scaled_zero w1)
  have HG := Lib.hid (fun w1 => got_c 0 true 1 0 (show gotV 0 true = (1, 0) by decide) w1)
  go_enter Tryz.func19, Tryz.ntmps19
  go_wp2_with fail
  refine (HO.out _).mono ?_
  rintro e w1 ⟨rfl, hd⟩
  have hb0 := drawn_below hd
  clear hd
  go_wp2_with fail
  refine (HG.out _).mono ?_
  rintro e w2 ⟨rfl, hb9⟩
  have hb := on hb0 hb9
  obtain ⟨hA, hb1⟩ := slot2 hb
  obtain ⟨p0, p1, p2, q0, q1, q2⟩ := hA.three
  obtain ⟨z0, z1, z2⟩ := three_set (u := .int .i64 1) (v := .int .i64 0) (r := .string ⟨#[]⟩) p0 p1 p2
  have hb2 := set3 hb1 (Nat.le_add_right _ 1) (.int .i64 1) (.int .i64 0) (.string ⟨#[]⟩)
  clear hA hb hb1
  go_wp2
  exact bodyPost_ret (v := .agg #[.int .i64 1, .int .i64 0, .string ⟨#[]⟩]) (by simp [results, Tryz.results19, go_sem, z0, z1, z2]) rfl ⟨rfl, hb2⟩
set_option maxRecDepth 100000 in
set_option maxHeartbeats 2000000 in
theorem asnum_b1 (w : World) : Calls Tryz.prog 19 #[.agg #[.int .i64 3, .int .i64 1, .string ⟨#[]⟩]] w (ValIs 1 10000 ⟨#[]⟩ w) := by
  have HO := Lib.hid (fun w1 => of_c 1 (by omega) 10000 true scaled_one w1)
  have HG := Lib.hid (fun w1 => got_c 10000 true 1 10000 (show gotV 10000 true = (1, 10000) by decide) w1)
  go_enter Tryz.func19, Tryz.ntmps19
  go_wp2_with fail
  refine (HO.out _).mono ?_
  rintro e w1 ⟨rfl, hd⟩
  have hb0 := drawn_below hd
  clear hd
  go_wp2_with fail
  refine (HG.out _).mono ?_
  rintro e w2 ⟨rfl, hb9⟩
  have hb := on hb0 hb9
  obtain ⟨hA, hb1⟩ := slot2 hb
  obtain ⟨p0, p1, p2, q0, q1, q2⟩ := hA.three
  obtain ⟨z0, z1, z2⟩ := three_set (u := .int .i64 1) (v := .int .i64 10000) (r := .string ⟨#[]⟩) p0 p1 p2
  have hb2 := set3 hb1 (Nat.le_add_right _ 1) (.int .i64 1) (.int .i64 10000) (.string ⟨#[]⟩)
  clear hA hb hb1
  go_wp2
  exact bodyPost_ret (v := .agg #[.int .i64 1, .int .i64 10000, .string ⟨#[]⟩]) (by simp [results, Tryz.results19, go_sem, z0, z1, z2]) rfl ⟨rfl, hb2⟩
set_option maxRecDepth 100000 in
set_option maxHeartbeats 2000000 in
theorem asnum_f (c : Int) (w : World) : Calls Tryz.prog 19 #[.agg #[.int .i64 4, .int .i64 c, .string ⟨#[]⟩]] w (ValIs 4 c ⟨#[]⟩ w) := by
  go_enter Tryz.func19, Tryz.ntmps19
  go_wp2
  exact bodyPost_ret (v := .agg #[.int .i64 4, .int .i64 c, .string ⟨#[]⟩]) (by simp [results, Tryz.results19, go_sem]) rfl ⟨rfl, below2 _ _ _⟩
set_option maxRecDepth 100000 in
set_option maxHeartbeats 2000000 in
theorem astext_e (w : World) : Calls Tryz.prog 112 #[.agg #[.int .i64 0, .int .i64 0, .string ⟨#[]⟩]] w (ValIs 2 0 ⟨#[]⟩ w) := by
  have HN := Lib.hid (fun w1 => str_c ⟨#[]⟩ 2 0 ⟨#[]⟩ (str_in (by decide)) w1)
  go_enter Tryz.func112, Tryz.ntmps112
  go_wp2_with fail
  refine (HN.out _).mono ?_
  rintro e w1 ⟨rfl, hb⟩
  obtain ⟨hA, hb1⟩ := slot2 hb
  obtain ⟨p0, p1, p2, q0, q1, q2⟩ := hA.three
  obtain ⟨z0, z1, z2⟩ := three_set (u := .int .i64 2) (v := .int .i64 0) (r := .string ⟨#[]⟩) p0 p1 p2
  have hb2 := set3 hb1 (Nat.le_add_right _ 1) (.int .i64 2) (.int .i64 0) (.string ⟨#[]⟩)
  clear hA hb hb1
  go_wp2
  exact bodyPost_ret (v := .agg #[.int .i64 2, .int .i64 0, .string ⟨#[]⟩]) (by simp [results, Tryz.results112, go_sem, z0, z1, z2]) rfl ⟨rfl, hb2⟩
set_option maxRecDepth 100000 in
set_option maxHeartbeats 2000000 in
theorem astext_n (x : Int) (h1 : -9223372036854775808 ≤ x) (h2 : x ≤ 9223372036854775807) (w : World) (hL : Libs w) : Calls Tryz.prog 112 #[.agg #[.int .i64 1, .int .i64 x, .string ⟨#[]⟩]] w (ValT 2 0 (textD x) w) := by
  have HT := Lib.hid (fun w1 hL => text_c x h2 w1 hL)
  have H21 := Lib.hid (fun s hs => text21 x h1 h2 s hs)
  have HL := Lib.hid (hL.grown (below2 w (.cells #[.int .i64 1, .int .i64 x, .string ⟨#[]⟩] 23) (.cells #[.int .i64 0, .int .i64 0, .string ⟨#[]⟩] 23)))
  clear hL
  go_enter Tryz.func112, Tryz.ntmps112
  go_wp2_with fail
  refine (HT.out _ HL.out).mono ?_
  rintro e w1 ⟨s, rfl, hs, hb0⟩
  have HS := Lib.hid (fun w1 => str_c s 2 0 s (str_in (H21.out s hs)) w1)
  replace hs := Lib.hid hs
  go_wp2_with fail
  refine (HS.out _).mono ?_
  rintro e w2 ⟨rfl, hb9⟩
  have hb := on hb0 hb9
  obtain ⟨hA, hb1⟩ := slot2 hb
  obtain ⟨p0, p1, p2, q0, q1, q2⟩ := hA.three
  obtain ⟨z0, z1, z2⟩ := three_set (u := .int .i64 2) (v := .int .i64 0) (r := .string s) p0 p1 p2
  have hb2 := set3 hb1 (Nat.le_add_right _ 1) (.int .i64 2) (.int .i64 0) (.string s)
  clear hA hb hb1
  go_wp2
  exact bodyPost_ret (v := .agg #[.int .i64 2, .int .i64 0, .string s]) (by simp [results, Tryz.results112, go_sem, z0, z1, z2]) rfl ⟨s, rfl, hs.out, hb2⟩
set_option maxRecDepth 100000 in
set_option maxHeartbeats 2000000 in
theorem astext_t (t : ByteArray) (w : World) : Calls Tryz.prog 112 #[.agg #[.int .i64 2, .int .i64 0, .string t]] w (ValIs 2 0 t w) := by
  go_enter Tryz.func112, Tryz.ntmps112
  go_wp2
  exact bodyPost_ret (v := .agg #[.int .i64 2, .int .i64 0, .string t]) (by simp [results, Tryz.results112, go_sem]) rfl ⟨rfl, below2 _ _ _⟩
set_option maxRecDepth 100000 in
set_option maxHeartbeats 2000000 in
theorem astext_b0 (w : World) : Calls Tryz.prog 112 #[.agg #[.int .i64 3, .int .i64 0, .string ⟨#[]⟩]] w (ValIs 2 0 noT w) := by
  have HO : Hid (∀ w1, Calls Tryz.prog 222 #[.bool false] w1 fun e w' => e = .returned (.string noT) ∧ w1 = w') := Lib.hid (fun w1 => truetext_c false w1)
  have HG := Lib.hid (fun w1 => str_c noT 2 0 noT (str_in (by decide)) w1)
  go_enter Tryz.func112, Tryz.ntmps112
  go_wp2_with fail
  refine (HO.out _).mono ?_
  rintro e w1 ⟨rfl, rfl⟩
  go_wp2_with fail
  refine (HG.out _).mono ?_
  rintro e w2 ⟨rfl, hb⟩
  obtain ⟨hA, hb1⟩ := slot2 hb
  obtain ⟨p0, p1, p2, q0, q1, q2⟩ := hA.three
  obtain ⟨z0, z1, z2⟩ := three_set (u := .int .i64 2) (v := .int .i64 0) (r := .string noT) p0 p1 p2
  have hb2 := set3 hb1 (Nat.le_add_right _ 1) (.int .i64 2) (.int .i64 0) (.string noT)
  clear hA hb hb1
  go_wp2
  exact bodyPost_ret (v := .agg #[.int .i64 2, .int .i64 0, .string noT]) (by simp [results, Tryz.results112, go_sem, z0, z1, z2]) rfl ⟨rfl, hb2⟩
set_option maxRecDepth 100000 in
set_option maxHeartbeats 2000000 in
theorem astext_b1 (w : World) : Calls Tryz.prog 112 #[.agg #[.int .i64 3, .int .i64 1, .string ⟨#[]⟩]] w (ValIs 2 0 yesT w) := by
  have HO : Hid (∀ w1, Calls Tryz.prog 222 #[.bool true] w1 fun e w' => e = .returned (.string yesT) ∧ w1 = w') := Lib.hid (fun w1 => truetext_c true w1)
  have HG := Lib.hid (fun w1 => str_c yesT 2 0 yesT (str_in (by decide)) w1)
  go_enter Tryz.func112, Tryz.ntmps112
  go_wp2_with fail
  refine (HO.out _).mono ?_
  rintro e w1 ⟨rfl, rfl⟩
  go_wp2_with fail
  refine (HG.out _).mono ?_
  rintro e w2 ⟨rfl, hb⟩
  obtain ⟨hA, hb1⟩ := slot2 hb
  obtain ⟨p0, p1, p2, q0, q1, q2⟩ := hA.three
  obtain ⟨z0, z1, z2⟩ := three_set (u := .int .i64 2) (v := .int .i64 0) (r := .string yesT) p0 p1 p2
  have hb2 := set3 hb1 (Nat.le_add_right _ 1) (.int .i64 2) (.int .i64 0) (.string yesT)
  clear hA hb hb1
  go_wp2
  exact bodyPost_ret (v := .agg #[.int .i64 2, .int .i64 0, .string yesT]) (by simp [results, Tryz.results112, go_sem, z0, z1, z2]) rfl ⟨rfl, hb2⟩
set_option maxRecDepth 100000 in
set_option maxHeartbeats 2000000 in
theorem astext_f (c : Int) (w : World) : Calls Tryz.prog 112 #[.agg #[.int .i64 4, .int .i64 c, .string ⟨#[]⟩]] w (ValIs 4 c ⟨#[]⟩ w) := by
  go_enter Tryz.func112, Tryz.ntmps112
  go_wp2
  exact bodyPost_ret (v := .agg #[.int .i64 4, .int .i64 c, .string ⟨#[]⟩]) (by simp [results, Tryz.results112, go_sem]) rfl ⟨rfl, below2 _ _ _⟩
end Go.Proofs.YtebjedbppiphgaaGreatDoor.Val

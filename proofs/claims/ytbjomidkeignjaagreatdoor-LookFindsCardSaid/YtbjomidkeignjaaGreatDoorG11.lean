/- What package value's AsNumber, AsText, AsTruth, Show and Quote answer: for every value that may be, kind by kind. Written by wip/genval3.py.
   What the reference's Quote answers: for every text of at most 100000 bytes.
   What the reference's AsNumber, Words, AsText, AsTruth and Show answer: for every value that may be, kind by kind. Written by wip/genval4.py. -/
import Derived.Lib.SlicesS
import Derived.Test.YtbjomidkeignjaaGreatDoorG9
import Derived.Test.YtbjomidkeignjaaGreatDoorG6
import Derived.Test.YtbjomidkeignjaaGreatDoorValMath
import Derived.Test.YtbjomidkeignjaaGreatDoorG10
import Derived.Test.YtbjomidkeignjaaGreatDoorG8
import Derived.Test.YtbjomidkeignjaaGreatDoorG7
namespace Go.Proofs.YtbjomidkeignjaaGreatDoor.Val
open Go.RowKit Kit Dec Dig

/-- what the library's variables hold: those of decimals' texts, and some number in bytealg.MaxLen -/
def PLibs (w : World) : Prop := Libs w ∧ ∃ m, w.cell? ⟨1, 0, none⟩ = some (.int .i64 m)
theorem PLibs.grown {w w' : World} (h : PLibs w) (hb : Below w.heap.size w w') : PLibs w' := ⟨h.1.grown hb, h.2.elim fun m hm => ⟨m, kept hb hm⟩⟩
/-- one value with such a text -/
def ValT (k n : Int) (l : List UInt8) (w : World) (e : Ending) (w' : World) : Prop := ∃ s : ByteArray, e = .returned (.agg #[.int .i64 k, .int .i64 n, .string s]) ∧ s.data.toList = l ∧ Below w.heap.size w w'
def yesT : ByteArray := ⟨#[84, 82, 85, 69]⟩
def noT : ByteArray := ⟨#[70, 65, 76, 83, 69]⟩
theorem text21 (x : Int) (h1 : -9223372036854775808 ≤ x) (h2 : x ≤ 9223372036854775807) (s : ByteArray) (hs : s.data.toList = textD x) : s.size ≤ 256 := by
  rw [← len, hs]
  have := text_len h1 h2
  omega
theorem scaled_zero : scaledD 0 10000 1 = (0, true) := by decide +kernel
theorem scaled_one : scaledD 1 10000 1 = (10000, true) := by decide +kernel
theorem drawn_below {w w' : World} (h : Drawn w w') : Below w.heap.size w w' := by
  obtain ⟨n, rfl⟩ := h
  exact drew_below rfl
/-- a value's text -/
theorem field_text (k n : Int) (s : ByteArray) (w : World) : (Instr.field 26 (.agg #[.int .i64 k, .int .i64 n, .string s]) 2).run Tryz.prog w = .ok (.string s) w := by kernel_rfl
theorem yes_ne {t : ByteArray} (h : t ≠ yesT) : (t.toList == [84, 82, 85, 69]) = false := by
  have h1 := (Lib.bytes_beq_false_iff t yesT).2 h
  rwa [Lib.toList_data yesT] at h1
theorem no_ne {t : ByteArray} (h : t ≠ noT) : (t.toList == [70, 65, 76, 83, 69]) = false := by
  have h1 := (Lib.bytes_beq_false_iff t noT).2 h
  rwa [Lib.toList_data noT] at h1
set_option maxRecDepth 100000 in
set_option maxHeartbeats 2000000 in
theorem truth_yes (w : World) : Calls Tryz.prog 117 #[.string yesT] w (ValIs 3 1 ⟨#[]⟩ w) := by
  have HB : Hid (∀ w1, Calls Tryz.prog 60 #[.bool true] w1 (ValIs 3 1 ⟨#[]⟩ w1)) := Lib.hid (fun w1 => bool_c true w1)
  unfold yesT
  go_enter Tryz.func117, Tryz.ntmps117
  go_wp2_with fail
  refine (HB.out _).mono ?_
  rintro e w1 ⟨rfl, hb⟩
  obtain ⟨hA, hb1⟩ := slot hb
  obtain ⟨p0, p1, p2, q0, q1, q2⟩ := hA.three
  obtain ⟨z0, z1, z2⟩ := three_set (u := .int .i64 3) (v := .int .i64 1) (r := .string ⟨#[]⟩) p0 p1 p2
  have hb2 := set3 hb1 (Nat.le_refl _) (.int .i64 3) (.int .i64 1) (.string ⟨#[]⟩)
  clear hA hb hb1
  go_wp2
  exact bodyPost_ret (v := .agg #[.int .i64 3, .int .i64 1, .string ⟨#[]⟩]) (by simp [results, Tryz.results117, go_sem, z0, z1, z2]) rfl ⟨rfl, hb2⟩
set_option maxRecDepth 100000 in
set_option maxHeartbeats 2000000 in
theorem truth_no (w : World) : Calls Tryz.prog 117 #[.string noT] w (ValIs 3 0 ⟨#[]⟩ w) := by
  have HB : Hid (∀ w1, Calls Tryz.prog 60 #[.bool false] w1 (ValIs 3 0 ⟨#[]⟩ w1)) := Lib.hid (fun w1 => bool_c false w1)
  unfold noT
  go_enter Tryz.func117, Tryz.ntmps117
  go_wp2_with fail
  refine (HB.out _).mono ?_
  rintro e w1 ⟨rfl, hb⟩
  obtain ⟨hA, hb1⟩ := slot hb
  obtain ⟨p0, p1, p2, q0, q1, q2⟩ := hA.three
  obtain ⟨z0, z1, z2⟩ := three_set (u := .int .i64 3) (v := .int .i64 0) (r := .string ⟨#[]⟩) p0 p1 p2
  have hb2 := set3 hb1 (Nat.le_refl _) (.int .i64 3) (.int .i64 0) (.string ⟨#[]⟩)
  clear hA hb hb1
  go_wp2
  exact bodyPost_ret (v := .agg #[.int .i64 3, .int .i64 0, .string ⟨#[]⟩]) (by simp [results, Tryz.results117, go_sem, z0, z1, z2]) rfl ⟨rfl, hb2⟩
set_option maxRecDepth 100000 in
set_option maxHeartbeats 2000000 in
theorem truth_else (t : ByteArray) (h1 : t ≠ yesT) (h2 : t ≠ noT) (w : World) : Calls Tryz.prog 117 #[.string t] w (ValIs 4 2 ⟨#[]⟩ w) := by
  have d1 : (t.toList == [84, 82, 85, 69]) = false := yes_ne h1
  have d2 : (t.toList == [70, 65, 76, 83, 69]) = false := no_ne h2
  clear h1 h2
  have HB := Lib.hid (fun w1 => bad_c 2 w1)
  rw [bad_in (by omega) (by omega)] at HB
  go_enter Tryz.func117, Tryz.ntmps117
  go_wp2_with fail
  refine (HB.out _).mono ?_
  rintro e w1 ⟨rfl, hb⟩
  obtain ⟨hA, hb1⟩ := slot hb
  obtain ⟨p0, p1, p2, q0, q1, q2⟩ := hA.three
  obtain ⟨z0, z1, z2⟩ := three_set (u := .int .i64 4) (v := .int .i64 2) (r := .string ⟨#[]⟩) p0 p1 p2
  have hb2 := set3 hb1 (Nat.le_refl _) (.int .i64 4) (.int .i64 2) (.string ⟨#[]⟩)
  clear hA hb hb1
  go_wp2
  exact bodyPost_ret (v := .agg #[.int .i64 4, .int .i64 2, .string ⟨#[]⟩]) (by simp [results, Tryz.results117, go_sem, z0, z1, z2]) rfl ⟨rfl, hb2⟩
set_option maxRecDepth 100000 in
set_option maxHeartbeats 2000000 in
theorem astruth_e (w : World) : Calls Tryz.prog 103 #[.agg #[.int .i64 0, .int .i64 0, .string ⟨#[]⟩]] w (ValIs 3 0 ⟨#[]⟩ w) := by
  have HB : Hid (∀ w1, Calls Tryz.prog 60 #[.bool false] w1 (ValIs 3 0 ⟨#[]⟩ w1)) := Lib.hid (fun w1 => bool_c false w1)
  go_enter Tryz.func103, Tryz.ntmps103
  go_wp2_with fail
  refine (HB.out _).mono ?_
  rintro e w1 ⟨rfl, hb⟩
  obtain ⟨hA, hb1⟩ := slot2 hb
  obtain ⟨p0, p1, p2, q0, q1, q2⟩ := hA.three
  obtain ⟨z0, z1, z2⟩ := three_set (u := .int .i64 3) (v := .int .i64 0) (r := .string ⟨#[]⟩) p0 p1 p2
  have hb2 := set3 hb1 (Nat.le_add_right _ 1) (.int .i64 3) (.int .i64 0) (.string ⟨#[]⟩)
  clear hA hb hb1
  go_wp2
  exact bodyPost_ret (v := .agg #[.int .i64 3, .int .i64 0, .string ⟨#[]⟩]) (by simp [results, Tryz.results103, go_sem, z0, z1, z2]) rfl ⟨rfl, hb2⟩
set_option maxRecDepth 100000 in
set_option maxHeartbeats 2000000 in
theorem astruth_n0 (w : World) : Calls Tryz.prog 103 #[.agg #[.int .i64 1, .int .i64 0, .string ⟨#[]⟩]] w (ValIs 3 0 ⟨#[]⟩ w) := by
  have HB : Hid (∀ w1, Calls Tryz.prog 60 #[.bool false] w1 (ValIs 3 0 ⟨#[]⟩ w1)) := Lib.hid (fun w1 => bool_c false w1)
  go_enter Tryz.func103, Tryz.ntmps103
  go_wp2_with fail
  refine (HB.out _).mono ?_
  rintro e w1 ⟨rfl, hb⟩
  obtain ⟨hA, hb1⟩ := slot2 hb
  obtain ⟨p0, p1, p2, q0, q1, q2⟩ := hA.three
  obtain ⟨z0, z1, z2⟩ := three_set (u := .int .i64 3) (v := .int .i64 0) (r := .string ⟨#[]⟩) p0 p1 p2
  have hb2 := set3 hb1 (Nat.le_add_right _ 1) (.int .i64 3) (.int .i64 0) (.string ⟨#[]⟩)
  clear hA hb hb1
  go_wp2
  exact bodyPost_ret (v := .agg #[.int .i64 3, .int .i64 0, .string ⟨#[]⟩]) (by simp [results, Tryz.results103, go_sem, z0, z1, z2]) rfl ⟨rfl, hb2⟩
set_option maxRecDepth 100000 in
set_option maxHeartbeats 2000000 in
theorem astruth_n1 (n : Int) (hn : ¬ n = 0) (w : World) : Calls Tryz.prog 103 #[.agg #[.int .i64 1, .int .i64 n, .string ⟨#[]⟩]] w (ValIs 3 1 ⟨#[]⟩ w) := by
  have hz1 : (n != 0) = true := by simpa using hn
  have HB : Hid (∀ w1, Calls Tryz.prog 60 #[.bool true] w1 (ValIs 3 1 ⟨#[]⟩ w1)) := Lib.hid (fun w1 => bool_c true w1)
  go_enter Tryz.func103, Tryz.ntmps103
  go_wp2_with fail
  refine (HB.out _).mono ?_
  rintro e w1 ⟨rfl, hb⟩
  obtain ⟨hA, hb1⟩ := slot2 hb
  obtain ⟨p0, p1, p2, q0, q1, q2⟩ := hA.three
  obtain ⟨z0, z1, z2⟩ := three_set (u := .int .i64 3) (v := .int .i64 1) (r := .string ⟨#[]⟩) p0 p1 p2
  have hb2 := set3 hb1 (Nat.le_add_right _ 1) (.int .i64 3) (.int .i64 1) (.string ⟨#[]⟩)
  clear hA hb hb1
  go_wp2
  exact bodyPost_ret (v := .agg #[.int .i64 3, .int .i64 1, .string ⟨#[]⟩]) (by simp [results, Tryz.results103, go_sem, z0, z1, z2]) rfl ⟨rfl, hb2⟩
set_option maxRecDepth 100000 in
set_option maxHeartbeats 2000000 in
theorem astruth_tyes (w : World) : Calls Tryz.prog 103 #[.agg #[.int .i64 2, .int .i64 0, .string yesT]] w (ValIs 3 1 ⟨#[]⟩ w) := by
  have HB := Lib.hid (fun w1 => truth_yes w1)
  go_enter Tryz.func103, Tryz.ntmps103
  go_wp2_with fail
  refine (HB.out _).mono ?_
  rintro e w1 ⟨rfl, hb⟩
  obtain ⟨hA, hb1⟩ := slot2 hb
  obtain ⟨p0, p1, p2, q0, q1, q2⟩ := hA.three
  obtain ⟨z0, z1, z2⟩ := three_set (u := .int .i64 3) (v := .int .i64 1) (r := .string ⟨#[]⟩) p0 p1 p2
  have hb2 := set3 hb1 (Nat.le_add_right _ 1) (.int .i64 3) (.int .i64 1) (.string ⟨#[]⟩)
  clear hA hb hb1
  go_wp2
  exact bodyPost_ret (v := .agg #[.int .i64 3, .int .i64 1, .string ⟨#[]⟩]) (by simp [results, Tryz.results103, go_sem, z0, z1, z2]) rfl ⟨rfl, hb2⟩
set_option maxRecDepth 100000 in
set_option maxHeartbeats 2000000 in
theorem astruth_tno (w : World) : Calls Tryz.prog 103 #[.agg #[.int .i64 2, .int .i64 0, .string noT]] w (ValIs 3 0 ⟨#[]⟩ w) := by
  have HB := Lib.hid (fun w1 => truth_no w1)
  go_enter Tryz.func103, Tryz.ntmps103
  go_wp2_with fail
  refine (HB.out _).mono ?_
  rintro e w1 ⟨rfl, hb⟩
  obtain ⟨hA, hb1⟩ := slot2 hb
  obtain ⟨p0, p1, p2, q0, q1, q2⟩ := hA.three
  obtain ⟨z0, z1, z2⟩ := three_set (u := .int .i64 3) (v := .int .i64 0) (r := .string ⟨#[]⟩) p0 p1 p2
  have hb2 := set3 hb1 (Nat.le_add_right _ 1) (.int .i64 3) (.int .i64 0) (.string ⟨#[]⟩)
  clear hA hb hb1
  go_wp2
  exact bodyPost_ret (v := .agg #[.int .i64 3, .int .i64 0, .string ⟨#[]⟩]) (by simp [results, Tryz.results103, go_sem, z0, z1, z2]) rfl ⟨rfl, hb2⟩
set_option maxRecDepth 100000 in
set_option maxHeartbeats 2000000 in
theorem astruth_telse (t : ByteArray) (h1 : t ≠ yesT) (h2 : t ≠ noT) (w : World) : Calls Tryz.prog 103 #[.agg #[.int .i64 2, .int .i64 0, .string t]] w (ValIs 4 2 ⟨#[]⟩ w) := by
  have HB := Lib.hid (fun w1 => truth_else t h1 h2 w1)
  go_enter Tryz.func103, Tryz.ntmps103
  go_wp2_with fail
  refine (HB.out _).mono ?_
  rintro e w1 ⟨rfl, hb⟩
  obtain ⟨hA, hb1⟩ := slot2 hb
  obtain ⟨p0, p1, p2, q0, q1, q2⟩ := hA.three
  obtain ⟨z0, z1, z2⟩ := three_set (u := .int .i64 4) (v := .int .i64 2) (r := .string ⟨#[]⟩) p0 p1 p2
  have hb2 := set3 hb1 (Nat.le_add_right _ 1) (.int .i64 4) (.int .i64 2) (.string ⟨#[]⟩)
  clear hA hb hb1
  go_wp2
  exact bodyPost_ret (v := .agg #[.int .i64 4, .int .i64 2, .string ⟨#[]⟩]) (by simp [results, Tryz.results103, go_sem, z0, z1, z2]) rfl ⟨rfl, hb2⟩
set_option maxRecDepth 100000 in
set_option maxHeartbeats 2000000 in
theorem astruth_b (n : Int) (w : World) : Calls Tryz.prog 103 #[.agg #[.int .i64 3, .int .i64 n, .string ⟨#[]⟩]] w (ValIs 3 n ⟨#[]⟩ w) := by
  go_enter Tryz.func103, Tryz.ntmps103
  go_wp2
  exact bodyPost_ret (v := .agg #[.int .i64 3, .int .i64 n, .string ⟨#[]⟩]) (by simp [results, Tryz.results103, go_sem]) rfl ⟨rfl, below2 _ _ _⟩
set_option maxRecDepth 100000 in
set_option maxHeartbeats 2000000 in
theorem astruth_f (c : Int) (w : World) : Calls Tryz.prog 103 #[.agg #[.int .i64 4, .int .i64 c, .string ⟨#[]⟩]] w (ValIs 4 c ⟨#[]⟩ w) := by
  go_enter Tryz.func103, Tryz.ntmps103
  go_wp2
  exact bodyPost_ret (v := .agg #[.int .i64 4, .int .i64 c, .string ⟨#[]⟩]) (by simp [results, Tryz.results103, go_sem]) rfl ⟨rfl, below2 _ _ _⟩
end Go.Proofs.YtbjomidkeignjaaGreatDoor.Val
namespace Go.Proofs.YtbjomidkeignjaaGreatDoor.Val
open Go.RowKit Kit Dec Dig

theorem quote_mark : ∀ l : List UInt8, quoteL (l ++ [34]) = quoteL l ++ [34] ++ [34]
  | [] => rfl
  | b :: l => by
    have ih := quote_mark l
    by_cases h : b = 34
    · subst h; rw [List.cons_append, quoteL_mark, quoteL_mark, ih]; rfl
    · rw [List.cons_append, quoteL_skip h, quoteL_skip h, ih]; rfl
theorem quote_snoc {x : UInt8} (hx : x ≠ 34) : ∀ l : List UInt8, quoteL (l ++ [x]) = quoteL l ++ [x]
  | [] => by rw [List.nil_append, quoteL_skip hx]; rfl
  | b :: l => by
    have ih := quote_snoc hx l
    by_cases h : b = 34
    · subst h; rw [List.cons_append, quoteL_mark, quoteL_mark, ih]; rfl
    · rw [List.cons_append, quoteL_skip h, quoteL_skip h, ih]; rfl
theorem take_one {t : ByteArray} {k : Nat} (hk : k < t.size) : t.data.toList.take (k + 1) = t.data.toList.take k ++ [t[k]] := by
  rw [List.take_add_one, Lib.data_getElem? t k hk]
  rfl
theorem one_cell (x : Value) (h : x.oneCell' = true) : ∀ u ∈ [x], u.oneCell' = true := fun u hu => by
  simp only [List.mem_singleton] at hu
  subst hu
  exact h
end Go.Proofs.YtbjomidkeignjaaGreatDoor.Val
namespace Go.Proofs.YtbjomidkeignjaaGreatDoor.Val
open Go.RowKit Kit Dec Dig

end Go.Proofs.YtbjomidkeignjaaGreatDoor.Val

/- What the check of life of the laws on digits answers; how a law's call ends. -/
import Derived.Test.YtfaidiigglkmiaaDoorDigTell
namespace Go.Proofs.YtfaidiigglkmiaaDoor.Dig
open Go.RowKit Kit Dec

/-- what a law's call answers -/
def LawEnd (w : World) : Ending → World → Prop := fun e w' => e = .returned (.bool true) ∧ Below w.heap.size w w'
theorem text_a : textD (-125000) = [45, 49, 50, 46, 53] := by
  rw [textD_may (by decide)]
  show sgnL true ++ (Lib.decDigits 12 ++ fracL 5000) = _
  rw [Lib.decDigits_two (by omega) (by omega)]
  rfl
theorem text_b : textD 15000 = [49, 46, 53] := by
  rw [textD_may (by decide)]
  show sgnL false ++ (Lib.decDigits 1 ++ fracL 5000) = _
  rw [Lib.decDigits_one (by omega)]
  rfl
theorem text_d : textD (-1) = [45, 48, 46, 48, 48, 48, 49] := by
  rw [textD_may (by decide)]
  show sgnL true ++ (Lib.decDigits 0 ++ fracL 1) = _
  rw [Lib.decDigits_one (by omega)]
  rfl
theorem parse_a : parseD [45, 49, 50, 46, 53] = (-125000, true) := by
  have h := (parse_text (x := -125000) (by omega)).1
  rw [text_a] at h
  exact h
theorem read_b : readD [49, 46, 53, 48] = (15000, true) := by decide +kernel
theorem parse_b : parseD [49, 46, 53, 48] = (0, false) := by
  unfold parseD
  rw [read_b, if_neg]
  rintro ⟨_, h⟩
  rw [text_b] at h
  simp at h
theorem lead_a : leadD [48, 48, 55, 46, 53, 48, 43, 49] = (75000, 6, true) := by decide +kernel
set_option maxRecDepth 100000 in
set_option maxHeartbeats 2000000 in
theorem alive_c (w : World) (hL : Libs w) : Calls Tryd.prog 11 #[] w (LawEnd w) := by
  have H1 : Hid (∀ w1, Libs w1 → Calls Tryd.prog 7 #[.string ⟨#[45, 49, 50, 46, 53]⟩] w1 (TwoB (-125000) true w1)) := Lib.hid (fun w1 hL => dparse_c ⟨#[45, 49, 50, 46, 53]⟩ (by decide) _ _ parse_a w1 hL)
  have H2 : Hid (∀ w1, Libs w1 → Calls Tryd.prog 13 #[.string ⟨#[48, 48, 55, 46, 53, 48, 43, 49]⟩] w1 (fun e w' => e = .returned (.tuple #[.int .i64 75000, .int .i64 6, .bool true]) ∧ Below w1.heap.size w1 w')) := Lib.hid (fun w1 hL => lead_c ⟨#[48, 48, 55, 46, 53, 48, 43, 49]⟩ (by decide) _ _ _ lead_a w1 hL)
  have H3 : Hid (∀ w1, Libs w1 → Calls Tryd.prog 7 #[.string ⟨#[49, 46, 53, 48]⟩] w1 (TwoB 0 false w1)) := Lib.hid (fun w1 hL => dparse_c ⟨#[49, 46, 53, 48]⟩ (by decide) _ _ parse_b w1 hL)
  have H4 : Hid (∀ w1, Libs w1 → Calls Tryd.prog 6 #[.int .i64 (-1)] w1 (TextB [45, 48, 46, 48, 48, 48, 49] w1)) := Lib.hid (fun w1 hL => by have h := text_c (-1) (by omega) w1 hL; rw [text_d] at h; exact h)
  have HL := Lib.hid hL
  clear hL
  go_enter Tryd.func11, Tryd.ntmps11
  go_wp2_with fail
  refine (H1.out _ HL.out).mono ?_
  rintro e w1 ⟨rfl, hb1⟩
  have HL1 := Lib.hid (HL.out.grown hb1)
  go_wp2_with fail
  refine (H2.out _ HL1.out).mono ?_
  rintro e w2 ⟨rfl, hb2⟩
  have hb3 := on hb1 hb2
  have HL2 := Lib.hid (HL.out.grown hb3)
  clear hb1 hb2 HL1
  go_wp2_with fail
  refine (H3.out _ HL2.out).mono ?_
  rintro e w3 ⟨rfl, hb4⟩
  have hb5 := on hb3 hb4
  have HL3 := Lib.hid (HL.out.grown hb5)
  clear hb3 hb4 HL2
  go_wp2_with fail
  refine (H4.out _ HL3.out).mono ?_
  rintro e w4 ⟨s, rfl, hs, hb6⟩
  have hb7 := on hb5 hb6
  obtain rfl : s = ⟨#[45, 48, 46, 48, 48, 48, 49]⟩ := bytes_eq hs
  clear hb5 hb6 HL3 HL hs H1 H2 H3 H4
  go_wp2
  go_ret
  exact ⟨rfl, hb7⟩
end Go.Proofs.YtfaidiigglkmiaaDoor.Dig

/- What the check of life of the laws on values answers; how a law's call ends. Written by wip/genval5.py. -/
import Derived.Test.YtkegelhhajfipaaGreatDoorValGo
import Derived.Test.YtkegelhhajfipaaGreatDoorValCmp
namespace Go.Proofs.YtkegelhhajfipaaGreatDoor.Val
open Go.RowKit Kit Dec Dig

/-- what a law's call answers -/
def LawEnd (w : World) : Ending → World → Prop := fun e w' => e = .returned (.bool true) ∧ Below w.heap.size w w'
theorem text_half : textD (-5000) = [45, 48, 46, 53] := by
  rw [textD_may (by decide)]
  show sgnL true ++ (Lib.decDigits 0 ++ fracL 5000) = _
  rw [Lib.decDigits_one (by omega)]
  rfl
theorem read_250 : readD [50, 46, 53, 48] = (25000, true) := by decide +kernel
theorem read_x : readD [120] = (0, false) := by decide +kernel
theorem one_text {l : List UInt8} {w : World} {e : Ending} {w' : World} (h : TextB l w e w') : e = .returned (.string ⟨l.toArray⟩) ∧ Below w.heap.size w w' := by
  obtain ⟨s, rfl, hs, hb⟩ := h
  obtain rfl : s = ⟨l.toArray⟩ := bytes_eq hs
  exact ⟨rfl, hb⟩
set_option maxRecDepth 100000 in
set_option maxHeartbeats 4000000 in
theorem alive_c (w : World) (hL : PLibs w) : Calls Tryz.prog 5 #[] w (LawEnd w) := by
  have K0 : Hid (∀ w1, Calls Tryz.prog 7 #[.string ⟨#[50, 46, 53, 48]⟩] w1 (ValIs 2 0 ⟨#[50, 46, 53, 48]⟩ w1)) := Lib.hid (fun w1 => str_c ⟨#[50, 46, 53, 48]⟩ 2 0 ⟨#[50, 46, 53, 48]⟩ (str_in (by decide)) w1)
  have K1 : Hid (∀ w1, PLibs w1 → Calls Tryz.prog 20 #[.agg #[.int .i64 2, .int .i64 0, .string ⟨#[50, 46, 53, 48]⟩]] w1 (ValIs 1 25000 ⟨#[]⟩ w1)) := Lib.hid (fun w1 hL => asnum_tyes ⟨#[50, 46, 53, 48]⟩ (by decide) 25000 read_250 w1 hL.1)
  have K2 : Hid (∀ w1, Calls Tryz.prog 6 #[.int .i64 25000] w1 (ValIs 1 25000 ⟨#[]⟩ w1)) := Lib.hid (fun w1 => num_c 25000 1 25000 (num_in (by decide)) w1)
  have K3 : Hid (∀ w1, Calls Tryz.prog 7 #[.string ⟨#[120]⟩] w1 (ValIs 2 0 ⟨#[120]⟩ w1)) := Lib.hid (fun w1 => str_c ⟨#[120]⟩ 2 0 ⟨#[120]⟩ (str_in (by decide)) w1)
  have K4 : Hid (∀ w1, PLibs w1 → Calls Tryz.prog 20 #[.agg #[.int .i64 2, .int .i64 0, .string ⟨#[120]⟩]] w1 (ValIs 4 2 ⟨#[]⟩ w1)) := Lib.hid (fun w1 hL => asnum_tno ⟨#[120]⟩ (by decide) 0 read_x w1 hL.1)
  have K5 : Hid (∀ w1, Calls Tryz.prog 9 #[.int .i64 2] w1 (ValIs 4 2 ⟨#[]⟩ w1)) := Lib.hid (fun w1 => bad_c 2 w1)
  have K6 : Hid (∀ w1, Calls Tryz.prog 6 #[.int .i64 (-5000)] w1 (ValIs 1 (-5000) ⟨#[]⟩ w1)) := Lib.hid (fun w1 => num_c (-5000) 1 (-5000) (num_in (by decide)) w1)
  have K7 : Hid (∀ w1, PLibs w1 → Calls Tryz.prog 21 #[.agg #[.int .i64 1, .int .i64 (-5000), .string ⟨#[]⟩]] w1 (ValIs 2 0 ⟨#[45, 48, 46, 53]⟩ w1)) := Lib.hid (fun w1 hL => (astext_n (-5000) (by omega) (by omega) w1 hL.1).mono fun e w' ⟨s, he, hs, hb⟩ => by
    rw [text_half] at hs
    obtain rfl : s = ⟨#[45, 48, 46, 53]⟩ := bytes_eq hs
    exact ⟨he, hb⟩)
  have K8 : Hid (∀ w1, Calls Tryz.prog 7 #[.string ⟨#[45, 48, 46, 53]⟩] w1 (ValIs 2 0 ⟨#[45, 48, 46, 53]⟩ w1)) := Lib.hid (fun w1 => str_c ⟨#[45, 48, 46, 53]⟩ 2 0 ⟨#[45, 48, 46, 53]⟩ (str_in (by decide)) w1)
  have K9 : Hid (∀ w1, Calls Tryz.prog 6 #[.int .i64 1] w1 (ValIs 1 1 ⟨#[]⟩ w1)) := Lib.hid (fun w1 => num_c 1 1 1 (num_in (by decide)) w1)
  have K10 : Hid (∀ w1, Calls Tryz.prog 22 #[.agg #[.int .i64 1, .int .i64 1, .string ⟨#[]⟩]] w1 (ValIs 3 1 ⟨#[]⟩ w1)) := Lib.hid (fun w1 => astruth_n1 1 (by decide) w1)
  have K11 : Hid (∀ w1, Calls Tryz.prog 8 #[.bool true] w1 (ValIs 3 1 ⟨#[]⟩ w1)) := Lib.hid (fun w1 => bool_c true w1)
  have K12 : Hid (∀ w1, Calls Tryz.prog 6 #[.int .i64 9] w1 (ValIs 1 9 ⟨#[]⟩ w1)) := Lib.hid (fun w1 => num_c 9 1 9 (num_in (by decide)) w1)
  have K13 : Hid (∀ w1, Calls Tryz.prog 7 #[.string ⟨#[]⟩] w1 (ValIs 2 0 ⟨#[]⟩ w1)) := Lib.hid (fun w1 => str_c ⟨#[]⟩ 2 0 ⟨#[]⟩ (str_in (by decide)) w1)
  have K14 : Hid (∀ w1, Calls Tryz.prog 30 #[.agg #[.int .i64 1, .int .i64 9, .string ⟨#[]⟩], .agg #[.int .i64 2, .int .i64 0, .string ⟨#[]⟩]] w1 (fun e w' => e = .returned (.int .i64 (-1)) ∧ Below w1.heap.size w1 w')) := Lib.hid (fun w1 => compare_life w1)
  have K15 : Hid (∀ w1, Calls Tryz.prog 7 #[.string ⟨#[97, 34, 98]⟩] w1 (ValIs 2 0 ⟨#[97, 34, 98]⟩ w1)) := Lib.hid (fun w1 => str_c ⟨#[97, 34, 98]⟩ 2 0 ⟨#[97, 34, 98]⟩ (str_in (by decide)) w1)
  have K16 : Hid (∀ w1, PLibs w1 → Calls Tryz.prog 26 #[.agg #[.int .i64 2, .int .i64 0, .string ⟨#[97, 34, 98]⟩]] w1 (fun e w' => e = .returned (.string ⟨#[34, 97, 34, 34, 98, 34]⟩) ∧ Below w1.heap.size w1 w')) := Lib.hid (fun w1 hL => (show_t ⟨#[97, 34, 98]⟩ (by decide) w1 hL).mono fun e w' h => one_text h)
  have K17 : Hid (∀ w1, Calls Tryz.prog 9 #[.int .i64 7] w1 (ValIs 4 7 ⟨#[]⟩ w1)) := Lib.hid (fun w1 => bad_c 7 w1)
  have K18 : Hid (∀ w1, Calls Tryz.prog 26 #[.agg #[.int .i64 4, .int .i64 7, .string ⟨#[]⟩]] w1 (fun e w' => e = .returned (.string ⟨#[35, 67, 89, 67, 76, 69]⟩) ∧ Below w1.heap.size w1 w')) := Lib.hid (fun w1 => (show_f 7 w1).mono fun e w' h => one_text h)
  have HL := Lib.hid hL
  clear hL
  have hb0 := Below.refl w.heap.size w
  go_enter Tryz.func5, Tryz.ntmps5
  go_wp2_with fail
  refine (K0.out _).mono ?_
  rintro e w1 ⟨rfl, hb1⟩
  replace hb0 := on hb0 hb1
  clear hb1 K0
  go_wp2_with fail
  have HL1 := Lib.hid (HL.out.grown hb0)
  refine (K1.out _ HL1.out).mono ?_
  rintro e w2 ⟨rfl, hb2⟩
  replace hb0 := on hb0 hb2
  clear hb2 K1 HL1
  go_wp2_with fail
  refine (K2.out _).mono ?_
  rintro e w3 ⟨rfl, hb3⟩
  replace hb0 := on hb0 hb3
  clear hb3 K2
  go_wp2_with fail
  refine (K3.out _).mono ?_
  rintro e w4 ⟨rfl, hb4⟩
  replace hb0 := on hb0 hb4
  clear hb4 K3
  go_wp2_with fail
  have HL4 := Lib.hid (HL.out.grown hb0)
  refine (K4.out _ HL4.out).mono ?_
  rintro e w5 ⟨rfl, hb5⟩
  replace hb0 := on hb0 hb5
  clear hb5 K4 HL4
  go_wp2_with fail
  refine (K5.out _).mono ?_
  rintro e w6 ⟨rfl, hb6⟩
  replace hb0 := on hb0 hb6
  clear hb6 K5
  go_wp2_with fail
  refine (K6.out _).mono ?_
  rintro e w7 ⟨rfl, hb7⟩
  replace hb0 := on hb0 hb7
  clear hb7 K6
  go_wp2_with fail
  have HL7 := Lib.hid (HL.out.grown hb0)
  refine (K7.out _ HL7.out).mono ?_
  rintro e w8 ⟨rfl, hb8⟩
  replace hb0 := on hb0 hb8
  clear hb8 K7 HL7
  go_wp2_with fail
  refine (K8.out _).mono ?_
  rintro e w9 ⟨rfl, hb9⟩
  replace hb0 := on hb0 hb9
  clear hb9 K8
  go_wp2_with fail
  refine (K9.out _).mono ?_
  rintro e w10 ⟨rfl, hb10⟩
  replace hb0 := on hb0 hb10
  clear hb10 K9
  go_wp2_with fail
  refine (K10.out _).mono ?_
  rintro e w11 ⟨rfl, hb11⟩
  replace hb0 := on hb0 hb11
  clear hb11 K10
  go_wp2_with fail
  refine (K11.out _).mono ?_
  rintro e w12 ⟨rfl, hb12⟩
  replace hb0 := on hb0 hb12
  clear hb12 K11
  go_wp2_with fail
  refine (K12.out _).mono ?_
  rintro e w13 ⟨rfl, hb13⟩
  replace hb0 := on hb0 hb13
  clear hb13 K12
  go_wp2_with fail
  refine (K13.out _).mono ?_
  rintro e w14 ⟨rfl, hb14⟩
  replace hb0 := on hb0 hb14
  clear hb14 K13
  go_wp2_with fail
  refine (K14.out _).mono ?_
  rintro e w15 ⟨rfl, hb15⟩
  replace hb0 := on hb0 hb15
  clear hb15 K14
  go_wp2_with fail
  refine (K15.out _).mono ?_
  rintro e w16 ⟨rfl, hb16⟩
  replace hb0 := on hb0 hb16
  clear hb16 K15
  go_wp2_with fail
  have HL16 := Lib.hid (HL.out.grown hb0)
  refine (K16.out _ HL16.out).mono ?_
  rintro e w17 ⟨rfl, hb17⟩
  replace hb0 := on hb0 hb17
  clear hb17 K16 HL16
  go_wp2_with fail
  refine (K17.out _).mono ?_
  rintro e w18 ⟨rfl, hb18⟩
  replace hb0 := on hb0 hb18
  clear hb18 K17
  go_wp2_with fail
  refine (K18.out _).mono ?_
  rintro e w19 ⟨rfl, hb19⟩
  replace hb0 := on hb0 hb19
  clear hb19 K18
  go_wp2
  go_ret
  exact ⟨rfl, hb0⟩
end Go.Proofs.YtkegelhhajfipaaGreatDoor.Val

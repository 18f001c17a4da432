/- What the program's Text and Parse answer (over the landed text of package digits): for every number of 64 bits, and every text below 2^47 bytes. -/
import Derived.Test.YtmoednmgmmgjeaaDoorDigRead
namespace Go.Proofs.YtmoednmgmmgjeaaDoor.Dig
open Go.RowKit Kit Dec

theorem fmt_c (u : Nat) (z : Int) (hz : z = u) (h1 : u ≤ 9223372036854775807) (w : World) (hL : Libs w) :
    Calls Tryd.prog 26 #[.int .i64 z, .int .i64 10] w fun e w' => ∃ s : ByteArray, e = .returned (.string s) ∧ s.data.toList = Lib.decDigits u ∧ Below w.heap.size w w' := by
  subst hz
  refine (Tryd.strconv_FormatInt_10 (u : Int) (by omega) (by omega) w hL.2).mono fun e w' ⟨he, k, os, hw⟩ => ⟨_, he, ?_, by subst hw; exact below_regrown w (w.drawn + k) os⟩
  show Lib.itoa (u : Int) = _
  rw [Lib.itoa_nonneg]
theorem trim_c (s : ByteArray) (r : Nat) (hr : r < 10000) (hs : s.data.toList = ds4 r) (w : World) :
    Calls Tryd.prog 28 #[.string s, .string ⟨#[48]⟩] w fun e w' => ∃ t : ByteArray, e = .returned (.string t) ∧ t.data.toList = partT r ∧ w = w' := by
  have hl : s.size ≤ 9223372036854775807 := by rw [← len, hs]; show 4 ≤ _; omega
  refine (Tryd.strings_TrimRight_one s 48 (by decide) w hl).mono fun e w' ⟨he, hw⟩ => ⟨_, he, ?_, hw.symm⟩
  show Lib.trimRightB s.data.toList 48 = _
  rw [hs, trim_eq hr]
/-- one text -/
def TextB (l : List UInt8) (w : World) (e : Ending) (w' : World) : Prop := ∃ s : ByteArray, e = .returned (.string s) ∧ s.data.toList = l ∧ Below w.heap.size w w'
set_option maxRecDepth 100000 in
set_option maxHeartbeats 400000 in
theorem text_no (x : Int) (h : mayD x = false) (w : World) : Calls Tryd.prog 16 #[.int .i64 x] w (TextB (textD x) w) := by
  have HM := Lib.hid (fun w1 => may_c x false h w1)
  rw [textD_no h]
  clear h
  go_enter Tryd.func16, Tryd.ntmps16
  go_wp2_with (go_at_call 25; refine (HM.out _).mono ?_; rintro e w' ⟨rfl, rfl⟩)
  go_ret
  exact ⟨⟨#[]⟩, rfl, rfl, Below.refl _ _⟩
set_option maxRecDepth 100000 in
set_option maxHeartbeats 2000000 in
theorem text_up (X : Nat) (h2 : X ≤ 9223372036854775807) (w : World) (hL : Libs w) : Calls Tryd.prog 16 #[.int .i64 X] w (TextB (textD X) w) := by
  have hm : mayD (X : Int) = true := mayD_yes (by omega)
  have HM := Lib.hid (fun w1 => may_c (X : Int) true hm w1)
  rw [textD_may hm, decide_eq_false (show ¬ (X : Int) < 0 by omega), show (X : Int).natAbs = X by omega]
  obtain ⟨u, hu⟩ : ∃ u, X / 10000 = u := ⟨_, rfl⟩
  obtain ⟨r, hr⟩ : ∃ r, X % 10000 = r := ⟨_, rfl⟩
  have hr4 : r < 10000 := by omega
  have hu5 : u < 1000000000000000 := by omega
  have hrem : (X : Int).tmod 10000 = (r : Int) := by rw [Int.tmod_eq_emod_of_nonneg (by omega)]; omega
  have HU := Lib.hid (fun w1 => units_c (X : Int) (by omega) (u : Int) (by unfold unitsD; rw [if_neg (by omega), Int.tdiv_eq_ediv_of_nonneg (by omega)]; omega) w1)
  have HF := Lib.hid (fun w1 h => fmt_c u (u : Int) rfl (by omega) w1 h)
  have HL := Lib.hid hL
  have dl := Lib.hid (dd_len15 hu5)
  rw [hu, hr]
  clear hm hL hu hr hu5
  go_enter Tryd.func16, Tryd.ntmps16
  go_wp2_with (first
    | (go_at_call 25; refine (HM.out _).mono ?_; rintro e w' ⟨rfl, rfl⟩)
    | (go_at_call 27; refine (HU.out _).mono ?_; rintro e w' ⟨rfl, rfl⟩))
  refine (HF.out _ HL.out).mono ?_
  rintro e w1 ⟨s, rfl, hs, hb1⟩
  have hsl : s.size ≤ 15 := by rw [← len, hs]; exact dl.out
  have HS := Lib.hid hs
  clear hs HF HU HM dl
  by_cases h0 : r = 0
  · subst h0
    go_wp2
    go_ret
    exact ⟨_, rfl, by first | (rw [cat_data, HS.out]; simp [sgnL, fracL]) | (rw [HS.out]; simp [sgnL, fracL]), hb1⟩
  · have hz : (r == 0) = false := by simpa using h0
    have hz2 : ((r : Int) == 0) = false := by simpa using h0
    have HF2 := Lib.hid (fun w1 h => fmt_c (10000 + r) (10000 + (r : Int)) (by omega) (by omega) w1 h)
    have HL1 := Lib.hid (HL.out.grown hb1)
    clear HL
    go_wp2_with fail
    refine (HF2.out _ HL1.out).mono ?_
    rintro e w2 ⟨s2, rfl, hs2, hb2⟩
    rw [behind_eq hr4] at hs2
    have hb3 := on hb1 hb2
    have hs2l : s2.size = 5 := by rw [← len, hs2]; rfl
    have l1 : 1 ≤ s2.size := by omega
    have l2 : s2.size ≤ 5 := by omega
    have HT := Lib.hid (fun w1 => trim_c (s2.extract 1 s2.size) r hr4 (by rw [ext_drop, hs2]; rfl) w1)
    have hpl := Lib.hid (part_len r)
    clear hb1 hb2 hs2 hs2l HF2 HL1
    go_wp2_with fail
    refine (HT.out _).mono ?_
    rintro e w3 ⟨p, rfl, hp, rfl⟩
    have hpl2 : p.size ≤ 4 := by rw [← len, hp, hpl.out]; exact pl_le r
    have HP := Lib.hid hp
    clear hp HT hpl
    go_wp2
    go_ret
    refine ⟨_, rfl, ?_, hb3⟩
    unfold fracL
    rw [if_neg h0]
    simp [sgnL, HS.out, HP.out]
set_option maxRecDepth 100000 in
set_option maxHeartbeats 2000000 in
theorem text_down (x : Int) (X : Nat) (hX : -x = (X : Int)) (h0 : x < 0) (h2 : X ≤ 9223372036854775807) (w : World) (hL : Libs w) : Calls Tryd.prog 16 #[.int .i64 x] w (TextB (textD x) w) := by
  have hm : mayD x = true := mayD_yes (by omega)
  have HM := Lib.hid (fun w1 => may_c x true hm w1)
  rw [textD_may hm, decide_eq_true h0, show x.natAbs = X by omega]
  obtain ⟨u, hu⟩ : ∃ u, X / 10000 = u := ⟨_, rfl⟩
  obtain ⟨r, hr⟩ : ∃ r, X % 10000 = r := ⟨_, rfl⟩
  have hr4 : r < 10000 := by omega
  have hu5 : u < 1000000000000000 := by omega
  have hrem : (X : Int).tmod 10000 = (r : Int) := by rw [Int.tmod_eq_emod_of_nonneg (by omega)]; omega
  have HU := Lib.hid (fun w1 => units_c (X : Int) (by omega) (u : Int) (by unfold unitsD; rw [if_neg (by omega), Int.tdiv_eq_ediv_of_nonneg (by omega)]; omega) w1)
  have HF := Lib.hid (fun w1 h => fmt_c u (u : Int) rfl (by omega) w1 h)
  have HL := Lib.hid hL
  have dl := Lib.hid (dd_len15 hu5)
  rw [hu, hr]
  clear hm hL hu hr hu5
  go_enter Tryd.func16, Tryd.ntmps16
  go_wp2_with (first
    | (go_at_call 25; refine (HM.out _).mono ?_; rintro e w' ⟨rfl, rfl⟩)
    | (go_at_call 27; refine (HU.out _).mono ?_; rintro e w' ⟨rfl, rfl⟩))
  refine (HF.out _ HL.out).mono ?_
  rintro e w1 ⟨s, rfl, hs, hb1⟩
  have hsl : s.size ≤ 15 := by rw [← len, hs]; exact dl.out
  have HS := Lib.hid hs
  clear hs HF HU HM dl
  by_cases h0 : r = 0
  · subst h0
    go_wp2
    go_ret
    exact ⟨_, rfl, by rw [cat_data, HS.out]; simp [sgnL, fracL], hb1⟩
  · have hz : (r == 0) = false := by simpa using h0
    have hz2 : ((r : Int) == 0) = false := by simpa using h0
    have HF2 := Lib.hid (fun w1 h => fmt_c (10000 + r) (10000 + (r : Int)) (by omega) (by omega) w1 h)
    have HL1 := Lib.hid (HL.out.grown hb1)
    clear HL
    go_wp2_with fail
    refine (HF2.out _ HL1.out).mono ?_
    rintro e w2 ⟨s2, rfl, hs2, hb2⟩
    rw [behind_eq hr4] at hs2
    have hb3 := on hb1 hb2
    have hs2l : s2.size = 5 := by rw [← len, hs2]; rfl
    have l1 : 1 ≤ s2.size := by omega
    have l2 : s2.size ≤ 5 := by omega
    have HT := Lib.hid (fun w1 => trim_c (s2.extract 1 s2.size) r hr4 (by rw [ext_drop, hs2]; rfl) w1)
    have hpl := Lib.hid (part_len r)
    clear hb1 hb2 hs2 hs2l HF2 HL1
    go_wp2_with fail
    refine (HT.out _).mono ?_
    rintro e w3 ⟨p, rfl, hp, rfl⟩
    have hpl2 : p.size ≤ 4 := by rw [← len, hp, hpl.out]; exact pl_le r
    have HP := Lib.hid hp
    clear hp HT hpl
    go_wp2
    go_ret
    refine ⟨_, rfl, ?_, hb3⟩
    unfold fracL
    rw [if_neg h0]
    simp [sgnL, HS.out, HP.out]
theorem text_c (x : Int) (h2 : x ≤ 9223372036854775807) (w : World) (hL : Libs w) : Calls Tryd.prog 16 #[.int .i64 x] w (TextB (textD x) w) := by
  cases hm : mayD x
  · exact text_no x hm w
  · have h1 : -9223372036854775807 ≤ x := by unfold mayD at hm; simpa using hm
    by_cases h : x < 0
    · exact text_down x x.natAbs (by omega) h (by omega) w hL
    · obtain ⟨X, rfl⟩ := Int.eq_ofNat_of_zero_le (show 0 ≤ x by omega)
      exact text_up X (by omega) w hL
theorem toList_eq (a b : ByteArray) : (a.toList == b.toList) = decide (a.data.toList = b.data.toList) := by
  rw [Lib.toList_data, Lib.toList_data]
  by_cases h : a.data.toList = b.data.toList
  · rw [decide_eq_true h, h]; simp
  · rw [decide_eq_false h]; simpa using h
end Go.Proofs.YtmoednmgmmgjeaaDoor.Dig

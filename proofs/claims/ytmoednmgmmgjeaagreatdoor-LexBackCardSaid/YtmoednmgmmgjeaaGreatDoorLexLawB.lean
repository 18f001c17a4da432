/- LexBack, out of contracts. -/
import Derived.Test.YtmoednmgmmgjeaaGreatDoorLexLawT
import Derived.Test.YtmoednmgmmgjeaaGreatDoorLexRText
namespace Go.Proofs.YtmoednmgmmgjeaaGreatDoor.Lex
open Go.RowKit Kit Reg Dec Dig

theorem lex_fits {l : List UInt8} {T : List Tok} (h : LexO l 0 T) (hl : l.length ≤ 200) : FitsT T := by
  obtain ⟨h1, h2⟩ := h.fits
  refine ⟨by omega, fun x hx => ?_⟩
  obtain ⟨_, _, h3, h4⟩ := h2 x hx
  exact ⟨by omega, h4⟩
theorem lex_some {l : List UInt8} {T : List Tok} (h : LexO l 0 T) : LexAt l 0 [] (.inl T) := ⟨T, by rw [List.drop_zero]; exact h, rfl⟩
theorem field_told (B : Option Addr) (n cap : Nat) (z c : Int) (w : World) : (Instr.field 29 (.agg #[.slice B n cap, .int .i64 z, .int .i64 c]) 0).run Tryz.prog w = .ok (.slice B n cap) w := by kernel_rfl
theorem text_nil : textT [] = [] := rfl
set_option maxRecDepth 100000 in
set_option maxHeartbeats 4000000 in
theorem back_no (t : ByteArray) (ht : t.size ≤ 300) (c : Int) (hc : (c != 0) = true) (h1 : ∀ w1, LLibs w1 → Calls Tryz.prog 6 #[.string t] w1 fun e w' => ∃ z : Int, e = .returned (.tuple #[.slice none 0 0, .int .i64 z, .int .i64 c]) ∧ Below w1.heap.size w1 w') (w : World) (hL : LLibs w) : Calls Tryz.prog 4 #[.string t] w (LawEnd w) := by
  have HV := Lib.hid (fun w1 h => alive_c w1 h)
  have HL := Lib.hid hL
  have H1 := Lib.hid h1
  have H2 := Lib.hid (fun w1 h => textT_c none 0 0 [] ⟨by decide, fun x hx => by cases hx⟩ w1 (ToksR.nil _ _) h)
  have d1 : decide ((300 : Int) < (t.size : Int)) = false := decide_eq_false (by omega)
  clear hL h1
  go_enter Tryz.func4, Tryz.ntmps4
  go_wp2_with fail
  refine (H1.out _ HL.out).mono ?_
  rintro e w1 ⟨z, rfl, hb1⟩
  go_wp2_with fail
  refine (H2.out _ (HL.out.grown hb1)).mono ?_
  rintro e w2 ⟨s, rfl, hs, hb2⟩
  obtain rfl : s = ⟨#[]⟩ := bytes_eq hs
  replace hb1 := on hb1 hb2
  clear hs hb2
  go_wp2_with fail
  refine (HV.out _ (HL.out.grown hb1)).mono ?_
  rintro e w6 ⟨rfl, hb6⟩
  replace hb1 := on hb1 hb6
  go_wp2_with fail
  go_ret
  exact ⟨rfl, hb1⟩
set_option maxRecDepth 100000 in
set_option maxHeartbeats 4000000 in
theorem back_long (t s : ByteArray) (ht : t.size ≤ 200) (T : List Tok) (hT : LexO t.data.toList 0 T) (hs : s.data.toList = textT T) (hs2 : 200 < s.size) (w : World) (hL : LLibs w) : Calls Tryz.prog 4 #[.string t] w (LawEnd w) := by
  have HV := Lib.hid (fun w1 h => alive_c w1 h)
  have HL := Lib.hid hL
  have hf := lex_fits hT (by rw [len]; exact ht)
  have H1 := Lib.hid (fun w1 h => lex_c t ht _ (lex_some hT) w1 h)
  have H2 := Lib.hid (fun A cap w1 hz h => textT_c A T.length cap T hf w1 hz h)
  have H3 := Lib.hid (fun w1 => lex_long s hs2 w1)
  have H4 := Lib.hid (fun w1 => rlex_c t ht _ (lex_some hT) w1)
  have H5 := Lib.hid (fun A cap w1 hz => rtextT_c A T.length cap T hf w1 hz)
  have d1 : decide ((300 : Int) < (t.size : Int)) = false := decide_eq_false (by omega)
  have d2 : decide ((200 : Int) < (s.size : Int)) = true := decide_eq_true (by omega)
  have hsl : s.size ≤ 3000000 := by rw [← len, hs]; exact hf.len false
  have t1 : (s.toList == s.toList) = true := by simp
  have HS := Lib.hid hs
  clear hL hs hT hf hs2
  go_enter Tryz.func4, Tryz.ntmps4
  go_wp2_with fail
  refine (H1.out _ HL.out).mono ?_
  rintro e w1 ⟨A, cap, rfl, ⟨hz, hcap⟩, hb1⟩
  go_wp2_with fail
  refine (H2.out A cap _ hz (HL.out.grown hb1)).mono ?_
  rintro e w2 ⟨s', rfl, hs', hb2⟩
  obtain rfl : s' = s := bytes_eq (by rw [hs', HS.out])
  replace hb1 := on hb1 hb2
  clear hs' hb2 hz hcap
  go_wp2_with fail
  refine (H3.out _).mono ?_
  rintro e w3 ⟨rfl, rfl⟩
  go_wp2_with fail
  refine (H4.out _).mono ?_
  rintro e w4 ⟨B, cap2, rfl, hz2, hb4⟩
  replace hb1 := on hb1 hb4
  have hfl := field_told B T.length cap2 0 0 w4
  clear hb4
  go_wp2_with fail
  refine (H5.out B cap2 _ hz2).mono ?_
  rintro e w5 ⟨s2, rfl, hs2, hb5⟩
  obtain rfl : s2 = s' := bytes_eq (by rw [hs2, HS.out])
  replace hb1 := on hb1 hb5
  clear hb5 hs2 hz2 hfl
  go_wp2_with fail
  refine (HV.out _ (HL.out.grown hb1)).mono ?_
  rintro e w6 ⟨rfl, hb6⟩
  replace hb1 := on hb1 hb6
  go_wp2_with fail
  go_ret
  exact ⟨rfl, hb1⟩
set_option maxRecDepth 100000 in
set_option maxHeartbeats 4000000 in
theorem back_yes (t s : ByteArray) (ht : t.size ≤ 200) (T U : List Tok) (hT : LexO t.data.toList 0 T) (hs : s.data.toList = textT T) (hs2 : s.size ≤ 200) (hU : LexO s.data.toList 0 U) (ha : Alike T U) (w : World) (hL : LLibs w) : Calls Tryz.prog 4 #[.string t] w (LawEnd w) := by
  have HV := Lib.hid (fun w1 h => alive_c w1 h)
  have HL := Lib.hid hL
  have hf := lex_fits hT (by rw [len]; exact ht)
  have hf2 := lex_fits hU (by rw [len]; exact hs2)
  have hTU := alike_len ha
  have hsU : s.data.toList = textT U := by rw [hs]; exact join_alike T U false ha
  have H1 := Lib.hid (fun w1 h => lex_c t ht _ (lex_some hT) w1 h)
  have H2 := Lib.hid (fun A cap w1 hz h => textT_c A T.length cap T hf w1 hz h)
  have H3 := Lib.hid (fun w1 h => (lex_c s hs2 _ (lex_some hU) w1 h).mono (fun e w' (q : ∃ A cap, e = .returned (.tuple #[.slice A U.length cap, .int .i64 0, .int .i64 0]) ∧ (ToksR w' A U.length U ∧ U.length ≤ cap) ∧ Below w1.heap.size w1 w') => q))
  have H4 := Lib.hid (fun w1 => rlex_c t ht _ (lex_some hT) w1)
  have H5 := Lib.hid (fun A cap w1 hz => rtextT_c A T.length cap T hf w1 hz)
  have H6 := Lib.hid (fun A B cap cap2 w1 hz hz2 => moved_c A B T.length cap cap2 T U hf.1 ha w1 hz hz2)
  have H7 := Lib.hid (fun A cap w1 hz h => textT_c A U.length cap U hf2 w1 hz h)
  rw [← hTU] at H3 H7
  have d1 : decide ((300 : Int) < (t.size : Int)) = false := decide_eq_false (by omega)
  have d2 : decide ((200 : Int) < (s.size : Int)) = false := decide_eq_false (by omega)
  have t1 : (s.toList == s.toList) = true := by simp
  have HS := Lib.hid hs
  have HSU := Lib.hid hsU
  clear hL hs hT hf hf2 hU ha hsU hTU
  go_enter Tryz.func4, Tryz.ntmps4
  go_wp2_with fail
  refine (H1.out _ HL.out).mono ?_
  rintro e w1 ⟨A, cap, rfl, ⟨hz, hcap⟩, hb1⟩
  go_wp2_with fail
  refine (H2.out A cap _ hz (HL.out.grown hb1)).mono ?_
  rintro e w2 ⟨s', rfl, hs', hb2⟩
  obtain rfl : s' = s := bytes_eq (by rw [hs', HS.out])
  replace hb1 := on hb1 hb2
  replace hz := hz.on hb2
  clear hs' hb2 hcap
  go_wp2_with fail
  refine (H3.out _ (HL.out.grown hb1)).mono ?_
  rintro e w3 ⟨A3, cap3, rfl, ⟨hz3, hcap3⟩, hb3⟩
  replace hb1 := on hb1 hb3
  replace hz := hz.on hb3
  clear hb3 hcap3
  go_wp2_with fail
  refine (H4.out _).mono ?_
  rintro e w4 ⟨B, cap2, rfl, hz2, hb4⟩
  replace hb1 := on hb1 hb4
  replace hz := hz.on hb4
  replace hz3 := hz3.on hb4
  have hfl := field_told B T.length cap2 0 0 w4
  clear hb4
  go_wp2_with fail
  refine (H5.out B cap2 _ hz2).mono ?_
  rintro e w5 ⟨s2, rfl, hs2, hb5⟩
  obtain rfl : s2 = s' := bytes_eq (by rw [hs2, HS.out])
  replace hb1 := on hb1 hb5
  replace hz := hz.on hb5
  replace hz3 := hz3.on hb5
  clear hb5 hs2 hz2 hfl
  go_wp2_with fail
  refine (H6.out A A3 cap cap3 _ hz hz3).mono ?_
  rintro e w6 ⟨rfl, hb6⟩
  replace hb1 := on hb1 hb6
  replace hz3 := hz3.on hb6
  clear hb6 hz
  go_wp2_with fail
  refine (H7.out A3 cap3 _ hz3 (HL.out.grown hb1)).mono ?_
  rintro e w7 ⟨s3, rfl, hs3, hb7⟩
  obtain rfl : s3 = s2 := bytes_eq (by rw [hs3, HSU.out])
  replace hb1 := on hb1 hb7
  clear hb7 hs3 hz3
  go_wp2_with fail
  refine (HV.out _ (HL.out.grown hb1)).mono ?_
  rintro e w8 ⟨rfl, hb8⟩
  replace hb1 := on hb1 hb8
  go_wp2_with fail
  go_ret
  exact ⟨rfl, hb1⟩
set_option maxRecDepth 100000 in
set_option maxHeartbeats 4000000 in
theorem back_law (t : ByteArray) (w : World) (hL : LLibs w) : Calls Tryz.prog 4 #[.string t] w (LawEnd w) := by
  by_cases h3 : 300 < t.size
  · have HV := Lib.hid (fun w1 h => alive_c w1 h)
    have HL := Lib.hid hL
    have d1 : decide ((300 : Int) < (t.size : Int)) = true := decide_eq_true (by omega)
    clear h3 hL
    go_enter Tryz.func4, Tryz.ntmps4
    go_wp2_with fail
    refine (HV.out _ HL.out).mono ?_
    rintro e w1 ⟨rfl, hb⟩
    go_wp2_with fail
    go_ret
    exact ⟨rfl, hb⟩
  by_cases ht : t.size ≤ 200
  · obtain ⟨R, hR⟩ := LexAt.start t.data.toList
    cases R with
    | inr n => exact back_no t (by omega) 1 (by decide) (fun w1 h => (lex_c t ht _ hR w1 h).mono fun e w' ⟨he, hb⟩ => ⟨n, he, hb⟩) w hL
    | inl T =>
      obtain ⟨T', hT, rfl⟩ := hR
      rw [List.drop_zero] at hT
      by_cases hs2 : (textT T).length ≤ 200
      · obtain ⟨U, hU, ha⟩ := hT.back 0
        exact back_yes t ⟨(textT T).toArray⟩ ht T U hT rfl (by rw [← len]; exact hs2) hU ha w hL
      · exact back_long t ⟨(textT T).toArray⟩ ht T hT rfl (by rw [← len]; show 200 < (textT T).length; omega) w hL
  · exact back_no t (by omega) 3 (by decide) (fun w1 h => (lex_long t (by omega) w1).mono fun e w' ⟨he, hw⟩ => ⟨0, he, by rw [hw]; exact Below.refl _ _⟩) w hL
end Go.Proofs.YtmoednmgmmgjeaaGreatDoor.Lex

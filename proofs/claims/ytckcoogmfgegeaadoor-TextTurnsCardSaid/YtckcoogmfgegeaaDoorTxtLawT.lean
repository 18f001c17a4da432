/- The law TextTurns: what is turned, done twice, is as done once. -/
import Derived.Test.YtckcoogmfgegeaaDoorTxtAlive
import Derived.Test.YtckcoogmfgegeaaDoorTxtRTrim
namespace Go.Proofs.YtckcoogmfgegeaaDoor.Txt
open Go.RowKit Kit Reg

set_option maxRecDepth 100000 in
set_option maxHeartbeats 4000000 in
theorem turns_law (t : ByteArray) (w : World) (hL : PLibs w) : Calls Tryd.prog 3 #[.string t] w fun e w' => e = .returned (.bool true) ∧ Below w.heap.size w w' := by
  have HV := Lib.hid alive_c
  have HL := Lib.hid hL
  clear hL
  by_cases hsz : 400 < t.size
  · have d1 : decide ((400 : Int) < (t.size : Int)) = true := decide_eq_true (by omega)
    go_enter Tryd.func3, Tryd.ntmps3
    go_wp2_with fail
    refine (HV.out _ HL.out).mono ?_
    rintro e w1 ⟨rfl, hb1⟩
    go_wp2
    go_ret
    exact ⟨rfl, hb1⟩
  · have d1 : decide ((400 : Int) < (t.size : Int)) = false := decide_eq_false (by omega)
    have h9 : t.size ≤ 1000000 := by omega
    obtain ⟨l, hs⟩ : ∃ l, t.data.toList = l := ⟨_, rfl⟩
    have hl : l.length = t.size := by rw [← hs, len]
    obtain ⟨u, hu⟩ : ∃ x : ByteArray, x = ⟨(wrL 0 0 0 l).toArray⟩ := ⟨_, rfl⟩
    obtain ⟨o, ho⟩ : ∃ x : ByteArray, x = ⟨(wrL 1 1 1 l).toArray⟩ := ⟨_, rfl⟩
    obtain ⟨p, hp⟩ : ∃ x : ByteArray, x = ⟨(wrL 0 1 0 l).toArray⟩ := ⟨_, rfl⟩
    obtain ⟨s, hss⟩ : ∃ x : ByteArray, x = ⟨(trimL l).toArray⟩ := ⟨_, rfl⟩
    have hu9 : u.size ≤ 1000000 := by rw [hu, arr_size, wr_len]; omega
    have ho9 : o.size ≤ 1000000 := by rw [ho, arr_size, wr_len]; omega
    have hp9 : p.size ≤ 1000000 := by rw [hp, arr_size, wr_len]; omega
    have hs9 : s.size ≤ 1000000 := by rw [hss, arr_size]; have := trimL_len l; omega
    have U1 : Hid (∀ w, Calls Tryd.prog 8 #[.string t] w fun e w' => e = .returned (.string u) ∧ Below w.heap.size w w') := Lib.hid fun w => (upper_c t h9 w).mono fun e w' ⟨h1, h2⟩ => ⟨by rw [h1, hs, hu], h2⟩
    have U2 : Hid (∀ w, Calls Tryd.prog 8 #[.string u] w fun e w' => e = .returned (.string u) ∧ Below w.heap.size w w') := Lib.hid fun w => (upper_c u hu9 w).mono fun e w' ⟨h1, h2⟩ => ⟨by rw [h1, hu]; show Ending.returned (.string ⟨(wrL 0 0 0 (wrL 0 0 0 l)).toArray⟩) = _; rw [wr_twice], h2⟩
    have U3 : Hid (∀ w, Calls Tryd.prog 8 #[.string o] w fun e w' => e = .returned (.string u) ∧ Below w.heap.size w w') := Lib.hid fun w => (upper_c o ho9 w).mono fun e w' ⟨h1, h2⟩ => ⟨by rw [h1, hu, ho]; show Ending.returned (.string ⟨(wrL 0 0 0 (wrL 1 1 1 l)).toArray⟩) = _; rw [wr_low], h2⟩
    have O1 : Hid (∀ w, Calls Tryd.prog 9 #[.string t] w fun e w' => e = .returned (.string o) ∧ Below w.heap.size w w') := Lib.hid fun w => (lower_c t h9 w).mono fun e w' ⟨h1, h2⟩ => ⟨by rw [h1, hs, ho], h2⟩
    have O2 : Hid (∀ w, Calls Tryd.prog 9 #[.string o] w fun e w' => e = .returned (.string o) ∧ Below w.heap.size w w') := Lib.hid fun w => (lower_c o ho9 w).mono fun e w' ⟨h1, h2⟩ => ⟨by rw [h1, ho]; show Ending.returned (.string ⟨(wrL 1 1 1 (wrL 1 1 1 l)).toArray⟩) = _; rw [wr_twice], h2⟩
    have P1 : Hid (∀ w, Calls Tryd.prog 10 #[.string t] w fun e w' => e = .returned (.string p) ∧ Below w.heap.size w w') := Lib.hid fun w => (proper_c t h9 w).mono fun e w' ⟨h1, h2⟩ => ⟨by rw [h1, hs, hp], h2⟩
    have P2 : Hid (∀ w, Calls Tryd.prog 10 #[.string p] w fun e w' => e = .returned (.string p) ∧ Below w.heap.size w w') := Lib.hid fun w => (proper_c p hp9 w).mono fun e w' ⟨h1, h2⟩ => ⟨by rw [h1, hp]; show Ending.returned (.string ⟨(wrL 0 1 0 (wrL 0 1 0 l)).toArray⟩) = _; rw [wr_twice], h2⟩
    have S1 : Hid (∀ w, Calls Tryd.prog 11 #[.string t] w fun e w' => e = .returned (.string s) ∧ Below w.heap.size w w') := Lib.hid fun w => (trim_c cutsBlank t l hs h9 w).mono fun e w' ⟨h1, h2⟩ => ⟨by rw [h1, hss], h2⟩
    have S2 : Hid (∀ w, Calls Tryd.prog 11 #[.string s] w fun e w' => e = .returned (.string s) ∧ Below w.heap.size w w') := Lib.hid fun w => (trim_c cutsBlank s _ rfl hs9 w).mono fun e w' ⟨h1, h2⟩ => ⟨by rw [h1, hss]; show Ending.returned (.string ⟨(trimL (trimL l)).toArray⟩) = _; rw [trim_twice], h2⟩
    have R0 : Hid (∀ w, Calls Tryd.prog 12 #[.string t, .int .i64 0] w fun e w' => e = .returned (.string u) ∧ Below w.heap.size w w') := Lib.hid fun w => (rturn_c t l hs h9 0 0 0 (.inl ⟨rfl, rfl, rfl⟩) w).mono fun e w' ⟨h1, h2⟩ => ⟨by rw [h1, hu], h2⟩
    have R1 : Hid (∀ w, Calls Tryd.prog 12 #[.string t, .int .i64 1] w fun e w' => e = .returned (.string o) ∧ Below w.heap.size w w') := Lib.hid fun w => (rturn_c t l hs h9 1 1 1 (.inr (.inl ⟨rfl, rfl, rfl⟩)) w).mono fun e w' ⟨h1, h2⟩ => ⟨by rw [h1, ho], h2⟩
    have R2 : Hid (∀ w, Calls Tryd.prog 12 #[.string t, .int .i64 2] w fun e w' => e = .returned (.string p) ∧ Below w.heap.size w w') := Lib.hid fun w => (rturn_c t l hs h9 2 0 1 (.inr (.inr ⟨rfl, rfl, rfl⟩)) w).mono fun e w' ⟨h1, h2⟩ => ⟨by rw [h1, hp], h2⟩
    have R3 : Hid (∀ w, Calls Tryd.prog 13 #[.string t] w fun e w' => e = .returned (.string s) ∧ Below w.heap.size w w') := Lib.hid fun w => (rtrim_c t l hs h9 w).mono fun e w' ⟨h1, h2⟩ => ⟨by rw [h1, hss], h2⟩
    clear hs hu ho hp hss hu9 ho9 hp9 hs9 hl h9
    have hb0 := Below.refl w.heap.size w
    go_enter Tryd.func3, Tryd.ntmps3
    go_wp2_with fail
    refine (U1.out _).mono ?_
    rintro e w1 ⟨rfl, hb1⟩
    replace hb0 := on hb0 hb1
    clear hb1 U1
    go_wp2_with fail
    refine (O1.out _).mono ?_
    rintro e w2 ⟨rfl, hb1⟩
    replace hb0 := on hb0 hb1
    clear hb1 O1
    go_wp2_with fail
    refine (P1.out _).mono ?_
    rintro e w3 ⟨rfl, hb1⟩
    replace hb0 := on hb0 hb1
    clear hb1 P1
    go_wp2_with fail
    refine (S1.out _).mono ?_
    rintro e w4 ⟨rfl, hb1⟩
    replace hb0 := on hb0 hb1
    clear hb1 S1
    go_wp2_with fail
    refine (R0.out _).mono ?_
    rintro e w5 ⟨rfl, hb1⟩
    replace hb0 := on hb0 hb1
    clear hb1 R0
    go_wp2_with fail
    refine (R1.out _).mono ?_
    rintro e w6 ⟨rfl, hb1⟩
    replace hb0 := on hb0 hb1
    clear hb1 R1
    go_wp2_with fail
    refine (R2.out _).mono ?_
    rintro e w7 ⟨rfl, hb1⟩
    replace hb0 := on hb0 hb1
    clear hb1 R2
    go_wp2_with fail
    refine (R3.out _).mono ?_
    rintro e w8 ⟨rfl, hb1⟩
    replace hb0 := on hb0 hb1
    clear hb1 R3
    go_wp2_with fail
    refine (U2.out _).mono ?_
    rintro e w9 ⟨rfl, hb1⟩
    replace hb0 := on hb0 hb1
    clear hb1 U2
    go_wp2_with fail
    refine (O2.out _).mono ?_
    rintro e w10 ⟨rfl, hb1⟩
    replace hb0 := on hb0 hb1
    clear hb1 O2
    go_wp2_with fail
    refine (P2.out _).mono ?_
    rintro e w11 ⟨rfl, hb1⟩
    replace hb0 := on hb0 hb1
    clear hb1 P2
    go_wp2_with fail
    refine (S2.out _).mono ?_
    rintro e w12 ⟨rfl, hb1⟩
    replace hb0 := on hb0 hb1
    clear hb1 S2
    go_wp2_with fail
    refine (U3.out _).mono ?_
    rintro e w13 ⟨rfl, hb1⟩
    replace hb0 := on hb0 hb1
    clear hb1 U3
    go_wp2_with fail
    refine (HV.out _ (HL.out.grown hb0)).mono ?_
    rintro e w20 ⟨rfl, hb1⟩
    replace hb0 := on hb0 hb1
    clear hb1
    go_wp2
    go_ret
    exact ⟨rfl, hb0⟩
end Go.Proofs.YtckcoogmfgegeaaDoor.Txt

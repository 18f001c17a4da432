/- The law RunesCut: what the program counts and cuts is what the reference does. -/
import Derived.Test.YtkbibkadofeamaaRunAlive
namespace Go.Proofs.Ytkbibkadofeamaa.Run
open Go.RowKit Kit Reg

theorem left_mid (l : List UInt8) (n : Int) : leftL l n.toNat = midL l 0 n := by
  rw [midL, if_neg (by omega)]
  simp [off_zero]
set_option maxRecDepth 100000 in
set_option maxHeartbeats 4000000 in
theorem cut_law (s : ByteArray) (f n : Int) (hf : -9223372036854775808 ≤ f ∧ f ≤ 9223372036854775807) (hn : -9223372036854775808 ≤ n ∧ n ≤ 9223372036854775807) (w : World) :
    Calls Try.prog 3 #[.string s, .int .i64 f, .int .i64 n] w fun e w' => e = .returned (.bool true) ∧ Below w.heap.size w w' := by
  have HV := Lib.hid alive_c
  by_cases hsz : 600 < s.size
  · have d1 : decide ((600 : Int) < (s.size : Int)) = true := decide_eq_true (by omega)
    go_enter Try.func3, Try.ntmps3
    go_wp2_with fail
    refine (HV.out _).mono ?_
    rintro e w1 ⟨rfl, hb1⟩
    go_wp2
    go_ret
    exact ⟨rfl, hb1⟩
  · have d1 : decide ((600 : Int) < (s.size : Int)) = false := decide_eq_false (by omega)
    have h9 : s.size ≤ 1000000 := by omega
    obtain ⟨l, hs⟩ : ∃ l, s.data.toList = l := ⟨_, rfl⟩
    obtain ⟨c, hc⟩ : ∃ c, (ps l).length = c := ⟨_, rfl⟩
    obtain ⟨x1, hx1⟩ : ∃ x : ByteArray, x = ⟨(leftL l n.toNat).toArray⟩ := ⟨_, rfl⟩
    obtain ⟨x2, hx2⟩ : ∃ x : ByteArray, x = ⟨(rightL l n.toNat).toArray⟩ := ⟨_, rfl⟩
    obtain ⟨x3, hx3⟩ : ∃ x : ByteArray, x = ⟨(midL l f n).toArray⟩ := ⟨_, rfl⟩
    have HC := Lib.hid (fun w => count_c s l hs h9 c hc w)
    have HP : Hid (∀ w, Calls Try.prog 9 #[.string s] w fun e w' => ∃ A cap, e = .returned (.slice A c cap) ∧ c ≤ cap ∧ Below w.heap.size w w') := Lib.hid fun w => (rpieces_c s l hs h9 w).mono fun e w' ⟨v, h1, h2, h3⟩ => by
      obtain ⟨A, cap, rfl, _, h4⟩ := OwnS.strs h2 c hc
      exact ⟨A, cap, h1, h4, h3⟩
    have HL : Hid (∀ w, Calls Try.prog 10 #[.string s, .int .i64 n] w fun e w' => e = .returned (.string x1) ∧ Below w.heap.size w w') := Lib.hid fun w => (left_c s l hs h9 n hn.2 w).mono fun e w' ⟨t, h1, h2, h3⟩ => ⟨by rw [h1, str_is h2, hx1], h3⟩
    have HRL : Hid (∀ w, Calls Try.prog 11 #[.string s, .int .i64 0, .int .i64 n] w fun e w' => e = .returned (.string x1) ∧ Below w.heap.size w w') := Lib.hid fun w => (rmid_c s l hs h9 0 n (by omega) w).mono fun e w' ⟨h1, h3⟩ => ⟨by rw [h1, hx1, left_mid], h3⟩
    have HR : Hid (∀ w, Calls Try.prog 12 #[.string s, .int .i64 n] w fun e w' => e = .returned (.string x2) ∧ Below w.heap.size w w') := Lib.hid fun w => (right_c s l hs h9 n hn.1 hn.2 w).mono fun e w' ⟨t, h1, h2, h3⟩ => ⟨by rw [h1, str_is h2, hx2], h3⟩
    have HRR : Hid (∀ w, Calls Try.prog 13 #[.string s, .int .i64 n] w fun e w' => e = .returned (.string x2) ∧ Below w.heap.size w w') := Lib.hid fun w => (rright_c s l hs h9 n w).mono fun e w' ⟨h1, h3⟩ => ⟨by rw [h1, hx2], h3⟩
    have HM : Hid (∀ w, Calls Try.prog 14 #[.string s, .int .i64 f, .int .i64 n] w fun e w' => e = .returned (.string x3) ∧ Below w.heap.size w w') := Lib.hid fun w => (mid_c s l hs h9 f n hf.2 hn.2 w).mono fun e w' ⟨t, h1, h2, h3⟩ => ⟨by rw [h1, str_is h2, hx3], h3⟩
    have HRM : Hid (∀ w, Calls Try.prog 11 #[.string s, .int .i64 f, .int .i64 n] w fun e w' => e = .returned (.string x3) ∧ Below w.heap.size w w') := Lib.hid fun w => (rmid_c s l hs h9 f n hf w).mono fun e w' ⟨h1, h3⟩ => ⟨by rw [h1, hx3], h3⟩
    clear hs hc hx1 hx2 hx3
    have hb0 := Below.refl w.heap.size w
    go_enter Try.func3, Try.ntmps3
    go_wp2_with fail
    refine (HC.out _).mono ?_
    rintro e w1 ⟨rfl, hb1⟩
    replace hb0 := on hb0 hb1
    clear hb1
    go_wp2_with fail
    refine (HP.out _).mono ?_
    rintro e w2 ⟨A, cap, rfl, hcap, hb1⟩
    replace hb0 := on hb0 hb1
    clear hb1
    go_wp2_with fail
    refine (HL.out _).mono ?_
    rintro e w3 ⟨rfl, hb1⟩
    replace hb0 := on hb0 hb1
    clear hb1
    go_wp2_with fail
    refine (HRL.out _).mono ?_
    rintro e w4 ⟨rfl, hb1⟩
    replace hb0 := on hb0 hb1
    clear hb1
    go_wp2_with fail
    refine (HR.out _).mono ?_
    rintro e w5 ⟨rfl, hb1⟩
    replace hb0 := on hb0 hb1
    clear hb1
    go_wp2_with fail
    refine (HRR.out _).mono ?_
    rintro e w6 ⟨rfl, hb1⟩
    replace hb0 := on hb0 hb1
    clear hb1
    go_wp2_with fail
    refine (HM.out _).mono ?_
    rintro e w7 ⟨rfl, hb1⟩
    replace hb0 := on hb0 hb1
    clear hb1
    go_wp2_with fail
    refine (HRM.out _).mono ?_
    rintro e w8 ⟨rfl, hb1⟩
    replace hb0 := on hb0 hb1
    clear hb1
    go_wp2_with fail
    refine (HV.out _).mono ?_
    rintro e w9 ⟨rfl, hb1⟩
    replace hb0 := on hb0 hb1
    clear hb1
    go_wp2
    go_ret
    exact ⟨rfl, hb0⟩
end Go.Proofs.Ytkbibkadofeamaa.Run

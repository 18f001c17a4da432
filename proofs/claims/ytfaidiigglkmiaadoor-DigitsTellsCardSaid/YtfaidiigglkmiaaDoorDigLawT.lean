/- DigitsTells, walked: what is told of a decimal is read back. -/
import Derived.Test.YtfaidiigglkmiaaDoorDigAlive
import Derived.Test.YtfaidiigglkmiaaDoorDigRef
namespace Go.Proofs.YtfaidiigglkmiaaDoor.Dig
open Go.RowKit Kit Dec

theorem ne_self (s : ByteArray) : (s.toList != s.toList) = false := by simp
set_option maxRecDepth 100000 in
set_option maxHeartbeats 2000000 in
theorem tells_law (x : Int) (h1 : -9223372036854775808 ≤ x) (h2 : x ≤ 9223372036854775807) (w : World) (hL : Libs w) :
    Calls Tryd.prog 3 #[.int .i64 x] w (LawEnd w) := by
  have C1 := Lib.hid (fun w1 hL => text_c x h2 w1 hL)
  have R1 := Lib.hid (fun w1 => rtext_c x h2 w1)
  have hsz := Lib.hid (text_len h1 h2)
  have HL := Lib.hid hL
  obtain ⟨hp, hr⟩ := parse_text h2
  cases hm : mayD x
  · rw [hm] at hp hr
    have HM := Lib.hid (fun w1 => rmay_c x false hm w1)
    have HP := Lib.hid (show parseD (textD x) = (0, false) from hp)
    have HR := Lib.hid (show readD (textD x) = (0, false) from hr)
    clear hp hr hm hL h1 h2
    go_enter Tryd.func3, Tryd.ntmps3
    go_wp2_with fail
    refine (C1.out _ HL.out).mono ?_
    rintro e w1 ⟨s, rfl, hs, hb1⟩
    have hsl : s.size ≤ 281474976710656 := by rw [← len, hs]; have := hsz.out; omega
    have C2 := Lib.hid (fun w1 hL => dparse_c s hsl 0 false (by rw [hs]; exact HP.out) w1 hL)
    have C3 := Lib.hid (fun w1 hL => read_c s hsl 0 false (by rw [hs]; exact HR.out) w1 hL)
    have HL1 := Lib.hid (HL.out.grown hb1)
    go_wp2_with fail
    refine (C2.out _ HL1.out).mono ?_
    rintro e w2 ⟨rfl, hb2⟩
    have hb3 := on hb1 hb2
    have HL2 := Lib.hid (HL.out.grown hb3)
    clear hb1 hb2 HL1
    go_wp2_with fail
    refine (C3.out _ HL2.out).mono ?_
    rintro e w3 ⟨rfl, hb4⟩
    have hb5 := on hb3 hb4
    clear hb3 hb4 HL2
    go_wp2_with fail
    refine (R1.out _).mono ?_
    rintro e w4 ⟨s2, rfl, hs2, hb6⟩
    obtain rfl : s = s2 := bytes_eq (hs.trans hs2.symm)
    have hb7 := on hb5 hb6
    have HL3 := Lib.hid (HL.out.grown hb7)
    have ene := ne_self s
    clear hb5 hb6 hs hs2 C1 C2 C3 R1
    go_wp2_with (go_at_call 10; refine (HM.out _).mono ?_; rintro e w' ⟨rfl, rfl⟩)
    refine (alive_c _ HL3.out).mono ?_
    rintro e w5 ⟨rfl, hb8⟩
    have hb9 := on hb7 hb8
    clear hb7 hb8
    go_wp2
    go_ret
    exact ⟨rfl, hb9⟩
  · rw [hm] at hp hr
    have HM := Lib.hid (fun w1 => rmay_c x true hm w1)
    have HP := Lib.hid (show parseD (textD x) = (x, true) from hp)
    have HR := Lib.hid (show readD (textD x) = (x, true) from hr)
    clear hp hr hm hL h1 h2
    go_enter Tryd.func3, Tryd.ntmps3
    go_wp2_with fail
    refine (C1.out _ HL.out).mono ?_
    rintro e w1 ⟨s, rfl, hs, hb1⟩
    have hsl : s.size ≤ 281474976710656 := by rw [← len, hs]; have := hsz.out; omega
    have C2 := Lib.hid (fun w1 hL => dparse_c s hsl x true (by rw [hs]; exact HP.out) w1 hL)
    have C3 := Lib.hid (fun w1 hL => read_c s hsl x true (by rw [hs]; exact HR.out) w1 hL)
    have HL1 := Lib.hid (HL.out.grown hb1)
    go_wp2_with fail
    refine (C2.out _ HL1.out).mono ?_
    rintro e w2 ⟨rfl, hb2⟩
    have hb3 := on hb1 hb2
    have HL2 := Lib.hid (HL.out.grown hb3)
    clear hb1 hb2 HL1
    go_wp2_with fail
    refine (C3.out _ HL2.out).mono ?_
    rintro e w3 ⟨rfl, hb4⟩
    have hb5 := on hb3 hb4
    clear hb3 hb4 HL2
    go_wp2_with fail
    refine (R1.out _).mono ?_
    rintro e w4 ⟨s2, rfl, hs2, hb6⟩
    obtain rfl : s = s2 := bytes_eq (hs.trans hs2.symm)
    have hb7 := on hb5 hb6
    have HL3 := Lib.hid (HL.out.grown hb7)
    have ene := ne_self s
    clear hb5 hb6 hs hs2 C1 C2 C3 R1
    go_wp2_with (go_at_call 10; refine (HM.out _).mono ?_; rintro e w' ⟨rfl, rfl⟩)
    refine (alive_c _ HL3.out).mono ?_
    rintro e w5 ⟨rfl, hb8⟩
    have hb9 := on hb7 hb8
    clear hb7 hb8
    go_wp2
    go_ret
    exact ⟨rfl, hb9⟩
end Go.Proofs.YtfaidiigglkmiaaDoor.Dig

/- The law TextFixes: what is told with so many digits is read as the rounded one. -/
import Derived.Test.YtckcoogmfgegeaaDoorTxtAlive
import Derived.Test.YtckcoogmfgegeaaDoorTxtRFix
import Derived.Test.YtckcoogmfgegeaaDoorDigRRead
namespace Go.Proofs.YtckcoogmfgegeaaDoor.Txt
open Go.RowKit Kit Reg Dec Dig Rnd

theorem rfixed_c (x : Int) (x2 : x ≤ 9223372036854775807) (p : Int) (m : List UInt8) (b : Bool) (hr : fixD x p = (m, b)) (w : World) : Calls Tryd.prog 21 #[.int .i64 x, .int .i64 p] w (GotS m b w) := by
  by_cases h : p < 0 ∨ 4 < p
  · rw [fix_out h] at hr
    obtain ⟨rfl, rfl⟩ := Prod.mk.inj hr
    exact rfixed_out x p h w
  · obtain ⟨P, rfl⟩ := Int.eq_ofNat_of_zero_le (show 0 ≤ p by omega)
    obtain ⟨⟨r, k⟩, hk⟩ : ∃ y, placesD x P 1 = y := ⟨_, rfl⟩
    cases k
    · rw [fix_no (by omega) hk] at hr
      obtain ⟨rfl, rfl⟩ := Prod.mk.inj hr
      exact rfixed_no x r x2 P (by omega) hk w
    · rw [fix_yes (by omega) hk] at hr
      obtain ⟨rfl, rfl⟩ := Prod.mk.inj hr
      exact rfixed_yes x r x2 P (by omega) hk w
/-- told, it is read again, and told again -/
theorem fix_again {x p : Int} {m : List UInt8} (h : fixD x p = (m, true)) : ∃ r, r ≤ 9223372036854775807 ∧ readD m = (r, true) ∧ fixD r p = (m, true) := by
  by_cases h0 : p < 0 ∨ 4 < p
  · rw [fix_out h0] at h
    cases (Prod.mk.inj h).2
  · obtain ⟨P, rfl⟩ := Int.eq_ofNat_of_zero_le (show 0 ≤ p by omega)
    obtain ⟨⟨r, k⟩, hk⟩ : ∃ y, placesD x P 1 = y := ⟨_, rfl⟩
    cases k
    · rw [fix_no (by omega) hk] at h
      cases (Prod.mk.inj h).2
    · rw [fix_yes (by omega) hk] at h
      obtain ⟨rfl, _⟩ := Prod.mk.inj h
      obtain ⟨_, h2, _, h4, h5, _⟩ := fix_facts (by omega) hk
      exact ⟨r, h2, h4, h5⟩
set_option maxRecDepth 100000 in
set_option maxHeartbeats 4000000 in
theorem fixes_law (x p : Int) (x2 : x ≤ 9223372036854775807) (w : World) (hL : PLibs w) : Calls Tryd.prog 6 #[.int .i64 x, .int .i64 p] w fun e w' => e = .returned (.bool true) ∧ Below w.heap.size w w' := by
  obtain ⟨⟨m, b⟩, hm⟩ : ∃ y, fixD x p = y := ⟨_, rfl⟩
  obtain ⟨s, hs⟩ : ∃ s : ByteArray, s = ⟨m.toArray⟩ := ⟨_, rfl⟩
  have HV := Lib.hid alive_c
  have HL := Lib.hid hL
  have F1 : Hid (∀ w, PLibs w → Calls Tryd.prog 20 #[.int .i64 x, .int .i64 p] w fun e w' => e = .returned (.tuple #[.string s, .bool b]) ∧ Below w.heap.size w w') := Lib.hid fun w hL => by rw [hs]; exact fixed_c x x2 p m b hm w hL
  have R1 : Hid (∀ w, Calls Tryd.prog 21 #[.int .i64 x, .int .i64 p] w fun e w' => e = .returned (.agg #[.string s, .bool b]) ∧ Below w.heap.size w w') := Lib.hid fun w => by rw [hs]; exact rfixed_c x x2 p m b hm w
  clear hL
  cases b
  · clear hm hs
    go_enter Tryd.func6, Tryd.ntmps6
    go_wp2_with fail
    refine (F1.out _ HL.out).mono ?_
    rintro e w1 ⟨rfl, hb0⟩
    go_wp2_with fail
    refine (R1.out _).mono ?_
    rintro e w2 ⟨rfl, hb1⟩
    replace hb0 := on_alloc (on hb0 hb1) (.cells #[.string s, .bool false] 30)
    clear hb1
    go_wp2_with fail
    refine (HV.out _ (HL.out.grown hb0)).mono ?_
    rintro e w3 ⟨rfl, hb1⟩
    replace hb0 := on hb0 hb1
    clear hb1
    go_wp2
    go_ret
    exact ⟨rfl, hb0⟩
  · obtain ⟨r, hr2, hrd, hfr⟩ := fix_again hm
    have F2 : Hid (∀ w, PLibs w → Calls Tryd.prog 20 #[.int .i64 r, .int .i64 p] w fun e w' => e = .returned (.tuple #[.string s, .bool true]) ∧ Below w.heap.size w w') := Lib.hid fun w hL => by rw [hs]; exact fixed_c r hr2 p m true hfr w hL
    have R2 : Hid (∀ w, Calls Tryd.prog 22 #[.string s] w fun e w' => e = .returned (.agg #[.int .i64 r, .bool true]) ∧ Below w.heap.size w w') := Lib.hid fun w => rread_c s r true (by rw [hs]; exact hrd) w
    clear hm hs hr2 hrd hfr
    go_enter Tryd.func6, Tryd.ntmps6
    go_wp2_with fail
    refine (F1.out _ HL.out).mono ?_
    rintro e w1 ⟨rfl, hb0⟩
    go_wp2_with fail
    refine (R1.out _).mono ?_
    rintro e w2 ⟨rfl, hb1⟩
    replace hb0 := on_alloc (on hb0 hb1) (.cells #[.string s, .bool true] 30)
    clear hb1 F1 R1
    go_wp2_with fail
    refine (R2.out _).mono ?_
    rintro e w3 ⟨rfl, hb1⟩
    replace hb0 := on_alloc (on hb0 hb1) (.cells #[.int .i64 r, .bool true] 42)
    obtain ⟨c0, c1, _, _⟩ := (CellsAt.new w3 [.int .i64 r, .bool true] 42).two
    have hlt := (CellsAt.new w3 [.int .i64 r, .bool true] 42).1
    clear hb1 R2
    go_wp2_with fail
    refine (F2.out _ (HL.out.grown hb0)).mono ?_
    rintro e w4 ⟨rfl, hb1⟩
    have c1' := kept hb1 c1
    replace hb0 := on hb0 hb1
    clear hb1 F2 c0 c1 hlt
    go_wp2_with fail
    refine (HV.out _ (HL.out.grown hb0)).mono ?_
    rintro e w5 ⟨rfl, hb1⟩
    replace hb0 := on hb0 hb1
    clear hb1
    go_wp2
    go_ret
    exact ⟨rfl, hb0⟩
end Go.Proofs.YtckcoogmfgegeaaDoor.Txt

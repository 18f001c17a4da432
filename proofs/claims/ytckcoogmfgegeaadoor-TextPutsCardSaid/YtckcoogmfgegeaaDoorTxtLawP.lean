/- The law TextPuts: what is put and what is repeated is as the reference says; nothing changes, if a text is put in its own place. -/
import Derived.Test.YtckcoogmfgegeaaDoorTxtAlive
import Derived.Test.YtckcoogmfgegeaaDoorTxtRPut
import Derived.BigQuiet
namespace Go.Proofs.YtckcoogmfgegeaaDoor.Txt
open Go.RowKit Kit Reg

set_option maxRecDepth 100000 in
set_option maxHeartbeats 4000000 in
theorem puts_big (t old new : ByteArray) (n : Int) (h : 400 < t.size ∨ (t.size ≤ 400 ∧ 400 < old.size) ∨ (t.size ≤ 400 ∧ old.size ≤ 400 ∧ 400 < new.size)) (w : World) (hL : PLibs w) :
    Calls Tryd.prog 4 #[.string t, .agg #[.string old, .string new], .int .i64 n] w fun e w' => e = .returned (.bool true) ∧ Below w.heap.size w w' := by
  have HV := Lib.hid alive_c
  have HL := Lib.hid hL
  have hb0 := below1 w (.cells #[.string old, .string new] 26)
  have hbd : Below w.heap.size w (w.alloc (.cells #[.string old, .string new] 26)).drew := on hb0 (drew_below (n := 1) rfl)
  have hc := CellsAt.new w [.string old, .string new] 26
  obtain ⟨c0, c1, _, _⟩ := hc.two
  have hlt := hc.1
  clear hL hc
  rcases h with h1 | ⟨h1, h2⟩ | ⟨h1, h2, h3⟩
  · have d1 : decide ((400 : Int) < (t.size : Int)) = true := decide_eq_true (by omega)
    go_enter Tryd.func4, Tryd.ntmps4
    go_wp2
    go_region
    all_goals
      go_wp2_with fail
      refine (HV.out _ (HL.out.grown hbd)).mono ?_
      rintro e w1 ⟨rfl, hb1⟩
      go_wp2
      go_ret
      exact ⟨rfl, on hbd hb1⟩
  · have d1 : decide ((400 : Int) < (t.size : Int)) = false := decide_eq_false (by omega)
    have d2 : decide ((400 : Int) < (old.size : Int)) = true := decide_eq_true (by omega)
    go_enter Tryd.func4, Tryd.ntmps4
    go_wp2
    go_region
    all_goals
      go_wp2_with fail
      refine (HV.out _ (HL.out.grown hbd)).mono ?_
      rintro e w1 ⟨rfl, hb1⟩
      go_wp2
      go_ret
      exact ⟨rfl, on hbd hb1⟩
  · have d1 : decide ((400 : Int) < (t.size : Int)) = false := decide_eq_false (by omega)
    have d2 : decide ((400 : Int) < (old.size : Int)) = false := decide_eq_false (by omega)
    have d3 : decide ((400 : Int) < (new.size : Int)) = true := decide_eq_true (by omega)
    go_enter Tryd.func4, Tryd.ntmps4
    go_wp2
    go_region
    all_goals
      go_wp2_with fail
      refine (HV.out _ (HL.out.grown hbd)).mono ?_
      rintro e w1 ⟨rfl, hb1⟩
      go_wp2
      go_ret
      exact ⟨rfl, on hbd hb1⟩
set_option maxRecDepth 100000 in
set_option maxHeartbeats 8000000 in
theorem puts_small (t old new : ByteArray) (n : Int) (n9 : n ≤ 9223372036854775807) (h1 : t.size ≤ 400) (h2 : old.size ≤ 400) (h3 : new.size ≤ 400) (w : World) (hL : PLibs w) :
    Calls Tryd.prog 4 #[.string t, .agg #[.string old, .string new], .int .i64 n] w fun e w' => e = .returned (.bool true) ∧ Below w.heap.size w w' := by
  have HV := Lib.hid alive_c
  have HL := Lib.hid hL
  have hb0 := below1 w (.cells #[.string old, .string new] 26)
  have hbd := Lib.hid (show Below w.heap.size w (w.alloc (.cells #[.string old, .string new] 26)).drew from on hb0 (drew_below (n := 1) rfl))
  have hc := CellsAt.new w [.string old, .string new] 26
  obtain ⟨c0, c1, _, _⟩ := hc.two
  have hlt := hc.1
  obtain ⟨⟨m1, b1⟩, hm1⟩ : ∃ y, roomD (putL old.data.toList new.data.toList t.data.toList) = y := ⟨_, rfl⟩
  obtain ⟨⟨m2, b2⟩, hm2⟩ : ∃ y, reptD t.data.toList n = y := ⟨_, rfl⟩
  obtain ⟨x1, hx1⟩ : ∃ s : ByteArray, s = ⟨m1.toArray⟩ := ⟨_, rfl⟩
  obtain ⟨x2, hx2⟩ : ∃ s : ByteArray, s = ⟨m2.toArray⟩ := ⟨_, rfl⟩
  have P1 : Hid (∀ w, PLibs w → Calls Tryd.prog 14 #[.string t, .string old, .string new] w fun e w' => e = .returned (.tuple #[.string x1, .bool b1]) ∧ Below w.heap.size w w') := Lib.hid fun w hL => by rw [hx1]; exact put_c t old new h1 h2 h3 m1 b1 hm1 w hL
  have Q1 : Hid (∀ w, Calls Tryd.prog 15 #[.string t, .string old, .string new] w fun e w' => e = .returned (.agg #[.string x1, .bool b1]) ∧ Below w.heap.size w w') := Lib.hid fun w => by rw [hx1]; exact rput_c t old new _ rfl h1 h2 h3 m1 b1 hm1 w
  have P2 : Hid (∀ w, Calls Tryd.prog 16 #[.string t, .int .i64 n] w fun e w' => e = .returned (.tuple #[.string x2, .bool b2]) ∧ Below w.heap.size w w') := Lib.hid fun w => by rw [hx2]; exact rept_c t n n9 m2 b2 hm2 w
  have Q2 : Hid (∀ w, Calls Tryd.prog 17 #[.string t, .int .i64 n] w fun e w' => e = .returned (.agg #[.string x2, .bool b2]) ∧ Below w.heap.size w w') := Lib.hid fun w => by rw [hx2]; exact rrept_c t h1 n n9 m2 b2 hm2 w
  have P3 : Hid ((256 < t.size ∧ ∀ w, PLibs w → Calls Tryd.prog 14 #[.string t, .string old, .string old] w fun e w' => e = .returned (.tuple #[.string ⟨#[]⟩, .bool false]) ∧ Below w.heap.size w w') ∨
      (t.size ≤ 256 ∧ ∀ w, PLibs w → Calls Tryd.prog 14 #[.string t, .string old, .string old] w fun e w' => e = .returned (.tuple #[.string t, .bool true]) ∧ Below w.heap.size w w')) := Lib.hid (by
    by_cases h : 256 < t.size
    · exact .inl ⟨h, fun w hL => put_c t old old h1 h2 h2 [] false (by rw [put_same, room_out (by rw [len]; exact h)]) w hL⟩
    · refine .inr ⟨by omega, fun w hL => ?_⟩
      exact (put_c t old old h1 h2 h2 t.data.toList true (by rw [put_same, room_in (by rw [len]; omega)]) w hL).mono fun e w' ⟨he, hb⟩ => ⟨by rw [he, ← str_is (t := t) rfl], hb⟩)
  have d1 : decide ((400 : Int) < (t.size : Int)) = false := decide_eq_false (by omega)
  have d2 : decide ((400 : Int) < (old.size : Int)) = false := decide_eq_false (by omega)
  have d3 : decide ((400 : Int) < (new.size : Int)) = false := decide_eq_false (by omega)
  clear hL hc hm1 hm2 hx1 hx2 hb0
  go_enter Tryd.func4, Tryd.ntmps4
  go_wp2
  go_region
  go_wp2_with fail
  refine (P1.out _ (HL.out.grown hbd.out)).mono ?_
  rintro e w1 ⟨rfl, hb1⟩
  replace hb1 := on hbd.out hb1
  clear c0 c1 hlt hbd P1
  go_wp2_with fail
  refine (Q1.out _).mono ?_
  rintro e w2 ⟨rfl, hb2⟩
  have hk := CellsAt.new w2 [.string x1, .bool b1] 30
  replace hb1 := on_alloc (on hb1 hb2) (.cells #[.string x1, .bool b1] 30)
  have Hk := Lib.hid hk
  clear hb2 hk Q1
  go_wp2_with fail
  refine (P2.out _).mono ?_
  rintro e w3 ⟨rfl, hb2⟩
  have Hk3 := Lib.hid (Hk.out.on hb2)
  replace hb1 := on hb1 hb2
  clear hb2 Hk P2
  go_wp2_with fail
  refine (Q2.out _).mono ?_
  rintro e w4 ⟨rfl, hb2⟩
  obtain ⟨e0, e1, _, _⟩ := (Hk3.out.on hb2).two
  have hlt := (Hk3.out.on hb2).1
  replace hb1 := on_alloc (on hb1 hb2) (.cells #[.string x2, .bool b2] 30)
  clear hb2 Hk3 Q2
  rcases P3.out with ⟨h4, P4⟩ | ⟨h4, P4⟩
  · have P5 := Lib.hid P4
    have d4 : decide ((t.size : Int) ≤ 256) = false := decide_eq_false (by omega)
    clear P4 P3
    go_wp2_with fail
    refine (P5.out _ (HL.out.grown hb1)).mono ?_
    rintro e w5 ⟨rfl, hb2⟩
    replace hb1 := on hb1 hb2
    clear hb2 e0 e1 hlt P5
    go_wp2_with fail
    refine (HV.out _ (HL.out.grown hb1)).mono ?_
    rintro e w6 ⟨rfl, hb2⟩
    go_wp2
    go_ret
    exact ⟨rfl, on hb1 hb2⟩
  · have P5 := Lib.hid P4
    have d4 : decide ((t.size : Int) ≤ 256) = true := decide_eq_true (by omega)
    clear P4 P3
    go_wp2_with fail
    refine (P5.out _ (HL.out.grown hb1)).mono ?_
    rintro e w5 ⟨rfl, hb2⟩
    replace hb1 := on hb1 hb2
    clear hb2 e0 e1 hlt P5
    go_wp2_with fail
    refine (HV.out _ (HL.out.grown hb1)).mono ?_
    rintro e w6 ⟨rfl, hb2⟩
    go_wp2
    go_ret
    exact ⟨rfl, on hb1 hb2⟩
theorem puts_law (t old new : ByteArray) (n : Int) (n9 : n ≤ 9223372036854775807) (w : World) (hL : PLibs w) :
    Calls Tryd.prog 4 #[.string t, .agg #[.string old, .string new], .int .i64 n] w fun e w' => e = .returned (.bool true) ∧ Below w.heap.size w w' := by
  by_cases h1 : t.size ≤ 400
  · by_cases h2 : old.size ≤ 400
    · by_cases h3 : new.size ≤ 400
      · exact puts_small t old new n n9 h1 h2 h3 w hL
      · exact puts_big t old new n (.inr (.inr ⟨h1, h2, by omega⟩)) w hL
    · exact puts_big t old new n (.inr (.inl ⟨h1, by omega⟩)) w hL
  · exact puts_big t old new n (.inl (by omega)) w hL
end Go.Proofs.YtckcoogmfgegeaaDoor.Txt

/- What the statement CritOf answers: yes, for every value. -/
import Derived.Test.YtgikagdfmbkfdaaGreatDoorCrtAlive
import Derived.Test.YtgikagdfmbkfdaaGreatDoorValRMay
namespace Go.Proofs.YtgikagdfmbkfdaaGreatDoor.Crt
open Go.RowKit Kit Reg Dec Dig Val

theorem trims_stars : TrimsStars := fun s w hs => Tryz.strings_Trim_one s 42 (by decide) w (by omega)
set_option maxRecDepth 100000 in
set_option maxHeartbeats 1000000 in
theorem of_law_no (k n : Int) (t : ByteArray) (h : mayV k n t = false) (w : World) (hL : CLibs w) : Calls Tryz.prog 3 #[.agg #[.int .i64 k, .int .i64 n, .string t]] w (LawEnd w) := by
  have HM := Lib.hid (fun w1 => rmayv_c k n t false h w1)
  have HA := Lib.hid (fun w1 h => alive_c trims_stars w1 h)
  have HL := Lib.hid hL
  have hb0 := below1 w (.cells #[.int .i64 k, .int .i64 n, .string t] 23)
  clear hL h
  go_enter Tryz.func3, Tryz.ntmps3
  go_wp2_with fail
  refine (HM.out _).mono ?_
  rintro e w1 ⟨rfl, hb1⟩
  replace hb0 := on hb0 hb1
  have HL1 := Lib.hid (HL.out.grown hb0)
  clear HM hb1
  go_wp2_with fail
  refine (HA.out _ HL1.out).mono ?_
  rintro e w2 ⟨rfl, hb2⟩
  go_wp2
  go_ret
  exact ⟨rfl, on hb0 hb2⟩
set_option maxRecDepth 100000 in
set_option maxHeartbeats 4000000 in
theorem of_law_yes (k n op k2 n2 : Int) (t t2 : ByteArray) (h : mayV k n t = true) (h0 : (op == 0) = false) (HP : ∀ w1, CLibs w1 → Calls Tryz.prog 8 #[.agg #[.int .i64 k, .int .i64 n, .string t]] w1 (CritIs op k2 n2 t2 true w1))
    (HR : ∀ w1, Calls Tryz.prog 9 #[.agg #[.int .i64 k, .int .i64 n, .string t]] w1 (RCritIs op k2 n2 t2 w1)) (h2 : mayV k2 n2 t2 = true) (w : World) (hL : CLibs w) :
    Calls Tryz.prog 3 #[.agg #[.int .i64 k, .int .i64 n, .string t]] w (LawEnd w) := by
  have HM := Lib.hid (fun w1 => rmayv_c k n t true h w1)
  have HV := Lib.hid (fun w1 => mayv_c k2 n2 t2 true h2 w1)
  have HP := Lib.hid HP
  have HR := Lib.hid HR
  have HA := Lib.hid (fun w1 h => alive_c trims_stars w1 h)
  have HL := Lib.hid hL
  have h1 : (op != 0) = true := by simp only [bne, h0]; rfl
  have hb0 := below1 w (.cells #[.int .i64 k, .int .i64 n, .string t] 23)
  have hv := CellsAt.new w [.int .i64 k, .int .i64 n, .string t] 23
  clear hL h h2
  go_enter Tryz.func3, Tryz.ntmps3
  go_wp2_with fail
  refine (HM.out _).mono ?_
  rintro e w1 ⟨rfl, hb1⟩
  replace hv := hv.on hb1
  replace hb0 := on hb0 hb1
  have HL1 := Lib.hid (HL.out.grown hb0)
  obtain ⟨v0, v1, v2, _⟩ := hv.three
  clear HM hb1
  go_wp2_with fail
  refine (HP.out _ HL1.out).mono ?_
  rintro e w2 ⟨rfl, hb2⟩
  replace hv := hv.on hb2
  replace hb0 := on hb0 hb2
  clear v0 v1 v2 HL1 HP hb2
  obtain ⟨v0, v1, v2, _⟩ := hv.three
  have hc := CellsAt.new w2 [.int .i64 op, .int .i64 k2, .int .i64 n2, .string t2] 27
  have hb3 := on_alloc hb0 (.cells #[.int .i64 op, .int .i64 k2, .int .i64 n2, .string t2] 27)
  have hx := hv.1
  go_wp2_with fail
  refine (HR.out _).mono ?_
  rintro e w3 ⟨rfl, hb4⟩
  replace hc := hc.on hb4
  replace hb3 := on hb3 hb4
  clear v0 v1 v2 hv hx HR hb4 hb0
  have hw := CellsAt.new w3 [.int .i64 op, .int .i64 k2, .int .i64 n2, .string t2] 30
  have hc2 := hc.on_alloc (.cells #[.int .i64 op, .int .i64 k2, .int .i64 n2, .string t2] 30)
  have hb5 := on_alloc hb3 (.cells #[.int .i64 op, .int .i64 k2, .int .i64 n2, .string t2] 30)
  obtain ⟨c0, c1, c2, c3, _⟩ := hc.four
  have hx := hc.1
  go_wp2_with fail
  refine (HV.out _).mono ?_
  rintro e w4 ⟨rfl, hb6⟩
  replace hb5 := on hb5 hb6
  have HL2 := Lib.hid (HL.out.grown hb5)
  clear c0 c1 c2 c3 hx hw hc hc2 HV hb6 hb3
  go_wp2_with fail
  refine (HA.out _ HL2.out).mono ?_
  rintro e w5 ⟨rfl, hb7⟩
  go_wp2
  go_ret
  exact ⟨rfl, on hb5 hb7⟩
set_option maxRecDepth 100000 in
set_option maxHeartbeats 4000000 in
theorem of_law_fault (n : Int) (t : ByteArray) (h : mayV 4 n t = true) (w : World) (hL : CLibs w) :
    Calls Tryz.prog 3 #[.agg #[.int .i64 4, .int .i64 n, .string t]] w (LawEnd w) := by
  have HM := Lib.hid (fun w1 => rmayv_c 4 n t true h w1)
  have HP := Lib.hid (fun w1 => of_fault n t w1)
  have HR := Lib.hid (fun w1 => rof_fault n t w1)
  have HA := Lib.hid (fun w1 h => alive_c trims_stars w1 h)
  have HL := Lib.hid hL
  have hb0 := below1 w (.cells #[.int .i64 4, .int .i64 n, .string t] 23)
  have hv := CellsAt.new w [.int .i64 4, .int .i64 n, .string t] 23
  clear hL h
  go_enter Tryz.func3, Tryz.ntmps3
  go_wp2_with fail
  refine (HM.out _).mono ?_
  rintro e w1 ⟨rfl, hb1⟩
  replace hv := hv.on hb1
  replace hb0 := on hb0 hb1
  obtain ⟨v0, v1, v2, _⟩ := hv.three
  clear HM hb1
  go_wp2_with fail
  refine (HP.out _).mono ?_
  rintro e w2 ⟨rfl, hb2⟩
  replace hv := hv.on hb2
  replace hb0 := on hb0 hb2
  clear v0 v1 v2 HP hb2
  obtain ⟨v0, v1, v2, _⟩ := hv.three
  have hc := CellsAt.new w2 [.int .i64 0, .int .i64 0, .int .i64 0, .string ⟨#[]⟩] 27
  have hb3 := on_alloc hb0 (.cells #[.int .i64 0, .int .i64 0, .int .i64 0, .string ⟨#[]⟩] 27)
  have hx := hv.1
  go_wp2_with fail
  refine (HR.out _).mono ?_
  rintro e w3 ⟨rfl, hb4⟩
  replace hc := hc.on hb4
  replace hb3 := on hb3 hb4
  clear v0 v1 v2 hv hx HR hb4 hb0
  have hb5 := on_alloc hb3 (.cells #[.int .i64 0, .int .i64 0, .int .i64 0, .string ⟨#[]⟩] 30)
  have HL2 := Lib.hid (HL.out.grown hb5)
  obtain ⟨c0, c1, c2, c3, _⟩ := hc.four
  have hx := hc.1
  go_wp2_with fail
  refine (HA.out _ HL2.out).mono ?_
  rintro e w5 ⟨rfl, hb7⟩
  clear c0 c1 c2 c3 hx hc
  go_wp2
  go_ret
  exact ⟨rfl, on hb5 hb7⟩
/-- what Of answers at any value that may be and is no fault -/
theorem of_any (k n : Int) (t : ByteArray) (h : mayV k n t = true) (h4 : ¬ k = 4) : ∃ op k2 n2 t2, 7 ≤ op ∧ op ≤ 12 ∧ mayV k2 n2 t2 = true ∧ (k2 = 1 ∨ k2 = 2 ∨ k2 = 3) ∧
    (∀ w1, CLibs w1 → Calls Tryz.prog 8 #[.agg #[.int .i64 k, .int .i64 n, .string t]] w1 (CritIs op k2 n2 t2 true w1)) ∧
    (∀ w1, Calls Tryz.prog 9 #[.agg #[.int .i64 k, .int .i64 n, .string t]] w1 (RCritIs op k2 n2 t2 w1)) := by
  have h0 := h
  rcases may_ways h with ⟨rfl, rfl, rfl⟩ | ⟨rfl, rfl, _⟩ | ⟨rfl, rfl, ht⟩ | ⟨rfl, rfl, _⟩ | ⟨rfl, rfl⟩
  · exact ⟨7, 2, 0, ⟨#[]⟩, by decide, by decide, by decide +kernel, .inr (.inl rfl), fun w1 _ => of_e 0 _ w1, fun w1 => rof_e w1⟩
  · exact ⟨7, 1, n, ⟨#[]⟩, by decide, by decide, h0, .inl rfl, fun w1 _ => of_n n _ w1, fun w1 => rof_n n _ w1⟩
  · obtain ⟨⟨op, m⟩, hs⟩ : ∃ r, splitL t.data.toList = r := ⟨_, rfl⟩
    obtain ⟨⟨k2, n2, t2⟩, hm⟩ : ∃ r, meantV (t.extract m t.size) = r := ⟨_, rfl⟩
    have ho := split_op t.data.toList
    rw [hs] at ho
    have hu : (t.extract m t.size).size ≤ 256 := by rw [ByteArray.size_extract]; omega
    obtain ⟨q1, q2⟩ := meant_may hu hm
    exact ⟨op, k2, n2, t2, ho.1, ho.2, q1, q2, fun w1 hw => of_words t ht op m hs k2 n2 t2 hm w1 hw, fun w1 => rof_text t ht op m hs k2 n2 t2 hm w1⟩
  · exact ⟨7, 3, n, ⟨#[]⟩, by decide, by decide, h0, .inr (.inr rfl), fun w1 _ => of_b n _ w1, fun w1 => rof_b n _ w1⟩
  · exact absurd rfl h4
theorem of_law (k n : Int) (t : ByteArray) (w : World) (hL : CLibs w) : Calls Tryz.prog 3 #[.agg #[.int .i64 k, .int .i64 n, .string t]] w (LawEnd w) := by
  cases h : mayV k n t
  · exact of_law_no k n t h w hL
  · by_cases h4 : k = 4
    · subst h4; exact of_law_fault n t h w hL
    · obtain ⟨op, k2, n2, t2, o1, o2, h2, _, HP, HR⟩ := of_any k n t h h4
      exact of_law_yes k n op k2 n2 t t2 h (beq_no (by omega)) HP HR h2 w hL
end Go.Proofs.YtgikagdfmbkfdaaGreatDoor.Crt

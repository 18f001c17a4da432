/- SpanBack: the law returns true for every span and every text, and makes new memory alone. -/
import Derived.Test.YtkebapdbibdheaaDoorSpanAlive
import Derived.Test.YtkebapdbibdheaaDoorSpanRefParse
namespace Go.Proofs.YtkebapdbibdheaaDoor.Span
open Go.RowKit Kit Reg Go.Proofs.YtkebapdbibdheaaDoor.Addr Cats

theorem textI_bytes (a b c d : Int) : (ByteArray.mk (textI a b c d).toArray).size < 4294967281 := by
  have : (ByteArray.mk (textI a b c d).toArray).size = (textI a b c d).length := by simp [ByteArray.size]
  rw [this]
  have := textI_short a b c d
  omega
theorem SpanIs.back {t : List UInt8} {a b c d : Int} (h : SpanIs t a b c d true) : textI a b c d = t := by
  rcases h with ⟨_, _, h⟩ | ⟨h, _⟩
  · exact h
  · cases h
set_option maxRecDepth 100000 in
set_option maxHeartbeats 8000000 in
theorem back_c (a b c d : Int) (t : ByteArray) (w : World) (hL : Libs w) : Calls Tryd.prog 6 #[.agg #[.int .i64 a, .int .i64 b, .int .i64 c, .int .i64 d], .string t] w fun e w' => e = .returned (.bool true) ∧ Below w.heap.size w w' := by
  have HA := Lib.hid (fun w1 h => alive_c w1 h)
  have HL := Lib.hid hL
  clear hL
  by_cases hs : 100 < t.size
  · go_enter Tryd.func6, Tryd.ntmps6
    go_wp2_with fail
    refine (HA.out _ (HL.out.grown (below1 w _))).mono ?_
    rintro e w1 ⟨rfl, hb⟩
    replace hb := on (below1 w _) hb
    go_wp2
    go_ret
    exact ⟨rfl, hb⟩
  · have H1 := Lib.hid (fun w1 h => text_c a b c d w1 h)
    have H2 := Lib.hid (fun w1 h => parse_c ⟨(textI a b c d).toArray⟩ (textI_bytes a b c d) w1 h)
    have H3 := Lib.hid (fun w1 h => parse_c t (by omega) w1 h)
    have H4 := Lib.hid (fun w1 => rparse_span t w1)
    have H5 := Lib.hid (fun w1 => rtext_c a b c d w1)
    have HC := Lib.hid (spanIs_text a b c d)
    obtain ⟨m, hm⟩ : ∃ m, mayS a b c d = m := ⟨_, rfl⟩
    have HM := Lib.hid (fun w1 => may_c a b c d m hm w1)
    rw [hm] at HC
    generalize textI a b c d = S at *
    clear hm
    have hb0 := below1 w (.cells #[.int .i64 a, .int .i64 b, .int .i64 c, .int .i64 d] 25)
    have hz := CellsAt.new w [.int .i64 a, .int .i64 b, .int .i64 c, .int .i64 d] 25
    go_enter Tryd.func6, Tryd.ntmps6
    go_wp2_with fail
    refine (H1.out _ (HL.out.grown hb0)).mono ?_
    rintro e w1 ⟨rfl, hb1⟩
    replace hb0 := on hb0 hb1
    replace hz := hz.on hb1
    clear hb1
    go_wp2_with fail
    refine (H2.out _ (HL.out.grown hb0)).mono ?_
    rintro e w2 ⟨x1, x2, x3, x4, ok, rfl, hx, hb2⟩
    obtain ⟨hx1, hx2, hx3, hx4, rfl⟩ := hx.unique HC.out
    have hne : Hid (ok = true → x1 = a ∧ x2 = b ∧ x3 = c ∧ x4 = d) := Lib.hid fun h => by subst h; exact ⟨by simpa using hx1, by simpa using hx2, by simpa using hx3, by simpa using hx4⟩
    clear hx1 hx2 hx3 hx4 HC hx
    replace hb0 := on_alloc (on hb0 hb2) (.cells #[.int .i64 x1, .int .i64 x2, .int .i64 x3, .int .i64 x4] 25)
    replace hz := (hz.on hb2).on_alloc (.cells #[.int .i64 x1, .int .i64 x2, .int .i64 x3, .int .i64 x4] 25)
    have hv := CellsAt.new w2 [.int .i64 x1, .int .i64 x2, .int .i64 x3, .int .i64 x4] 25
    clear hb2
    go_wp2_with fail
    refine (H3.out _ (HL.out.grown hb0)).mono ?_
    rintro e w3 ⟨y1, y2, y3, y4, is, rfl, hy, hb3⟩
    replace hb0 := on_alloc (on hb0 hb3) (.cells #[.int .i64 y1, .int .i64 y2, .int .i64 y3, .int .i64 y4] 25)
    replace hz := (hz.on hb3).on_alloc (.cells #[.int .i64 y1, .int .i64 y2, .int .i64 y3, .int .i64 y4] 25)
    replace hv := (hv.on hb3).on_alloc (.cells #[.int .i64 y1, .int .i64 y2, .int .i64 y3, .int .i64 y4] 25)
    have hy2 := CellsAt.new w3 [.int .i64 y1, .int .i64 y2, .int .i64 y3, .int .i64 y4] 25
    clear hb3
    go_wp2_with fail
    refine (H4.out _).mono ?_
    rintro e w4 ⟨z1, z2, z3, z4, was, rfl, hzz, hb4⟩
    obtain ⟨rfl, rfl, rfl, rfl, rfl⟩ := hy.unique hzz
    clear hzz
    replace hb0 := on_alloc (on hb0 hb4) (.cells #[.int .i64 y1, .int .i64 y2, .int .i64 y3, .int .i64 y4, .bool is] 41)
    replace hz := (hz.on hb4).on_alloc (.cells #[.int .i64 y1, .int .i64 y2, .int .i64 y3, .int .i64 y4, .bool is] 41)
    replace hv := (hv.on hb4).on_alloc (.cells #[.int .i64 y1, .int .i64 y2, .int .i64 y3, .int .i64 y4, .bool is] 41)
    replace hy2 := (hy2.on hb4).on_alloc (.cells #[.int .i64 y1, .int .i64 y2, .int .i64 y3, .int .i64 y4, .bool is] 41)
    have hw := CellsAt.new w4 [.int .i64 y1, .int .i64 y2, .int .i64 y3, .int .i64 y4, .bool is] 41
    have HY := Lib.hid hy
    clear hb4 hy H2 H3 H4
    go_wp2_with fail
    generalize w4.alloc (.cells #[.int .i64 y1, .int .i64 y2, .int .i64 y3, .int .i64 y4, .bool is] 41) = W at *
    have HLW := Lib.hid (HL.out.grown hb0)
    obtain ⟨c0, c1, c2, c3, _⟩ := hz.four
    obtain ⟨v0, v1, v2, v3, _⟩ := hv.four
    obtain ⟨d0, d1, d2, d3, _⟩ := hy2.four
    obtain ⟨u0, u1, u2, u3, u4, _⟩ := hw.five
    replace c0 := fun d os => cell_regrown c0 d os
    replace c1 := fun d os => cell_regrown c1 d os
    replace c2 := fun d os => cell_regrown c2 d os
    replace c3 := fun d os => cell_regrown c3 d os
    replace v0 := fun d os => cell_regrown v0 d os
    replace v1 := fun d os => cell_regrown v1 d os
    replace v2 := fun d os => cell_regrown v2 d os
    replace v3 := fun d os => cell_regrown v3 d os
    replace d0 := fun d os => cell_regrown d0 d os
    replace d1 := fun d os => cell_regrown d1 d os
    replace d2 := fun d os => cell_regrown d2 d os
    replace d3 := fun d os => cell_regrown d3 d os
    replace u0 := fun d os => cell_regrown u0 d os
    replace u1 := fun d os => cell_regrown u1 d os
    replace u2 := fun d os => cell_regrown u2 d os
    replace u3 := fun d os => cell_regrown u3 d os
    replace u4 := fun d os => cell_regrown u4 d os
    clear hz hv hw
    cases ok with
    | false =>
      clear hne
      refine wp_region_quiet_below (by kernel_rfl) (by kernel_rfl) ?_
      repeat (go_big_quiet_step (first | (go_at_call 28; with_reducible exact Calls.regrown_of (H1.out _ (HLW.out.regrown _ _))) | (go_at_call 30; with_reducible exact Calls.regrown_of (H5.out _)) | (go_at_call 9; with_reducible exact Calls.regrown_of (HM.out _))))
      refine wpQuiet_nil ?_
      intro _ hw'
      obtain ⟨⟨dq, osq⟩, hw''⟩ := hw'
      subst hw''
      have hb1 := on hb0 (below_regrown W dq osq)
      have HLV := Lib.hid (HLW.out.regrown dq osq)
      replace d0 := d0 dq osq
      replace d1 := d1 dq osq
      replace d2 := d2 dq osq
      replace d3 := d3 dq osq
      clear c0 c1 c2 c3 v0 v1 v2 v3 u0 u1 u2 u3 u4 H1 H5 HM hb0 HLW
      generalize Sort.grow (redrawn W dq) osq = V at *
      cases is with
      | false =>
        go_wp2_with fail
        refine (HA.out _ HLV.out).mono ?_
        rintro e w5 ⟨rfl, hb5⟩
        replace hb1 := on hb1 hb5
        go_wp2
        go_ret
        exact ⟨rfl, hb1⟩
      | true =>
        have HT := Lib.hid (fun w1 h => text_c y1 y2 y3 y4 w1 h)
        have hq : (textI y1 y2 y3 y4 == t.toList) = true := by rw [HY.out.back, Lib.toList_data]; simp
        clear HY
        generalize textI y1 y2 y3 y4 = N at *
        go_wp2_with fail
        refine (HT.out _ HLV.out).mono ?_
        rintro e w5 ⟨rfl, hb5⟩
        replace hb1 := on hb1 hb5
        clear hb5
        go_wp2_with fail
        refine (HA.out _ (HL.out.grown hb1)).mono ?_
        rintro e w6 ⟨rfl, hb6⟩
        replace hb1 := on hb1 hb6
        go_wp2
        go_ret
        exact ⟨rfl, hb1⟩
    | true =>
      obtain ⟨rfl, rfl, rfl, rfl⟩ := hne.out rfl
      clear hne
      refine wp_region_quiet_below (by kernel_rfl) (by kernel_rfl) ?_
      repeat (go_big_quiet_step (first | (go_at_call 28; with_reducible exact Calls.regrown_of (H1.out _ (HLW.out.regrown _ _))) | (go_at_call 30; with_reducible exact Calls.regrown_of (H5.out _)) | (go_at_call 9; with_reducible exact Calls.regrown_of (HM.out _))))
      refine wpQuiet_nil ?_
      intro _ hw'
      obtain ⟨⟨dq, osq⟩, hw''⟩ := hw'
      subst hw''
      have hb1 := on hb0 (below_regrown W dq osq)
      have HLV := Lib.hid (HLW.out.regrown dq osq)
      replace d0 := d0 dq osq
      replace d1 := d1 dq osq
      replace d2 := d2 dq osq
      replace d3 := d3 dq osq
      clear c0 c1 c2 c3 v0 v1 v2 v3 u0 u1 u2 u3 u4 H1 H5 HM hb0 HLW
      generalize Sort.grow (redrawn W dq) osq = V at *
      cases is with
      | false =>
        go_wp2_with fail
        refine (HA.out _ HLV.out).mono ?_
        rintro e w5 ⟨rfl, hb5⟩
        replace hb1 := on hb1 hb5
        go_wp2
        go_ret
        exact ⟨rfl, hb1⟩
      | true =>
        have HT := Lib.hid (fun w1 h => text_c y1 y2 y3 y4 w1 h)
        have hq : (textI y1 y2 y3 y4 == t.toList) = true := by rw [HY.out.back, Lib.toList_data]; simp
        clear HY
        generalize textI y1 y2 y3 y4 = N at *
        go_wp2_with fail
        refine (HT.out _ HLV.out).mono ?_
        rintro e w5 ⟨rfl, hb5⟩
        replace hb1 := on hb1 hb5
        clear hb5
        go_wp2_with fail
        refine (HA.out _ (HL.out.grown hb1)).mono ?_
        rintro e w6 ⟨rfl, hb6⟩
        replace hb1 := on hb1 hb6
        go_wp2
        go_ret
        exact ⟨rfl, hb1⟩
end Go.Proofs.YtkebapdbibdheaaDoor.Span

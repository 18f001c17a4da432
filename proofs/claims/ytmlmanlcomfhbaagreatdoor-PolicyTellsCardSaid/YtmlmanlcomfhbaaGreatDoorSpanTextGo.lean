/- What the program's Text and Parse of a span answer: every span, every text below 2^32 - 15 bytes; where the library's variables hold what they are laid. -/
import Derived.Test.YtmlmanlcomfhbaaGreatDoorGg
import Derived.Test.YtmlmanlcomfhbaaGreatDoorAddrGo
import Derived.Test.YtmlmanlcomfhbaaGreatDoorGe
namespace Go.Proofs.YtmlmanlcomfhbaaGreatDoor.Span
open Go.RowKit Kit Reg Go.Proofs.YtmlmanlcomfhbaaGreatDoor.Addr Cats

theorem cat3 (a b : List UInt8) : ((⟨a.toArray⟩ : ByteArray) ++ ⟨#[58]⟩) ++ ⟨b.toArray⟩ = ⟨(a ++ 58 :: b).toArray⟩ := by
  apply ByteArray.ext
  simp
theorem two_ways (a b c d : Int) : (a = c ∧ b = d) ∨ (¬ (a = c ∧ b = d) ∧ ((a == c) = false ∨ ((a == c) = true ∧ (b == d) = false))) := by
  by_cases h1 : a = c
  · by_cases h2 : b = d
    · exact .inl ⟨h1, h2⟩
    · exact .inr ⟨fun h => h2 h.2, .inr ⟨by simpa using h1, by simpa using h2⟩⟩
  · exact .inr ⟨fun h => h1 h.1, .inl (by simpa using h1)⟩
def TextEnd (l : List UInt8) (w : World) (e : Ending) (w' : World) : Prop := e = .returned (.string ⟨l.toArray⟩) ∧ Below w.heap.size w w'
set_option maxRecDepth 100000 in
set_option maxHeartbeats 2000000 in
theorem text_c (a b c d : Int) (w : World) (hL : Libs w) : Calls Tryz.prog 28 #[.agg #[.int .i64 a, .int .i64 b, .int .i64 c, .int .i64 d]] w (TextEnd (textI a b c d) w) := by
  have HL := Lib.hid hL
  clear hL
  have hb0 := below1 w (.cells #[.int .i64 a, .int .i64 b, .int .i64 c, .int .i64 d] 67)
  have ha := CellsAt.new w [.int .i64 a, .int .i64 b, .int .i64 c, .int .i64 d] 67
  cases hm : mayS a b c d with
  | false =>
    have Hm := Lib.hid (fun w1 => may_c a b c d false hm w1)
    rw [textI_out hm]
    clear hm ha
    go_enter Tryz.func28, Tryz.ntmps28
    go_wp2_with fail
    refine (Hm.out _).mono ?_
    rintro e w1 ⟨rfl, hb1⟩
    replace hb0 := on hb0 hb1
    go_wp2
    go_ret
    exact ⟨rfl, hb0⟩
  | true =>
    have Hm := Lib.hid (fun w1 => may_c a b c d true hm w1)
    have H1 := Lib.hid (fun w1 h => name_c a b w1 h)
    have H2 := Lib.hid (fun w1 h => name_c c d w1 h)
    obtain ⟨_, l1⟩ := nameI_len (mayS_left hm)
    obtain ⟨_, l2⟩ := nameI_len (mayS_right hm)
    have HC := Lib.hid (cat3 (nameI a b) (nameI c d))
    rw [textI, if_pos hm]
    clear hm
    rcases two_ways a b c d with ⟨h1, h2⟩ | ⟨hne, hw⟩
    · rw [if_pos ⟨h1, h2⟩]
      have e1 : (a == c) = true := by simpa using h1
      have e2 : (b == d) = true := by simpa using h2
      clear h1 h2
      generalize nameI a b = A at *
      go_enter Tryz.func28, Tryz.ntmps28
      go_wp2_with fail
      refine (Hm.out _).mono ?_
      rintro e w1 ⟨rfl, hb1⟩
      replace hb0 := on hb0 hb1
      replace ha := ha.on hb1
      clear hb1
      obtain ⟨c0, c1, c2, c3, _⟩ := ha.four
      have HL1 := Lib.hid (HL.out.grown hb0)
      go_wp2_with fail
      refine (H1.out _ HL1.out).mono ?_
      rintro e w2 ⟨rfl, hb2⟩
      replace hb0 := on hb0 hb2
      go_wp2
      go_ret
      exact ⟨rfl, hb0⟩
    · rw [if_neg hne]
      clear hne
      generalize nameI a b = A at *
      generalize nameI c d = B at *
      rcases hw with h1 | ⟨h1, h2⟩
      all_goals
        go_enter Tryz.func28, Tryz.ntmps28
        go_wp2_with fail
        refine (Hm.out _).mono ?_
        rintro e w1 ⟨rfl, hb1⟩
        replace hb0 := on hb0 hb1
        replace ha := ha.on hb1
        clear hb1
        obtain ⟨c0, c1, c2, c3, _⟩ := ha.four
        have HL1 := Lib.hid (HL.out.grown hb0)
        have C0 := fun d os => cell_regrown c0 d os
        have C1 := fun d os => cell_regrown c1 d os
        have C2 := fun d os => cell_regrown c2 d os
        have C3 := fun d os => cell_regrown c3 d os
        go_wp2_with fail
        clear c0 c1 c2 c3
        refine wp_region_quiet_below (by kernel_rfl) (by kernel_rfl) ?_
        repeat (go_big_quiet_step (first | (go_at_call 47; with_reducible exact Calls.regrown_of (H1.out _ (HL1.out.regrown _ _))) | (go_at_call 47; with_reducible exact Calls.regrown_of (H2.out _ (HL1.out.regrown _ _)))))
        refine wpQuiet_nil ?_
        intro _ hw'
        obtain ⟨⟨dq, osq⟩, hw''⟩ := hw'
        subst hw''
        go_wp2
        go_ret
        exact ⟨congrArg (fun x => Ending.returned (.string x)) HC.out, on hb0 (below_regrown w1 dq osq)⟩

/-- a reader's answer: a span, and whether there is one -/
def ParseEnd (t : List UInt8) (w : World) (e : Ending) (w' : World) : Prop := ∃ (a b c d : Int) (k : Bool), e = .returned (.tuple #[.agg #[.int .i64 a, .int .i64 b, .int .i64 c, .int .i64 d], .bool k]) ∧ SpanIs t a b c d k ∧ Below w.heap.size w w'
theorem cutAt_no {c : UInt8} {l : List UInt8} (h : cutAt c l = none) : c ∉ l := by
  induction l with
  | nil => simp
  | cons x r ih =>
    unfold cutAt at h
    by_cases hc : x = c
    · simp [hc] at h
    · simp only [hc, if_false, Option.map_eq_none_iff] at h
      simp only [List.mem_cons, not_or]
      exact ⟨fun e => hc e.symm, ih h⟩
theorem cuts_size {l a b : List UInt8} {f : Bool} {c : UInt8} (h : CutsAt c l a b f) : a.length ≤ l.length ∧ b.length ≤ l.length := by
  rcases h with ⟨h, _⟩ | ⟨_, rfl, rfl, _⟩
  · obtain ⟨rfl, _⟩ := of_cutAt h
    simp only [List.length_append, List.length_cons]
    omega
  · simp
set_option maxRecDepth 100000 in
set_option maxHeartbeats 4000000 in
theorem parse_c (t : ByteArray) (hl : t.size < 4294967281) (w : World) (hL : Libs w) : Calls Tryz.prog 103 #[.string t] w (ParseEnd t.data.toList w) := by
  have HL := Lib.hid hL
  clear hL
  have HC := Lib.hid (fun w1 => cutB_c t 58 (by omega) w1)
  have hz := Lib.size_eq t
  have hb0 := below1 w (.cells #[.int .i64 0, .int .i64 0, .int .i64 0, .int .i64 0] 67)
  have hv := CellsAt.new w [.int .i64 0, .int .i64 0, .int .i64 0, .int .i64 0] 67
  go_enter Tryz.func103, Tryz.ntmps103
  go_wp2_with fail
  refine (HC.out _).mono ?_
  rintro e w1 ⟨sa, sb, f, rfl, hcut, hb1⟩
  replace hb0 := on hb0 hb1
  replace hv := hv.on hb1
  clear hb1
  obtain ⟨z1, z2⟩ := cuts_size hcut
  have za := Lib.size_eq sa
  have zb := Lib.size_eq sb
  have H1 := Lib.hid (fun w1 h => Addr.parse_c sa (by omega) w1 h)
  have H2 := Lib.hid (fun w1 h => Addr.parse_c sb (by omega) w1 h)
  have HL1 := Lib.hid (HL.out.grown hb0)
  have HCut := Lib.hid hcut
  clear hcut z1 z2 za zb hz
  generalize t.data.toList = T at *
  go_wp2_with fail
  refine (H1.out _ HL1.out).mono ?_
  rintro e w2 ⟨r, c, ok, rfl, hc1, hb2⟩
  replace hv := hv.on hb2
  have lv := hv.1
  obtain ⟨v0, v1, v2, v3, f0, f1, f2, f3⟩ := hv.four
  replace hb0 := on hb0 hb2
  clear hb2
  cases ok with
  | false =>
    have HR : Hid (SpanIs T 0 0 0 0 false) := by
      rcases HCut.out with ⟨h, _⟩ | ⟨h, h2, _, _⟩
      · obtain ⟨h3, h4⟩ := of_cutAt h
        rw [h3]
        exact Lib.hid (SpanIs.no_first h4 hc1)
      · rw [h2] at hc1
        exact Lib.hid (SpanIs.no_name (cutAt_no h) hc1)
    clear hc1 HCut
    go_wp2
    exact bodyPost_ret (by simp [results, Tryz.results103, go_sem, lv, v0, v1, v2, v3]) rfl ⟨_, _, _, _, _, rfl, HR.out, on_alloc (put4_below hb0 (Nat.le_refl _) _ _ _ _) _⟩
  | true =>
    have HC1 := Lib.hid hc1
    clear hc1
    cases f with
    | false =>
      have HR : Hid (SpanIs T r c r c true) := by
        rcases HCut.out with ⟨_, h⟩ | ⟨_, h2, _, _⟩
        · cases h
        · have h3 := HC1.out
          rw [h2] at h3
          exact Lib.hid (SpanIs.one h3)
      clear HC1 HCut
      go_wp2
      exact bodyPost_ret (by simp [results, Tryz.results103, go_sem, lv, v0, v1, v2, v3]) rfl ⟨_, _, _, _, _, rfl, HR.out, on_alloc (put4_below hb0 (Nat.le_refl _) _ _ _ _) _⟩
    | true =>
      have HT : Hid (T = sa.data.toList ++ 58 :: sb.data.toList ∧ (58 : UInt8) ∉ sa.data.toList) := by
        rcases HCut.out with ⟨h, _⟩ | ⟨_, _, _, h⟩
        · exact Lib.hid (of_cutAt h)
        · cases h
      clear HCut
      have hb3 := on_alloc hb0 (.cells #[.int .i64 r, .int .i64 c] 28)
      have hx := CellsAt.new w2 [.int .i64 r, .int .i64 c] 28
      replace hv := hv.on_alloc (.cells #[.int .i64 r, .int .i64 c] 28)
      have HL3 := Lib.hid (HL.out.grown hb3)
      clear v0 v1 v2 v3 f0 f1 f2 f3
      go_wp2_with fail
      refine (H2.out _ HL3.out).mono ?_
      rintro e w3 ⟨r2, c2, ok2, rfl, hc2, hb4⟩
      replace hb3 := on hb3 hb4
      replace hv := hv.on hb4
      replace hx := hx.on hb4
      have lx := hx.1
      have lv3 := hv.1
      obtain ⟨x0, x1, _⟩ := hx.two
      obtain ⟨v0, v1, v2, v3, f0, f1, f2, f3⟩ := hv.four
      clear hb4 hb0
      cases ok2 with
      | false =>
        have HR : Hid (SpanIs T 0 0 0 0 false) := by
          rw [HT.out.1]
          exact Lib.hid (SpanIs.no_second HT.out.2 hc2)
        clear hc2 HT HC1
        go_wp2
        exact bodyPost_ret (by simp [results, Tryz.results103, go_sem, lv3, v0, v1, v2, v3]) rfl ⟨_, _, _, _, _, rfl, HR.out, on_alloc (put4_below hb3 (Nat.le_refl _) _ _ _ _) _⟩
      | true =>
        rcases two_ways r2 c2 r c with ⟨rfl, rfl⟩ | ⟨hne, hw⟩
        · have HR : Hid (SpanIs T 0 0 0 0 false) := by
            rw [HT.out.1]
            exact Lib.hid (SpanIs.same HT.out.2 HC1.out hc2)
          clear hc2 HT HC1
          go_wp2
          exact bodyPost_ret (by simp [results, Tryz.results103, go_sem, lv3, v0, v1, v2, v3]) rfl ⟨_, _, _, _, _, rfl, HR.out, on_alloc (put4_below hb3 (Nat.le_refl _) _ _ _ _) _⟩
        · have HR : Hid (SpanIs T r c r2 c2 true) := by
            rw [HT.out.1]
            exact Lib.hid (SpanIs.two HC1.out hc2 (fun h => hne ⟨h.1.symm, h.2.symm⟩))
          clear hc2 HT HC1 hne
          rcases hw with h1 | ⟨h1, h2⟩
          all_goals
            go_wp2
            exact bodyPost_ret (by simp [results, Tryz.results103, go_sem, lv3, v0, v1, v2, v3]) rfl ⟨_, _, _, _, _, rfl, HR.out, on_alloc (put4_below hb3 (Nat.le_refl _) _ _ _ _) _⟩
end Go.Proofs.YtmlmanlcomfhbaaGreatDoor.Span

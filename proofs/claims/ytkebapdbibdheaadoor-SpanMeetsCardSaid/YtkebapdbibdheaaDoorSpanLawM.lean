/- SpanMeets: the law returns true for every two spans and every cell, and makes new memory alone. -/
import Derived.Test.YtkebapdbibdheaaDoorSpanAlive
import Derived.Test.YtkebapdbibdheaaDoorSpanHas
import Derived.Test.YtkebapdbibdheaaDoorSpanRefMeet
namespace Go.Proofs.YtkebapdbibdheaaDoor.Span
open Go.RowKit Kit Reg Go.Proofs.YtkebapdbibdheaaDoor.Addr Cats

theorem with_no {a b c d e f g h : Int} (hk : meetB a b c d e f g h = false) : withB a b c d e f g h = false := by unfold withB; rw [hk]; rfl
theorem with_ways {a b c d e f g h : Int} {m : Bool} (hm : mayS a b c d = m) (hk : meetB a b c d e f g h = true) :
    (mlo true a c e g = lo m a c ∧ mlo true b d f h = lo m b d ∧ mhi true a c e g = hi m a c ∧ mhi true b d f h = hi m b d ∧ withB a b c d e f g h = true) ∨
    (withB a b c d e f g h = false ∧ ((mlo true a c e g == lo m a c) = false ∨ ((mlo true a c e g == lo m a c) = true ∧ (mlo true b d f h == lo m b d) = false) ∨ ((mlo true a c e g == lo m a c) = true ∧ (mlo true b d f h == lo m b d) = true ∧ (mhi true a c e g == hi m a c) = false) ∨ ((mlo true a c e g == lo m a c) = true ∧ (mlo true b d f h == lo m b d) = true ∧ (mhi true a c e g == hi m a c) = true ∧ (mhi true b d f h == hi m b d) = false))) := by
  have h1 := (meetB_iff.1 hk).1
  rw [hm] at h1
  subst h1
  have h2 := four_ways (mlo true a c e g) (mlo true b d f h) (mhi true a c e g) (mhi true b d f h) (lo true a c) (lo true b d) (hi true a c) (hi true b d)
  have h3 : (mlo true a c e g == lo true a c && mlo true b d f h == lo true b d && mhi true a c e g == hi true a c && mhi true b d f h == hi true b d) = withB a b c d e f g h := by unfold withB; rw [hk, Bool.true_and]
  rwa [h3] at h2
set_option maxRecDepth 100000 in
set_option maxHeartbeats 16000000 in
theorem meets_c (a b c d e f g h x y : Int) (w : World) (hL : Libs w) : Calls Tryd.prog 5 #[.agg #[.int .i64 a, .int .i64 b, .int .i64 c, .int .i64 d], .agg #[.int .i64 e, .int .i64 f, .int .i64 g, .int .i64 h], .agg #[.int .i64 x, .int .i64 y]] w fun e w' => e = .returned (.bool true) ∧ Below w.heap.size w w' := by
  have HA := Lib.hid (fun w1 h => alive_c w1 h)
  have HL := Lib.hid hL
  clear hL
  obtain ⟨m, hm⟩ : ∃ m, mayS a b c d = m := ⟨_, rfl⟩
  obtain ⟨k, hk⟩ : ∃ k, meetB a b c d e f g h = k := ⟨_, rfl⟩
  have HM1 := Lib.hid (fun w1 => meet_c a b c d e f g h _ _ _ _ k hk rfl rfl rfl rfl w1)
  have HM2 := Lib.hid (fun w1 => meet_c e f g h a b c d _ _ _ _ k (by rw [meetB_comm]; exact hk) (mlo_comm k a c e g) (mlo_comm k b d f h) (mhi_comm k a c e g) (mhi_comm k b d f h) w1)
  have HRM := Lib.hid (fun w1 => rmeet_c a b c d e f g h _ _ _ _ k hk rfl rfl rfl rfl w1)
  have HHa := Lib.hid (fun w1 => has_c a b c d x y _ rfl w1)
  have HHb := Lib.hid (fun w1 => has_c e f g h x y _ rfl w1)
  have HHm : Hid (k = true → ∀ w1, Calls Tryd.prog 13 #[.agg #[.int .i64 (mlo k a c e g), .int .i64 (mlo k b d f h), .int .i64 (mhi k a c e g), .int .i64 (mhi k b d f h)], .agg #[.int .i64 x, .int .i64 y]] w1 fun r w' => r = .returned (.bool (hasB a b c d x y && hasB e f g h x y)) ∧ Below w1.heap.size w1 w') := Lib.hid fun hkt w1 => by
    subst hkt
    exact has_c _ _ _ _ x y _ (meet_has hk) w1
  have HW := Lib.hid (fun w1 => within_c a b c d e f g h _ rfl w1)
  have HS := Lib.hid (fun w1 => straight_c a b c d m _ _ _ _ hm rfl rfl rfl rfl w1)
  have F1 : Hid (hasB a b c d x y = true → hasB e f g h x y = true → k = true) := Lib.hid fun h1 h2 => by rw [← hk]; exact has_meet h1 h2
  have F2 : Hid (withB a b c d e f g h = true → hasB a b c d x y = true → hasB e f g h x y = true) := Lib.hid fun h1 h2 => with_has h1 h2
  have F3 : Hid (k = false → withB a b c d e f g h = false) := Lib.hid fun h1 => with_no (hk.trans h1)
  have F4 := Lib.hid (fun hkt : k = true => with_ways hm (hk.trans hkt))
  have F5 : Hid (k = true → mlo k a c e g = mlo true a c e g ∧ mlo k b d f h = mlo true b d f h ∧ mhi k a c e g = mhi true a c e g ∧ mhi k b d f h = mhi true b d f h) := Lib.hid fun hkt => by subst hkt; exact ⟨rfl, rfl, rfl, rfl⟩
  have F6 : Hid (k = true → (mlo k a c e g = lo m a c ∧ mlo k b d f h = lo m b d ∧ mhi k a c e g = hi m a c ∧ mhi k b d f h = hi m b d ∧ withB a b c d e f g h = true) ∨
    (withB a b c d e f g h = false ∧ ((mlo k a c e g == lo m a c) = false ∨ ((mlo k a c e g == lo m a c) = true ∧ (mlo k b d f h == lo m b d) = false) ∨ ((mlo k a c e g == lo m a c) = true ∧ (mlo k b d f h == lo m b d) = true ∧ (mhi k a c e g == hi m a c) = false) ∨ ((mlo k a c e g == lo m a c) = true ∧ (mlo k b d f h == lo m b d) = true ∧ (mhi k a c e g == hi m a c) = true ∧ (mhi k b d f h == hi m b d) = false)))) := Lib.hid fun hkt => by
    obtain ⟨q1, q2, q3, q4⟩ := F5.out hkt
    rw [q1, q2, q3, q4]
    exact F4.out hkt
  clear hk hm F4 F5
  generalize hasB a b c d x y = ha at *
  generalize hasB e f g h x y = hb at *
  generalize withB a b c d e f g h = wth at *
  generalize mlo k a c e g = X1 at *
  generalize mlo k b d f h = X2 at *
  generalize mhi k a c e g = X3 at *
  generalize mhi k b d f h = X4 at *
  generalize lo m a c = P at *
  generalize lo m b d = Q at *
  generalize hi m a c = R at *
  generalize hi m b d = S at *
  have hb0 := below3 w (.cells #[.int .i64 a, .int .i64 b, .int .i64 c, .int .i64 d] 25) (.cells #[.int .i64 e, .int .i64 f, .int .i64 g, .int .i64 h] 25) (.cells #[.int .i64 x, .int .i64 y] 23)
  obtain ⟨ka, kb, kc⟩ := boxes3 w [.int .i64 a, .int .i64 b, .int .i64 c, .int .i64 d] [.int .i64 e, .int .i64 f, .int .i64 g, .int .i64 h] [.int .i64 x, .int .i64 y] 25 25 23
  go_enter Tryd.func5, Tryd.ntmps5
  go_wp2_with fail
  refine (HM1.out _).mono ?_
  rintro e' w1 ⟨rfl, hb1⟩
  replace hb0 := on_alloc (on hb0 hb1) (.cells #[.int .i64 X1, .int .i64 X2, .int .i64 X3, .int .i64 X4] 25)
  replace ka := (ka.on hb1).on_alloc (.cells #[.int .i64 X1, .int .i64 X2, .int .i64 X3, .int .i64 X4] 25)
  replace kb := (kb.on hb1).on_alloc (.cells #[.int .i64 X1, .int .i64 X2, .int .i64 X3, .int .i64 X4] 25)
  replace kc := (kc.on hb1).on_alloc (.cells #[.int .i64 X1, .int .i64 X2, .int .i64 X3, .int .i64 X4] 25)
  have km := CellsAt.new w1 [.int .i64 X1, .int .i64 X2, .int .i64 X3, .int .i64 X4] 25
  clear hb1
  obtain ⟨c0, c1, c2, c3, _⟩ := ka.four
  obtain ⟨d0, d1, d2, d3, _⟩ := kb.four
  go_wp2_with fail
  refine (HM2.out _).mono ?_
  rintro e' w2 ⟨rfl, hb2⟩
  replace hb0 := on_alloc (on hb0 hb2) (.cells #[.int .i64 X1, .int .i64 X2, .int .i64 X3, .int .i64 X4] 25)
  replace ka := (ka.on hb2).on_alloc (.cells #[.int .i64 X1, .int .i64 X2, .int .i64 X3, .int .i64 X4] 25)
  replace kb := (kb.on hb2).on_alloc (.cells #[.int .i64 X1, .int .i64 X2, .int .i64 X3, .int .i64 X4] 25)
  replace kc := (kc.on hb2).on_alloc (.cells #[.int .i64 X1, .int .i64 X2, .int .i64 X3, .int .i64 X4] 25)
  replace km := (km.on hb2).on_alloc (.cells #[.int .i64 X1, .int .i64 X2, .int .i64 X3, .int .i64 X4] 25)
  have kn := CellsAt.new w2 [.int .i64 X1, .int .i64 X2, .int .i64 X3, .int .i64 X4] 25
  clear hb2 c0 c1 c2 c3 d0 d1 d2 d3
  obtain ⟨c0, c1, c2, c3, _⟩ := ka.four
  obtain ⟨d0, d1, d2, d3, _⟩ := kb.four
  go_wp2_with fail
  refine (HRM.out _).mono ?_
  rintro e' w3 ⟨rfl, hb3⟩
  replace hb0 := on_alloc (on hb0 hb3) (.cells #[.int .i64 X1, .int .i64 X2, .int .i64 X3, .int .i64 X4, .bool k] 41)
  replace ka := (ka.on hb3).on_alloc (.cells #[.int .i64 X1, .int .i64 X2, .int .i64 X3, .int .i64 X4, .bool k] 41)
  replace kb := (kb.on hb3).on_alloc (.cells #[.int .i64 X1, .int .i64 X2, .int .i64 X3, .int .i64 X4, .bool k] 41)
  replace kc := (kc.on hb3).on_alloc (.cells #[.int .i64 X1, .int .i64 X2, .int .i64 X3, .int .i64 X4, .bool k] 41)
  replace km := (km.on hb3).on_alloc (.cells #[.int .i64 X1, .int .i64 X2, .int .i64 X3, .int .i64 X4, .bool k] 41)
  replace kn := (kn.on hb3).on_alloc (.cells #[.int .i64 X1, .int .i64 X2, .int .i64 X3, .int .i64 X4, .bool k] 41)
  have kw := CellsAt.new w3 [.int .i64 X1, .int .i64 X2, .int .i64 X3, .int .i64 X4, .bool k] 41
  clear hb3 c0 c1 c2 c3 d0 d1 d2 d3 HM1 HM2 HRM
  obtain ⟨c0, c1, c2, c3, _⟩ := ka.four
  obtain ⟨y0, y1, _⟩ := kc.two
  obtain ⟨x0, x1, x2, x3, _⟩ := km.four
  obtain ⟨n0, n1, n2, n3, _⟩ := kn.four
  obtain ⟨u0, u1, u2, u3, u4, _⟩ := kw.five
  go_wp2_with fail
  generalize w3.alloc (.cells #[.int .i64 X1, .int .i64 X2, .int .i64 X3, .int .i64 X4, .bool k] 41) = W at *
  clear c0 c1 c2 c3 y0 y1 x0 x1 x2 x3 n0 n1 n2 n3 u0 u1 u2 u3 u4 kn kw
  refine (HHa.out _).mono ?_
  rintro e' w4 ⟨rfl, hb4⟩
  replace hb0 := on hb0 hb4
  replace ka := ka.on hb4
  replace kb := kb.on hb4
  replace kc := kc.on hb4
  replace km := km.on hb4
  clear hb4
  cases ha with
  | false =>
    cases k with
    | false =>
      obtain rfl := F3.out (by simp)
      go_wp2_with fail
      have HLV := Lib.hid (HL.out.grown hb0)
      obtain ⟨c0, c1, c2, c3, _⟩ := ka.four
      obtain ⟨d0, d1, d2, d3, _⟩ := kb.four
      obtain ⟨y0, y1, _⟩ := kc.two
      obtain ⟨x0, x1, x2, x3, _⟩ := km.four
      replace c0 := fun d os => cell_regrown c0 d os
      replace c1 := fun d os => cell_regrown c1 d os
      replace c2 := fun d os => cell_regrown c2 d os
      replace c3 := fun d os => cell_regrown c3 d os
      replace d0 := fun d os => cell_regrown d0 d os
      replace d1 := fun d os => cell_regrown d1 d os
      replace d2 := fun d os => cell_regrown d2 d os
      replace d3 := fun d os => cell_regrown d3 d os
      replace y0 := fun d os => cell_regrown y0 d os
      replace y1 := fun d os => cell_regrown y1 d os
      replace x0 := fun d os => cell_regrown x0 d os
      replace x1 := fun d os => cell_regrown x1 d os
      replace x2 := fun d os => cell_regrown x2 d os
      replace x3 := fun d os => cell_regrown x3 d os
      clear ka kb kc km HHm
      clear F1 F2 F3 F6
      refine wp_region_quiet_below (by kernel_rfl) (by kernel_rfl) ?_
      repeat (go_big_quiet_step (first | (go_at_call 26; with_reducible exact Calls.regrown_of (HW.out _)) | (go_at_call 11; with_reducible exact Calls.regrown_of (HS.out _)) | (go_at_call 13; with_reducible exact Calls.regrown_of (HHa.out _)) | (go_at_call 13; with_reducible exact Calls.regrown_of (HHb.out _)) | (go_at_call 18; with_reducible exact Calls.regrown_of (HA.out _ (HLV.out.regrown _ _)))))
      refine wpQuiet_nil ?_
      intro _ hw'
      obtain ⟨⟨dq, osq⟩, hw''⟩ := hw'
      subst hw''
      go_wp2
      go_ret
      exact ⟨rfl, on hb0 (below_regrown w4 dq osq)⟩
    | true =>
      obtain ⟨y0, y1, _⟩ := kc.two
      obtain ⟨x0, x1, x2, x3, _⟩ := km.four
      have HMm := Lib.hid (HHm.out (by simp))
      simp only [Bool.false_and] at HMm
      go_wp2_with fail
      refine (HMm.out _).mono ?_
      rintro e' w5 ⟨rfl, hb5⟩
      clear y0 y1 x0 x1 x2 x3
      replace hb0 := on hb0 hb5
      replace ka := ka.on hb5
      replace kb := kb.on hb5
      replace kc := kc.on hb5
      replace km := km.on hb5
      clear hb5
      go_wp2_with fail
      have HLV := Lib.hid (HL.out.grown hb0)
      obtain ⟨c0, c1, c2, c3, _⟩ := ka.four
      obtain ⟨d0, d1, d2, d3, _⟩ := kb.four
      obtain ⟨y0, y1, _⟩ := kc.two
      obtain ⟨x0, x1, x2, x3, _⟩ := km.four
      replace c0 := fun d os => cell_regrown c0 d os
      replace c1 := fun d os => cell_regrown c1 d os
      replace c2 := fun d os => cell_regrown c2 d os
      replace c3 := fun d os => cell_regrown c3 d os
      replace d0 := fun d os => cell_regrown d0 d os
      replace d1 := fun d os => cell_regrown d1 d os
      replace d2 := fun d os => cell_regrown d2 d os
      replace d3 := fun d os => cell_regrown d3 d os
      replace y0 := fun d os => cell_regrown y0 d os
      replace y1 := fun d os => cell_regrown y1 d os
      replace x0 := fun d os => cell_regrown x0 d os
      replace x1 := fun d os => cell_regrown x1 d os
      replace x2 := fun d os => cell_regrown x2 d os
      replace x3 := fun d os => cell_regrown x3 d os
      clear ka kb kc km HHm
      have hways := F6.out (by simp)
      clear F1 F2 F3 F6
      rcases hways with ⟨rfl, rfl, rfl, rfl, hw⟩ | ⟨hw, h1 | ⟨h1, h2⟩ | ⟨h1, h2, h3⟩ | ⟨h1, h2, h3, h4⟩⟩
      all_goals
        subst hw
        refine wp_region_quiet_below (by kernel_rfl) (by kernel_rfl) ?_
        repeat (go_big_quiet_step (first | (go_at_call 26; with_reducible exact Calls.regrown_of (HW.out _)) | (go_at_call 11; with_reducible exact Calls.regrown_of (HS.out _)) | (go_at_call 13; with_reducible exact Calls.regrown_of (HHa.out _)) | (go_at_call 13; with_reducible exact Calls.regrown_of (HHb.out _)) | (go_at_call 18; with_reducible exact Calls.regrown_of (HA.out _ (HLV.out.regrown _ _)))))
        refine wpQuiet_nil ?_
        intro _ hw'
        obtain ⟨⟨dq, osq⟩, hw''⟩ := hw'
        subst hw''
        go_wp2
        go_ret
        exact ⟨rfl, on hb0 (below_regrown w5 dq osq)⟩
  | true =>
    obtain ⟨d0, d1, d2, d3, _⟩ := kb.four
    obtain ⟨y0, y1, _⟩ := kc.two
    go_wp2_with fail
    refine (HHb.out _).mono ?_
    rintro e' w5 ⟨rfl, hb5⟩
    clear d0 d1 d2 d3 y0 y1
    replace hb0 := on hb0 hb5
    replace ka := ka.on hb5
    replace kb := kb.on hb5
    replace kc := kc.on hb5
    replace km := km.on hb5
    clear hb5
    cases hb with
    | false =>
      cases k with
      | false =>
        obtain rfl := F3.out (by simp)
        go_wp2_with fail
        have HLV := Lib.hid (HL.out.grown hb0)
        obtain ⟨c0, c1, c2, c3, _⟩ := ka.four
        obtain ⟨d0, d1, d2, d3, _⟩ := kb.four
        obtain ⟨y0, y1, _⟩ := kc.two
        obtain ⟨x0, x1, x2, x3, _⟩ := km.four
        replace c0 := fun d os => cell_regrown c0 d os
        replace c1 := fun d os => cell_regrown c1 d os
        replace c2 := fun d os => cell_regrown c2 d os
        replace c3 := fun d os => cell_regrown c3 d os
        replace d0 := fun d os => cell_regrown d0 d os
        replace d1 := fun d os => cell_regrown d1 d os
        replace d2 := fun d os => cell_regrown d2 d os
        replace d3 := fun d os => cell_regrown d3 d os
        replace y0 := fun d os => cell_regrown y0 d os
        replace y1 := fun d os => cell_regrown y1 d os
        replace x0 := fun d os => cell_regrown x0 d os
        replace x1 := fun d os => cell_regrown x1 d os
        replace x2 := fun d os => cell_regrown x2 d os
        replace x3 := fun d os => cell_regrown x3 d os
        clear ka kb kc km HHm
        clear F1 F2 F3 F6
        refine wp_region_quiet_below (by kernel_rfl) (by kernel_rfl) ?_
        repeat (go_big_quiet_step (first | (go_at_call 26; with_reducible exact Calls.regrown_of (HW.out _)) | (go_at_call 11; with_reducible exact Calls.regrown_of (HS.out _)) | (go_at_call 13; with_reducible exact Calls.regrown_of (HHa.out _)) | (go_at_call 13; with_reducible exact Calls.regrown_of (HHb.out _)) | (go_at_call 18; with_reducible exact Calls.regrown_of (HA.out _ (HLV.out.regrown _ _)))))
        refine wpQuiet_nil ?_
        intro _ hw'
        obtain ⟨⟨dq, osq⟩, hw''⟩ := hw'
        subst hw''
        go_wp2
        go_ret
        exact ⟨rfl, on hb0 (below_regrown w5 dq osq)⟩
      | true =>
        obtain ⟨y0, y1, _⟩ := kc.two
        obtain ⟨x0, x1, x2, x3, _⟩ := km.four
        have HMm := Lib.hid (HHm.out (by simp))
        simp only [Bool.and_false] at HMm
        go_wp2_with fail
        refine (HMm.out _).mono ?_
        rintro e' w6 ⟨rfl, hb6⟩
        clear y0 y1 x0 x1 x2 x3
        replace hb0 := on hb0 hb6
        replace ka := ka.on hb6
        replace kb := kb.on hb6
        replace kc := kc.on hb6
        replace km := km.on hb6
        clear hb6
        go_wp2_with fail
        have HLV := Lib.hid (HL.out.grown hb0)
        obtain ⟨c0, c1, c2, c3, _⟩ := ka.four
        obtain ⟨d0, d1, d2, d3, _⟩ := kb.four
        obtain ⟨y0, y1, _⟩ := kc.two
        obtain ⟨x0, x1, x2, x3, _⟩ := km.four
        replace c0 := fun d os => cell_regrown c0 d os
        replace c1 := fun d os => cell_regrown c1 d os
        replace c2 := fun d os => cell_regrown c2 d os
        replace c3 := fun d os => cell_regrown c3 d os
        replace d0 := fun d os => cell_regrown d0 d os
        replace d1 := fun d os => cell_regrown d1 d os
        replace d2 := fun d os => cell_regrown d2 d os
        replace d3 := fun d os => cell_regrown d3 d os
        replace y0 := fun d os => cell_regrown y0 d os
        replace y1 := fun d os => cell_regrown y1 d os
        replace x0 := fun d os => cell_regrown x0 d os
        replace x1 := fun d os => cell_regrown x1 d os
        replace x2 := fun d os => cell_regrown x2 d os
        replace x3 := fun d os => cell_regrown x3 d os
        clear ka kb kc km HHm
        have hways := F6.out (by simp)
        have hwf : wth = false := by
          cases wth
          · rfl
          · exact absurd (F2.out (by simp) (by simp)) (by decide)
        subst hwf
        clear F1 F2 F3 F6
        rcases hways with ⟨rfl, rfl, rfl, rfl, hw⟩ | ⟨hw, h1 | ⟨h1, h2⟩ | ⟨h1, h2, h3⟩ | ⟨h1, h2, h3, h4⟩⟩
        · cases hw
        all_goals
          clear hw
          refine wp_region_quiet_below (by kernel_rfl) (by kernel_rfl) ?_
          repeat (go_big_quiet_step (first | (go_at_call 26; with_reducible exact Calls.regrown_of (HW.out _)) | (go_at_call 11; with_reducible exact Calls.regrown_of (HS.out _)) | (go_at_call 13; with_reducible exact Calls.regrown_of (HHa.out _)) | (go_at_call 13; with_reducible exact Calls.regrown_of (HHb.out _)) | (go_at_call 18; with_reducible exact Calls.regrown_of (HA.out _ (HLV.out.regrown _ _)))))
          refine wpQuiet_nil ?_
          intro _ hw'
          obtain ⟨⟨dq, osq⟩, hw''⟩ := hw'
          subst hw''
          go_wp2
          go_ret
          exact ⟨rfl, on hb0 (below_regrown w6 dq osq)⟩
    | true =>
      obtain rfl := F1.out (by simp) (by simp)
      obtain ⟨y0, y1, _⟩ := kc.two
      obtain ⟨x0, x1, x2, x3, _⟩ := km.four
      have HMm := Lib.hid (HHm.out (by simp))
      simp only [Bool.and_self] at HMm
      go_wp2_with fail
      refine (HMm.out _).mono ?_
      rintro e' w6 ⟨rfl, hb6⟩
      clear y0 y1 x0 x1 x2 x3
      replace hb0 := on hb0 hb6
      replace ka := ka.on hb6
      replace kb := kb.on hb6
      replace kc := kc.on hb6
      replace km := km.on hb6
      clear hb6
      go_wp2_with fail
      have HLV := Lib.hid (HL.out.grown hb0)
      obtain ⟨c0, c1, c2, c3, _⟩ := ka.four
      obtain ⟨d0, d1, d2, d3, _⟩ := kb.four
      obtain ⟨y0, y1, _⟩ := kc.two
      obtain ⟨x0, x1, x2, x3, _⟩ := km.four
      replace c0 := fun d os => cell_regrown c0 d os
      replace c1 := fun d os => cell_regrown c1 d os
      replace c2 := fun d os => cell_regrown c2 d os
      replace c3 := fun d os => cell_regrown c3 d os
      replace d0 := fun d os => cell_regrown d0 d os
      replace d1 := fun d os => cell_regrown d1 d os
      replace d2 := fun d os => cell_regrown d2 d os
      replace d3 := fun d os => cell_regrown d3 d os
      replace y0 := fun d os => cell_regrown y0 d os
      replace y1 := fun d os => cell_regrown y1 d os
      replace x0 := fun d os => cell_regrown x0 d os
      replace x1 := fun d os => cell_regrown x1 d os
      replace x2 := fun d os => cell_regrown x2 d os
      replace x3 := fun d os => cell_regrown x3 d os
      clear ka kb kc km HHm
      have hways := F6.out (by simp)
      clear F1 F2 F3 F6
      rcases hways with ⟨rfl, rfl, rfl, rfl, hw⟩ | ⟨hw, h1 | ⟨h1, h2⟩ | ⟨h1, h2, h3⟩ | ⟨h1, h2, h3, h4⟩⟩
      all_goals
        subst hw
        refine wp_region_quiet_below (by kernel_rfl) (by kernel_rfl) ?_
        repeat (go_big_quiet_step (first | (go_at_call 26; with_reducible exact Calls.regrown_of (HW.out _)) | (go_at_call 11; with_reducible exact Calls.regrown_of (HS.out _)) | (go_at_call 13; with_reducible exact Calls.regrown_of (HHa.out _)) | (go_at_call 13; with_reducible exact Calls.regrown_of (HHb.out _)) | (go_at_call 18; with_reducible exact Calls.regrown_of (HA.out _ (HLV.out.regrown _ _)))))
        refine wpQuiet_nil ?_
        intro _ hw'
        obtain ⟨⟨dq, osq⟩, hw''⟩ := hw'
        subst hw''
        go_wp2
        go_ret
        exact ⟨rfl, on hb0 (below_regrown w6 dq osq)⟩
end Go.Proofs.YtkebapdbibdheaaDoor.Span

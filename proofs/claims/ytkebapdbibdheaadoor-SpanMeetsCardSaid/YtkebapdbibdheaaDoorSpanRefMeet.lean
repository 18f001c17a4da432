/- What the reference's Meet of two spans answers: every two spans. -/
import Derived.Test.YtkebapdbibdheaaDoorSpanRef
namespace Go.Proofs.YtkebapdbibdheaaDoor.Span
open Go.RowKit Kit Reg Go.Proofs.YtkebapdbibdheaaDoor.Addr

/-- what the reference's meeting answers -/
def RMeetEnd (x y z u : Int) (k : Bool) (w : World) (e : Ending) (w' : World) : Prop := e = .returned (.agg #[.int .i64 x, .int .i64 y, .int .i64 z, .int .i64 u, .bool k]) ∧ Below w.heap.size w w'
set_option maxRecDepth 100000 in
set_option maxHeartbeats 2000000 in
theorem rmeet_none (a b c d e f g h : Int) (m : Bool) (h1 : mayS a b c d = m) (h2 : (m && mayS e f g h) = false) (w : World) :
    Calls Tryd.prog 25 #[.agg #[.int .i64 a, .int .i64 b, .int .i64 c, .int .i64 d], .agg #[.int .i64 e, .int .i64 f, .int .i64 g, .int .i64 h]] w (RMeetEnd 0 0 0 0 false w) := by
  have H1 := Lib.hid (fun w1 => rmay_c a b c d m h1 w1)
  clear h1
  have hb0 := below3 w (.cells #[.int .i64 a, .int .i64 b, .int .i64 c, .int .i64 d] 25) (.cells #[.int .i64 e, .int .i64 f, .int .i64 g, .int .i64 h] 25) (.cells #[.int .i64 0, .int .i64 0, .int .i64 0, .int .i64 0, .bool false] 41)
  obtain ⟨_, hz, hv⟩ := boxes3 w [.int .i64 a, .int .i64 b, .int .i64 c, .int .i64 d] [.int .i64 e, .int .i64 f, .int .i64 g, .int .i64 h] [.int .i64 0, .int .i64 0, .int .i64 0, .int .i64 0, .bool false] 25 25 41
  cases m with
  | false =>
    clear h2 hz
    go_enter Tryd.func25, Tryd.ntmps25
    go_wp2_with fail
    refine (H1.out _).mono ?_
    rintro e w1 ⟨rfl, hb1⟩
    replace hb0 := on hb0 hb1
    replace hv := hv.on hb1
    clear hb1
    obtain ⟨c0, c1, c2, c3, c4, f0, f1, f2, f3, f4⟩ := hv.five
    obtain ⟨e0, e1, e2, e3, e4, _⟩ := (hv.put5 (.int .i64 0) (.int .i64 0) (.int .i64 0) (.int .i64 0) (.bool false)).five
    go_wp2
    exact bodyPost_ret (by simp [results, Tryd.results25, go_sem, e0, e1, e2, e3, e4]) rfl ⟨rfl, put5_below hb0 (by omega) _ _ _ _ _⟩
  | true =>
    rw [Bool.true_and] at h2
    have H2 := Lib.hid (fun w1 => rmay_c e f g h false h2 w1)
    clear h2
    go_enter Tryd.func25, Tryd.ntmps25
    go_wp2_with fail
    refine (H1.out _).mono ?_
    rintro e w1 ⟨rfl, hb1⟩
    replace hb0 := on hb0 hb1
    replace hv := hv.on hb1
    replace hz := hz.on hb1
    clear hb1
    obtain ⟨d0, d1, d2, d3, _⟩ := hz.four
    go_wp2_with fail
    refine (H2.out _).mono ?_
    rintro e w2 ⟨rfl, hb2⟩
    replace hb0 := on hb0 hb2
    replace hv := hv.on hb2
    clear hb2 d0 d1 d2 d3 hz
    obtain ⟨c0, c1, c2, c3, c4, f0, f1, f2, f3, f4⟩ := hv.five
    obtain ⟨e0, e1, e2, e3, e4, _⟩ := (hv.put5 (.int .i64 0) (.int .i64 0) (.int .i64 0) (.int .i64 0) (.bool false)).five
    go_wp2
    exact bodyPost_ret (by simp [results, Tryd.results25, go_sem, e0, e1, e2, e3, e4]) rfl ⟨rfl, put5_below hb0 (by omega) _ _ _ _ _⟩
/-- between two steps of the reference's meeting: what its three blocks hold -/
def RM (w : World) (R O S : Nat) (o s : List Value) (W : World) : Prop :=
  Below w.heap.size w W ∧ w.heap.size ≤ R ∧ w.heap.size ≤ O ∧ R ≠ O ∧ S ≠ O ∧ R ≠ S ∧ CellsAt W R [.int .i64 0, .int .i64 0, .int .i64 0, .int .i64 0, .bool false] ∧ CellsAt W O o ∧ CellsAt W S s
theorem RM.set {w W : World} {R O S : Nat} {o s : List Value} (h : RM w R O S o s W) {i : Nat} (hi : i < o.length) (x : Value) : RM w R O S (o.set i x) s (W.setCell ⟨O, i, none⟩ x) := by
  obtain ⟨h1, h2, h3, h4, h5, h6, h7, h8, h9⟩ := h
  exact ⟨h1.setCell (p := ⟨O, i, none⟩) h3 x, h2, h3, h4, h5, h6, h7.far (p := ⟨O, i, none⟩) h4.symm x, h8.set hi x, h9.far (p := ⟨O, i, none⟩) h5.symm x⟩
set_option maxRecDepth 100000 in
set_option maxHeartbeats 8000000 in
theorem rmeet_in (a b c d e f g h : Int) (h1 : mayS a b c d = true) (h2 : mayS e f g h = true) (x y z u : Int) (k : Bool) (hk : meetB a b c d e f g h = k)
    (hx : mlo k a c e g = x) (hy : mlo k b d f h = y) (hz : mhi k a c e g = z) (hu : mhi k b d f h = u) (w : World) :
    Calls Tryd.prog 25 #[.agg #[.int .i64 a, .int .i64 b, .int .i64 c, .int .i64 d], .agg #[.int .i64 e, .int .i64 f, .int .i64 g, .int .i64 h]] w (RMeetEnd x y z u k w) := by
  have hways := Lib.hid (meet_ways h1 h2)
  rw [hk] at hways
  have HX : Hid ((k = true → mx (lo true a c) (lo true e g) = x ∧ mx (lo true b d) (lo true f h) = y ∧ mn (hi true a c) (hi true e g) = z ∧ mn (hi true b d) (hi true f h) = u) ∧ (k = false → x = 0 ∧ y = 0 ∧ z = 0 ∧ u = 0)) := by
    refine Lib.hid ⟨?_, ?_⟩
    · intro e; subst e
      rw [mlo_mx] at hx hy
      rw [mhi_mn] at hz hu
      exact ⟨hx, hy, hz, hu⟩
    · intro e; subst e
      exact ⟨hx.symm, hy.symm, hz.symm, hu.symm⟩
  have H1 := Lib.hid (fun w1 => rmay_c a b c d true h1 w1)
  have H2 := Lib.hid (fun w1 => rmay_c e f g h true h2 w1)
  have H3 := Lib.hid (fun w1 => rstraight_in a b c d _ _ _ _ h1 rfl rfl rfl rfl w1)
  have H4 := Lib.hid (fun w1 => rstraight_in e f g h _ _ _ _ h2 rfl rfl rfl rfl w1)
  clear h1 h2 hk hx hy hz hu
  generalize lo true a c = P at *
  generalize lo true b d = Q at *
  generalize hi true a c = R at *
  generalize hi true b d = S at *
  generalize lo true e g = T at *
  generalize lo true f h = U at *
  generalize hi true e g = V at *
  generalize hi true f h = X at *
  have M1c := Lib.hid (mx_cases P T)
  have M2c := Lib.hid (mx_cases Q U)
  have M3c := Lib.hid (mn_cases R V)
  have M4c := Lib.hid (mn_cases S X)
  generalize mx P T = M1 at *
  generalize mx Q U = M2 at *
  generalize mn R V = M3 at *
  generalize mn S X = M4 at *
  have hb0 := below3 w (.cells #[.int .i64 a, .int .i64 b, .int .i64 c, .int .i64 d] 25) (.cells #[.int .i64 e, .int .i64 f, .int .i64 g, .int .i64 h] 25) (.cells #[.int .i64 0, .int .i64 0, .int .i64 0, .int .i64 0, .bool false] 41)
  obtain ⟨ha, hz, hv⟩ := boxes3 w [.int .i64 a, .int .i64 b, .int .i64 c, .int .i64 d] [.int .i64 e, .int .i64 f, .int .i64 g, .int .i64 h] [.int .i64 0, .int .i64 0, .int .i64 0, .int .i64 0, .bool false] 25 25 41
  go_enter Tryd.func25, Tryd.ntmps25
  go_wp2_with fail
  refine (H1.out _).mono ?_
  rintro e' w1 ⟨rfl, hb1⟩
  replace hb0 := on hb0 hb1
  replace ha := ha.on hb1
  replace hv := hv.on hb1
  replace hz := hz.on hb1
  clear hb1
  obtain ⟨d0, d1, d2, d3, _⟩ := hz.four
  go_wp2_with fail
  refine (H2.out _).mono ?_
  rintro e' w2 ⟨rfl, hb2⟩
  replace hb0 := on hb0 hb2
  replace ha := ha.on hb2
  replace hv := hv.on hb2
  replace hz := hz.on hb2
  clear hb2 d0 d1 d2 d3
  obtain ⟨c0, c1, c2, c3, _⟩ := ha.four
  go_wp2_with fail
  refine (H3.out _).mono ?_
  rintro e' w3 ⟨rfl, hb3⟩
  have hR := (hv.on hb3).1
  replace hb0 := on_alloc (on hb0 hb3) (.cells #[.int .i64 P, .int .i64 Q, .int .i64 R, .int .i64 S] 25)
  replace hv := (hv.on hb3).on_alloc (.cells #[.int .i64 P, .int .i64 Q, .int .i64 R, .int .i64 S] 25)
  replace hz := (hz.on hb3).on_alloc (.cells #[.int .i64 P, .int .i64 Q, .int .i64 R, .int .i64 S] 25)
  have ho := CellsAt.new w3 [.int .i64 P, .int .i64 Q, .int .i64 R, .int .i64 S] 25
  clear hb3 c0 c1 c2 c3
  obtain ⟨d0, d1, d2, d3, _⟩ := hz.four
  go_wp2_with fail
  refine (H4.out _).mono ?_
  rintro e' w4 ⟨rfl, hb4⟩
  have hO := (ho.on hb4).1
  have hM : RM w (w.heap.size + 1 + 1) w3.heap.size w4.heap.size [.int .i64 P, .int .i64 Q, .int .i64 R, .int .i64 S] [.int .i64 T, .int .i64 U, .int .i64 V, .int .i64 X] (w4.alloc (.cells #[.int .i64 T, .int .i64 U, .int .i64 V, .int .i64 X] 25)) :=
    ⟨on_alloc (on hb0 hb4) _, by omega, by omega, by omega, by omega, by omega, (hv.on hb4).on_alloc _, (ho.on hb4).on_alloc _, CellsAt.new w4 [.int .i64 T, .int .i64 U, .int .i64 V, .int .i64 X] 25⟩
  clear hb0 hb4 hv hz ho ha d0 d1 d2 d3 hR H1 H2 H3 H4
  obtain ⟨s0, s1, s2, s3, _⟩ := hM.2.2.2.2.2.2.2.2.four
  obtain ⟨o0, o1, o2, o3, f0, f1, f2, f3⟩ := hM.2.2.2.2.2.2.2.1.four
  go_upto_if 26 with fail
  generalize w4.alloc (.cells #[.int .i64 T, .int .i64 U, .int .i64 V, .int .i64 X] 25) = W at *
  generalize w4.heap.size = SB at *
  generalize w3.heap.size = OB at *
  go_cut [] (fun wx => RM w (w.heap.size + 1 + 1) OB SB [.int .i64 M1, .int .i64 Q, .int .i64 R, .int .i64 S] [.int .i64 T, .int .i64 U, .int .i64 V, .int .i64 X] wx)
  case first =>
    rcases M1c.out with ⟨h, rfl⟩ | ⟨h, rfl⟩
    · go_wp2_with fail
      go_meet
      exact hM.set (i := 0) (by simp) _
    · have hd : decide (M1 < T) = false := by simpa using h
      go_wp2_with fail
      go_meet
      exact hM
  case rest =>
    clear s0 s1 s2 s3 o0 o1 o2 o3 f0 f1 f2 f3
    replace hM := hcut
    clear hcut
    obtain ⟨s0, s1, s2, s3, _⟩ := hM.2.2.2.2.2.2.2.2.four
    obtain ⟨o0, o1, o2, o3, f0, f1, f2, f3⟩ := hM.2.2.2.2.2.2.2.1.four
    go_upto_if 38 with fail
    go_cut [] (fun wx => RM w (w.heap.size + 1 + 1) OB SB [.int .i64 M1, .int .i64 M2, .int .i64 R, .int .i64 S] [.int .i64 T, .int .i64 U, .int .i64 V, .int .i64 X] wx)
    case first =>
      rcases M2c.out with ⟨h, rfl⟩ | ⟨h, rfl⟩
      · go_wp2_with fail
        go_meet
        exact hM.set (i := 1) (by simp) _
      · have hd : decide (M2 < U) = false := by simpa using h
        go_wp2_with fail
        go_meet
        exact hM
    case rest =>
      clear s0 s1 s2 s3 o0 o1 o2 o3 f0 f1 f2 f3
      replace hM := hcut
      clear hcut
      obtain ⟨s0, s1, s2, s3, _⟩ := hM.2.2.2.2.2.2.2.2.four
      obtain ⟨o0, o1, o2, o3, f0, f1, f2, f3⟩ := hM.2.2.2.2.2.2.2.1.four
      go_upto_if 50 with fail
      go_cut [] (fun wx => RM w (w.heap.size + 1 + 1) OB SB [.int .i64 M1, .int .i64 M2, .int .i64 M3, .int .i64 S] [.int .i64 T, .int .i64 U, .int .i64 V, .int .i64 X] wx)
      case first =>
        rcases M3c.out with ⟨h, rfl⟩ | ⟨h, rfl⟩
        · go_wp2_with fail
          go_meet
          exact hM.set (i := 2) (by simp) _
        · have hd : decide (V < M3) = false := by simpa using h
          go_wp2_with fail
          go_meet
          exact hM
      case rest =>
        clear s0 s1 s2 s3 o0 o1 o2 o3 f0 f1 f2 f3
        replace hM := hcut
        clear hcut
        obtain ⟨s0, s1, s2, s3, _⟩ := hM.2.2.2.2.2.2.2.2.four
        obtain ⟨o0, o1, o2, o3, f0, f1, f2, f3⟩ := hM.2.2.2.2.2.2.2.1.four
        go_upto_if 62 with fail
        go_cut [] (fun wx => RM w (w.heap.size + 1 + 1) OB SB [.int .i64 M1, .int .i64 M2, .int .i64 M3, .int .i64 M4] [.int .i64 T, .int .i64 U, .int .i64 V, .int .i64 X] wx)
        case first =>
          rcases M4c.out with ⟨h, rfl⟩ | ⟨h, rfl⟩
          · go_wp2_with fail
            go_meet
            exact hM.set (i := 3) (by simp) _
          · have hd : decide (X < M4) = false := by simpa using h
            go_wp2_with fail
            go_meet
            exact hM
        case rest =>
          clear s0 s1 s2 s3 o0 o1 o2 o3 f0 f1 f2 f3
          replace hM := hcut
          clear hcut
          obtain ⟨hb0, hR, _, _, _, _, hv, ho, _⟩ := hM
          obtain ⟨o0, o1, o2, o3, _⟩ := ho.four
          obtain ⟨c0, c1, c2, c3, c4, f0, f1, f2, f3, f4⟩ := hv.five
          rcases hways.out with ⟨rfl, hr⟩ | ⟨rfl, hr, hc⟩ | ⟨rfl, hr, hc⟩
          · obtain ⟨rfl, rfl, rfl, rfl⟩ := HX.out.2 rfl
            obtain ⟨e0, e1, e2, e3, e4, _⟩ := (hv.put5 (.int .i64 0) (.int .i64 0) (.int .i64 0) (.int .i64 0) (.bool false)).five
            clear HX hways hv ho M1c M2c M3c M4c
            go_wp2
            exact bodyPost_ret (by simp [results, Tryd.results25, go_sem, e0, e1, e2, e3, e4]) rfl ⟨rfl, put5_below hb0 hR _ _ _ _ _⟩
          · obtain ⟨rfl, rfl, rfl, rfl⟩ := HX.out.2 rfl
            obtain ⟨e0, e1, e2, e3, e4, _⟩ := (hv.put5 (.int .i64 0) (.int .i64 0) (.int .i64 0) (.int .i64 0) (.bool false)).five
            have d1' : decide (M3 < M1) = false := by simpa using hr
            clear HX hways hv ho M1c M2c M3c M4c
            go_wp2
            exact bodyPost_ret (by simp [results, Tryd.results25, go_sem, e0, e1, e2, e3, e4]) rfl ⟨rfl, put5_below hb0 hR _ _ _ _ _⟩
          · obtain ⟨rfl, rfl, rfl, rfl⟩ := HX.out.1 rfl
            obtain ⟨e0, e1, e2, e3, e4, _⟩ := (hv.put5 (.int .i64 M1) (.int .i64 M2) (.int .i64 M3) (.int .i64 M4) (.bool true)).five
            have d1' : decide (M3 < M1) = false := by simpa using hr
            have d2' : decide (M4 < M2) = false := by simpa using hc
            clear HX hways hv ho M1c M2c M3c M4c
            go_wp2
            exact bodyPost_ret (by simp [results, Tryd.results25, go_sem, e0, e1, e2, e3, e4]) rfl ⟨rfl, put5_below hb0 hR _ _ _ _ _⟩
theorem rmeet_c (a b c d e f g h : Int) (x y z u : Int) (k : Bool) (hk : meetB a b c d e f g h = k)
    (hx : mlo k a c e g = x) (hy : mlo k b d f h = y) (hz : mhi k a c e g = z) (hu : mhi k b d f h = u) (w : World) :
    Calls Tryd.prog 25 #[.agg #[.int .i64 a, .int .i64 b, .int .i64 c, .int .i64 d], .agg #[.int .i64 e, .int .i64 f, .int .i64 g, .int .i64 h]] w (RMeetEnd x y z u k w) := by
  cases h1 : mayS a b c d with
  | false =>
    have hk0 : k = false := by rw [← hk]; unfold meetB; rw [h1]; simp
    subst hk0 hx hy hz hu
    exact rmeet_none a b c d e f g h false h1 rfl w
  | true =>
    cases h2 : mayS e f g h with
    | false =>
      have hk0 : k = false := by rw [← hk]; unfold meetB; rw [h1, h2]; simp
      subst hk0 hx hy hz hu
      exact rmeet_none a b c d e f g h true h1 (by rw [h2]; rfl) w
    | true => exact rmeet_in a b c d e f g h h1 h2 x y z u k hk hx hy hz hu w
end Go.Proofs.YtkebapdbibdheaaDoor.Span

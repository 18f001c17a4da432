/- The meeting of two spans, whether one is within the other, and whether a cell is in one, by the program: every span, every cell. -/
import Derived.Test.YtedpgcmmnmlpeaaSpanLeaf
namespace Go.Proofs.Ytedpgcmmnmlpeaa.Span
open Go.RowKit Kit Reg Go.Proofs.Ytedpgcmmnmlpeaa.Addr

/-- the three ways of a meeting: apart in rows, apart in columns, or met -/
theorem meet_ways {a b c d e f g h : Int} (h1 : mayS a b c d = true) (h2 : mayS e f g h = true) :
    (meetB a b c d e f g h = false ∧ mn (hi true a c) (hi true e g) < mx (lo true a c) (lo true e g)) ∨
    (meetB a b c d e f g h = false ∧ mx (lo true a c) (lo true e g) ≤ mn (hi true a c) (hi true e g) ∧ mn (hi true b d) (hi true f h) < mx (lo true b d) (lo true f h)) ∨
    (meetB a b c d e f g h = true ∧ mx (lo true a c) (lo true e g) ≤ mn (hi true a c) (hi true e g) ∧ mx (lo true b d) (lo true f h) ≤ mn (hi true b d) (hi true f h)) := by
  have hm := meetB_iff (a := a) (b := b) (c := c) (d := d) (e := e) (f := f) (g := g) (h := h)
  simp only [h1, h2, true_and] at hm
  obtain ⟨_, _, _, _, p5, p6⟩ := lo_range h1
  obtain ⟨_, _, _, _, q5, q6⟩ := lo_range h2
  generalize lo true a c = P at *
  generalize lo true b d = Q at *
  generalize hi true a c = R at *
  generalize hi true b d = S at *
  generalize lo true e g = T at *
  generalize lo true f h = U at *
  generalize hi true e g = V at *
  generalize hi true f h = X at *
  have m1 : mn R V < mx P T ↔ ¬ (P ≤ V ∧ T ≤ R) := by unfold mn mx; split <;> split <;> omega
  have m2 : mn S X < mx Q U ↔ ¬ (Q ≤ X ∧ U ≤ S) := by unfold mn mx; split <;> split <;> omega
  by_cases k1 : mn R V < mx P T
  · refine .inl ⟨?_, k1⟩
    have := m1.1 k1
    rw [Bool.eq_false_iff]
    intro hh
    have := hm.1 hh
    omega
  · by_cases k2 : mn S X < mx Q U
    · refine .inr (.inl ⟨?_, by omega, k2⟩)
      have := m2.1 k2
      rw [Bool.eq_false_iff]
      intro hh
      have := hm.1 hh
      omega
    · exact .inr (.inr ⟨hm.2 (by omega), by omega, by omega⟩)
theorem mlo_mx (a c e g : Int) : mlo true a c e g = mx (lo true a c) (lo true e g) := by simp only [mlo, mx, if_true]; split <;> split <;> omega
theorem mhi_mn (a c e g : Int) : mhi true a c e g = mn (hi true a c) (hi true e g) := by simp only [mhi, mn, if_true]; split <;> split <;> omega
/-- what a meeting answers -/
def MeetEnd (x y z u : Int) (k : Bool) (w : World) (e : Ending) (w' : World) : Prop := e = .returned (.tuple #[.agg #[.int .i64 x, .int .i64 y, .int .i64 z, .int .i64 u], .bool k]) ∧ Below w.heap.size w w'
/-- three boxes of four cells -/
theorem boxes3 (w : World) (A B C : List Value) (t t' t'' : TypeId) : CellsAt (((w.alloc (.cells A.toArray t)).alloc (.cells B.toArray t')).alloc (.cells C.toArray t'')) w.heap.size A ∧
    CellsAt (((w.alloc (.cells A.toArray t)).alloc (.cells B.toArray t')).alloc (.cells C.toArray t'')) (w.heap.size + 1) B ∧
    CellsAt (((w.alloc (.cells A.toArray t)).alloc (.cells B.toArray t')).alloc (.cells C.toArray t'')) (w.heap.size + 1 + 1) C := by
  refine ⟨((CellsAt.new w A t).on_alloc _).on_alloc _, ?_, ?_⟩
  · have := (CellsAt.new (w.alloc (.cells A.toArray t)) B t').on_alloc (.cells C.toArray t'')
    rwa [show (w.alloc (.cells A.toArray t)).heap.size = w.heap.size + 1 by simp] at this
  · have := CellsAt.new ((w.alloc (.cells A.toArray t)).alloc (.cells B.toArray t')) C t''
    rwa [show ((w.alloc (.cells A.toArray t)).alloc (.cells B.toArray t')).heap.size = w.heap.size + 1 + 1 by simp] at this
set_option maxRecDepth 100000 in
set_option maxHeartbeats 2000000 in
theorem meet_none (a b c d e f g h : Int) (m : Bool) (h1 : mayS a b c d = m) (h2 : (m && mayS e f g h) = false) (w : World) :
    Calls Try.prog 38 #[.agg #[.int .i64 a, .int .i64 b, .int .i64 c, .int .i64 d], .agg #[.int .i64 e, .int .i64 f, .int .i64 g, .int .i64 h]] w (MeetEnd 0 0 0 0 false w) := by
  have H1 := Lib.hid (fun w1 => may_c a b c d m h1 w1)
  clear h1
  have hb0 := below3 w (.cells #[.int .i64 a, .int .i64 b, .int .i64 c, .int .i64 d] 26) (.cells #[.int .i64 e, .int .i64 f, .int .i64 g, .int .i64 h] 26) (.cells #[.int .i64 0, .int .i64 0, .int .i64 0, .int .i64 0] 26)
  obtain ⟨_, hz, hv⟩ := boxes3 w [.int .i64 a, .int .i64 b, .int .i64 c, .int .i64 d] [.int .i64 e, .int .i64 f, .int .i64 g, .int .i64 h] [.int .i64 0, .int .i64 0, .int .i64 0, .int .i64 0] 26 26 26
  cases m with
  | false =>
    clear h2 hz
    go_enter Try.func38, Try.ntmps38
    go_wp2_with fail
    refine (H1.out _).mono ?_
    rintro e w1 ⟨rfl, hb1⟩
    replace hb0 := on hb0 hb1
    replace hv := hv.on hb1
    clear hb1
    obtain ⟨c0, c1, c2, c3, f0, f1, f2, f3⟩ := hv.four
    obtain ⟨e0, e1, e2, e3, _⟩ := (hv.put4 (.int .i64 0) (.int .i64 0) (.int .i64 0) (.int .i64 0)).four
    go_wp2
    exact bodyPost_ret (by simp [results, Try.results38, go_sem, e0, e1, e2, e3]) rfl ⟨rfl, put4_below hb0 (by omega) _ _ _ _⟩
  | true =>
    rw [Bool.true_and] at h2
    have H2 := Lib.hid (fun w1 => may_c e f g h false h2 w1)
    clear h2
    go_enter Try.func38, Try.ntmps38
    go_wp2_with fail
    refine (H1.out _).mono ?_
    rintro e w1 ⟨rfl, hb1⟩
    replace hb0 := on hb0 hb1
    replace hv := hv.on hb1
    replace hz := hz.on hb1
    clear hb1
    obtain ⟨d0, d1, d2, d3, _⟩ := hz.four
    go_wp2_with fail
    refine (H2.out _).mono ?_
    rintro e w2 ⟨rfl, hb2⟩
    replace hb0 := on hb0 hb2
    replace hv := hv.on hb2
    clear hb2 d0 d1 d2 d3 hz
    obtain ⟨c0, c1, c2, c3, f0, f1, f2, f3⟩ := hv.four
    obtain ⟨e0, e1, e2, e3, _⟩ := (hv.put4 (.int .i64 0) (.int .i64 0) (.int .i64 0) (.int .i64 0)).four
    go_wp2
    exact bodyPost_ret (by simp [results, Try.results38, go_sem, e0, e1, e2, e3]) rfl ⟨rfl, put4_below hb0 (by omega) _ _ _ _⟩
set_option maxRecDepth 100000 in
set_option maxHeartbeats 4000000 in
theorem meet_in (a b c d e f g h : Int) (h1 : mayS a b c d = true) (h2 : mayS e f g h = true) (x y z u : Int) (k : Bool) (hk : meetB a b c d e f g h = k)
    (hx : mlo k a c e g = x) (hy : mlo k b d f h = y) (hz : mhi k a c e g = z) (hu : mhi k b d f h = u) (w : World) :
    Calls Try.prog 38 #[.agg #[.int .i64 a, .int .i64 b, .int .i64 c, .int .i64 d], .agg #[.int .i64 e, .int .i64 f, .int .i64 g, .int .i64 h]] w (MeetEnd x y z u k w) := by
  have hways := Lib.hid (meet_ways h1 h2)
  rw [hk] at hways
  have HX : Hid ((k = true → mx (lo true a c) (lo true e g) = x ∧ mx (lo true b d) (lo true f h) = y ∧ mn (hi true a c) (hi true e g) = z ∧ mn (hi true b d) (hi true f h) = u) ∧ (k = false → x = 0 ∧ y = 0 ∧ z = 0 ∧ u = 0)) := by
    refine Lib.hid ⟨?_, ?_⟩
    · intro e; subst e
      rw [mlo_mx] at hx hy
      rw [mhi_mn] at hz hu
      exact ⟨hx, hy, hz, hu⟩
    · intro e; subst e
      exact ⟨hx.symm, hy.symm, hz.symm, hu.symm⟩
  have H1 := Lib.hid (fun w1 => may_c a b c d true h1 w1)
  have H2 := Lib.hid (fun w1 => may_c e f g h true h2 w1)
  have H3 := Lib.hid (fun w1 => straight_in a b c d _ _ _ _ h1 rfl rfl rfl rfl w1)
  have H4 := Lib.hid (fun w1 => straight_in e f g h _ _ _ _ h2 rfl rfl rfl rfl w1)
  clear h1 h2 hk hx hy hz hu
  generalize lo true a c = P at *
  generalize lo true b d = Q at *
  generalize hi true a c = R at *
  generalize hi true b d = S at *
  generalize lo true e g = T at *
  generalize lo true f h = U at *
  generalize hi true e g = V at *
  generalize hi true f h = X at *
  have H5 := Lib.hid (fun w1 => greatest_c P Q T U _ _ rfl rfl w1)
  have H6 := Lib.hid (fun w1 => least_c R S V X _ _ rfl rfl w1)
  generalize mx P T = M1 at *
  generalize mx Q U = M2 at *
  generalize mn R V = M3 at *
  generalize mn S X = M4 at *
  have hb0 := below3 w (.cells #[.int .i64 a, .int .i64 b, .int .i64 c, .int .i64 d] 26) (.cells #[.int .i64 e, .int .i64 f, .int .i64 g, .int .i64 h] 26) (.cells #[.int .i64 0, .int .i64 0, .int .i64 0, .int .i64 0] 26)
  obtain ⟨ha, hz, hv⟩ := boxes3 w [.int .i64 a, .int .i64 b, .int .i64 c, .int .i64 d] [.int .i64 e, .int .i64 f, .int .i64 g, .int .i64 h] [.int .i64 0, .int .i64 0, .int .i64 0, .int .i64 0] 26 26 26
  go_enter Try.func38, Try.ntmps38
  go_wp2_with fail
  refine (H1.out _).mono ?_
  rintro e' w1 ⟨rfl, hb1⟩
  replace hb0 := on hb0 hb1
  replace ha := ha.on hb1
  replace hv := hv.on hb1
  replace hz := hz.on hb1
  clear hb1
  obtain ⟨d0, d1, d2, d3, _⟩ := hz.four
  go_wp2_with fail
  refine (H2.out _).mono ?_
  rintro e' w2 ⟨rfl, hb2⟩
  replace hb0 := on hb0 hb2
  replace ha := ha.on hb2
  replace hv := hv.on hb2
  replace hz := hz.on hb2
  clear hb2 d0 d1 d2 d3
  obtain ⟨c0, c1, c2, c3, _⟩ := ha.four
  obtain ⟨d0, d1, d2, d3, _⟩ := hz.four
  have C0 := fun d os => cell_regrown c0 d os
  have C1 := fun d os => cell_regrown c1 d os
  have C2 := fun d os => cell_regrown c2 d os
  have C3 := fun d os => cell_regrown c3 d os
  have D0 := fun d os => cell_regrown d0 d os
  have D1 := fun d os => cell_regrown d1 d os
  have D2 := fun d os => cell_regrown d2 d os
  have D3 := fun d os => cell_regrown d3 d os
  clear c0 c1 c2 c3 d0 d1 d2 d3
  go_wp2_with fail
  refine wp_region_mem 4 (fun d => match d with
    | 18 => some (Is (.agg #[.int .i64 P, .int .i64 Q, .int .i64 R, .int .i64 S]))
    | 20 => some (Is (.agg #[.int .i64 T, .int .i64 U, .int .i64 V, .int .i64 X]))
    | _ => none) (by kernel_rfl) (by kernel_rfl) ?_
  simp only [List.take_succ_cons, List.take_zero, List.drop_succ_cons, List.drop_zero]
  repeat (first | (refine wpM_calm rfl rfl rfl ?_; intro K hK; go_big_quiet_op; go_big_quiet_on) | (refine wpM_skip rfl ?_; simp only [Act.put, List.setIfInBounds_toArray, List.set_cons_succ, List.set_cons_zero]))
  refine wpM_exact rfl rfl rfl Try.func33 (by kernel_rfl) (by kernel_rfl) (fun w1 _ _ => H3.out w1) rfl (by simp only [Act.put, List.setIfInBounds_toArray, List.set_cons_succ, List.set_cons_zero]; rfl) ?_
  repeat (first | (refine wpM_calm rfl rfl rfl ?_; intro K hK; go_big_quiet_op; go_big_quiet_on) | (refine wpM_skip rfl ?_; simp only [Act.put, List.setIfInBounds_toArray, List.set_cons_succ, List.set_cons_zero]))
  refine wpM_exact rfl rfl rfl Try.func33 (by kernel_rfl) (by kernel_rfl) (fun w1 _ _ => H4.out w1) rfl (by simp only [Act.put, List.setIfInBounds_toArray, List.set_cons_succ, List.set_cons_zero]; rfl) ?_
  refine wpM_nil ?_
  intro w3 hb3 _
  replace hb0 := on hb0 hb3
  replace ha := ha.on hb3
  replace hv := hv.on hb3
  replace hz := hz.on hb3
  clear hb3 C0 C1 C2 C3 D0 D1 D2 D3
  obtain ⟨c0, c1, c2, c3, f0, f1, f2, f3⟩ := ha.four
  obtain ⟨d0, d1, d2, d3, g0, g1, g2, g3⟩ := (hz.put4_far (c := w.heap.size) (by omega) (.int .i64 P) (.int .i64 Q) (.int .i64 R) (.int .i64 S)).four
  go_wp2_with fail
  clear c0 c1 c2 c3 f0 f1 f2 f3 d0 d1 d2 d3 g0 g1 g2 g3
  replace hb0 := put4_below (put4_below hb0 (Nat.le_refl _) (.int .i64 P) (.int .i64 Q) (.int .i64 R) (.int .i64 S)) (b := w.heap.size + 1) (by omega) (.int .i64 T) (.int .i64 U) (.int .i64 V) (.int .i64 X)
  replace hv := (hv.put4_far (c := w.heap.size) (by omega) (.int .i64 P) (.int .i64 Q) (.int .i64 R) (.int .i64 S)).put4_far (c := w.heap.size + 1) (by omega) (.int .i64 T) (.int .i64 U) (.int .i64 V) (.int .i64 X)
  replace hz := (hz.put4_far (c := w.heap.size) (by omega) (.int .i64 P) (.int .i64 Q) (.int .i64 R) (.int .i64 S)).put4 (.int .i64 T) (.int .i64 U) (.int .i64 V) (.int .i64 X)
  replace ha := (ha.put4 (.int .i64 P) (.int .i64 Q) (.int .i64 R) (.int .i64 S)).put4_far (c := w.heap.size + 1) (by omega) (.int .i64 T) (.int .i64 U) (.int .i64 V) (.int .i64 X)
  simp only [put4] at hb0 hv hz ha
  generalize ((((((((w3.setCell ⟨w.heap.size, 0, none⟩ (.int .i64 P)).setCell ⟨w.heap.size, 1, none⟩ (.int .i64 Q)).setCell ⟨w.heap.size, 2, none⟩ (.int .i64 R)).setCell ⟨w.heap.size, 3, none⟩ (.int .i64 S)).setCell
    ⟨w.heap.size + 1, 0, none⟩ (.int .i64 T)).setCell ⟨w.heap.size + 1, 1, none⟩ (.int .i64 U)).setCell ⟨w.heap.size + 1, 2, none⟩ (.int .i64 V)).setCell ⟨w.heap.size + 1, 3, none⟩ (.int .i64 X)) = W at *
  obtain ⟨c0, c1, c2, c3, _⟩ := ha.four
  obtain ⟨d0, d1, d2, d3, _⟩ := hz.four
  have C0 := fun d os => cell_regrown c0 d os
  have C1 := fun d os => cell_regrown c1 d os
  have C2 := fun d os => cell_regrown c2 d os
  have C3 := fun d os => cell_regrown c3 d os
  have D0 := fun d os => cell_regrown d0 d os
  have D1 := fun d os => cell_regrown d1 d os
  have D2 := fun d os => cell_regrown d2 d os
  have D3 := fun d os => cell_regrown d3 d os
  clear c0 c1 c2 c3 d0 d1 d2 d3
  refine wp_region_new 12 (fun d => match d with
    | 25 => some (Is (.agg #[.int .i64 M1, .int .i64 M2]))
    | 30 => some (Is (.agg #[.int .i64 M3, .int .i64 M4]))
    | 6 => some (NewCells W.heap.size [.int .i64 0, .int .i64 0])
    | 7 => some (NewCells W.heap.size [.int .i64 0, .int .i64 0])
    | _ => none) (fun d => d == 6 || d == 7) (by kernel_rfl) (by kernel_rfl) ?_
  simp only [List.take_succ_cons, List.take_zero, List.drop_succ_cons, List.drop_zero]
  repeat (first | (refine wpM_calm rfl rfl rfl ?_; intro K hK; go_big_quiet_op; go_big_quiet_on) | (refine wpM_skip rfl ?_; simp only [Act.put, List.setIfInBounds_toArray, List.set_cons_succ, List.set_cons_zero]))
  refine wpM_exact rfl rfl rfl Try.func41 (by kernel_rfl) (by kernel_rfl) (fun w1 _ _ => H5.out w1) rfl (by simp only [Act.put, List.setIfInBounds_toArray, List.set_cons_succ, List.set_cons_zero]; rfl) ?_
  repeat (first | (refine wpM_calm rfl rfl rfl ?_; intro K hK; go_big_quiet_op; go_big_quiet_on) | (refine wpM_skip rfl ?_; simp only [Act.put, List.setIfInBounds_toArray, List.set_cons_succ, List.set_cons_zero]))
  refine wpM_exact rfl rfl rfl Try.func40 (by kernel_rfl) (by kernel_rfl) (fun w1 _ _ => H6.out w1) rfl (by simp only [Act.put, List.setIfInBounds_toArray, List.set_cons_succ, List.set_cons_zero]; rfl) ?_
  refine wpM_alloc _ (.cells #[.int .i64 0, .int .i64 0] 24) rfl rfl rfl (fun w1 => by simp [go_sem]) (fun w1 h1 => (NewCells.mk w1 _ _ h1.size).2) ?_ (by rintro v ⟨_, b, rfl, _⟩; exact ⟨b, rfl⟩)
  intro b6 a' ha'
  simp only [Act.put, List.setIfInBounds_toArray, List.set_cons_succ, List.set_cons_zero] at ha'
  subst ha'
  refine wpM_alloc _ (.cells #[.int .i64 0, .int .i64 0] 24) rfl rfl rfl (fun w1 => by simp [go_sem]) (fun w1 h1 => (NewCells.mk w1 _ _ h1.size).2) ?_ (by rintro v ⟨_, b, rfl, _⟩; exact ⟨b, rfl⟩)
  intro b7 a' ha'
  simp only [Act.put, List.setIfInBounds_toArray, List.set_cons_succ, List.set_cons_zero] at ha'
  subst ha'
  refine wpM_nil ?_
  intro w4 hb4 hG
  have hne : b6 ≠ b7 := hG.2.1 10 b6 11 b7 (.inl (.inr ⟨rfl, rfl⟩)) (.inr ⟨rfl, rfl⟩) (by decide)
  obtain ⟨hB7, k7⟩ := NewCells.at (Fct.put_at (hG.2.2.1 11))
  obtain ⟨hB6, k6⟩ := NewCells.at (Fct.put_at (Fct.put_old (hG.2.2.1 10)))
  clear hG C0 C1 C2 C3 D0 D1 D2 D3 ha hz
  have hv1 := hv.1
  replace hb0 := on hb0 hb4
  replace hv := ((hv.on hb4).put2_far (c := b6) (by omega) (.int .i64 M1) (.int .i64 M2)).put2_far (c := b7) (by omega) (.int .i64 M3) (.int .i64 M4)
  obtain ⟨c0, c1, f0, f1⟩ := k6.two
  obtain ⟨d0, d1, g0, g1⟩ := (k7.put2_far hne (.int .i64 M1) (.int .i64 M2)).two
  obtain ⟨s0, s1, _, _⟩ := ((k6.put2 (.int .i64 M1) (.int .i64 M2)).put2_far hne.symm (.int .i64 M3) (.int .i64 M4)).two
  obtain ⟨t0, t1, _, _⟩ := ((k7.put2_far hne (.int .i64 M1) (.int .i64 M2)).put2 (.int .i64 M3) (.int .i64 M4)).two
  replace hb0 : Below w.heap.size w (put2 (put2 w4 b6 (.int .i64 M1) (.int .i64 M2)) b7 (.int .i64 M3) (.int .i64 M4)) := set2 (set2 hb0 (by omega) _ _) (by omega) _ _
  obtain ⟨v0, v1, v2, v3, o0, o1, o2, o3⟩ := hv.four
  clear k6 k7
  rcases hways.out with ⟨rfl, hr⟩ | ⟨rfl, hr, hc⟩ | ⟨rfl, hr, hc⟩
  · obtain ⟨rfl, rfl, rfl, rfl⟩ := HX.out.2 rfl
    obtain ⟨e0, e1, e2, e3, _⟩ := (hv.put4 (.int .i64 0) (.int .i64 0) (.int .i64 0) (.int .i64 0)).four
    clear HX hways hv
    go_wp2
    exact bodyPost_ret (by simp [results, Try.results38, go_sem, e0, e1, e2, e3]) rfl ⟨rfl, put4_below hb0 (by omega) _ _ _ _⟩
  · obtain ⟨rfl, rfl, rfl, rfl⟩ := HX.out.2 rfl
    obtain ⟨e0, e1, e2, e3, _⟩ := (hv.put4 (.int .i64 0) (.int .i64 0) (.int .i64 0) (.int .i64 0)).four
    have d1' : decide (M3 < M1) = false := by simpa using hr
    clear HX hways hv
    go_wp2
    exact bodyPost_ret (by simp [results, Try.results38, go_sem, e0, e1, e2, e3]) rfl ⟨rfl, put4_below hb0 (by omega) _ _ _ _⟩
  · obtain ⟨rfl, rfl, rfl, rfl⟩ := HX.out.1 rfl
    obtain ⟨e0, e1, e2, e3, _⟩ := (hv.put4 (.int .i64 M1) (.int .i64 M2) (.int .i64 M3) (.int .i64 M4)).four
    have d1' : decide (M3 < M1) = false := by simpa using hr
    have d2' : decide (M4 < M2) = false := by simpa using hc
    clear HX hways hv
    go_wp2
    exact bodyPost_ret (by simp [results, Try.results38, go_sem, e0, e1, e2, e3]) rfl ⟨rfl, put4_below hb0 (by omega) _ _ _ _⟩
end Go.Proofs.Ytedpgcmmnmlpeaa.Span

/- What the program's and the reference's small functions on spans answer: for every span.
   How many rows, columns and cells a span has, and the meeting of two, by the program: every span.
   The meeting of two spans, whether one is within the other, and whether a cell is in one, by the program: every span, every cell.
   Whether a span is within another one, and whether a cell is in one, by the program: every span, every cell.
   What the reference's small functions on spans answer: every span, every cell. -/
import Derived.Test.YtmlmanlcomfhbaaGreatDoorGa
import Derived.Test.YtmlmanlcomfhbaaGreatDoorGf
namespace Go.Proofs.YtmlmanlcomfhbaaGreatDoor.Span
open Go.RowKit Kit Reg Go.Proofs.YtmlmanlcomfhbaaGreatDoor.Addr

set_option maxRecDepth 100000 in
set_option maxHeartbeats 1000000 in
theorem may_c (a b c d : Int) (m : Bool) (hm : mayS a b c d = m) (w : World) : Calls Tryz.prog 46 #[.agg #[.int .i64 a, .int .i64 b, .int .i64 c, .int .i64 d]] w fun e w' => e = .returned (.bool m) ∧ Below w.heap.size w w' := by
  unfold mayS at hm
  cases h1 : mayB a b with
  | false =>
    rw [h1, Bool.false_and] at hm
    subst hm
    have H1 := Lib.hid (fun w1 => Addr.may_c a b false h1 w1)
    clear h1
    go_enter Tryz.func46, Tryz.ntmps46
    go_wp2_with fail
    refine (H1.out _).mono ?_
    rintro e w1 ⟨rfl, hb⟩
    have hb0 := on (below1 w _) hb
    go_wp2
    go_ret
    exact ⟨rfl, hb0⟩
  | true =>
    rw [h1, Bool.true_and] at hm
    have H1 := Lib.hid (fun w1 => Addr.may_c a b true h1 w1)
    have H2 := Lib.hid (fun w1 => Addr.may_c c d m hm w1)
    clear h1 hm
    go_enter Tryz.func46, Tryz.ntmps46
    go_wp2_with fail
    refine (H1.out _).mono ?_
    rintro e w1 ⟨rfl, hb⟩
    obtain ⟨hc, hb0⟩ := slot (w := w) (cs := [.int .i64 a, .int .i64 b, .int .i64 c, .int .i64 d]) hb
    obtain ⟨_, _, c2, c3, _⟩ := hc.four
    clear hc hb
    go_wp2_with fail
    refine (H2.out _).mono ?_
    rintro e w2 ⟨rfl, hb⟩
    replace hb0 := on hb0 hb
    go_wp2
    go_ret
    exact ⟨rfl, hb0⟩
set_option maxRecDepth 100000 in
set_option maxHeartbeats 1000000 in
theorem rmay_c (a b c d : Int) (m : Bool) (hm : mayS a b c d = m) (w : World) : Calls Tryz.prog 40 #[.agg #[.int .i64 a, .int .i64 b, .int .i64 c, .int .i64 d]] w fun e w' => e = .returned (.bool m) ∧ Below w.heap.size w w' := by
  unfold mayS at hm
  cases h1 : mayB a b with
  | false =>
    rw [h1, Bool.false_and] at hm
    subst hm
    have H1 := Lib.hid (fun w1 => Addr.rmay_c a b false h1 w1)
    clear h1
    go_enter Tryz.func40, Tryz.ntmps40
    go_wp2_with fail
    refine (H1.out _).mono ?_
    rintro e w1 ⟨rfl, hb⟩
    have hb0 := on (below1 w _) hb
    go_wp2
    go_ret
    exact ⟨rfl, hb0⟩
  | true =>
    rw [h1, Bool.true_and] at hm
    have H1 := Lib.hid (fun w1 => Addr.rmay_c a b true h1 w1)
    have H2 := Lib.hid (fun w1 => Addr.rmay_c c d m hm w1)
    clear h1 hm
    go_enter Tryz.func40, Tryz.ntmps40
    go_wp2_with fail
    refine (H1.out _).mono ?_
    rintro e w1 ⟨rfl, hb⟩
    obtain ⟨hc, hb0⟩ := slot (w := w) (cs := [.int .i64 a, .int .i64 b, .int .i64 c, .int .i64 d]) hb
    obtain ⟨_, _, c2, c3, _⟩ := hc.four
    clear hc hb
    go_wp2_with fail
    refine (H2.out _).mono ?_
    rintro e w2 ⟨rfl, hb⟩
    replace hb0 := on hb0 hb
    go_wp2
    go_ret
    exact ⟨rfl, hb0⟩

/-- the lesser, and the greater, as the program takes them -/
def mn (a c : Int) : Int := if c < a then c else a
def mx (a c : Int) : Int := if a < c then c else a
theorem lo_mn (a c : Int) : lo true a c = mn a c := by simp only [lo, mn, if_true]; split <;> split <;> omega
theorem hi_mx (a c : Int) : hi true a c = mx a c := by simp only [hi, mx, if_true]; split <;> split <;> omega
theorem mn_cases (a c : Int) : (c < a ∧ mn a c = c) ∨ (a ≤ c ∧ mn a c = a) := by unfold mn; split <;> omega
theorem mx_cases (a c : Int) : (a < c ∧ mx a c = c) ∨ (c ≤ a ∧ mx a c = a) := by unfold mx; split <;> omega
set_option maxRecDepth 100000 in
set_option maxHeartbeats 1000000 in
theorem least_c (a b c d x y : Int) (hx : mn a c = x) (hy : mn b d = y) (w : World) : Calls Tryz.prog 85 #[.agg #[.int .i64 a, .int .i64 b], .agg #[.int .i64 c, .int .i64 d]] w fun e w' => e = .returned (.agg #[.int .i64 x, .int .i64 y]) ∧ Below w.heap.size w w' := by
  subst hx hy
  rcases mn_cases a c with ⟨h1, m1⟩ | ⟨h1, m1⟩ <;> rcases mn_cases b d with ⟨h2, m2⟩ | ⟨h2, m2⟩
  all_goals
    rw [m1, m2]
    clear m1 m2
    go_enter Tryz.func85, Tryz.ntmps85
    go_wp2
    exact bodyPost_ret (by simp [results, Tryz.results85, go_sem]) rfl ⟨rfl, below3 _ _ _ _⟩
set_option maxRecDepth 100000 in
set_option maxHeartbeats 1000000 in
theorem greatest_c (a b c d x y : Int) (hx : mx a c = x) (hy : mx b d = y) (w : World) : Calls Tryz.prog 86 #[.agg #[.int .i64 a, .int .i64 b], .agg #[.int .i64 c, .int .i64 d]] w fun e w' => e = .returned (.agg #[.int .i64 x, .int .i64 y]) ∧ Below w.heap.size w w' := by
  subst hx hy
  rcases mx_cases a c with ⟨h1, m1⟩ | ⟨h1, m1⟩ <;> rcases mx_cases b d with ⟨h2, m2⟩ | ⟨h2, m2⟩
  all_goals
    rw [m1, m2]
    clear m1 m2
    go_enter Tryz.func86, Tryz.ntmps86
    go_wp2
    exact bodyPost_ret (by simp [results, Tryz.results86, go_sem]) rfl ⟨rfl, below3 _ _ _ _⟩

set_option maxRecDepth 100000 in
set_option maxHeartbeats 1000000 in
theorem straight_in (a b c d p q r s : Int) (hm : mayS a b c d = true) (hp : lo true a c = p) (hq : lo true b d = q) (hr : hi true a c = r) (hs : hi true b d = s) (w : World) :
    Calls Tryz.prog 61 #[.agg #[.int .i64 a, .int .i64 b, .int .i64 c, .int .i64 d]] w fun e w' => e = .returned (.agg #[.int .i64 p, .int .i64 q, .int .i64 r, .int .i64 s]) ∧ Below w.heap.size w w' := by
  rw [lo_mn] at hp hq
  rw [hi_mx] at hr hs
  have Hm := Lib.hid (fun w1 => may_c a b c d true hm w1)
  have Hl := Lib.hid (fun w1 => least_c a b c d p q hp hq w1)
  have Hg := Lib.hid (fun w1 => greatest_c a b c d r s hr hs w1)
  clear hm hp hq hr hs
  go_enter Tryz.func61, Tryz.ntmps61
  go_wp2_with fail
  have hb0 := below2 w (.cells #[.int .i64 a, .int .i64 b, .int .i64 c, .int .i64 d] 67) (.cells #[.int .i64 0, .int .i64 0, .int .i64 0, .int .i64 0] 67)
  have hz := (CellsAt.new w [.int .i64 a, .int .i64 b, .int .i64 c, .int .i64 d] 67).on_alloc (.cells #[.int .i64 0, .int .i64 0, .int .i64 0, .int .i64 0] 67)
  have hv := CellsAt.new (w.alloc (.cells #[.int .i64 a, .int .i64 b, .int .i64 c, .int .i64 d] 67)) [.int .i64 0, .int .i64 0, .int .i64 0, .int .i64 0] 67
  rw [show (w.alloc (.cells #[.int .i64 a, .int .i64 b, .int .i64 c, .int .i64 d] 67)).heap.size = w.heap.size + 1 by simp] at hv
  refine (Hm.out _).mono ?_
  rintro e w1 ⟨rfl, hb1⟩
  replace hb0 := on hb0 hb1
  replace hz := hz.on hb1
  replace hv := hv.on hb1
  clear hb1
  obtain ⟨c0, c1, c2, c3, _⟩ := hz.four
  have C0 := fun d os => cell_regrown c0 d os
  have C1 := fun d os => cell_regrown c1 d os
  have C2 := fun d os => cell_regrown c2 d os
  have C3 := fun d os => cell_regrown c3 d os
  clear c0 c1 c2 c3 hz
  go_wp2_with fail
  refine wp_region_mem 11 (fun d => match d with
    | 11 => some (Is (.agg #[.int .i64 p, .int .i64 q]))
    | 16 => some (Is (.agg #[.int .i64 r, .int .i64 s]))
    | _ => none) (by kernel_rfl) (by kernel_rfl) ?_
  simp only [List.take_succ_cons, List.take_zero, List.drop_succ_cons, List.drop_zero]
  repeat (first | (refine wpM_calm rfl rfl rfl ?_; intro K hK; go_big_quiet_op; go_big_quiet_on) | (refine wpM_skip rfl ?_; simp only [Act.put, List.setIfInBounds_toArray, List.set_cons_succ, List.set_cons_zero]))
  refine wpM_exact rfl rfl rfl Tryz.func85 (by kernel_rfl) (by kernel_rfl) (fun w1 _ _ => Hl.out w1) rfl (by simp only [Act.put, List.setIfInBounds_toArray, List.set_cons_succ, List.set_cons_zero]; rfl) ?_
  repeat (first | (refine wpM_calm rfl rfl rfl ?_; intro K hK; go_big_quiet_op; go_big_quiet_on) | (refine wpM_skip rfl ?_; simp only [Act.put, List.setIfInBounds_toArray, List.set_cons_succ, List.set_cons_zero]))
  refine wpM_exact rfl rfl rfl Tryz.func86 (by kernel_rfl) (by kernel_rfl) (fun w1 _ _ => Hg.out w1) rfl (by simp only [Act.put, List.setIfInBounds_toArray, List.set_cons_succ, List.set_cons_zero]; rfl) ?_
  repeat (first | (refine wpM_calm rfl rfl rfl ?_; intro K hK; go_big_quiet_op; go_big_quiet_on) | (refine wpM_skip rfl ?_; simp only [Act.put, List.setIfInBounds_toArray, List.set_cons_succ, List.set_cons_zero]))
  refine wpM_nil ?_
  intro w2 hb2 _
  replace hb0 := on hb0 hb2
  replace hv := hv.on hb2
  clear hb2 C0 C1 C2 C3
  obtain ⟨c0, c1, c2, c3, f0, f1, f2, f3⟩ := hv.four
  obtain ⟨e0, e1, e2, e3, _⟩ := (hv.put4 (.int .i64 p) (.int .i64 q) (.int .i64 r) (.int .i64 s)).four
  go_wp2
  exact bodyPost_ret (by simp [results, Tryz.results61, go_sem, e0, e1, e2, e3]) rfl ⟨rfl, put4_below hb0 (by omega) _ _ _ _⟩
set_option maxRecDepth 100000 in
set_option maxHeartbeats 1000000 in
theorem straight_out (a b c d : Int) (hm : mayS a b c d = false) (w : World) :
    Calls Tryz.prog 61 #[.agg #[.int .i64 a, .int .i64 b, .int .i64 c, .int .i64 d]] w fun e w' => e = .returned (.agg #[.int .i64 0, .int .i64 0, .int .i64 0, .int .i64 0]) ∧ Below w.heap.size w w' := by
  have Hm := Lib.hid (fun w1 => may_c a b c d false hm w1)
  clear hm
  go_enter Tryz.func61, Tryz.ntmps61
  go_wp2_with fail
  have hb0 := below2 w (.cells #[.int .i64 a, .int .i64 b, .int .i64 c, .int .i64 d] 67) (.cells #[.int .i64 0, .int .i64 0, .int .i64 0, .int .i64 0] 67)
  have hv := CellsAt.new (w.alloc (.cells #[.int .i64 a, .int .i64 b, .int .i64 c, .int .i64 d] 67)) [.int .i64 0, .int .i64 0, .int .i64 0, .int .i64 0] 67
  rw [show (w.alloc (.cells #[.int .i64 a, .int .i64 b, .int .i64 c, .int .i64 d] 67)).heap.size = w.heap.size + 1 by simp] at hv
  refine (Hm.out _).mono ?_
  rintro e w1 ⟨rfl, hb1⟩
  replace hb0 := on hb0 hb1
  replace hv := hv.on hb1
  clear hb1
  obtain ⟨c0, c1, c2, c3, f0, f1, f2, f3⟩ := hv.four
  obtain ⟨e0, e1, e2, e3, _⟩ := (hv.put4 (.int .i64 0) (.int .i64 0) (.int .i64 0) (.int .i64 0)).four
  go_wp2
  exact bodyPost_ret (by simp [results, Tryz.results61, go_sem, e0, e1, e2, e3]) rfl ⟨rfl, put4_below hb0 (by omega) _ _ _ _⟩
theorem straight_c (a b c d : Int) (m : Bool) (p q r s : Int) (hm : mayS a b c d = m) (hp : lo m a c = p) (hq : lo m b d = q) (hr : hi m a c = r) (hs : hi m b d = s) (w : World) :
    Calls Tryz.prog 61 #[.agg #[.int .i64 a, .int .i64 b, .int .i64 c, .int .i64 d]] w fun e w' => e = .returned (.agg #[.int .i64 p, .int .i64 q, .int .i64 r, .int .i64 s]) ∧ Below w.heap.size w w' := by
  cases m with
  | true => exact straight_in a b c d p q r s hm hp hq hr hs w
  | false => subst hp hq hr hs; exact straight_out a b c d hm w
end Go.Proofs.YtmlmanlcomfhbaaGreatDoor.Span
namespace Go.Proofs.YtmlmanlcomfhbaaGreatDoor.Span
open Go.RowKit Kit Reg Go.Proofs.YtmlmanlcomfhbaaGreatDoor.Addr

theorem ext_true (a c : Int) : ext true a c = hi true a c - lo true a c + 1 := rfl
theorem ext_rows {a b c d : Int} {m : Bool} (hm : mayS a b c d = m) : 0 ≤ ext m a c ∧ ext m a c ≤ 999 := by
  cases m with
  | false => rw [ext_false]; decide
  | true => have h := lo_range hm; rw [ext_true]; omega
theorem ext_cols {a b c d : Int} {m : Bool} (hm : mayS a b c d = m) : 0 ≤ ext m b d ∧ ext m b d ≤ 702 := by
  cases m with
  | false => rw [ext_false]; decide
  | true => have h := lo_range hm; rw [ext_true]; omega
end Go.Proofs.YtmlmanlcomfhbaaGreatDoor.Span
namespace Go.Proofs.YtmlmanlcomfhbaaGreatDoor.Span
open Go.RowKit Kit Reg Go.Proofs.YtmlmanlcomfhbaaGreatDoor.Addr

/-- the three ways of a meeting: apart in rows, apart in columns, or met -/
theorem meet_ways {a b c d e f g h : Int} (h1 : mayS a b c d = true) (h2 : mayS e f g h = true) :
    (meetB a b c d e f g h = false ∧ mn (hi true a c) (hi true e g) < mx (lo true a c) (lo true e g)) ∨
    (meetB a b c d e f g h = false ∧ mx (lo true a c) (lo true e g) ≤ mn (hi true a c) (hi true e g) ∧ mn (hi true b d) (hi true f h) < mx (lo true b d) (lo true f h)) ∨
    (meetB a b c d e f g h = true ∧ mx (lo true a c) (lo true e g) ≤ mn (hi true a c) (hi true e g) ∧ mx (lo true b d) (lo true f h) ≤ mn (hi true b d) (hi true f h)) := by
  have hm := meetB_iff (a := a) (b := b) (c := c) (d := d) (e := e) (f := f) (g := g) (h := h)
  simp only [h1, h2, true_and] at hm
  obtain ⟨_, _, _, _, p5, p6⟩ := lo_range h1
  obtain ⟨_, _, _, _, q5, q6⟩ := lo_range h2
  generalize lo true a c = P at *
  generalize lo true b d = Q at *
  generalize hi true a c = R at *
  generalize hi true b d = S at *
  generalize lo true e g = T at *
  generalize lo true f h = U at *
  generalize hi true e g = V at *
  generalize hi true f h = X at *
  have m1 : mn R V < mx P T ↔ ¬ (P ≤ V ∧ T ≤ R) := by unfold mn mx; split <;> split <;> omega
  have m2 : mn S X < mx Q U ↔ ¬ (Q ≤ X ∧ U ≤ S) := by unfold mn mx; split <;> split <;> omega
  by_cases k1 : mn R V < mx P T
  · refine .inl ⟨?_, k1⟩
    have := m1.1 k1
    rw [Bool.eq_false_iff]
    intro hh
    have := hm.1 hh
    omega
  · by_cases k2 : mn S X < mx Q U
    · refine .inr (.inl ⟨?_, by omega, k2⟩)
      have := m2.1 k2
      rw [Bool.eq_false_iff]
      intro hh
      have := hm.1 hh
      omega
    · exact .inr (.inr ⟨hm.2 (by omega), by omega, by omega⟩)
theorem mlo_mx (a c e g : Int) : mlo true a c e g = mx (lo true a c) (lo true e g) := by simp only [mlo, mx, if_true]; split <;> split <;> omega
theorem mhi_mn (a c e g : Int) : mhi true a c e g = mn (hi true a c) (hi true e g) := by simp only [mhi, mn, if_true]; split <;> split <;> omega
/-- what a meeting answers -/
def MeetEnd (x y z u : Int) (k : Bool) (w : World) (e : Ending) (w' : World) : Prop := e = .returned (.tuple #[.agg #[.int .i64 x, .int .i64 y, .int .i64 z, .int .i64 u], .bool k]) ∧ Below w.heap.size w w'
/-- three boxes of four cells -/
theorem boxes3 (w : World) (A B C : List Value) (t t' t'' : TypeId) : CellsAt (((w.alloc (.cells A.toArray t)).alloc (.cells B.toArray t')).alloc (.cells C.toArray t'')) w.heap.size A ∧
    CellsAt (((w.alloc (.cells A.toArray t)).alloc (.cells B.toArray t')).alloc (.cells C.toArray t'')) (w.heap.size + 1) B ∧
    CellsAt (((w.alloc (.cells A.toArray t)).alloc (.cells B.toArray t')).alloc (.cells C.toArray t'')) (w.heap.size + 1 + 1) C := by
  refine ⟨((CellsAt.new w A t).on_alloc _).on_alloc _, ?_, ?_⟩
  · have := (CellsAt.new (w.alloc (.cells A.toArray t)) B t').on_alloc (.cells C.toArray t'')
    rwa [show (w.alloc (.cells A.toArray t)).heap.size = w.heap.size + 1 by simp] at this
  · have := CellsAt.new ((w.alloc (.cells A.toArray t)).alloc (.cells B.toArray t')) C t''
    rwa [show ((w.alloc (.cells A.toArray t)).alloc (.cells B.toArray t')).heap.size = w.heap.size + 1 + 1 by simp] at this
end Go.Proofs.YtmlmanlcomfhbaaGreatDoor.Span
namespace Go.Proofs.YtmlmanlcomfhbaaGreatDoor.Span
open Go.RowKit Kit Reg Go.Proofs.YtmlmanlcomfhbaaGreatDoor.Addr

/-- how a span and another one compare, field by field -/
theorem four_ways (x y z u p q r s : Int) : (x = p ∧ y = q ∧ z = r ∧ u = s ∧ (x == p && y == q && z == r && u == s) = true) ∨
    ((x == p && y == q && z == r && u == s) = false ∧ ((x == p) = false ∨ ((x == p) = true ∧ (y == q) = false) ∨ ((x == p) = true ∧ (y == q) = true ∧ (z == r) = false) ∨ ((x == p) = true ∧ (y == q) = true ∧ (z == r) = true ∧ (u == s) = false))) := by
  by_cases h1 : x = p
  · by_cases h2 : y = q
    · by_cases h3 : z = r
      · by_cases h4 : u = s
        · left; exact ⟨h1, h2, h3, h4, by simp [h1, h2, h3, h4]⟩
        · right; simp [h1, h2, h3, h4]
      · right; simp [h1, h2, h3]
    · right; simp [h1, h2]
  · right; simp [h1]
end Go.Proofs.YtmlmanlcomfhbaaGreatDoor.Span
namespace Go.Proofs.YtmlmanlcomfhbaaGreatDoor.Span
open Go.RowKit Kit Reg Go.Proofs.YtmlmanlcomfhbaaGreatDoor.Addr

theorem lo_ways (a c : Int) : (c < a ∧ lo true a c = c ∧ hi true a c = a) ∨ (a ≤ c ∧ lo true a c = a ∧ hi true a c = c) := by
  simp only [lo, hi, if_true]
  by_cases h : a ≤ c
  · right; simp [h]
  · left; simp [h]; omega
/-- how far two numbers are apart -/
def apartI (a b : Int) : Int := if b < a then a - b else b - a
theorem ext_apart (a c : Int) : ext true a c = apartI a c + 1 := by
  simp only [ext, hi, lo, apartI, if_true]
  (repeat' split) <;> omega
end Go.Proofs.YtmlmanlcomfhbaaGreatDoor.Span

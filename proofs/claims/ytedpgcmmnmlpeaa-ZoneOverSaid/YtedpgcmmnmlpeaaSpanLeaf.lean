/- What the program's and the reference's small functions on spans answer: for every span. -/
import Derived.Test.YtedpgcmmnmlpeaaKit4
import Derived.Test.YtedpgcmmnmlpeaaAddrLeaf
import Derived.Test.YtedpgcmmnmlpeaaSpanText
namespace Go.Proofs.Ytedpgcmmnmlpeaa.Span
open Go.RowKit Kit Reg Go.Proofs.Ytedpgcmmnmlpeaa.Addr

set_option maxRecDepth 100000 in
set_option maxHeartbeats 1000000 in
theorem may_c (a b c d : Int) (m : Bool) (hm : mayS a b c d = m) (w : World) : Calls Try.prog 32 #[.agg #[.int .i64 a, .int .i64 b, .int .i64 c, .int .i64 d]] w fun e w' => e = .returned (.bool m) ∧ Below w.heap.size w w' := by
  unfold mayS at hm
  cases h1 : mayB a b with
  | false =>
    rw [h1, Bool.false_and] at hm
    subst hm
    have H1 := Lib.hid (fun w1 => Addr.may_c a b false h1 w1)
    clear h1
    go_enter Try.func32, Try.ntmps32
    go_wp2_with fail
    refine (H1.out _).mono ?_
    rintro e w1 ⟨rfl, hb⟩
    have hb0 := on (below1 w _) hb
    go_wp2
    go_ret
    exact ⟨rfl, hb0⟩
  | true =>
    rw [h1, Bool.true_and] at hm
    have H1 := Lib.hid (fun w1 => Addr.may_c a b true h1 w1)
    have H2 := Lib.hid (fun w1 => Addr.may_c c d m hm w1)
    clear h1 hm
    go_enter Try.func32, Try.ntmps32
    go_wp2_with fail
    refine (H1.out _).mono ?_
    rintro e w1 ⟨rfl, hb⟩
    obtain ⟨hc, hb0⟩ := slot (w := w) (cs := [.int .i64 a, .int .i64 b, .int .i64 c, .int .i64 d]) hb
    obtain ⟨_, _, c2, c3, _⟩ := hc.four
    clear hc hb
    go_wp2_with fail
    refine (H2.out _).mono ?_
    rintro e w2 ⟨rfl, hb⟩
    replace hb0 := on hb0 hb
    go_wp2
    go_ret
    exact ⟨rfl, hb0⟩
set_option maxRecDepth 100000 in
set_option maxHeartbeats 1000000 in
theorem rmay_c (a b c d : Int) (m : Bool) (hm : mayS a b c d = m) (w : World) : Calls Try.prog 20 #[.agg #[.int .i64 a, .int .i64 b, .int .i64 c, .int .i64 d]] w fun e w' => e = .returned (.bool m) ∧ Below w.heap.size w w' := by
  unfold mayS at hm
  cases h1 : mayB a b with
  | false =>
    rw [h1, Bool.false_and] at hm
    subst hm
    have H1 := Lib.hid (fun w1 => Addr.rmay_c a b false h1 w1)
    clear h1
    go_enter Try.func20, Try.ntmps20
    go_wp2_with fail
    refine (H1.out _).mono ?_
    rintro e w1 ⟨rfl, hb⟩
    have hb0 := on (below1 w _) hb
    go_wp2
    go_ret
    exact ⟨rfl, hb0⟩
  | true =>
    rw [h1, Bool.true_and] at hm
    have H1 := Lib.hid (fun w1 => Addr.rmay_c a b true h1 w1)
    have H2 := Lib.hid (fun w1 => Addr.rmay_c c d m hm w1)
    clear h1 hm
    go_enter Try.func20, Try.ntmps20
    go_wp2_with fail
    refine (H1.out _).mono ?_
    rintro e w1 ⟨rfl, hb⟩
    obtain ⟨hc, hb0⟩ := slot (w := w) (cs := [.int .i64 a, .int .i64 b, .int .i64 c, .int .i64 d]) hb
    obtain ⟨_, _, c2, c3, _⟩ := hc.four
    clear hc hb
    go_wp2_with fail
    refine (H2.out _).mono ?_
    rintro e w2 ⟨rfl, hb⟩
    replace hb0 := on hb0 hb
    go_wp2
    go_ret
    exact ⟨rfl, hb0⟩

/-- the lesser, and the greater, as the program takes them -/
def mn (a c : Int) : Int := if c < a then c else a
def mx (a c : Int) : Int := if a < c then c else a
theorem lo_mn (a c : Int) : lo true a c = mn a c := by simp only [lo, mn, if_true]; split <;> split <;> omega
theorem hi_mx (a c : Int) : hi true a c = mx a c := by simp only [hi, mx, if_true]; split <;> split <;> omega
theorem mn_cases (a c : Int) : (c < a ∧ mn a c = c) ∨ (a ≤ c ∧ mn a c = a) := by unfold mn; split <;> omega
theorem mx_cases (a c : Int) : (a < c ∧ mx a c = c) ∨ (c ≤ a ∧ mx a c = a) := by unfold mx; split <;> omega
set_option maxRecDepth 100000 in
set_option maxHeartbeats 1000000 in
theorem least_c (a b c d x y : Int) (hx : mn a c = x) (hy : mn b d = y) (w : World) : Calls Try.prog 40 #[.agg #[.int .i64 a, .int .i64 b], .agg #[.int .i64 c, .int .i64 d]] w fun e w' => e = .returned (.agg #[.int .i64 x, .int .i64 y]) ∧ Below w.heap.size w w' := by
  subst hx hy
  rcases mn_cases a c with ⟨h1, m1⟩ | ⟨h1, m1⟩ <;> rcases mn_cases b d with ⟨h2, m2⟩ | ⟨h2, m2⟩
  all_goals
    rw [m1, m2]
    clear m1 m2
    go_enter Try.func40, Try.ntmps40
    go_wp2
    exact bodyPost_ret (by simp [results, Try.results40, go_sem]) rfl ⟨rfl, below3 _ _ _ _⟩
set_option maxRecDepth 100000 in
set_option maxHeartbeats 1000000 in
theorem greatest_c (a b c d x y : Int) (hx : mx a c = x) (hy : mx b d = y) (w : World) : Calls Try.prog 41 #[.agg #[.int .i64 a, .int .i64 b], .agg #[.int .i64 c, .int .i64 d]] w fun e w' => e = .returned (.agg #[.int .i64 x, .int .i64 y]) ∧ Below w.heap.size w w' := by
  subst hx hy
  rcases mx_cases a c with ⟨h1, m1⟩ | ⟨h1, m1⟩ <;> rcases mx_cases b d with ⟨h2, m2⟩ | ⟨h2, m2⟩
  all_goals
    rw [m1, m2]
    clear m1 m2
    go_enter Try.func41, Try.ntmps41
    go_wp2
    exact bodyPost_ret (by simp [results, Try.results41, go_sem]) rfl ⟨rfl, below3 _ _ _ _⟩

set_option maxRecDepth 100000 in
set_option maxHeartbeats 1000000 in
theorem straight_in (a b c d p q r s : Int) (hm : mayS a b c d = true) (hp : lo true a c = p) (hq : lo true b d = q) (hr : hi true a c = r) (hs : hi true b d = s) (w : World) :
    Calls Try.prog 33 #[.agg #[.int .i64 a, .int .i64 b, .int .i64 c, .int .i64 d]] w fun e w' => e = .returned (.agg #[.int .i64 p, .int .i64 q, .int .i64 r, .int .i64 s]) ∧ Below w.heap.size w w' := by
  rw [lo_mn] at hp hq
  rw [hi_mx] at hr hs
  have Hm := Lib.hid (fun w1 => may_c a b c d true hm w1)
  have Hl := Lib.hid (fun w1 => least_c a b c d p q hp hq w1)
  have Hg := Lib.hid (fun w1 => greatest_c a b c d r s hr hs w1)
  clear hm hp hq hr hs
  go_enter Try.func33, Try.ntmps33
  go_wp2_with fail
  have hb0 := below2 w (.cells #[.int .i64 a, .int .i64 b, .int .i64 c, .int .i64 d] 26) (.cells #[.int .i64 0, .int .i64 0, .int .i64 0, .int .i64 0] 26)
  have hz := (CellsAt.new w [.int .i64 a, .int .i64 b, .int .i64 c, .int .i64 d] 26).on_alloc (.cells #[.int .i64 0, .int .i64 0, .int .i64 0, .int .i64 0] 26)
  have hv := CellsAt.new (w.alloc (.cells #[.int .i64 a, .int .i64 b, .int .i64 c, .int .i64 d] 26)) [.int .i64 0, .int .i64 0, .int .i64 0, .int .i64 0] 26
  rw [show (w.alloc (.cells #[.int .i64 a, .int .i64 b, .int .i64 c, .int .i64 d] 26)).heap.size = w.heap.size + 1 by simp] at hv
  refine (Hm.out _).mono ?_
  rintro e w1 ⟨rfl, hb1⟩
  replace hb0 := on hb0 hb1
  replace hz := hz.on hb1
  replace hv := hv.on hb1
  clear hb1
  obtain ⟨c0, c1, c2, c3, _⟩ := hz.four
  have C0 := fun d os => cell_regrown c0 d os
  have C1 := fun d os => cell_regrown c1 d os
  have C2 := fun d os => cell_regrown c2 d os
  have C3 := fun d os => cell_regrown c3 d os
  clear c0 c1 c2 c3 hz
  go_wp2_with fail
  refine wp_region_mem 11 (fun d => match d with
    | 11 => some (Is (.agg #[.int .i64 p, .int .i64 q]))
    | 16 => some (Is (.agg #[.int .i64 r, .int .i64 s]))
    | _ => none) (by kernel_rfl) (by kernel_rfl) ?_
  simp only [List.take_succ_cons, List.take_zero, List.drop_succ_cons, List.drop_zero]
  repeat (first | (refine wpM_calm rfl rfl rfl ?_; intro K hK; go_big_quiet_op; go_big_quiet_on) | (refine wpM_skip rfl ?_; simp only [Act.put, List.setIfInBounds_toArray, List.set_cons_succ, List.set_cons_zero]))
  refine wpM_exact rfl rfl rfl Try.func40 (by kernel_rfl) (by kernel_rfl) (fun w1 _ _ => Hl.out w1) rfl (by simp only [Act.put, List.setIfInBounds_toArray, List.set_cons_succ, List.set_cons_zero]; rfl) ?_
  repeat (first | (refine wpM_calm rfl rfl rfl ?_; intro K hK; go_big_quiet_op; go_big_quiet_on) | (refine wpM_skip rfl ?_; simp only [Act.put, List.setIfInBounds_toArray, List.set_cons_succ, List.set_cons_zero]))
  refine wpM_exact rfl rfl rfl Try.func41 (by kernel_rfl) (by kernel_rfl) (fun w1 _ _ => Hg.out w1) rfl (by simp only [Act.put, List.setIfInBounds_toArray, List.set_cons_succ, List.set_cons_zero]; rfl) ?_
  repeat (first | (refine wpM_calm rfl rfl rfl ?_; intro K hK; go_big_quiet_op; go_big_quiet_on) | (refine wpM_skip rfl ?_; simp only [Act.put, List.setIfInBounds_toArray, List.set_cons_succ, List.set_cons_zero]))
  refine wpM_nil ?_
  intro w2 hb2 _
  replace hb0 := on hb0 hb2
  replace hv := hv.on hb2
  clear hb2 C0 C1 C2 C3
  obtain ⟨c0, c1, c2, c3, f0, f1, f2, f3⟩ := hv.four
  obtain ⟨e0, e1, e2, e3, _⟩ := (hv.put4 (.int .i64 p) (.int .i64 q) (.int .i64 r) (.int .i64 s)).four
  go_wp2
  exact bodyPost_ret (by simp [results, Try.results33, go_sem, e0, e1, e2, e3]) rfl ⟨rfl, put4_below hb0 (by omega) _ _ _ _⟩
set_option maxRecDepth 100000 in
set_option maxHeartbeats 1000000 in
theorem straight_out (a b c d : Int) (hm : mayS a b c d = false) (w : World) :
    Calls Try.prog 33 #[.agg #[.int .i64 a, .int .i64 b, .int .i64 c, .int .i64 d]] w fun e w' => e = .returned (.agg #[.int .i64 0, .int .i64 0, .int .i64 0, .int .i64 0]) ∧ Below w.heap.size w w' := by
  have Hm := Lib.hid (fun w1 => may_c a b c d false hm w1)
  clear hm
  go_enter Try.func33, Try.ntmps33
  go_wp2_with fail
  have hb0 := below2 w (.cells #[.int .i64 a, .int .i64 b, .int .i64 c, .int .i64 d] 26) (.cells #[.int .i64 0, .int .i64 0, .int .i64 0, .int .i64 0] 26)
  have hv := CellsAt.new (w.alloc (.cells #[.int .i64 a, .int .i64 b, .int .i64 c, .int .i64 d] 26)) [.int .i64 0, .int .i64 0, .int .i64 0, .int .i64 0] 26
  rw [show (w.alloc (.cells #[.int .i64 a, .int .i64 b, .int .i64 c, .int .i64 d] 26)).heap.size = w.heap.size + 1 by simp] at hv
  refine (Hm.out _).mono ?_
  rintro e w1 ⟨rfl, hb1⟩
  replace hb0 := on hb0 hb1
  replace hv := hv.on hb1
  clear hb1
  obtain ⟨c0, c1, c2, c3, f0, f1, f2, f3⟩ := hv.four
  obtain ⟨e0, e1, e2, e3, _⟩ := (hv.put4 (.int .i64 0) (.int .i64 0) (.int .i64 0) (.int .i64 0)).four
  go_wp2
  exact bodyPost_ret (by simp [results, Try.results33, go_sem, e0, e1, e2, e3]) rfl ⟨rfl, put4_below hb0 (by omega) _ _ _ _⟩
theorem straight_c (a b c d : Int) (m : Bool) (p q r s : Int) (hm : mayS a b c d = m) (hp : lo m a c = p) (hq : lo m b d = q) (hr : hi m a c = r) (hs : hi m b d = s) (w : World) :
    Calls Try.prog 33 #[.agg #[.int .i64 a, .int .i64 b, .int .i64 c, .int .i64 d]] w fun e w' => e = .returned (.agg #[.int .i64 p, .int .i64 q, .int .i64 r, .int .i64 s]) ∧ Below w.heap.size w w' := by
  cases m with
  | true => exact straight_in a b c d p q r s hm hp hq hr hs w
  | false => subst hp hq hr hs; exact straight_out a b c d hm w
end Go.Proofs.Ytedpgcmmnmlpeaa.Span

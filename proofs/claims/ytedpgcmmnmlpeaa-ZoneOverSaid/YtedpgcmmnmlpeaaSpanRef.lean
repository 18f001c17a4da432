/- What the reference's small functions on spans answer: every span, every cell. -/
import Derived.Test.YtedpgcmmnmlpeaaSpanMeet
namespace Go.Proofs.Ytedpgcmmnmlpeaa.Span
open Go.RowKit Kit Reg Go.Proofs.Ytedpgcmmnmlpeaa.Addr

theorem lo_ways (a c : Int) : (c < a ∧ lo true a c = c ∧ hi true a c = a) ∨ (a ≤ c ∧ lo true a c = a ∧ hi true a c = c) := by
  simp only [lo, hi, if_true]
  by_cases h : a ≤ c
  · right; simp [h]
  · left; simp [h]; omega
set_option maxRecDepth 100000 in
set_option maxHeartbeats 2000000 in
theorem rstraight_in (a b c d p q r s : Int) (hm : mayS a b c d = true) (hp : lo true a c = p) (hq : lo true b d = q) (hr : hi true a c = r) (hs : hi true b d = s) (w : World) :
    Calls Try.prog 19 #[.agg #[.int .i64 a, .int .i64 b, .int .i64 c, .int .i64 d]] w fun e w' => e = .returned (.agg #[.int .i64 p, .int .i64 q, .int .i64 r, .int .i64 s]) ∧ Below w.heap.size w w' := by
  have Hm := Lib.hid (fun w1 => rmay_c a b c d true hm w1)
  have hb0 := below2 w (.cells #[.int .i64 a, .int .i64 b, .int .i64 c, .int .i64 d] 26) (.cells #[.int .i64 0, .int .i64 0, .int .i64 0, .int .i64 0] 26)
  have hz := (CellsAt.new w [.int .i64 a, .int .i64 b, .int .i64 c, .int .i64 d] 26).on_alloc (.cells #[.int .i64 0, .int .i64 0, .int .i64 0, .int .i64 0] 26)
  have hv := CellsAt.new (w.alloc (.cells #[.int .i64 a, .int .i64 b, .int .i64 c, .int .i64 d] 26)) [.int .i64 0, .int .i64 0, .int .i64 0, .int .i64 0] 26
  rw [show (w.alloc (.cells #[.int .i64 a, .int .i64 b, .int .i64 c, .int .i64 d] 26)).heap.size = w.heap.size + 1 by simp] at hv
  have w1 := lo_ways a c
  have w2 := lo_ways b d
  subst hp hq hr hs
  clear hm
  rcases w1 with ⟨h1, p1, p2⟩ | ⟨h1, p1, p2⟩ <;> rcases w2 with ⟨h2, q1, q2⟩ | ⟨h2, q1, q2⟩
  all_goals
    rw [p1, p2, q1, q2]
    clear p1 p2 q1 q2
    go_enter Try.func19, Try.ntmps19
    go_wp2_with fail
    refine (Hm.out _).mono ?_
    rintro e w1 ⟨rfl, hb1⟩
    replace hb0 := on hb0 hb1
    replace hz := hz.on hb1
    replace hv := hv.on hb1
    clear hb1
    obtain ⟨c0, c1, c2, c3, _⟩ := hz.four
    have l1 := hz.1
    have l2 := hv.1
    obtain ⟨d0, d1, d2, d3, f0, f1, f2, f3⟩ := hv.four
    go_wp2
    exact bodyPost_ret (by simp [results, Try.results19, go_sem, d0, d1, d2, d3, l2]) rfl ⟨rfl, on_alloc (put4_below hb0 (by omega) _ _ _ _) _⟩
set_option maxRecDepth 100000 in
set_option maxHeartbeats 1000000 in
theorem rstraight_out (a b c d : Int) (hm : mayS a b c d = false) (w : World) :
    Calls Try.prog 19 #[.agg #[.int .i64 a, .int .i64 b, .int .i64 c, .int .i64 d]] w fun e w' => e = .returned (.agg #[.int .i64 0, .int .i64 0, .int .i64 0, .int .i64 0]) ∧ Below w.heap.size w w' := by
  have Hm := Lib.hid (fun w1 => rmay_c a b c d false hm w1)
  clear hm
  go_enter Try.func19, Try.ntmps19
  go_wp2_with fail
  have hb0 := below2 w (.cells #[.int .i64 a, .int .i64 b, .int .i64 c, .int .i64 d] 26) (.cells #[.int .i64 0, .int .i64 0, .int .i64 0, .int .i64 0] 26)
  have hv := CellsAt.new (w.alloc (.cells #[.int .i64 a, .int .i64 b, .int .i64 c, .int .i64 d] 26)) [.int .i64 0, .int .i64 0, .int .i64 0, .int .i64 0] 26
  rw [show (w.alloc (.cells #[.int .i64 a, .int .i64 b, .int .i64 c, .int .i64 d] 26)).heap.size = w.heap.size + 1 by simp] at hv
  refine (Hm.out _).mono ?_
  rintro e w1 ⟨rfl, hb1⟩
  replace hb0 := on hb0 hb1
  replace hv := hv.on hb1
  clear hb1
  obtain ⟨c0, c1, c2, c3, f0, f1, f2, f3⟩ := hv.four
  obtain ⟨e0, e1, e2, e3, _⟩ := (hv.put4 (.int .i64 0) (.int .i64 0) (.int .i64 0) (.int .i64 0)).four
  go_wp2
  exact bodyPost_ret (by simp [results, Try.results19, go_sem, e0, e1, e2, e3]) rfl ⟨rfl, put4_below hb0 (by omega) _ _ _ _⟩
theorem rstraight_c (a b c d : Int) (m : Bool) (p q r s : Int) (hm : mayS a b c d = m) (hp : lo m a c = p) (hq : lo m b d = q) (hr : hi m a c = r) (hs : hi m b d = s) (w : World) :
    Calls Try.prog 19 #[.agg #[.int .i64 a, .int .i64 b, .int .i64 c, .int .i64 d]] w fun e w' => e = .returned (.agg #[.int .i64 p, .int .i64 q, .int .i64 r, .int .i64 s]) ∧ Below w.heap.size w w' := by
  cases m with
  | true => exact rstraight_in a b c d p q r s hm hp hq hr hs w
  | false => subst hp hq hr hs; exact rstraight_out a b c d hm w

/-- how far two numbers are apart -/
def apartI (a b : Int) : Int := if b < a then a - b else b - a
set_option maxRecDepth 100000 in
set_option maxHeartbeats 1000000 in
theorem apart_c (a b n : Int) (ha : 0 ≤ a ∧ a ≤ 998) (hb : 0 ≤ b ∧ b ≤ 998) (hn : apartI a b = n) (w : World) : Calls Try.prog 30 #[.int .i64 a, .int .i64 b] w fun e w' => e = .returned (.int .i64 n) ∧ w' = w := by
  subst hn
  unfold apartI
  obtain ⟨a0, a1⟩ := ha
  obtain ⟨b0, b1⟩ := hb
  by_cases h : b < a
  · rw [if_pos h]
    go_enter Try.func30, Try.ntmps30
    go_wp2
    go_ret
    exact ⟨rfl, rfl⟩
  · rw [if_neg h]
    have hd : decide (b < a) = false := by simpa using h
    go_enter Try.func30, Try.ntmps30
    go_wp2
    go_ret
    exact ⟨rfl, rfl⟩
theorem ext_apart (a c : Int) : ext true a c = apartI a c + 1 := by
  simp only [ext, hi, lo, apartI, if_true]
  (repeat' split) <;> omega
set_option maxRecDepth 100000 in
set_option maxHeartbeats 1000000 in
theorem rrows_c (a b c d : Int) (m : Bool) (n : Int) (hm : mayS a b c d = m) (hn : ext m a c = n) (w : World) :
    Calls Try.prog 21 #[.agg #[.int .i64 a, .int .i64 b, .int .i64 c, .int .i64 d]] w fun e w' => e = .returned (.int .i64 n) ∧ Below w.heap.size w w' := by
  have hb0 := below1 w (.cells #[.int .i64 a, .int .i64 b, .int .i64 c, .int .i64 d] 26)
  have hz := CellsAt.new w [.int .i64 a, .int .i64 b, .int .i64 c, .int .i64 d] 26
  cases m with
  | false =>
    have Hm := Lib.hid (fun w1 => rmay_c a b c d false hm w1)
    subst hn
    clear hm hz
    go_enter Try.func21, Try.ntmps21
    go_wp2_with fail
    refine (Hm.out _).mono ?_
    rintro e w1 ⟨rfl, hb1⟩
    replace hb0 := on hb0 hb1
    go_wp2
    go_ret
    exact ⟨rfl, hb0⟩
  | true =>
    obtain ⟨r1, r2, r3, r4⟩ := of_mayS hm
    have Hm := Lib.hid (fun w1 => rmay_c a b c d true hm w1)
    have Ha := Lib.hid (fun w1 => apart_c a c _ (by omega) (by omega) rfl w1)
    have hr : 0 ≤ apartI a c ∧ apartI a c ≤ 998 := by unfold apartI; split <;> omega
    rw [ext_apart] at hn
    clear hm
    generalize apartI a c = k at *
    go_enter Try.func21, Try.ntmps21
    go_wp2_with fail
    refine (Hm.out _).mono ?_
    rintro e w1 ⟨rfl, hb1⟩
    replace hb0 := on hb0 hb1
    replace hz := hz.on hb1
    clear hb1
    obtain ⟨c0, c1, c2, c3, _⟩ := hz.four
    go_wp2_with fail
    refine (Ha.out _).mono ?_
    rintro e w2 ⟨rfl, rfl⟩
    go_wp2
    go_ret
    exact ⟨rfl, hb0⟩
set_option maxRecDepth 100000 in
set_option maxHeartbeats 1000000 in
theorem rcols_c (a b c d : Int) (m : Bool) (n : Int) (hm : mayS a b c d = m) (hn : ext m b d = n) (w : World) :
    Calls Try.prog 22 #[.agg #[.int .i64 a, .int .i64 b, .int .i64 c, .int .i64 d]] w fun e w' => e = .returned (.int .i64 n) ∧ Below w.heap.size w w' := by
  have hb0 := below1 w (.cells #[.int .i64 a, .int .i64 b, .int .i64 c, .int .i64 d] 26)
  have hz := CellsAt.new w [.int .i64 a, .int .i64 b, .int .i64 c, .int .i64 d] 26
  cases m with
  | false =>
    have Hm := Lib.hid (fun w1 => rmay_c a b c d false hm w1)
    subst hn
    clear hm hz
    go_enter Try.func22, Try.ntmps22
    go_wp2_with fail
    refine (Hm.out _).mono ?_
    rintro e w1 ⟨rfl, hb1⟩
    replace hb0 := on hb0 hb1
    go_wp2
    go_ret
    exact ⟨rfl, hb0⟩
  | true =>
    obtain ⟨r1, r2, r3, r4⟩ := of_mayS hm
    have Hm := Lib.hid (fun w1 => rmay_c a b c d true hm w1)
    have Ha := Lib.hid (fun w1 => apart_c b d _ (by omega) (by omega) rfl w1)
    have hr : 0 ≤ apartI b d ∧ apartI b d ≤ 998 := by unfold apartI; split <;> omega
    rw [ext_apart] at hn
    clear hm
    generalize apartI b d = k at *
    go_enter Try.func22, Try.ntmps22
    go_wp2_with fail
    refine (Hm.out _).mono ?_
    rintro e w1 ⟨rfl, hb1⟩
    replace hb0 := on hb0 hb1
    replace hz := hz.on hb1
    clear hb1
    obtain ⟨c0, c1, c2, c3, _⟩ := hz.four
    go_wp2_with fail
    refine (Ha.out _).mono ?_
    rintro e w2 ⟨rfl, rfl⟩
    go_wp2
    go_ret
    exact ⟨rfl, hb0⟩
set_option maxRecDepth 100000 in
set_option maxHeartbeats 1000000 in
theorem between_c (n a b : Int) (k : Bool) (hk : btwB n a b = k) (w : World) : Calls Try.prog 23 #[.int .i64 n, .int .i64 a, .int .i64 b] w fun e w' => e = .returned (.bool k) ∧ w' = w := by
  unfold btwB at hk
  cases h1 : decide (a ≤ n) <;> cases h2 : decide (n ≤ b) <;> cases h3 : decide (b ≤ n) <;> cases h4 : decide (n ≤ a)
  all_goals
    rw [h1, h2, h3, h4] at hk
    simp only [Bool.and_true, Bool.and_false, Bool.or_true, Bool.or_false, Bool.and_self, Bool.or_self] at hk
    subst hk
    go_enter Try.func23, Try.ntmps23
    go_wp2
    go_ret
    exact ⟨rfl, rfl⟩
set_option maxRecDepth 100000 in
set_option maxHeartbeats 2000000 in
theorem rhas_c (a b c d x y : Int) (k : Bool) (hk : hasB a b c d x y = k) (w : World) :
    Calls Try.prog 9 #[.agg #[.int .i64 a, .int .i64 b, .int .i64 c, .int .i64 d], .agg #[.int .i64 x, .int .i64 y]] w fun e w' => e = .returned (.bool k) ∧ Below w.heap.size w w' := by
  unfold hasB at hk
  have hb0 := below2 w (.cells #[.int .i64 a, .int .i64 b, .int .i64 c, .int .i64 d] 26) (.cells #[.int .i64 x, .int .i64 y] 24)
  have ha := (CellsAt.new w [.int .i64 a, .int .i64 b, .int .i64 c, .int .i64 d] 26).on_alloc (.cells #[.int .i64 x, .int .i64 y] 24)
  have hv := CellsAt.new (w.alloc (.cells #[.int .i64 a, .int .i64 b, .int .i64 c, .int .i64 d] 26)) [.int .i64 x, .int .i64 y] 24
  rw [show (w.alloc (.cells #[.int .i64 a, .int .i64 b, .int .i64 c, .int .i64 d] 26)).heap.size = w.heap.size + 1 by simp] at hv
  cases h1 : mayS a b c d with
  | false =>
    rw [h1, Bool.false_and, Bool.false_and] at hk
    subst hk
    have Hm := Lib.hid (fun w1 => rmay_c a b c d false h1 w1)
    clear h1 ha hv
    go_enter Try.func9, Try.ntmps9
    go_wp2_with fail
    refine (Hm.out _).mono ?_
    rintro e w1 ⟨rfl, hb1⟩
    replace hb0 := on hb0 hb1
    go_wp2
    go_ret
    exact ⟨rfl, hb0⟩
  | true =>
    rw [h1, Bool.true_and] at hk
    have Hm := Lib.hid (fun w1 => rmay_c a b c d true h1 w1)
    clear h1
    have H1 := Lib.hid (fun w1 => between_c x a c _ rfl w1)
    have H2 := Lib.hid (fun w1 => between_c y b d _ rfl w1)
    generalize btwB x a c = k1 at *
    generalize btwB y b d = k2 at *
    cases k1
    · rw [Bool.false_and] at hk
      subst hk
      go_enter Try.func9, Try.ntmps9
      go_wp2_with fail
      refine (Hm.out _).mono ?_
      rintro e w1 ⟨rfl, hb1⟩
      replace hb0 := on hb0 hb1
      obtain ⟨c0, c1, c2, c3, _⟩ := (ha.on hb1).four
      obtain ⟨d0, d1, _⟩ := (hv.on hb1).two
      clear hb1
      go_wp2_with fail
      refine (H1.out _).mono ?_
      rintro e w2 ⟨rfl, rfl⟩
      go_wp2
      go_ret
      exact ⟨rfl, hb0⟩
    · rw [Bool.true_and] at hk
      subst hk
      go_enter Try.func9, Try.ntmps9
      go_wp2_with fail
      refine (Hm.out _).mono ?_
      rintro e w1 ⟨rfl, hb1⟩
      replace hb0 := on hb0 hb1
      obtain ⟨c0, c1, c2, c3, _⟩ := (ha.on hb1).four
      obtain ⟨d0, d1, _⟩ := (hv.on hb1).two
      clear hb1
      go_wp2_with fail
      refine (H1.out _).mono ?_
      rintro e w2 ⟨rfl, rfl⟩
      go_wp2_with fail
      refine (H2.out _).mono ?_
      rintro e w3 ⟨rfl, rfl⟩
      go_wp2
      go_ret
      exact ⟨rfl, hb0⟩
end Go.Proofs.Ytedpgcmmnmlpeaa.Span

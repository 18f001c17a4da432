/- Spans of cells: what they are, their meeting, and how they are told, in plain lists and integers. No program is named here. -/
import Derived.Test.YtedpgcmmnmlpeaaAddrText
namespace Go.Proofs.Ytedpgcmmnmlpeaa.Span
open Go.Proofs.Ytedpgcmmnmlpeaa.Addr

/-- a span may be -/
def mayS (a b c d : Int) : Bool := mayB a b && mayB c d
theorem of_mayS {a b c d : Int} (h : mayS a b c d = true) : (0 ≤ a ∧ a ≤ 998) ∧ (0 ≤ b ∧ b ≤ 701) ∧ (0 ≤ c ∧ c ≤ 998) ∧ 0 ≤ d ∧ d ≤ 701 := by
  simp only [mayS, mayB, Bool.and_eq_true, decide_eq_true_eq] at h
  omega
theorem mayS_of {a b c d : Int} (h : (0 ≤ a ∧ a ≤ 998) ∧ (0 ≤ b ∧ b ≤ 701) ∧ (0 ≤ c ∧ c ≤ 998) ∧ 0 ≤ d ∧ d ≤ 701) : mayS a b c d = true := by
  simp only [mayS, mayB, Bool.and_eq_true, decide_eq_true_eq]
  omega
theorem mayS_left {a b c d : Int} (h : mayS a b c d = true) : mayB a b = true := (Bool.and_eq_true _ _ ▸ h).1
theorem mayS_right {a b c d : Int} (h : mayS a b c d = true) : mayB c d = true := (Bool.and_eq_true _ _ ▸ h).2
/-- the straight one with the same cells -/
def lo (m : Bool) (a c : Int) : Int := if m = true then (if a ≤ c then a else c) else 0
def hi (m : Bool) (a c : Int) : Int := if m = true then (if a ≤ c then c else a) else 0
/-- how many rows, or columns -/
def ext (m : Bool) (a c : Int) : Int := if m = true then hi m a c - lo m a c + 1 else 0
theorem lo_false (a c : Int) : lo false a c = 0 := rfl
theorem hi_false (a c : Int) : hi false a c = 0 := rfl
theorem ext_false (a c : Int) : ext false a c = 0 := rfl
theorem lo_range {a b c d : Int} (h : mayS a b c d = true) : (0 ≤ lo true a c ∧ lo true a c ≤ 998) ∧ (0 ≤ lo true b d ∧ lo true b d ≤ 701) ∧ (0 ≤ hi true a c ∧ hi true a c ≤ 998) ∧ (0 ≤ hi true b d ∧ hi true b d ≤ 701) ∧ lo true a c ≤ hi true a c ∧ lo true b d ≤ hi true b d := by
  obtain ⟨h1, h2, h3, h4⟩ := of_mayS h
  simp only [lo, hi, if_true]
  refine ⟨?_, ?_, ?_, ?_, ?_, ?_⟩ <;> (repeat' split) <;> omega
/-- is a number between two others, whichever way they stand? -/
def btwB (n a b : Int) : Bool := (decide (a ≤ n) && decide (n ≤ b)) || (decide (b ≤ n) && decide (n ≤ a))
theorem btwB_iff {n a c : Int} : btwB n a c = true ↔ lo true a c ≤ n ∧ n ≤ hi true a c := by
  simp only [btwB, Bool.or_eq_true, Bool.and_eq_true, decide_eq_true_eq, lo, hi, if_true]
  split <;> omega
/-- is a cell in a span? -/
def hasB (a b c d x y : Int) : Bool := mayS a b c d && btwB x a c && btwB y b d
theorem hasB_iff {a b c d x y : Int} : hasB a b c d x y = true ↔ mayS a b c d = true ∧ (lo true a c ≤ x ∧ x ≤ hi true a c) ∧ lo true b d ≤ y ∧ y ≤ hi true b d := by
  simp only [hasB, Bool.and_eq_true, btwB_iff]
  exact ⟨fun ⟨⟨h, i⟩, j⟩ => ⟨h, i, j⟩, fun ⟨h, i, j⟩ => ⟨⟨h, i⟩, j⟩⟩
/-- do two spans meet, and where? -/
def meetB (a b c d e f g h : Int) : Bool := mayS a b c d && mayS e f g h && decide (lo true a c ≤ hi true e g) && decide (lo true e g ≤ hi true a c) && decide (lo true b d ≤ hi true f h) && decide (lo true f h ≤ hi true b d)
def mlo (m : Bool) (a c e g : Int) : Int := if m = true then (if lo true a c ≤ lo true e g then lo true e g else lo true a c) else 0
def mhi (m : Bool) (a c e g : Int) : Int := if m = true then (if hi true a c ≤ hi true e g then hi true a c else hi true e g) else 0
theorem meetB_iff {a b c d e f g h : Int} : meetB a b c d e f g h = true ↔ mayS a b c d = true ∧ mayS e f g h = true ∧ lo true a c ≤ hi true e g ∧ lo true e g ≤ hi true a c ∧ lo true b d ≤ hi true f h ∧ lo true f h ≤ hi true b d := by
  simp only [meetB, Bool.and_eq_true, decide_eq_true_eq]
  exact ⟨fun ⟨⟨⟨⟨⟨p, q⟩, r⟩, s⟩, t⟩, u⟩ => ⟨p, q, r, s, t, u⟩, fun ⟨p, q, r, s, t, u⟩ => ⟨⟨⟨⟨⟨p, q⟩, r⟩, s⟩, t⟩, u⟩⟩
theorem meetB_comm (a b c d e f g h : Int) : meetB e f g h a b c d = meetB a b c d e f g h := by
  rw [Bool.eq_iff_iff, meetB_iff, meetB_iff]
  exact ⟨fun ⟨p, q, r, s, t, u⟩ => ⟨q, p, s, r, u, t⟩, fun ⟨p, q, r, s, t, u⟩ => ⟨q, p, s, r, u, t⟩⟩
theorem mlo_comm (m : Bool) (a c e g : Int) : mlo m e g a c = mlo m a c e g := by
  cases m
  · rfl
  · simp only [mlo, if_true]; (repeat' split) <;> omega
theorem mhi_comm (m : Bool) (a c e g : Int) : mhi m e g a c = mhi m a c e g := by
  cases m
  · rfl
  · simp only [mhi, if_true]; (repeat' split) <;> omega
/-- from the greater beginning to the lesser end: that it is not turned about says that they meet -/
theorem meet_test {a c e g : Int} : (mhi true a c e g < mlo true a c e g) ↔ ¬ (lo true a c ≤ hi true e g ∧ lo true e g ≤ hi true a c) := by
  simp only [mlo, mhi, lo, hi, if_true]
  (repeat' split) <;> omega
theorem meet_range {a b c d e f g h : Int} (m : meetB a b c d e f g h = true) : mayS (mlo true a c e g) (mlo true b d f h) (mhi true a c e g) (mhi true b d f h) = true ∧ mlo true a c e g ≤ mhi true a c e g ∧ mlo true b d f h ≤ mhi true b d f h := by
  obtain ⟨p, q, r, s, t, u⟩ := meetB_iff.1 m
  obtain ⟨p1, p2, p3, p4, p5, p6⟩ := lo_range p
  obtain ⟨q1, q2, q3, q4, q5, q6⟩ := lo_range q
  refine ⟨mayS_of ⟨?_, ?_, ?_, ?_⟩, ?_, ?_⟩ <;> simp only [mlo, mhi, if_true] <;> (repeat' split) <;> omega
theorem lo_of_le {a c : Int} (h : a ≤ c) : lo true a c = a := by simp only [lo, if_true, if_pos h]
theorem hi_of_le {a c : Int} (h : a ≤ c) : hi true a c = c := by simp only [hi, if_true, if_pos h]
/-- the meeting has just the cells of both -/
theorem meet_has {a b c d e f g h x y : Int} (m : meetB a b c d e f g h = true) : hasB (mlo true a c e g) (mlo true b d f h) (mhi true a c e g) (mhi true b d f h) x y = (hasB a b c d x y && hasB e f g h x y) := by
  obtain ⟨r1, r2, r3⟩ := meet_range m
  obtain ⟨p, q, r, s, t, u⟩ := meetB_iff.1 m
  rw [Bool.eq_iff_iff, Bool.and_eq_true, hasB_iff, hasB_iff, hasB_iff, lo_of_le r2, hi_of_le r2, lo_of_le r3, hi_of_le r3]
  simp only [p, q, r1, true_and]
  simp only [mlo, mhi, if_true]
  (repeat' split) <;> omega
/-- who has a cell of both meets -/
theorem has_meet {a b c d e f g h x y : Int} (h1 : hasB a b c d x y = true) (h2 : hasB e f g h x y = true) : meetB a b c d e f g h = true := by
  obtain ⟨p, p1, p2⟩ := hasB_iff.1 h1
  obtain ⟨q, q1, q2⟩ := hasB_iff.1 h2
  exact meetB_iff.2 ⟨p, q, by omega, by omega, by omega, by omega⟩
/-- is a span within another one? -/
def withB (a b c d e f g h : Int) : Bool := meetB a b c d e f g h && (mlo true a c e g == lo true a c && mlo true b d f h == lo true b d && mhi true a c e g == hi true a c && mhi true b d f h == hi true b d)
theorem with_has {a b c d e f g h x y : Int} (h1 : withB a b c d e f g h = true) (h2 : hasB a b c d x y = true) : hasB e f g h x y = true := by
  simp only [withB, Bool.and_eq_true, beq_iff_eq] at h1
  obtain ⟨m, ⟨⟨m1, m2⟩, m3⟩, m4⟩ := h1
  have h3 := meet_has (x := x) (y := y) m
  obtain ⟨p, p1, p2⟩ := hasB_iff.1 h2
  rw [m1, m2, m3, m4, h2, Bool.true_and] at h3
  rw [← h3]
  obtain ⟨r1, r2, r3⟩ := meet_range m
  rw [m1, m3] at r2
  rw [m2, m4] at r3
  rw [m1, m2, m3, m4] at r1
  exact hasB_iff.2 ⟨r1, by rw [lo_of_le r2, hi_of_le r2]; exact p1, by rw [lo_of_le r3, hi_of_le r3]; exact p2⟩
/-- a cell is in a span if the span of it alone is within that -/
theorem with_cell (a b c d x y : Int) : withB x y x y a b c d = hasB a b c d x y := by
  have hxx : lo true x x = x := lo_of_le (Int.le_refl _)
  have hyy : lo true y y = y := lo_of_le (Int.le_refl _)
  have hx2 : hi true x x = x := hi_of_le (Int.le_refl _)
  have hy2 : hi true y y = y := hi_of_le (Int.le_refl _)
  rw [Bool.eq_iff_iff, hasB_iff]
  simp only [withB, Bool.and_eq_true, beq_iff_eq, meetB_iff, hxx, hyy, hx2, hy2]
  constructor
  · rintro ⟨⟨_, q, r, s, t, u⟩, _⟩
    exact ⟨q, ⟨s, r⟩, u, t⟩
  · rintro ⟨q, ⟨s, r⟩, u, t⟩
    obtain ⟨q1, q2, q3, q4, q5, q6⟩ := lo_range q
    refine ⟨⟨mayS_of ⟨⟨by omega, by omega⟩, ⟨by omega, by omega⟩, ⟨by omega, by omega⟩, by omega, by omega⟩, q, r, s, t, u⟩, ⟨⟨?_, ?_⟩, ?_⟩, ?_⟩ <;>
      simp only [mlo, mhi, hxx, hyy, hx2, hy2, if_true] <;> split <;> omega

/-- a span as text -/
def textI (a b c d : Int) : List UInt8 := if mayS a b c d = true then (if a = c ∧ b = d then nameI a b else nameI a b ++ 58 :: nameI c d) else []
theorem name_clean {a b : Int} (h : mayB a b = true) : (58 : UInt8) ∉ nameI a b := by
  obtain ⟨i, j, rfl, rfl, hi, hj⟩ := of_mayB h
  rw [nameI_nat hi hj, nameN, List.mem_append, not_or]
  refine ⟨fun hm => ?_, fun hm => ?_⟩
  · have := (let_facts j (by omega) _ hm).1
    exact absurd this (by decide)
  · have := ((num_facts i (by omega)).1 _ hm).2
    exact absurd this (by decide)
theorem nameI_inj {a b c d : Int} (h1 : mayB a b = true) (h2 : mayB c d = true) (h : nameI a b = nameI c d) : a = c ∧ b = d := by
  obtain ⟨i, j, rfl, rfl, hi, hj⟩ := of_mayB h1
  obtain ⟨k, l, rfl, rfl, hk, hl⟩ := of_mayB h2
  rw [nameI_nat hi hj, nameI_nat hk hl] at h
  obtain ⟨rfl, rfl⟩ := name_inj hi hj hk hl h
  exact ⟨rfl, rfl⟩
theorem nameI_len {a b : Int} (h : mayB a b = true) : 1 ≤ (nameI a b).length ∧ (nameI a b).length ≤ 5 := by
  obtain ⟨i, j, rfl, rfl, hi, hj⟩ := of_mayB h
  rw [nameI_nat hi hj, nameN, List.length_append]
  have h1 := let_len1 j
  have h2 := num_length i
  omega
/-- what a reader of spans has to answer -/
def SpanIs (t : List UInt8) (a b c d : Int) (k : Bool) : Prop :=
  (k = true ∧ mayS a b c d = true ∧ textI a b c d = t) ∨ (k = false ∧ a = 0 ∧ b = 0 ∧ c = 0 ∧ d = 0 ∧ ∀ x y z u, mayS x y z u = true → textI x y z u ≠ t)
/-- the text ahead of the first colon -/
theorem colon_at {a b x y : List UInt8} (ha : (58 : UInt8) ∉ a) (hb : (58 : UInt8) ∉ b) (h : a ++ 58 :: x = b ++ 58 :: y) : a = b ∧ x = y := by
  induction a generalizing b with
  | nil =>
    cases b with
    | nil => simpa using h
    | cons c r =>
      simp only [List.nil_append, List.cons_append, List.cons.injEq] at h
      exact absurd (by simp [h.1]) hb
  | cons c r ih =>
    cases b with
    | nil =>
      simp only [List.nil_append, List.cons_append, List.cons.injEq] at h
      exact absurd (by simp [h.1]) ha
    | cons d q =>
      simp only [List.cons_append, List.cons.injEq] at h
      obtain ⟨h1, h2⟩ := ih (fun hh => ha (by simp [hh])) (fun hh => hb (by simp [hh])) h.2
      exact ⟨by rw [h.1, h1], h2⟩
theorem no_colon {a b x : List UInt8} (ha : (58 : UInt8) ∉ a) : a ≠ b ++ 58 :: x := fun e => ha (by rw [e]; simp)
theorem textI_inj {a b c d x y z u : Int} (h1 : mayS a b c d = true) (h2 : mayS x y z u = true) (h : textI a b c d = textI x y z u) : a = x ∧ b = y ∧ c = z ∧ d = u := by
  rw [textI, textI, if_pos h1, if_pos h2] at h
  have a1 := mayS_left h1
  have a2 := mayS_right h1
  have b1 := mayS_left h2
  have b2 := mayS_right h2
  by_cases e1 : a = c ∧ b = d
  · rw [if_pos e1] at h
    by_cases e2 : x = z ∧ y = u
    · rw [if_pos e2] at h
      obtain ⟨rfl, rfl⟩ := nameI_inj a1 b1 h
      exact ⟨rfl, rfl, e1.1.symm.trans e2.1, e1.2.symm.trans e2.2⟩
    · rw [if_neg e2] at h
      exact absurd h (no_colon (name_clean a1))
  · rw [if_neg e1] at h
    by_cases e2 : x = z ∧ y = u
    · rw [if_pos e2] at h
      exact absurd h.symm (no_colon (name_clean b1))
    · rw [if_neg e2] at h
      obtain ⟨h3, h4⟩ := colon_at (name_clean a1) (name_clean b1) h
      obtain ⟨rfl, rfl⟩ := nameI_inj a1 b1 h3
      obtain ⟨rfl, rfl⟩ := nameI_inj a2 b2 h4
      exact ⟨rfl, rfl, rfl, rfl⟩
theorem SpanIs.unique {t : List UInt8} {a b c d x y z u : Int} {k l : Bool} (h : SpanIs t a b c d k) (h' : SpanIs t x y z u l) : a = x ∧ b = y ∧ c = z ∧ d = u ∧ k = l := by
  rcases h with ⟨rfl, m, e⟩ | ⟨rfl, rfl, rfl, rfl, rfl, n⟩ <;> rcases h' with ⟨rfl, m', e'⟩ | ⟨rfl, rfl, rfl, rfl, rfl, n'⟩
  · obtain ⟨h1, h2, h3, h4⟩ := textI_inj m m' (e.trans e'.symm)
    exact ⟨h1, h2, h3, h4, rfl⟩
  · exact absurd e (n' _ _ _ _ m)
  · exact absurd e' (n _ _ _ _ m')
  · exact ⟨rfl, rfl, rfl, rfl, rfl⟩
theorem textI_out {a b c d : Int} (h : mayS a b c d = false) : textI a b c d = [] := by rw [textI, h, if_neg (by decide)]
theorem textI_len {a b c d : Int} (h : mayS a b c d = true) : 1 ≤ (textI a b c d).length ∧ (textI a b c d).length ≤ 11 := by
  have h1 := nameI_len (mayS_left h)
  have h2 := nameI_len (mayS_right h)
  rw [textI, if_pos h]
  split
  · omega
  · simp only [List.length_append, List.length_cons]; omega
theorem textI_short (a b c d : Int) : (textI a b c d).length ≤ 11 := by
  cases h : mayS a b c d with
  | true => exact (textI_len h).2
  | false => rw [textI_out h]; simp
theorem spanIs_text (a b c d : Int) : SpanIs (textI a b c d) (if mayS a b c d then a else 0) (if mayS a b c d then b else 0) (if mayS a b c d then c else 0) (if mayS a b c d then d else 0) (mayS a b c d) := by
  cases h : mayS a b c d with
  | true => exact .inl ⟨rfl, by simpa using h, by simp⟩
  | false =>
    rw [textI_out h]
    refine .inr ⟨rfl, rfl, rfl, rfl, rfl, fun x y z u m e => ?_⟩
    have := (textI_len m).1
    rw [e] at this
    simp at this
/-- a text without a colon is a cell's name, or none's -/
theorem SpanIs.one {t : List UInt8} {r c : Int} (h : CellIs t r c true) : SpanIs t r c r c true := by
  obtain ⟨h1, h2⟩ := h.back
  have hm : mayS r c r c = true := by simp [mayS, h1]
  exact .inl ⟨rfl, hm, by rw [textI, if_pos hm, if_pos ⟨rfl, rfl⟩, h2]⟩
theorem CellIs.none_of {t : List UInt8} {r c : Int} (h : CellIs t r c false) {x y : Int} (hm : mayB x y = true) : nameI x y ≠ t := fun e => by
  have h2 := CellIs.name hm
  rw [e] at h2
  have h3 := (h.unique h2).2.2
  cases h3
theorem SpanIs.no_name {t : List UInt8} (hc : (58 : UInt8) ∉ t) {r c : Int} (h : CellIs t r c false) : SpanIs t 0 0 0 0 false := by
  refine .inr ⟨rfl, rfl, rfl, rfl, rfl, fun x y z u m e => ?_⟩
  rw [textI, if_pos m] at e
  split at e
  · exact CellIs.none_of h (mayS_left m) e
  · exact hc (by rw [← e]; simp)
/-- a text with a colon is two cells' names, and these are two cells -/
theorem SpanIs.two {s v : List UInt8} {a b c d : Int} (h1 : CellIs s a b true) (h2 : CellIs v c d true) (hne : ¬ (a = c ∧ b = d)) : SpanIs (s ++ 58 :: v) a b c d true := by
  obtain ⟨m1, e1⟩ := h1.back
  obtain ⟨m2, e2⟩ := h2.back
  have hm : mayS a b c d = true := by simp [mayS, m1, m2]
  exact .inl ⟨rfl, hm, by rw [textI, if_pos hm, if_neg hne, e1, e2]⟩
theorem text_colon {x y z u : Int} {s v : List UInt8} (m : mayS x y z u = true) (hs : (58 : UInt8) ∉ s) (e : textI x y z u = s ++ 58 :: v) : nameI x y = s ∧ nameI z u = v ∧ ¬ (x = z ∧ y = u) := by
  rw [textI, if_pos m] at e
  split at e
  · exact absurd e (no_colon (name_clean (mayS_left m)))
  · rename_i hne
    obtain ⟨h1, h2⟩ := colon_at (name_clean (mayS_left m)) hs e
    exact ⟨h1, h2, hne⟩
theorem SpanIs.no_first {s v : List UInt8} (hs : (58 : UInt8) ∉ s) {r c : Int} (h : CellIs s r c false) : SpanIs (s ++ 58 :: v) 0 0 0 0 false := by
  refine .inr ⟨rfl, rfl, rfl, rfl, rfl, fun x y z u m e => ?_⟩
  exact CellIs.none_of h (mayS_left m) (text_colon m hs e).1
theorem SpanIs.no_second {s v : List UInt8} (hs : (58 : UInt8) ∉ s) {r c : Int} (h : CellIs v r c false) : SpanIs (s ++ 58 :: v) 0 0 0 0 false := by
  refine .inr ⟨rfl, rfl, rfl, rfl, rfl, fun x y z u m e => ?_⟩
  exact CellIs.none_of h (mayS_right m) (text_colon m hs e).2.1
theorem SpanIs.same {s v : List UInt8} (hs : (58 : UInt8) ∉ s) {a b : Int} (h1 : CellIs s a b true) (h2 : CellIs v a b true) : SpanIs (s ++ 58 :: v) 0 0 0 0 false := by
  refine .inr ⟨rfl, rfl, rfl, rfl, rfl, fun x y z u m e => ?_⟩
  obtain ⟨e1, e2, hne⟩ := text_colon m hs e
  have k1 := CellIs.name (mayS_left m)
  have k2 := CellIs.name (mayS_right m)
  rw [e1] at k1
  rw [e2] at k2
  obtain ⟨rfl, rfl, _⟩ := h1.unique k1
  obtain ⟨rfl, rfl, _⟩ := h2.unique k2
  exact hne ⟨rfl, rfl⟩
end Go.Proofs.Ytedpgcmmnmlpeaa.Span

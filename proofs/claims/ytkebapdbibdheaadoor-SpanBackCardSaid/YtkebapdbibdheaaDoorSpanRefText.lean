/- What the reference's Text and Parse of a span answer: every span, every text. -/
import Derived.Test.YtkebapdbibdheaaDoorSpanRef
import Derived.Test.YtkebapdbibdheaaDoorAddrRefP
namespace Go.Proofs.YtkebapdbibdheaaDoor.Span
open Go.RowKit Kit Reg Go.Proofs.YtkebapdbibdheaaDoor.Addr

theorem rcat3 (a b : List UInt8) : ((⟨a.toArray⟩ : ByteArray) ++ ⟨#[58]⟩) ++ ⟨b.toArray⟩ = ⟨(a ++ 58 :: b).toArray⟩ := by
  apply ByteArray.ext
  simp
theorem rtwo_ways (a b c d : Int) : (a = c ∧ b = d) ∨ (¬ (a = c ∧ b = d) ∧ ((a == c) = false ∨ ((a == c) = true ∧ (b == d) = false))) := by
  by_cases h1 : a = c
  · by_cases h2 : b = d
    · exact .inl ⟨h1, h2⟩
    · exact .inr ⟨fun h => h2 h.2, .inr ⟨by simpa using h1, by simpa using h2⟩⟩
  · exact .inr ⟨fun h => h1 h.1, .inl (by simpa using h1)⟩
def RTextEnd (l : List UInt8) (w : World) (e : Ending) (w' : World) : Prop := e = .returned (.string ⟨l.toArray⟩) ∧ Below w.heap.size w w'
set_option maxRecDepth 100000 in
set_option maxHeartbeats 2000000 in
theorem rtext_c (a b c d : Int) (w : World) : Calls Tryd.prog 30 #[.agg #[.int .i64 a, .int .i64 b, .int .i64 c, .int .i64 d]] w (RTextEnd (textI a b c d) w) := by
  have hb0 := below1 w (.cells #[.int .i64 a, .int .i64 b, .int .i64 c, .int .i64 d] 25)
  have ha := CellsAt.new w [.int .i64 a, .int .i64 b, .int .i64 c, .int .i64 d] 25
  cases hm : mayS a b c d with
  | false =>
    have Hm := Lib.hid (fun w1 => rmay_c a b c d false hm w1)
    rw [textI_out hm]
    clear hm ha
    go_enter Tryd.func30, Tryd.ntmps30
    go_wp2_with fail
    refine (Hm.out _).mono ?_
    rintro e w1 ⟨rfl, hb1⟩
    replace hb0 := on hb0 hb1
    go_wp2
    go_ret
    exact ⟨rfl, hb0⟩
  | true =>
    have Hm := Lib.hid (fun w1 => rmay_c a b c d true hm w1)
    have H1 := Lib.hid (fun w1 => rname_c a b w1)
    have H2 := Lib.hid (fun w1 => rname_c c d w1)
    obtain ⟨_, l1⟩ := nameI_len (mayS_left hm)
    obtain ⟨_, l2⟩ := nameI_len (mayS_right hm)
    have HC := Lib.hid (rcat3 (nameI a b) (nameI c d))
    rw [textI, if_pos hm]
    clear hm
    rcases rtwo_ways c d a b with ⟨h1, h2⟩ | ⟨hne, hw⟩
    · rw [if_pos ⟨h1.symm, h2.symm⟩]
      have e1 : (c == a) = true := by simpa using h1
      have e2 : (d == b) = true := by simpa using h2
      clear h1 h2
      generalize nameI a b = A at *
      go_enter Tryd.func30, Tryd.ntmps30
      go_wp2_with fail
      refine (Hm.out _).mono ?_
      rintro e w1 ⟨rfl, hb1⟩
      replace hb0 := on hb0 hb1
      replace ha := ha.on hb1
      clear hb1
      obtain ⟨c0, c1, c2, c3, _⟩ := ha.four
      go_wp2_with fail
      refine (H1.out _).mono ?_
      rintro e w2 ⟨rfl, hb2⟩
      replace hb0 := on hb0 hb2
      clear c0 c1 c2 c3
      obtain ⟨c0, c1, c2, c3, _⟩ := (ha.on hb2).four
      go_wp2
      go_ret
      exact ⟨rfl, hb0⟩
    · rw [if_neg (fun h => hne ⟨h.1.symm, h.2.symm⟩)]
      clear hne
      generalize nameI a b = A at *
      generalize nameI c d = B at *
      rcases hw with h1 | ⟨h1, h2⟩
      all_goals
        go_enter Tryd.func30, Tryd.ntmps30
        go_wp2_with fail
        refine (Hm.out _).mono ?_
        rintro e w1 ⟨rfl, hb1⟩
        replace hb0 := on hb0 hb1
        replace ha := ha.on hb1
        clear hb1
        obtain ⟨c0, c1, c2, c3, _⟩ := ha.four
        go_wp2_with fail
        refine (H1.out _).mono ?_
        rintro e w2 ⟨rfl, hb2⟩
        replace hb0 := on hb0 hb2
        replace ha := ha.on hb2
        clear c0 c1 c2 c3 hb2
        obtain ⟨c0, c1, c2, c3, _⟩ := ha.four
        go_wp2_with fail
        refine (H2.out _).mono ?_
        rintro e w3 ⟨rfl, hb3⟩
        replace hb0 := on hb0 hb3
        go_wp2
        go_ret
        exact ⟨congrArg (fun x => Ending.returned (.string x)) HC.out, hb0⟩

/-- a reader's answer: a span, and whether there is one -/
def ToldEnd (t : List UInt8) (w : World) (e : Ending) (w' : World) : Prop := ∃ (a b c d : Int) (k : Bool), e = .returned (.agg #[.int .i64 a, .int .i64 b, .int .i64 c, .int .i64 d, .bool k]) ∧ SpanIs t a b c d k ∧ Below w.heap.size w w'
/-- any text is a cell's name, or none's -/
theorem cellIs_ex (t : List UInt8) : ∃ r c b, CellIs t r c b := by
  by_cases h : ∃ i j : Nat, i ≤ 998 ∧ j ≤ 701 ∧ nameN i j = t
  · obtain ⟨i, j, hi, hj, e⟩ := h
    exact ⟨i, j, true, .inl ⟨rfl, i, j, hi, hj, rfl, rfl, e⟩⟩
  · exact ⟨0, 0, false, .inr ⟨rfl, rfl, rfl, fun i j hi hj e => h ⟨i, j, hi, hj, e⟩⟩⟩
theorem rparse_at (t : ByteArray) (r c : Int) (b : Bool) (h : CellIs t.data.toList r c b) (w : World) : Calls Tryd.prog 41 #[.string t] w fun e w' => e = .returned (.agg #[.int .i64 r, .int .i64 c, .bool b]) ∧ Below w.heap.size w w' :=
  (rparse_c t w).mono fun e w' ⟨r', c', b', he, h', hb⟩ => by
    obtain ⟨rfl, rfl, rfl⟩ := h.unique h'
    exact ⟨he, hb⟩
/-- no span's text is cut ahead of the byte k -/
def NoSpan (t : List UInt8) (k : Nat) : Prop := (∃ r c, CellIs t r c false) ∧ ∀ x y z u, mayS x y z u = true → textI x y z u = t → k ≤ (nameI x y).length
theorem NoSpan.zero {t : List UInt8} {r c : Int} (h : CellIs t r c false) : NoSpan t 0 := ⟨⟨r, c, h⟩, fun _ _ _ _ _ _ => Nat.zero_le _⟩
theorem text_split {t : List UInt8} {r c : Int} (h : CellIs t r c false) {x y z u : Int} (m : mayS x y z u = true) (e : textI x y z u = t) : t = nameI x y ++ 58 :: nameI z u ∧ ¬ (x = z ∧ y = u) := by
  rw [textI, if_pos m] at e
  split at e
  · exact absurd e (CellIs.none_of h (mayS_left m))
  · rename_i hne
    exact ⟨e.symm, hne⟩
theorem NoSpan.done {t : List UInt8} {k : Nat} (h : NoSpan t k) (hk : t.length ≤ k ∨ 10 ≤ k) : SpanIs t 0 0 0 0 false := by
  obtain ⟨⟨r, c, h1⟩, h2⟩ := h
  refine .inr ⟨rfl, rfl, rfl, rfl, rfl, fun x y z u m e => ?_⟩
  have h3 := h2 x y z u m e
  have h4 := nameI_len (mayS_left m)
  have h5 := congrArg List.length (text_split h1 m e).1
  simp only [List.length_append, List.length_cons] at h5
  omega
theorem NoSpan.other {t : List UInt8} {k : Nat} {b : UInt8} (h : NoSpan t k) (hb : t[k]? = some b) (hne : b ≠ 58) : NoSpan t (k + 1) := by
  obtain ⟨⟨r, c, h1⟩, h2⟩ := h
  refine ⟨⟨r, c, h1⟩, fun x y z u m e => ?_⟩
  have h3 := h2 x y z u m e
  rcases Nat.lt_or_ge k (nameI x y).length with h4 | h4
  · exact h4
  · obtain rfl : k = (nameI x y).length := by omega
    rw [(text_split h1 m e).1] at hb
    simp at hb
    exact absurd hb.symm hne
theorem NoSpan.next {t : List UInt8} {k : Nat} {r c r2 c2 : Int} {b b2 : Bool} (h : NoSpan t k) (k1 : CellIs (t.take k) r c b) (k2 : CellIs (t.drop (k + 1)) r2 c2 b2) (hno : b = true → b2 = true → r = r2 ∧ c = c2) : NoSpan t (k + 1) := by
  obtain ⟨⟨r', c', h1⟩, h2⟩ := h
  refine ⟨⟨r', c', h1⟩, fun x y z u m e => ?_⟩
  have h3 := h2 x y z u m e
  rcases Nat.lt_or_ge k (nameI x y).length with h4 | h4
  · exact h4
  · obtain rfl : k = (nameI x y).length := by omega
    obtain ⟨h5, hne⟩ := text_split h1 m e
    rw [h5] at k1 k2
    simp only [List.take_left'] at k1
    rw [show nameI x y ++ 58 :: nameI z u = (nameI x y ++ [58]) ++ nameI z u by simp, List.drop_left' (by simp)] at k2
    obtain ⟨rfl, rfl, rfl⟩ := k1.unique (CellIs.name (mayS_left m))
    obtain ⟨rfl, rfl, rfl⟩ := k2.unique (CellIs.name (mayS_right m))
    exact absurd (hno rfl rfl) hne
theorem NoSpan.found {t : List UInt8} {k : Nat} {r c r2 c2 : Int} (hb : t[k]? = some 58) (k1 : CellIs (t.take k) r c true) (k2 : CellIs (t.drop (k + 1)) r2 c2 true) (hne : ¬ (r = r2 ∧ c = c2)) : SpanIs t r c r2 c2 true := by
  have h := SpanIs.two k1 k2 hne
  obtain ⟨hk, he⟩ := List.getElem?_eq_some_iff.1 hb
  rwa [← he, ← List.drop_eq_getElem_cons hk, List.take_append_drop] at h
end Go.Proofs.YtkebapdbibdheaaDoor.Span

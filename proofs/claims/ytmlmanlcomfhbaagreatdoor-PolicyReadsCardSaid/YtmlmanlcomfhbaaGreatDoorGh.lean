/- What the reference's Text and Parse of a span answer: every span, every text.
   What the reference's Parse of a span answers: every text. -/
import Derived.Test.YtmlmanlcomfhbaaGreatDoorGg
import Derived.Test.YtmlmanlcomfhbaaGreatDoorGf
namespace Go.Proofs.YtmlmanlcomfhbaaGreatDoor.Span
open Go.RowKit Kit Reg Go.Proofs.YtmlmanlcomfhbaaGreatDoor.Addr

theorem rcat3 (a b : List UInt8) : ((⟨a.toArray⟩ : ByteArray) ++ ⟨#[58]⟩) ++ ⟨b.toArray⟩ = ⟨(a ++ 58 :: b).toArray⟩ := by
  apply ByteArray.ext
  simp
theorem rtwo_ways (a b c d : Int) : (a = c ∧ b = d) ∨ (¬ (a = c ∧ b = d) ∧ ((a == c) = false ∨ ((a == c) = true ∧ (b == d) = false))) := by
  by_cases h1 : a = c
  · by_cases h2 : b = d
    · exact .inl ⟨h1, h2⟩
    · exact .inr ⟨fun h => h2 h.2, .inr ⟨by simpa using h1, by simpa using h2⟩⟩
  · exact .inr ⟨fun h => h1 h.1, .inl (by simpa using h1)⟩
def RTextEnd (l : List UInt8) (w : World) (e : Ending) (w' : World) : Prop := e = .returned (.string ⟨l.toArray⟩) ∧ Below w.heap.size w w'
set_option maxRecDepth 100000 in
set_option maxHeartbeats 2000000 in
theorem rtext_c (a b c d : Int) (w : World) : Calls Tryz.prog 32 #[.agg #[.int .i64 a, .int .i64 b, .int .i64 c, .int .i64 d]] w (RTextEnd (textI a b c d) w) := by
  have hb0 := below1 w (.cells #[.int .i64 a, .int .i64 b, .int .i64 c, .int .i64 d] 67)
  have ha := CellsAt.new w [.int .i64 a, .int .i64 b, .int .i64 c, .int .i64 d] 67
  cases hm : mayS a b c d with
  | false =>
    have Hm := Lib.hid (fun w1 => rmay_c a b c d false hm w1)
    rw [textI_out hm]
    clear hm ha
    go_enter Tryz.func32, Tryz.ntmps32
    go_wp2_with fail
    refine (Hm.out _).mono ?_
    rintro e w1 ⟨rfl, hb1⟩
    replace hb0 := on hb0 hb1
    go_wp2
    go_ret
    exact ⟨rfl, hb0⟩
  | true =>
    have Hm := Lib.hid (fun w1 => rmay_c a b c d true hm w1)
    have H1 := Lib.hid (fun w1 => rname_c a b w1)
    have H2 := Lib.hid (fun w1 => rname_c c d w1)
    obtain ⟨_, l1⟩ := nameI_len (mayS_left hm)
    obtain ⟨_, l2⟩ := nameI_len (mayS_right hm)
    have HC := Lib.hid (rcat3 (nameI a b) (nameI c d))
    rw [textI, if_pos hm]
    clear hm
    rcases rtwo_ways c d a b with ⟨h1, h2⟩ | ⟨hne, hw⟩
    · rw [if_pos ⟨h1.symm, h2.symm⟩]
      have e1 : (c == a) = true := by simpa using h1
      have e2 : (d == b) = true := by simpa using h2
      clear h1 h2
      generalize nameI a b = A at *
      go_enter Tryz.func32, Tryz.ntmps32
      go_wp2_with fail
      refine (Hm.out _).mono ?_
      rintro e w1 ⟨rfl, hb1⟩
      replace hb0 := on hb0 hb1
      replace ha := ha.on hb1
      clear hb1
      obtain ⟨c0, c1, c2, c3, _⟩ := ha.four
      go_wp2_with fail
      refine (H1.out _).mono ?_
      rintro e w2 ⟨rfl, hb2⟩
      replace hb0 := on hb0 hb2
      clear c0 c1 c2 c3
      obtain ⟨c0, c1, c2, c3, _⟩ := (ha.on hb2).four
      go_wp2
      go_ret
      exact ⟨rfl, hb0⟩
    · rw [if_neg (fun h => hne ⟨h.1.symm, h.2.symm⟩)]
      clear hne
      generalize nameI a b = A at *
      generalize nameI c d = B at *
      rcases hw with h1 | ⟨h1, h2⟩
      all_goals
        go_enter Tryz.func32, Tryz.ntmps32
        go_wp2_with fail
        refine (Hm.out _).mono ?_
        rintro e w1 ⟨rfl, hb1⟩
        replace hb0 := on hb0 hb1
        replace ha := ha.on hb1
        clear hb1
        obtain ⟨c0, c1, c2, c3, _⟩ := ha.four
        go_wp2_with fail
        refine (H1.out _).mono ?_
        rintro e w2 ⟨rfl, hb2⟩
        replace hb0 := on hb0 hb2
        replace ha := ha.on hb2
        clear c0 c1 c2 c3 hb2
        obtain ⟨c0, c1, c2, c3, _⟩ := ha.four
        go_wp2_with fail
        refine (H2.out _).mono ?_
        rintro e w3 ⟨rfl, hb3⟩
        replace hb0 := on hb0 hb3
        go_wp2
        go_ret
        exact ⟨congrArg (fun x => Ending.returned (.string x)) HC.out, hb0⟩

/-- a reader's answer: a span, and whether there is one -/
def ToldEnd (t : List UInt8) (w : World) (e : Ending) (w' : World) : Prop := ∃ (a b c d : Int) (k : Bool), e = .returned (.agg #[.int .i64 a, .int .i64 b, .int .i64 c, .int .i64 d, .bool k]) ∧ SpanIs t a b c d k ∧ Below w.heap.size w w'
/-- any text is a cell's name, or none's -/
theorem cellIs_ex (t : List UInt8) : ∃ r c b, CellIs t r c b := by
  by_cases h : ∃ i j : Nat, i ≤ 998 ∧ j ≤ 701 ∧ nameN i j = t
  · obtain ⟨i, j, hi, hj, e⟩ := h
    exact ⟨i, j, true, .inl ⟨rfl, i, j, hi, hj, rfl, rfl, e⟩⟩
  · exact ⟨0, 0, false, .inr ⟨rfl, rfl, rfl, fun i j hi hj e => h ⟨i, j, hi, hj, e⟩⟩⟩
theorem rparse_at (t : ByteArray) (r c : Int) (b : Bool) (h : CellIs t.data.toList r c b) (w : World) : Calls Tryz.prog 83 #[.string t] w fun e w' => e = .returned (.agg #[.int .i64 r, .int .i64 c, .bool b]) ∧ Below w.heap.size w w' :=
  (rparse_c t w).mono fun e w' ⟨r', c', b', he, h', hb⟩ => by
    obtain ⟨rfl, rfl, rfl⟩ := h.unique h'
    exact ⟨he, hb⟩
/-- no span's text is cut ahead of the byte k -/
def NoSpan (t : List UInt8) (k : Nat) : Prop := (∃ r c, CellIs t r c false) ∧ ∀ x y z u, mayS x y z u = true → textI x y z u = t → k ≤ (nameI x y).length
theorem NoSpan.zero {t : List UInt8} {r c : Int} (h : CellIs t r c false) : NoSpan t 0 := ⟨⟨r, c, h⟩, fun _ _ _ _ _ _ => Nat.zero_le _⟩
theorem text_split {t : List UInt8} {r c : Int} (h : CellIs t r c false) {x y z u : Int} (m : mayS x y z u = true) (e : textI x y z u = t) : t = nameI x y ++ 58 :: nameI z u ∧ ¬ (x = z ∧ y = u) := by
  rw [textI, if_pos m] at e
  split at e
  · exact absurd e (CellIs.none_of h (mayS_left m))
  · rename_i hne
    exact ⟨e.symm, hne⟩
theorem NoSpan.done {t : List UInt8} {k : Nat} (h : NoSpan t k) (hk : t.length ≤ k ∨ 10 ≤ k) : SpanIs t 0 0 0 0 false := by
  obtain ⟨⟨r, c, h1⟩, h2⟩ := h
  refine .inr ⟨rfl, rfl, rfl, rfl, rfl, fun x y z u m e => ?_⟩
  have h3 := h2 x y z u m e
  have h4 := nameI_len (mayS_left m)
  have h5 := congrArg List.length (text_split h1 m e).1
  simp only [List.length_append, List.length_cons] at h5
  omega
theorem NoSpan.other {t : List UInt8} {k : Nat} {b : UInt8} (h : NoSpan t k) (hb : t[k]? = some b) (hne : b ≠ 58) : NoSpan t (k + 1) := by
  obtain ⟨⟨r, c, h1⟩, h2⟩ := h
  refine ⟨⟨r, c, h1⟩, fun x y z u m e => ?_⟩
  have h3 := h2 x y z u m e
  rcases Nat.lt_or_ge k (nameI x y).length with h4 | h4
  · exact h4
  · obtain rfl : k = (nameI x y).length := by omega
    rw [(text_split h1 m e).1] at hb
    simp at hb
    exact absurd hb.symm hne
theorem NoSpan.next {t : List UInt8} {k : Nat} {r c r2 c2 : Int} {b b2 : Bool} (h : NoSpan t k) (k1 : CellIs (t.take k) r c b) (k2 : CellIs (t.drop (k + 1)) r2 c2 b2) (hno : b = true → b2 = true → r = r2 ∧ c = c2) : NoSpan t (k + 1) := by
  obtain ⟨⟨r', c', h1⟩, h2⟩ := h
  refine ⟨⟨r', c', h1⟩, fun x y z u m e => ?_⟩
  have h3 := h2 x y z u m e
  rcases Nat.lt_or_ge k (nameI x y).length with h4 | h4
  · exact h4
  · obtain rfl : k = (nameI x y).length := by omega
    obtain ⟨h5, hne⟩ := text_split h1 m e
    rw [h5] at k1 k2
    simp only [List.take_left'] at k1
    rw [show nameI x y ++ 58 :: nameI z u = (nameI x y ++ [58]) ++ nameI z u by simp, List.drop_left' (by simp)] at k2
    obtain ⟨rfl, rfl, rfl⟩ := k1.unique (CellIs.name (mayS_left m))
    obtain ⟨rfl, rfl, rfl⟩ := k2.unique (CellIs.name (mayS_right m))
    exact absurd (hno rfl rfl) hne
theorem NoSpan.found {t : List UInt8} {k : Nat} {r c r2 c2 : Int} (hb : t[k]? = some 58) (k1 : CellIs (t.take k) r c true) (k2 : CellIs (t.drop (k + 1)) r2 c2 true) (hne : ¬ (r = r2 ∧ c = c2)) : SpanIs t r c r2 c2 true := by
  have h := SpanIs.two k1 k2 hne
  obtain ⟨hk, he⟩ := List.getElem?_eq_some_iff.1 hb
  rwa [← he, ← List.drop_eq_getElem_cons hk, List.take_append_drop] at h
end Go.Proofs.YtmlmanlcomfhbaaGreatDoor.Span
namespace Go.Proofs.YtmlmanlcomfhbaaGreatDoor.Span
open Go.RowKit Kit Reg Go.Proofs.YtmlmanlcomfhbaaGreatDoor.Addr

set_option maxRecDepth 100000 in
set_option maxHeartbeats 4000000 in
theorem rparse_span (t : ByteArray) (w : World) : Calls Tryz.prog 59 #[.string t] w (ToldEnd t.data.toList w) := by
  have H1 := Lib.hid (fun w1 => rparse_c t w1)
  have HTs := Lib.hid (Lib.size_eq t)
  have hb0 := below1 w (.cells #[.int .i64 0, .int .i64 0, .int .i64 0, .int .i64 0, .bool false] 103)
  have hv := CellsAt.new w [.int .i64 0, .int .i64 0, .int .i64 0, .int .i64 0, .bool false] 103
  go_enter Tryz.func59, Tryz.ntmps59
  go_wp2_with fail
  refine (H1.out _).mono ?_
  rintro e w1 ⟨r, c, ok, rfl, hc1, hb1⟩
  replace hv := hv.on hb1
  have lv := hv.1
  obtain ⟨v0, v1, v2, v3, v4, f0, f1, f2, f3, f4⟩ := hv.five
  replace hb0 := on hb0 hb1
  clear hb1
  cases ok with
  | true =>
    have HR := Lib.hid (SpanIs.one hc1)
    clear hc1
    go_wp2
    exact bodyPost_ret (by simp [results, Tryz.results59, go_sem, lv, v0, v1, v2, v3, v4]) rfl ⟨_, _, _, _, _, rfl, HR.out, on_alloc (put5_below hb0 (Nat.le_refl _) _ _ _ _ _) _⟩
  | false =>
    have hN := NoSpan.zero hc1
    clear hc1
    replace hb0 := on_alloc hb0 (.cells #[.int .i64 r, .int .i64 c, .bool false] 126)
    replace hv := hv.on_alloc (.cells #[.int .i64 r, .int .i64 c, .bool false] 126)
    clear v0 v1 v2 v3 v4 f0 f1 f2 f3 f4
    go_wp2
    go_loopw [4] (fun i wr => ∃ k : Nat, k ≤ t.size ∧ k ≤ 10 ∧ i = .int .i64 k ∧ NoSpan t.data.toList k ∧ Below w.heap.size w wr ∧ CellsAt wr w.heap.size [.int .i64 0, .int .i64 0, .int .i64 0, .int .i64 0, .bool false]) (fun i _ => 10 - (intOf i).toNat)
    case atStart => exact ⟨0, Nat.zero_le _, by omega, rfl, hN, hb0, hv⟩
    case round =>
      clear hN hb0 hv lv
      obtain ⟨k, hk, hk10, rfl, hN, hb0, hv⟩ := hrel
      have lv := hv.1
      by_cases hlt : k < t.size
      · by_cases h10 : k < 10
        · obtain ⟨x, hx⟩ : ∃ x : UInt8, t[k]'hlt = x := ⟨_, rfl⟩
          have hxl : t.data.toList[k]? = some x := by rw [← hx]; exact Lib.data_getElem? t k hlt
          by_cases h58 : x = 58
          · subst h58
            obtain ⟨r1, c1, b1, e1⟩ := cellIs_ex (t.data.toList.take k)
            obtain ⟨r2, c2, b2, e2⟩ := cellIs_ex (t.data.toList.drop (k + 1))
            have HA := Lib.hid (fun w1 => rparse_at (t.extract 0 k) r1 c1 b1 (by rw [ext_take]; exact e1) w1)
            have HB := Lib.hid (fun w1 => rparse_at (t.extract (k + 1) t.size) r2 c2 b2 (by rw [ext_drop]; exact e2) w1)
            have HF := Lib.hid (fun (hne : ¬ (r1 = r2 ∧ c1 = c2)) (h1 : b1 = true) (h2 : b2 = true) => NoSpan.found hxl (h1 ▸ e1) (h2 ▸ e2) hne)
            have HNx := Lib.hid (fun hno => hN.next e1 e2 hno)
            clear hN hxl e1 e2
            go_wp2_with fail
            refine wp_region_new 11 (fun d => match d with
              | 35 => some (Is (.agg #[.int .i64 r1, .int .i64 c1, .bool b1]))
              | 40 => some (Is (.agg #[.int .i64 r2, .int .i64 c2, .bool b2]))
              | 5 => some (NewCells wr.heap.size [.int .i64 0, .int .i64 0, .bool false])
              | 6 => some (NewCells wr.heap.size [.int .i64 0, .int .i64 0, .bool false])
              | _ => none) (fun d => d == 5 || d == 6) (by kernel_rfl) (by kernel_rfl) ?_
            simp only [List.take_succ_cons, List.take_zero, List.drop_succ_cons, List.drop_zero]
            repeat (first | (refine wpM_calm rfl rfl rfl ?_; intro K hK; go_big_quiet_op; go_big_quiet_on) | (refine wpM_skip rfl ?_; simp only [Act.put, List.setIfInBounds_toArray, List.set_cons_succ, List.set_cons_zero]))
            refine wpM_exact rfl rfl rfl Tryz.func83 (by kernel_rfl) (by kernel_rfl) (fun w1 _ _ => HA.out w1) rfl (by simp only [Act.put, List.setIfInBounds_toArray, List.set_cons_succ, List.set_cons_zero]; rfl) ?_
            repeat (first | (refine wpM_calm rfl rfl rfl ?_; intro K hK; go_big_quiet_op; go_big_quiet_on) | (refine wpM_skip rfl ?_; simp only [Act.put, List.setIfInBounds_toArray, List.set_cons_succ, List.set_cons_zero]))
            refine wpM_exact rfl rfl rfl Tryz.func83 (by kernel_rfl) (by kernel_rfl) (fun w1 _ _ => HB.out w1) rfl (by simp only [Act.put, List.setIfInBounds_toArray, List.set_cons_succ, List.set_cons_zero]; rfl) ?_
            refine wpM_alloc _ (.cells #[.int .i64 0, .int .i64 0, .bool false] 126) rfl rfl rfl (fun w1 => by simp [go_sem]) (fun w1 h1 => (NewCells.mk w1 _ _ h1.size).2) ?_ (by rintro v ⟨_, b, rfl, _⟩; exact ⟨b, rfl⟩)
            intro b6 a' ha'
            simp only [Act.put, List.setIfInBounds_toArray, List.set_cons_succ, List.set_cons_zero] at ha'
            subst ha'
            refine wpM_alloc _ (.cells #[.int .i64 0, .int .i64 0, .bool false] 126) rfl rfl rfl (fun w1 => by simp [go_sem]) (fun w1 h1 => (NewCells.mk w1 _ _ h1.size).2) ?_ (by rintro v ⟨_, b, rfl, _⟩; exact ⟨b, rfl⟩)
            intro b7 a' ha'
            simp only [Act.put, List.setIfInBounds_toArray, List.set_cons_succ, List.set_cons_zero] at ha'
            subst ha'
            refine wpM_nil ?_
            intro w4 hb4 hG
            have hne67 : b6 ≠ b7 := hG.2.1 9 b6 10 b7 (.inl (.inr ⟨rfl, rfl⟩)) (.inr ⟨rfl, rfl⟩) (by decide)
            obtain ⟨hB7, k7⟩ := NewCells.at (Fct.put_at (hG.2.2.1 10))
            obtain ⟨hB6, k6⟩ := NewCells.at (Fct.put_at (Fct.put_old (hG.2.2.1 9)))
            have hsw := hb0.size
            replace hb0 := on hb0 hb4
            replace hv := ((hv.on hb4).put3_far (c := b6) (by omega) (.int .i64 r1) (.int .i64 c1) (.bool b1)).put3_far (c := b7) (by omega) (.int .i64 r2) (.int .i64 c2) (.bool b2)
            obtain ⟨c60, c61, c62, f60, f61, f62⟩ := k6.three
            obtain ⟨c70, c71, c72, f70, f71, f72⟩ := (k7.put3_far hne67 (.int .i64 r1) (.int .i64 c1) (.bool b1)).three
            have q6 := (k6.put3 (.int .i64 r1) (.int .i64 c1) (.bool b1)).put3_far hne67.symm (.int .i64 r2) (.int .i64 c2) (.bool b2)
            have q7 := (k7.put3_far hne67 (.int .i64 r1) (.int .i64 c1) (.bool b1)).put3 (.int .i64 r2) (.int .i64 c2) (.bool b2)
            replace hb0 : Below w.heap.size w (put3 (put3 w4 b6 (.int .i64 r1) (.int .i64 c1) (.bool b1)) b7 (.int .i64 r2) (.int .i64 c2) (.bool b2)) := set3 (set3 hb0 (by omega) _ _ _) (by omega) _ _ _
            clear hG hb4 k6 k7
            go_upto_region 9 with fail
            simp only [put3] at hb0 hv q6 q7
            generalize (((((w4.setCell ⟨b6, 0, none⟩ (.int .i64 r1)).setCell ⟨b6, 1, none⟩ (.int .i64 c1)).setCell ⟨b6, 2, none⟩ (.bool b1)).setCell ⟨b7, 0, none⟩ (.int .i64 r2)).setCell ⟨b7, 1, none⟩ (.int .i64 c2)).setCell ⟨b7, 2, none⟩ (.bool b2) = W at *
            clear c60 c61 c62 f60 f61 f62 c70 c71 c72 f70 f71 f72
            have l6 := q6.1
            have l7 := q7.1
            have lv2 := hv.1
            obtain ⟨s0, s1, s2, _⟩ := q6.three
            obtain ⟨t0, t1, t2, _⟩ := q7.three
            obtain ⟨v0, v1, v2, v3, v4, o0, o1, o2, o3, o4⟩ := hv.five
            clear q6 q7 hB6 hB7 H1
            cases b1 with
            | false =>
              have HR := Lib.hid (HNx.out (fun h _ => by cases h))
              clear HNx HF
              go_wp2
              go_roundw
              case rel => exact ⟨k + 1, by omega, by omega, by go_num, HR.out, on_alloc hb0 _, hv.on_alloc _⟩
              case measure => simp [intOf]; omega
            | true =>
              cases b2 with
              | false =>
                have HR := Lib.hid (HNx.out (fun _ h => by cases h))
                clear HNx HF
                go_wp2
                go_roundw
                case rel => exact ⟨k + 1, by omega, by omega, by go_num, HR.out, on_alloc hb0 _, hv.on_alloc _⟩
                case measure => simp [intOf]; omega
              | true =>
                rcases rtwo_ways r1 c1 r2 c2 with ⟨rfl, rfl⟩ | ⟨hne, hw⟩
                · have HR := Lib.hid (HNx.out (fun _ _ => ⟨rfl, rfl⟩))
                  clear HNx HF
                  go_wp2
                  go_roundw
                  case rel => exact ⟨k + 1, by omega, by omega, by go_num, HR.out, on_alloc hb0 _, hv.on_alloc _⟩
                  case measure => simp [intOf]; omega
                · have HR := Lib.hid (HF.out hne rfl rfl)
                  clear HNx HF hne
                  rcases hw with h1 | ⟨h1, h2⟩
                  all_goals
                    go_wp2
                    exact bodyPost_ret (by simp [results, Tryz.results59, go_sem, lv2, v0, v1, v2, v3, v4]) rfl ⟨_, _, _, _, _, rfl, HR.out, on_alloc (put5_below hb0 (Nat.le_refl _) _ _ _ _ _) _⟩
          · have HR := Lib.hid (hN.other hxl h58)
            have hd : ((x.toNat : Int) != 58) = true := by
              have : x.toNat ≠ 58 := fun e => h58 (by rw [← UInt8.toNat_inj]; simpa using e)
              simp; omega
            clear hN hxl h58
            go_wp2
            go_roundw
            case rel => exact ⟨k + 1, by omega, by omega, by go_num, HR.out, hb0, hv⟩
            case measure => simp [intOf]; omega
        · have HR := Lib.hid (hN.done (.inr (by omega)))
          have hd : decide ((k : Int) < 10) = false := by simp; omega
          obtain ⟨v0, v1, v2, v3, v4, o0, o1, o2, o3, o4⟩ := hv.five
          have lv2 := lv
          clear hN
          go_wp2
          exact bodyPost_ret (by simp [results, Tryz.results59, go_sem, v0, v1, v2, v3, v4]) rfl ⟨_, _, _, _, _, rfl, HR.out, put5_below hb0 (Nat.le_refl _) _ _ _ _ _⟩
      · have HR := Lib.hid (hN.done (.inl (by rw [← HTs.out]; omega)))
        obtain ⟨v0, v1, v2, v3, v4, o0, o1, o2, o3, o4⟩ := hv.five
        have hd : decide ((k : Int) < (t.size : Int)) = false := by simp; omega
        clear hN
        go_wp2
        exact bodyPost_ret (by simp [results, Tryz.results59, go_sem, v0, v1, v2, v3, v4]) rfl ⟨_, _, _, _, _, rfl, HR.out, put5_below hb0 (Nat.le_refl _) _ _ _ _ _⟩
end Go.Proofs.YtmlmanlcomfhbaaGreatDoor.Span

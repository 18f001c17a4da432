/- ValueTurns, for every value: its shapes put together. -/
import Derived.Test.YtkegelhhajfipaaGreatDoorValLawT
namespace Go.Proofs.YtkegelhhajfipaaGreatDoor.Val
open Go.RowKit Kit Reg Dec Dig

theorem none_of {t : ByteArray} (h : decide (t.size = 0) = true) : t = ⟨#[]⟩ := by
  rcases empty_or t with rfl | ⟨_, hz⟩
  · rfl
  · rw [hz] at h; cases h
theorem may_ways {k n : Int} {t : ByteArray} (h : mayV k n t = true) :
    (k = 0 ∧ n = 0 ∧ t = ⟨#[]⟩) ∨ (k = 1 ∧ t = ⟨#[]⟩ ∧ mayD n = true) ∨ (k = 2 ∧ n = 0 ∧ t.size ≤ 256) ∨ (k = 3 ∧ t = ⟨#[]⟩ ∧ (n = 0 ∨ n = 1)) ∨ (k = 4 ∧ t = ⟨#[]⟩) := by
  unfold mayV at h
  simp only [Bool.or_eq_true, Bool.and_eq_true] at h
  rcases h with (((⟨⟨h1, h2⟩, h3⟩ | ⟨⟨h1, h2⟩, h3⟩) | ⟨⟨h1, h2⟩, h3⟩) | ⟨⟨h1, h2⟩, h3⟩) | ⟨⟨⟨h1, h2⟩, h3⟩, h4⟩
  · exact .inl ⟨of_decide_eq_true h1, of_decide_eq_true h3, none_of h2⟩
  · exact .inr (.inl ⟨of_decide_eq_true h1, none_of h2, h3⟩)
  · exact .inr (.inr (.inl ⟨of_decide_eq_true h1, of_decide_eq_true h2, of_decide_eq_true h3⟩))
  · exact .inr (.inr (.inr (.inl ⟨of_decide_eq_true h1, none_of h2, h3.imp of_decide_eq_true of_decide_eq_true⟩)))
  · exact .inr (.inr (.inr (.inr ⟨of_decide_eq_true h1, none_of h2⟩)))
theorem one_val {k n : Int} {l : List UInt8} {w : World} {e : Ending} {w' : World} (h : ValT k n l w e w') : ValIs k n ⟨l.toArray⟩ w e w' := by
  obtain ⟨s, rfl, hs, hb⟩ := h
  obtain rfl : s = ⟨l.toArray⟩ := bytes_eq hs
  exact ⟨rfl, hb⟩
theorem turns_law (k n : Int) (t : ByteArray) (h1 : -9223372036854775808 ≤ n) (h2 : n ≤ 9223372036854775807) (w : World) (hL : PLibs w) :
    Calls Tryz.prog 4 #[.agg #[.int .i64 k, .int .i64 n, .string t]] w (LawEnd w) := by
  cases hm : mayV k n t
  · exact turns_not k n t hm w hL
  rcases may_ways hm with ⟨rfl, rfl, rfl⟩ | ⟨rfl, rfl, hd⟩ | ⟨rfl, rfl, ht⟩ | ⟨rfl, rfl, h01⟩ | ⟨rfl, rfl⟩
  · exact turns_e ⟨([] : List UInt8).toArray⟩ ⟨(34 :: (quoteL [] ++ [34])).toArray⟩ (Lib.hid fun w1 => rmayv_c _ _ _ true hm w1)
      (Lib.hid fun w1 _ => asnum_e w1) (Lib.hid fun w1 _ => rasnum_e w1) (Lib.hid fun w1 _ => astext_e w1) (Lib.hid fun w1 _ => rastext_e w1) (Lib.hid fun w1 _ => astruth_e w1) (Lib.hid fun w1 _ => rastruth_e w1)
      (Lib.hid fun w1 _ => (show_e w1).mono fun e w' h => one_text h) (Lib.hid fun w1 _ => (rshow_e w1).mono fun e w' h => one_text h)
      (Lib.hid fun w1 h => (quote_c ⟨#[]⟩ (by decide) w1 h).mono fun e w' h => one_text h) (Lib.hid fun w1 _ => (rquote_c ⟨#[]⟩ (by decide) w1).mono fun e w' h => one_text h) w hL
  · have hs : (⟨(textD n).toArray⟩ : ByteArray).data.toList = textD n := by simp
    have hsz : (⟨(textD n).toArray⟩ : ByteArray).size ≤ 281474976710656 := by have := text21 n h1 h2 _ hs; omega
    have hr := (parse_text h2).2
    rw [hd, if_pos rfl] at hr
    have hrs : readD (⟨(textD n).toArray⟩ : ByteArray).data.toList = (n, true) := by rw [hs]; exact hr
    have core := fun nb (hb : ∀ w1, Calls Tryz.prog 22 #[.agg #[.int .i64 1, .int .i64 n, .string ⟨#[]⟩]] w1 (ValIs 3 nb ⟨#[]⟩ w1)) (hrb : ∀ w1, Calls Tryz.prog 25 #[.agg #[.int .i64 1, .int .i64 n, .string ⟨#[]⟩]] w1 (ValIs 3 nb ⟨#[]⟩ w1)) =>
      turns_n n nb ⟨(textD n).toArray⟩ ⟨(textD n).toArray⟩ ⟨(34 :: (quoteL [] ++ [34])).toArray⟩ (Lib.hid fun w1 => rmayv_c _ _ _ true hm w1)
      (Lib.hid fun w1 _ => asnum_n n w1) (Lib.hid fun w1 _ => rasnum_n n w1) (Lib.hid fun w1 h => (astext_n n h1 h2 w1 h.1).mono fun e w' h => one_val h) (Lib.hid fun w1 _ => (rastext_n n h1 h2 w1).mono fun e w' h => one_val h) (Lib.hid fun w1 _ => hb w1) (Lib.hid fun w1 _ => hrb w1)
      (Lib.hid fun w1 h => (show_n n h1 h2 w1 h.1).mono fun e w' h => one_text h) (Lib.hid fun w1 _ => (rshow_n n h2 w1).mono fun e w' h => one_text h)
      (Lib.hid fun w1 h => (quote_c ⟨#[]⟩ (by decide) w1 h).mono fun e w' h => one_text h) (Lib.hid fun w1 _ => (rquote_c ⟨#[]⟩ (by decide) w1).mono fun e w' h => one_text h)
      (Lib.hid fun w1 h => asnum_tyes _ hsz n hrs w1 h.1) w hL
    by_cases h0 : n = 0
    · subst h0; exact core 0 (fun w1 => astruth_n0 w1) (fun w1 => rastruth_n0 w1)
    · exact core 1 (fun w1 => astruth_n1 n h0 w1) (fun w1 => rastruth_n1 n h0 w1)
  · obtain ⟨⟨x, ok⟩, hr⟩ : ∃ r, readD t.data.toList = r := ⟨_, rfl⟩
    have hsz : t.size ≤ 281474976710656 := by omega
    have HM := Lib.hid fun w1 => rmayv_c _ _ _ true hm w1
    have PT : YieldsL 21 #[.agg #[.int .i64 2, .int .i64 0, .string t]] (.agg #[.int .i64 2, .int .i64 0, .string t]) := Lib.hid fun w1 _ => astext_t t w1
    have RT : YieldsL 24 #[.agg #[.int .i64 2, .int .i64 0, .string t]] (.agg #[.int .i64 2, .int .i64 0, .string t]) := Lib.hid fun w1 _ => rastext_t t ht w1
    have PS : YieldsL 26 #[.agg #[.int .i64 2, .int .i64 0, .string t]] (.string ⟨(34 :: (quoteL t.data.toList ++ [34])).toArray⟩) := Lib.hid fun w1 h => (show_t t (by omega) w1 h).mono fun e w' h => one_text h
    have RS : YieldsL 27 #[.agg #[.int .i64 2, .int .i64 0, .string t]] (.string ⟨(34 :: (quoteL t.data.toList ++ [34])).toArray⟩) := Lib.hid fun w1 _ => (rshow_t t (by omega) w1).mono fun e w' h => one_text h
    have PQ : YieldsL 28 #[.string t] (.string ⟨(34 :: (quoteL t.data.toList ++ [34])).toArray⟩) := Lib.hid fun w1 h => (quote_c t (by omega) w1 h).mono fun e w' h => one_text h
    have RQ : YieldsL 29 #[.string t] (.string ⟨(34 :: (quoteL t.data.toList ++ [34])).toArray⟩) := Lib.hid fun w1 _ => (rquote_c t (by omega) w1).mono fun e w' h => one_text h
    by_cases hy : t = yesT ∨ t = noT
    · obtain ⟨nb, PB, RB⟩ : ∃ nb, YieldsL 22 #[.agg #[.int .i64 2, .int .i64 0, .string t]] (.agg #[.int .i64 3, .int .i64 nb, .string ⟨#[]⟩]) ∧ YieldsL 25 #[.agg #[.int .i64 2, .int .i64 0, .string t]] (.agg #[.int .i64 3, .int .i64 nb, .string ⟨#[]⟩]) := by
        rcases hy with rfl | rfl
        · exact ⟨1, Lib.hid fun w1 _ => astruth_tyes w1, Lib.hid fun w1 _ => rastruth_tyes w1⟩
        · exact ⟨0, Lib.hid fun w1 _ => astruth_tno w1, Lib.hid fun w1 _ => rastruth_tno w1⟩
      cases ok
      · exact turns_t01 nb t _ _ HM (Lib.hid fun w1 h => asnum_tno t hsz x hr w1 h.1) (Lib.hid fun w1 _ => rasnum_tno t x hr w1) PT RT PB RB PS RS PQ RQ w hL
      · exact turns_t11 x nb t _ _ HM (Lib.hid fun w1 h => asnum_tyes t hsz x hr w1 h.1) (Lib.hid fun w1 _ => rasnum_tyes t x hr w1) PT RT PB RB PS RS PQ RQ w hL
    · have hy1 : t ≠ yesT := fun e => hy (.inl e)
      have hy2 : t ≠ noT := fun e => hy (.inr e)
      have PB : YieldsL 22 #[.agg #[.int .i64 2, .int .i64 0, .string t]] (.agg #[.int .i64 4, .int .i64 2, .string ⟨#[]⟩]) := Lib.hid fun w1 _ => astruth_telse t hy1 hy2 w1
      have RB : YieldsL 25 #[.agg #[.int .i64 2, .int .i64 0, .string t]] (.agg #[.int .i64 4, .int .i64 2, .string ⟨#[]⟩]) := Lib.hid fun w1 _ => rastruth_telse t hy1 hy2 w1
      cases ok
      · exact turns_t00 t _ _ HM (Lib.hid fun w1 h => asnum_tno t hsz x hr w1 h.1) (Lib.hid fun w1 _ => rasnum_tno t x hr w1) PT RT PB RB PS RS PQ RQ w hL
      · exact turns_t10 x t _ _ HM (Lib.hid fun w1 h => asnum_tyes t hsz x hr w1 h.1) (Lib.hid fun w1 _ => rasnum_tyes t x hr w1) PT RT PB RB PS RS PQ RQ w hL
  · rcases h01 with rfl | rfl
    · exact turns_b 0 0 noT ⟨noT.data.toList.toArray⟩ ⟨(34 :: (quoteL [] ++ [34])).toArray⟩ (Lib.hid fun w1 => rmayv_c _ _ _ true hm w1)
        (Lib.hid fun w1 _ => asnum_b0 w1) (Lib.hid fun w1 _ => rasnum_b0 w1) (Lib.hid fun w1 _ => astext_b0 w1) (Lib.hid fun w1 _ => rastext_b0 w1) (Lib.hid fun w1 _ => astruth_b 0 w1) (Lib.hid fun w1 _ => rastruth_b 0 w1)
        (Lib.hid fun w1 _ => (show_b0 w1).mono fun e w' h => one_text h) (Lib.hid fun w1 _ => (rshow_b0 w1).mono fun e w' h => one_text h)
        (Lib.hid fun w1 h => (quote_c ⟨#[]⟩ (by decide) w1 h).mono fun e w' h => one_text h) (Lib.hid fun w1 _ => (rquote_c ⟨#[]⟩ (by decide) w1).mono fun e w' h => one_text h)
        (Lib.hid fun w1 _ => astruth_tno w1) w hL
    · exact turns_b 1 10000 yesT ⟨yesT.data.toList.toArray⟩ ⟨(34 :: (quoteL [] ++ [34])).toArray⟩ (Lib.hid fun w1 => rmayv_c _ _ _ true hm w1)
        (Lib.hid fun w1 _ => asnum_b1 w1) (Lib.hid fun w1 _ => rasnum_b1 w1) (Lib.hid fun w1 _ => astext_b1 w1) (Lib.hid fun w1 _ => rastext_b1 w1) (Lib.hid fun w1 _ => astruth_b 1 w1) (Lib.hid fun w1 _ => rastruth_b 1 w1)
        (Lib.hid fun w1 _ => (show_b1 w1).mono fun e w' h => one_text h) (Lib.hid fun w1 _ => (rshow_b1 w1).mono fun e w' h => one_text h)
        (Lib.hid fun w1 h => (quote_c ⟨#[]⟩ (by decide) w1 h).mono fun e w' h => one_text h) (Lib.hid fun w1 _ => (rquote_c ⟨#[]⟩ (by decide) w1).mono fun e w' h => one_text h)
        (Lib.hid fun w1 _ => astruth_tyes w1) w hL
  · exact turns_f n ⟨(faultL n).toArray⟩ ⟨(34 :: (quoteL [] ++ [34])).toArray⟩ (Lib.hid fun w1 => rmayv_c _ _ _ true hm w1)
      (Lib.hid fun w1 _ => asnum_f n w1) (Lib.hid fun w1 _ => rasnum_f n w1) (Lib.hid fun w1 _ => astext_f n w1) (Lib.hid fun w1 _ => rastext_f n w1) (Lib.hid fun w1 _ => astruth_f n w1) (Lib.hid fun w1 _ => rastruth_f n w1)
      (Lib.hid fun w1 _ => (show_f n w1).mono fun e w' h => one_text h) (Lib.hid fun w1 _ => (rshow_f n w1).mono fun e w' h => one_text h)
      (Lib.hid fun w1 h => (quote_c ⟨#[]⟩ (by decide) w1 h).mono fun e w' h => one_text h) (Lib.hid fun w1 _ => (rquote_c ⟨#[]⟩ (by decide) w1).mono fun e w' h => one_text h) w hL
end Go.Proofs.YtkegelhhajfipaaGreatDoor.Val

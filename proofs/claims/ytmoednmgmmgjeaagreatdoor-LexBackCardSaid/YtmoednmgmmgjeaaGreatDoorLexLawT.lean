/- LexTells, out of contracts. -/
import Derived.Test.YtmoednmgmmgjeaaGreatDoorLexAlive
import Derived.Test.YtmoednmgmmgjeaaGreatDoorLexSignsT
import Derived.Test.YtmoednmgmmgjeaaGreatDoorLexSame
import Derived.Test.YtmoednmgmmgjeaaGreatDoorLexRLex
namespace Go.Proofs.YtmoednmgmmgjeaaGreatDoor.Lex
open Go.RowKit Kit Reg Dec Dig

/-- both sides' answers to one text -/
theorem lex_both (t : ByteArray) : ∃ (n : Nat) (z c : Int) (T : List Tok), n ≤ 1000 ∧ T.length = n ∧
    (∀ w1, LLibs w1 → Calls Tryz.prog 6 #[.string t] w1 fun e w' => ∃ A cap, e = .returned (.tuple #[.slice A n cap, .int .i64 z, .int .i64 c]) ∧ ToksR w' A n T ∧ Below w1.heap.size w1 w') ∧
    (∀ w1, Calls Tryz.prog 7 #[.string t] w1 fun e w' => ∃ A cap, e = .returned (.agg #[.slice A n cap, .int .i64 z, .int .i64 c]) ∧ ToksR w' A n T ∧ Below w1.heap.size w1 w') := by
  by_cases ht : t.size ≤ 200
  · obtain ⟨R, hR⟩ := LexAt.start t.data.toList
    cases R with
    | inl T =>
      have hl : T.length ≤ 1000 := by
        obtain ⟨T', h1, rfl⟩ := hR
        have := h1.fits.1
        rw [List.drop_zero, len] at this
        omega
      exact ⟨T.length, 0, 0, T, hl, rfl,
        fun w1 h => (lex_c t ht _ hR w1 h).mono fun e w' ⟨A, cap, he, hz, hb⟩ => ⟨A, cap, he, hz.1, hb⟩,
        fun w1 => (rlex_c t ht _ hR w1).mono fun e w' ⟨A, cap, he, hz, hb⟩ => ⟨A, cap, he, hz, hb⟩⟩
    | inr n =>
      exact ⟨0, n, 1, [], by omega, rfl,
        fun w1 h => (lex_c t ht _ hR w1 h).mono fun e w' ⟨he, hb⟩ => ⟨none, 0, he, ToksR.nil _ _, hb⟩,
        fun w1 => (rlex_c t ht _ hR w1).mono fun e w' ⟨he, hb⟩ => ⟨none, 0, he, ToksR.nil _ _, hb⟩⟩
  · exact ⟨0, 0, 3, [], by omega, rfl,
      fun w1 h => (lex_long t (by omega) w1).mono fun e w' ⟨he, hw⟩ => ⟨none, 0, he, ToksR.nil _ _, by rw [hw]; exact Below.refl _ _⟩,
      fun w1 => (rlex_long t (by omega) w1).mono fun e w' ⟨he, hb⟩ => ⟨none, 0, he, ToksR.nil _ _, hb⟩⟩
set_option maxRecDepth 100000 in
set_option maxHeartbeats 4000000 in
theorem tells_law (t : ByteArray) (w : World) (hL : LLibs w) : Calls Tryz.prog 3 #[.string t] w (LawEnd w) := by
  have HV := Lib.hid (fun w1 h => alive_c w1 h)
  have HL := Lib.hid hL
  clear hL
  by_cases ht : 300 < t.size
  · have d1 : decide ((300 : Int) < (t.size : Int)) = true := decide_eq_true (by omega)
    clear ht
    go_enter Tryz.func3, Tryz.ntmps3
    go_wp2_with fail
    refine (HV.out _ HL.out).mono ?_
    rintro e w1 ⟨rfl, hb⟩
    go_wp2_with fail
    go_ret
    exact ⟨rfl, hb⟩
  have d1 : decide ((300 : Int) < (t.size : Int)) = false := decide_eq_false (by omega)
  obtain ⟨n, z, c, T, hn, hT, h1, h2⟩ := lex_both t
  have H1 := Lib.hid h1
  have H2 := Lib.hid h2
  have H3 := Lib.hid (fun A B cap cap2 w1 hz hz2 => same_c A B n cap cap2 T T hn rfl w1 hz hz2)
  have H4 := Lib.hid (fun w1 => plain_c t (by omega) _ rfl w1)
  have H5 := Lib.hid (fun i (hi : i < t.size) b (h : plainB t[i] = b) w1 => rplain_c t[i] b h w1)
  have HK := Lib.hid (fun i (hi : i < t.size) => Lib.data_getElem? t i hi)
  have HT := Lib.hid (len t)
  clear h1 h2 hT
  go_enter Tryz.func3, Tryz.ntmps3
  go_wp2_with fail
  refine (H1.out _ HL.out).mono ?_
  rintro e w1 ⟨A, cap, rfl, hz, hb1⟩
  go_wp2_with fail
  refine (H2.out _).mono ?_
  rintro e w2 ⟨B, cap2, rfl, hz2, hb2⟩
  have ct := CellsAt.new w2 [.slice B n cap2, .int .i64 z, .int .i64 c] 29
  have hb3 := below1 w2 (.cells #[.slice B n cap2, .int .i64 z, .int .i64 c] 29)
  replace hz := Lib.hid ((hz.on hb2).on hb3)
  replace hz2 := Lib.hid (hz2.on hb3)
  replace hb1 := on (on hb1 hb2) hb3
  clear hb2 hb3
  go_wp2_with fail
  generalize hW : w2.alloc (.cells #[.slice B n cap2, .int .i64 z, .int .i64 c] 29) = W at *
  generalize w2.heap.size = g at *
  clear hW
  go_loopw [7, 23] (fun p x wr => ∃ k : Nat, k ≤ t.size ∧ x = .int .i64 k ∧ p = .bool ((t.data.toList.take k).all plainB) ∧ W = wr) (fun _ x _ => t.size - (intOf x).toNat)
  case atStart => exact ⟨0, Nat.zero_le _, rfl, rfl, rfl⟩
  case round =>
    obtain ⟨k, hk, rfl, rfl, rfl⟩ := hrel
    by_cases hlt : k < t.size
    · have hb := HK.out k hlt
      cases hp : (t.data.toList.take k).all plainB with
      | true =>
        have HN := Lib.hid (all_snoc hp hb)
        have HC := Lib.hid (H5.out k hlt _ rfl)
        clear hb hp
        go_wp2_with fail
        refine (HC.out _).mono ?_
        rintro e w3 ⟨rfl, rfl⟩
        go_wp2_with fail
        go_roundw
        case rel => exact ⟨k + 1, by omega, by go_num, by rw [HN.out], by first | rfl | trivial⟩
        case measure => simp [intOf]; omega
      | false =>
        have HN : Hid ((t.data.toList.take (k + 1)).all plainB = false) := Lib.hid (by rw [List.take_add_one, List.all_append, hp, Bool.false_and])
        clear hb hp
        go_wp2_with fail
        go_roundw
        case rel => exact ⟨k + 1, by omega, by go_num, by rw [HN.out], by first | rfl | trivial⟩
        case measure => simp [intOf]; omega
    · obtain rfl : k = t.size := by omega
      have HW : Hid (t.data.toList.take t.size = t.data.toList) := Lib.hid (List.take_of_length_le (by rw [HT.out]; exact Nat.le_refl _))
      rw [HW.out]
      generalize t.data.toList.all plainB = pl at *
      obtain ⟨c0, c1, c2, _⟩ := ct.three
      have t1 : (z == z) = true := by simp
      have t2 : (c == c) = true := by simp
      have t3 : (pl == pl) = true := by simp
      clear H1 H2 H5 HK HT HW
      go_wp2_with fail
      refine (H3.out A B cap cap2 _ hz.out hz2.out).mono ?_
      rintro e w4 ⟨rfl, hb4⟩
      have c1' := kept hb4 c1
      have c2' := kept hb4 c2
      replace hb1 := on hb1 hb4
      clear c0 c1 c2 hb4
      go_wp2_with fail
      refine (H4.out _).mono ?_
      rintro e w5 ⟨rfl, rfl⟩
      go_wp2_with fail
      refine (HV.out _ (HL.out.grown hb1)).mono ?_
      rintro e w6 ⟨rfl, hb6⟩
      replace hb1 := on hb1 hb6
      go_wp2_with fail
      go_ret
      exact ⟨rfl, hb1⟩
end Go.Proofs.YtmoednmgmmgjeaaGreatDoor.Lex

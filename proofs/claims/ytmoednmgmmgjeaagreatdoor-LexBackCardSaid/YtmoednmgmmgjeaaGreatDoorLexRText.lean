/- The reference's Text. Written by wip/gen21rtext.py. -/
import Derived.Test.YtmoednmgmmgjeaaGreatDoorLexTell
import Derived.Test.YtmoednmgmmgjeaaGreatDoorDigRef
import Derived.Test.YtmoednmgmmgjeaaGreatDoorValRQuote
namespace Go.Proofs.YtmoednmgmmgjeaaGreatDoor.Lex
open Go.RowKit Kit Reg Dec Dig
open Val (quoteL)


set_option maxRecDepth 100000 in
set_option maxHeartbeats 8000000 in
theorem rtextT_c (A : Option Addr) (n cap : Nat) (T : List Tok) (hf : FitsT T) (w : World) (hz : ToksR w A n T) : Calls Tryz.prog 12 #[.slice A n cap] w (TextB (textT T) w) := by
  have HZ := Lib.hid hz
  have HF := Lib.hid hf
  have hn : n ≤ 1000 := by rw [← hz.1]; exact hf.1
  clear hz hf
  go_enter Tryz.func12, Tryz.ntmps12
  go_wp2_with fail
  go_loopw [3, 4, 5] (fun o s i wr => ∃ k : Nat, k ≤ n ∧ i = .int .i64 k ∧ (∃ O : ByteArray, o = .string O ∧ O.data.toList = joinT false (T.take k)) ∧ s = .bool (anyT (T.take k)) ∧ Below w.heap.size w wr) (fun _ _ i _ => n - (intOf i).toNat)
  case atStart => exact ⟨0, Nat.zero_le _, rfl, ⟨⟨#[]⟩, rfl, rfl⟩, rfl, Below.refl _ _⟩
  case round =>
    obtain ⟨k, hk, rfl, ⟨O, rfl, hO⟩, rfl, hb0⟩ := hrel
    have hOl : O.size ≤ 3000000 := by rw [← len, hO]; exact (HF.out.take k).len false
    have HO := Lib.hid hO
    clear hO
    by_cases hlt : k < n
    · obtain ⟨x, hx⟩ : ∃ x, T[k]? = some x := ⟨_, List.getElem?_eq_getElem (by rw [HZ.out.1]; exact hlt)⟩
      obtain ⟨b, o, rfl, hblt, y0, y1, y2, y3⟩ := (HZ.out.on hb0).at hx
      have HP : Hid (joinT false (T.take (k + 1)) = joinT false (T.take k) ++ pieceT (anyT (T.take k)) x) := Lib.hid (by rw [take_snoc hx, joinT_snoc, Bool.false_or])
      have HA : Hid (anyT (T.take (k + 1)) = (anyT (T.take k) || toldX x)) := Lib.hid (by rw [take_snoc hx, anyT_snoc])
      obtain ⟨ht9, hn0, h9⟩ := HF.out.2 x (List.mem_of_getElem? hx)
      by_cases h1 : x.k = 1
      · have d1 : (x.k == 1) = true := beq_iff_eq.2 h1
        have d2 : (x.k == 2) = false := beq_eq_false_iff_ne.2 (by omega)
        have d3 : decide (x.k < 1) = false := decide_eq_false (by omega)
        have d4 : decide (4 < x.k) = false := decide_eq_false (by omega)
        cases hsm : anyT (T.take k) with
        | true =>
          have HX := Lib.hid (told_num h1)
          rw [hsm] at HP
          clear hx hsm

          have HC := Lib.hid (fun w1 => rtext_c x.n h9 w1)
          clear h1
          go_wp2_with fail
          refine (HC.out _).mono ?_
          rintro e w1 ⟨V, rfl, hV, hb1⟩
          replace hb0 := on hb0 hb1
          have HV : Hid (V.data.toList = tokT x) := Lib.hid (hV.trans HX.out.2.symm)
          have hVl : V.size ≤ 3000 := by rw [← len, hV]; have := text_len (x := x.n) (by omega) h9; omega
          have y0' := kept hb1 y0
          have y2' := kept hb1 y2
          clear hV hb1 y0 y1 y2 y3

          go_wp2_with fail
          go_roundw
          case rel => exact ⟨k + 1, by omega, by go_num, ⟨_, rfl, by rw [HP.out, piece_in HX.out.1, if_pos rfl, ← HO.out, ← HV.out]; simp⟩, by rw [HA.out, HX.out.1, Bool.or_true], hb0⟩
          case measure => simp [intOf]; omega
        | false =>
          have HX := Lib.hid (told_num h1)
          rw [hsm] at HP
          clear hx hsm

          have HC := Lib.hid (fun w1 => rtext_c x.n h9 w1)
          clear h1
          go_wp2_with fail
          refine (HC.out _).mono ?_
          rintro e w1 ⟨V, rfl, hV, hb1⟩
          replace hb0 := on hb0 hb1
          have HV : Hid (V.data.toList = tokT x) := Lib.hid (hV.trans HX.out.2.symm)
          have hVl : V.size ≤ 3000 := by rw [← len, hV]; have := text_len (x := x.n) (by omega) h9; omega
          have y0' := kept hb1 y0
          have y2' := kept hb1 y2
          clear hV hb1 y0 y1 y2 y3

          go_wp2_with fail
          go_roundw
          case rel => exact ⟨k + 1, by omega, by go_num, ⟨_, rfl, by rw [HP.out, piece_in HX.out.1, if_neg Bool.false_ne_true, ← HO.out, ← HV.out]; simp⟩, by rw [HA.out, HX.out.1, Bool.or_true], hb0⟩
          case measure => simp [intOf]; omega
      · have d1 : (x.k == 1) = false := beq_eq_false_iff_ne.2 h1
        by_cases h2 : x.k = 2
        · have d2 : (x.k == 2) = true := beq_iff_eq.2 h2
          have d3 : decide (x.k < 1) = false := decide_eq_false (by omega)
          have d4 : decide (4 < x.k) = false := decide_eq_false (by omega)
          cases hsm : anyT (T.take k) with
          | true =>
            have HX := Lib.hid (told_str h2)
            rw [hsm] at HP
            clear hx hsm

            have HC := Lib.hid (fun w1 => Val.rquote_c ⟨x.t.toArray⟩ (by rw [← len]; show x.t.length ≤ _; omega) w1)
            clear h2
            go_wp2_with fail
            refine (HC.out _).mono ?_
            rintro e w1 ⟨V, rfl, hV, hb1⟩
            replace hb0 := on hb0 hb1
            have HV : Hid (V.data.toList = tokT x) := Lib.hid (hV.trans HX.out.2.symm)
            have hVl : V.size ≤ 3000 := by
              rw [← len, hV]
              have := quote_len x.t
              simp only [List.length_cons, List.length_append, List.length_nil]
              show (quoteL x.t).length + (0 + 1) + 1 ≤ _
              omega
            have y0' := kept hb1 y0
            have y2' := kept hb1 y2
            clear hV hb1 y0 y1 y2 y3

            go_wp2_with fail
            go_roundw
            case rel => exact ⟨k + 1, by omega, by go_num, ⟨_, rfl, by rw [HP.out, piece_in HX.out.1, if_pos rfl, ← HO.out, ← HV.out]; simp⟩, by rw [HA.out, HX.out.1, Bool.or_true], hb0⟩
            case measure => simp [intOf]; omega
          | false =>
            have HX := Lib.hid (told_str h2)
            rw [hsm] at HP
            clear hx hsm

            have HC := Lib.hid (fun w1 => Val.rquote_c ⟨x.t.toArray⟩ (by rw [← len]; show x.t.length ≤ _; omega) w1)
            clear h2
            go_wp2_with fail
            refine (HC.out _).mono ?_
            rintro e w1 ⟨V, rfl, hV, hb1⟩
            replace hb0 := on hb0 hb1
            have HV : Hid (V.data.toList = tokT x) := Lib.hid (hV.trans HX.out.2.symm)
            have hVl : V.size ≤ 3000 := by
              rw [← len, hV]
              have := quote_len x.t
              simp only [List.length_cons, List.length_append, List.length_nil]
              show (quoteL x.t).length + (0 + 1) + 1 ≤ _
              omega
            have y0' := kept hb1 y0
            have y2' := kept hb1 y2
            clear hV hb1 y0 y1 y2 y3

            go_wp2_with fail
            go_roundw
            case rel => exact ⟨k + 1, by omega, by go_num, ⟨_, rfl, by rw [HP.out, piece_in HX.out.1, if_neg Bool.false_ne_true, ← HO.out, ← HV.out]; simp⟩, by rw [HA.out, HX.out.1, Bool.or_true], hb0⟩
            case measure => simp [intOf]; omega
        · have d2 : (x.k == 2) = false := beq_eq_false_iff_ne.2 h2
          by_cases h3 : x.k = 3 ∨ x.k = 4
          · have d3 : decide (x.k < 1) = false := decide_eq_false (by omega)
            have d4 : decide (4 < x.k) = false := decide_eq_false (by omega)
            cases hsm : anyT (T.take k) with
            | true =>
              have HX := Lib.hid (told_word h3)
              rw [hsm] at HP
              clear hx hsm

              have HV : Hid ((⟨x.t.toArray⟩ : ByteArray).data.toList = tokT x) := Lib.hid HX.out.2.symm
              have hVl : (⟨x.t.toArray⟩ : ByteArray).size ≤ 3000 := by rw [← len]; show x.t.length ≤ _; omega
              generalize (⟨x.t.toArray⟩ : ByteArray) = V at *
              clear h3

              go_wp2_with fail
              go_roundw
              case rel => exact ⟨k + 1, by omega, by go_num, ⟨_, rfl, by rw [HP.out, piece_in HX.out.1, if_pos rfl, ← HO.out, ← HV.out]; simp⟩, by rw [HA.out, HX.out.1, Bool.or_true], hb0⟩
              case measure => simp [intOf]; omega
            | false =>
              have HX := Lib.hid (told_word h3)
              rw [hsm] at HP
              clear hx hsm

              have HV : Hid ((⟨x.t.toArray⟩ : ByteArray).data.toList = tokT x) := Lib.hid HX.out.2.symm
              have hVl : (⟨x.t.toArray⟩ : ByteArray).size ≤ 3000 := by rw [← len]; show x.t.length ≤ _; omega
              generalize (⟨x.t.toArray⟩ : ByteArray) = V at *
              clear h3

              go_wp2_with fail
              go_roundw
              case rel => exact ⟨k + 1, by omega, by go_num, ⟨_, rfl, by rw [HP.out, piece_in HX.out.1, if_neg Bool.false_ne_true, ← HO.out, ← HV.out]; simp⟩, by rw [HA.out, HX.out.1, Bool.or_true], hb0⟩
              case measure => simp [intOf]; omega
          · by_cases h4 : x.k < 1
            · have d3 : decide (x.k < 1) = true := decide_eq_true h4
              have HX := Lib.hid (told_none (x := x) (.inl h4))
              clear hx
              go_wp2_with fail
              go_roundw
              case rel => exact ⟨k + 1, by omega, by go_num, ⟨_, rfl, by rw [HP.out, piece_out HX.out, List.append_nil, HO.out]⟩, by rw [HA.out, HX.out, Bool.or_false], hb0⟩
              case measure => simp [intOf]; omega
            · have d3 : decide (x.k < 1) = false := decide_eq_false h4
              have d4 : decide (4 < x.k) = true := decide_eq_true (by omega)
              have HX := Lib.hid (told_none (x := x) (.inr (by omega)))
              clear hx
              go_wp2_with fail
              go_roundw
              case rel => exact ⟨k + 1, by omega, by go_num, ⟨_, rfl, by rw [HP.out, piece_out HX.out, List.append_nil, HO.out]⟩, by rw [HA.out, HX.out, Bool.or_false], hb0⟩
              case measure => simp [intOf]; omega
    · obtain rfl : k = n := by omega
      have HW : Hid (T.take k = T) := Lib.hid (List.take_of_length_le (by rw [HZ.out.1]; exact Nat.le_refl _))
      go_wp2_with fail
      go_ret
      exact ⟨O, rfl, by rw [HO.out, HW.out]; rfl, hb0⟩
end Go.Proofs.YtmoednmgmmgjeaaGreatDoor.Lex

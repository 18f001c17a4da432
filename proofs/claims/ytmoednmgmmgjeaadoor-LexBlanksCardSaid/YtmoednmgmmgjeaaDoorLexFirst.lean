/- Package lex's first. Written by wip/gen21first.py. -/
import Derived.Test.YtmoednmgmmgjeaaDoorLexGoM
namespace Go.Proofs.YtmoednmgmmgjeaaDoor.Lex
open Go.RowKit Kit Reg Dec Dig

/-- the token a text begins with, and how many bytes it has -/
def FirstIs : Option (Int × List UInt8 × Int × Nat) → World → Ending → World → Prop
  | some (k, tx, n, m), w, e, w' => e = .returned (.tuple #[.agg #[.int .i64 k, .int .i64 0, .string ⟨tx.toArray⟩, .int .i64 n], .int .i64 (m : Int)]) ∧ Below w.heap.size w w'
  | none, w, e, w' => ∃ (k : Int) (s : ByteArray) (n : Int), e = .returned (.tuple #[.agg #[.int .i64 k, .int .i64 0, .string s, .int .i64 n], .int .i64 0]) ∧ Below w.heap.size w w'
set_option maxRecDepth 100000 in
set_option maxHeartbeats 8000000 in
theorem first_c (t : ByteArray) (h1 : 0 < t.size) (ht : t.size ≤ 200) (r : Option (Int × List UInt8 × Int × Nat)) (hr : tokAt t.data.toList = r) (w : World) (hL : LLibs w) : Calls Tryd.prog 7 #[.string t] w (FirstIs r w) := by
  have hb : t.data.toList[0]? = some t[0] := Lib.data_getElem? t 0 h1
  have hdr := drop_cons hb
  rw [List.drop_zero] at hdr
  have HLib := Lib.hid hL
  clear hL
  have hb0 := below1 w (.cells #[.int .i64 0, .int .i64 0, .string ⟨#[]⟩, .int .i64 0] 27)
  have ct0 := CellsAt.new w [.int .i64 0, .int .i64 0, .string ⟨#[]⟩, .int .i64 0] 27
  cases hdg : isD t[0] with
  | true =>
    have HI := Lib.hid (fun w1 => isdigit_c t[0] true hdg w1)
    obtain ⟨x, m, K, hld⟩ : ∃ x m K, leadD t.data.toList = (x, m, K) := ⟨_, _, _, rfl⟩
    have HS := Lib.hid (fun w1 h => lead_c t (by omega) x m K hld w1 h)
    rw [hdr] at hld hr
    have hr2 : (K = true → r = some (1, [], x, m)) ∧ (K = false → r = none ∧ m = 0) := by
      refine ⟨fun h => ?_, fun h => ?_⟩
      · rw [h] at hld; rw [← hr, tok_num hdg _ hld]
      · rw [h] at hld; exact ⟨hr.symm.trans (tok_none hdg _ hld).1, (tok_none hdg _ hld).2⟩
    have HR := Lib.hid hr2
    clear hr hld hdr hb hdg hr2
    go_enter Tryd.func7, Tryd.ntmps7
    go_wp2_with fail
    refine (HI.out _).mono ?_
    rintro e w1 ⟨rfl, rfl⟩
    go_wp2_with fail
    refine (HS.out _ (HLib.out.1.1.grown hb0)).mono ?_
    rintro e w2 ⟨rfl, hb3⟩
    replace hb0 := on hb0 hb3
    replace ct0 := ct0.on hb3
    clear hb3
    obtain ⟨c0, c1, c2, c3, f0, f1, f2, f3⟩ := ct0.four
    have hlt8 := ct0.1
    go_wp2_with fail

    have hct := CellsAt.put4 ct0 (.int .i64 1) (.int .i64 0) (.string ⟨#[]⟩) (.int .i64 x)
    have hbl := put4_below hb0 (Nat.le_refl w.heap.size) (.int .i64 1) (.int .i64 0) (.string ⟨#[]⟩) (.int .i64 x)
    obtain ⟨k0, k1, k2, k3, _⟩ := hct.four
    exact bodyPost_ret (v := .tuple #[.agg #[.int .i64 1, .int .i64 0, .string ⟨#[]⟩, .int .i64 x], .int .i64 (m : Int)]) (by simp [results, Tryd.results7, go_sem, k0, k1, k2, k3]) rfl (by
        cases K with
        | true => rw [HR.out.1 rfl]; exact ⟨rfl, hbl⟩
        | false => obtain ⟨e1, rfl⟩ := HR.out.2 rfl; rw [e1]; exact ⟨1, _, x, rfl, hbl⟩)
  | false =>
    cases hup : upB t[0] with
    | true =>
      have HI := Lib.hid (fun w1 => isdigit_c t[0] false hdg w1)
      have HU := Lib.hid (fun w1 => isword_c t[0] true hup w1)
      have HS := Lib.hid (fun w1 => wordsize_c t (by omega) w1)
      have hw : wordN t.data.toList ≤ t.size := by have := word_le t.data.toList; rwa [len] at this
      have HX : Hid (t.extract 0 (wordN t.data.toList) = ⟨(t.data.toList.take (wordN t.data.toList)).toArray⟩) := Lib.hid (bytes_eq (by rw [ext_take]))
      rw [hdr, (tok_word hup _).1, ← hdr] at hr
      have HR := Lib.hid hr
      generalize wordN t.data.toList = m at *
      generalize t.data.toList.take m = tx at *
      clear hr hdr hb hdg hup
      go_enter Tryd.func7, Tryd.ntmps7
      go_wp2_with fail
      refine (HI.out _).mono ?_
      rintro e w1 ⟨rfl, rfl⟩
      go_wp2_with fail
      refine (HU.out _).mono ?_
      rintro e w1 ⟨rfl, rfl⟩
      go_wp2_with fail
      refine (HS.out _).mono ?_
      rintro e w1 ⟨rfl, rfl⟩
      obtain ⟨c0, c1, c2, c3, f0, f1, f2, f3⟩ := ct0.four
      have hlt8 := ct0.1
      go_wp2_with fail

      have hct := CellsAt.new w [.int .i64 3, .int .i64 0, .string (t.extract 0 m), .int .i64 0] 27
      have hbl := below1 w (.cells #[.int .i64 3, .int .i64 0, .string (t.extract 0 m), .int .i64 0] 27)
      obtain ⟨k0, k1, k2, k3, _⟩ := hct.four
      exact bodyPost_ret (v := .tuple #[.agg #[.int .i64 3, .int .i64 0, .string (t.extract 0 m), .int .i64 0], .int .i64 (m : Int)]) (by simp [results, Tryd.results7, go_sem]) rfl (by rw [← HR.out]; exact ⟨by rw [HX.out], hbl⟩)
    | false =>
      by_cases h34 : t[0] = 34
      · have HI := Lib.hid (fun w1 => isdigit_c t[0] false hdg w1)
        have HU := Lib.hid (fun w1 => isword_c t[0] false hup w1)
        rw [h34] at hdr
        have HP := Lib.hid (fun w1 => prefix_c t ⟨#[34]⟩ true (by rw [hdr]; rfl) w1)
        have HS := Lib.hid (fun w1 h => marked_c t (by omega) _ hdr w1 h)
        rw [hdr, tok_mark] at hr
        have HR := Lib.hid hr
        generalize markL (t.data.toList.drop (0 + 1)) = q at *
        clear hr hdr hb hdg hup h34
        go_enter Tryd.func7, Tryd.ntmps7
        go_wp2_with fail
        refine (HI.out _).mono ?_
        rintro e w1 ⟨rfl, rfl⟩
        go_wp2_with fail
        refine (HU.out _).mono ?_
        rintro e w1 ⟨rfl, rfl⟩
        go_wp2_with fail
        refine (HP.out _).mono ?_
        rintro e w1 ⟨rfl, rfl⟩
        go_wp2_with fail
        refine (HS.out _ (HLib.out.grown hb0)).mono ?_
        rintro e w2 ⟨s, rfl, hs, hb3⟩
        obtain ⟨z, hz⟩ : ∃ z, sizeZ q = z := ⟨_, rfl⟩
        have HQ := Lib.hid hz
        have HE := Lib.hid hs
        rw [hz]
        clear hs hz
        replace hb0 := on hb0 hb3
        replace ct0 := ct0.on hb3
        clear hb3
        obtain ⟨c0, c1, c2, c3, f0, f1, f2, f3⟩ := ct0.four
        have hlt8 := ct0.1
        go_wp2_with fail

        have hct := CellsAt.put4 ct0 (.int .i64 2) (.int .i64 0) (.string s) (.int .i64 0)
        have hbl := put4_below hb0 (Nat.le_refl w.heap.size) (.int .i64 2) (.int .i64 0) (.string s) (.int .i64 0)
        obtain ⟨k0, k1, k2, k3, _⟩ := hct.four
        exact bodyPost_ret (v := .tuple #[.agg #[.int .i64 2, .int .i64 0, .string s, .int .i64 0], .int .i64 z]) (by simp [results, Tryd.results7, go_sem, k0, k1, k2, k3]) rfl (by
            rw [← HR.out, ← HQ.out]
            have hs := HE.out
            cases q with
            | none => exact ⟨2, s, 0, rfl, hbl⟩
            | some p => obtain rfl : s = ⟨p.1.toArray⟩ := bytes_eq (by rw [hs]; rfl)
                        exact ⟨rfl, hbl⟩)
      · have HI := Lib.hid (fun w1 => isdigit_c t[0] false hdg w1)
        have HU := Lib.hid (fun w1 => isword_c t[0] false hup w1)
        have HP := Lib.hid (fun w1 => prefix_c t ⟨#[34]⟩ false (by rw [hdr]; exact decide_eq_false fun e => h34 (List.cons.inj (show t[0] :: (t.data.toList.drop (0 + 1)).take 0 = [34] from e)).1) w1)
        have HS := Lib.hid (fun w1 h => firstsign_c t w1 h)
        rw [hdr, tok_sign hdg h34 hup, ← hdr] at hr
        have HR := Lib.hid hr
        have hsl : (t.data.toList.take (signN t.data.toList)).length = signN t.data.toList := by rw [List.length_take]; exact Nat.min_eq_left (sign_le _)
        have hsn := sign_le t.data.toList
        rw [len] at hsn
        have HSL := Lib.hid hsl
        generalize signN t.data.toList = m at *
        generalize t.data.toList.take m = tx at *
        clear hr hdr hb hdg hup h34 hsl
        go_enter Tryd.func7, Tryd.ntmps7
        go_wp2_with fail
        refine (HI.out _).mono ?_
        rintro e w1 ⟨rfl, rfl⟩
        go_wp2_with fail
        refine (HU.out _).mono ?_
        rintro e w1 ⟨rfl, rfl⟩
        go_wp2_with fail
        refine (HP.out _).mono ?_
        rintro e w1 ⟨rfl, rfl⟩
        go_wp2_with fail
        refine (HS.out _ (HLib.out.1.2.grown hb0)).mono ?_
        rintro e w2 ⟨s, rfl, hs, rfl⟩
        have hsm : s.size = m := by rw [← len, hs, HSL.out]
        have HM := Lib.hid hsm
        have HE : Hid (s = ⟨tx.toArray⟩) := Lib.hid (bytes_eq (by rw [hs]))
        have hs200 : s.size ≤ 200 := by omega
        clear hs hsm
        obtain ⟨c0, c1, c2, c3, f0, f1, f2, f3⟩ := ct0.four
        have hlt8 := ct0.1
        go_wp2_with fail

        have hct := CellsAt.new w [.int .i64 4, .int .i64 0, .string s, .int .i64 0] 27
        have hbl := below1 w (.cells #[.int .i64 4, .int .i64 0, .string s, .int .i64 0] 27)
        obtain ⟨k0, k1, k2, k3, _⟩ := hct.four
        exact bodyPost_ret (v := .tuple #[.agg #[.int .i64 4, .int .i64 0, .string s, .int .i64 0], .int .i64 (s.size : Int)]) (by simp [results, Tryd.results7, go_sem]) rfl (by
            rw [← HR.out]
            by_cases h0 : m = 0
            · rw [if_pos h0, HM.out, h0]; exact ⟨4, s, 0, rfl, hbl⟩
            · rw [if_neg h0, HM.out]; exact ⟨by rw [HE.out], hbl⟩)
end Go.Proofs.YtmoednmgmmgjeaaDoor.Lex

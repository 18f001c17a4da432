/- The reference's Lex. Written by wip/gen21rlex.py. -/
import Derived.Test.YtmoednmgmmgjeaaGreatDoorLexSigns
import Derived.Test.YtmoednmgmmgjeaaGreatDoorLexRest
namespace Go.Proofs.YtmoednmgmmgjeaaGreatDoor.Lex
open Go.RowKit Kit Reg Dec Dig
open Val (one_cell)

/-- what the reference answers of a text that is not too long -/
def RLexIs : Sum (List Tok) Nat → World → Ending → World → Prop
  | .inl T, w, e, w' => ∃ A cap, e = .returned (.agg #[.slice A T.length cap, .int .i64 0, .int .i64 0]) ∧ ToksR w' A T.length T ∧ Below w.heap.size w w'
  | .inr n, w, e, w' => e = .returned (.agg #[.slice none 0 0, .int .i64 (n : Int), .int .i64 1]) ∧ Below w.heap.size w w'

set_option maxRecDepth 100000 in
set_option maxHeartbeats 8000000 in
theorem rlex_c (t : ByteArray) (ht : t.size ≤ 200) (R : Sum (List Tok) Nat) (hR : LexAt t.data.toList 0 [] R) (w : World) : Calls Tryz.prog 7 #[.string t] w (RLexIs R w) := by
  obtain ⟨i0, hi, hz0, hz1, hz2⟩ := info_parts infoRT
  have HK := Lib.hid (fun i (hi : i < t.size) => Lib.data_getElem? t i hi)
  have HT := Lib.hid (len t)
  have HD := Lib.hid (fun k => ext_drop t k)
  have HM := Lib.hid hR
  clear hR
  have hb0 := below1 w (.cells #[.slice none 0 0, .int .i64 0, .int .i64 0] 29)
  have ct0 := CellsAt.new w [.slice none 0 0, .int .i64 0, .int .i64 0] 29
  have hrow : OwnT 41 (w.heap.size + 1) (.slice none 0 0) [] (w.alloc (.cells #[.slice none 0 0, .int .i64 0, .int .i64 0] 29)) := OwnT.empty _ _ _
  go_enter Tryz.func7, Tryz.ntmps7
  go_wp2_with fail
  go_loopw [3, 4] (fun v x wr => ∃ i P, i ≤ t.size ∧ x = .int .i64 (i : Int) ∧ OwnT 41 (w.heap.size + 1) v P wr ∧ P.length ≤ i ∧ Hid (LexAt t.data.toList i P R) ∧ Below w.heap.size w wr ∧ CellsAt wr w.heap.size [.slice none 0 0, .int .i64 0, .int .i64 0]) (fun _ x _ => t.size - (intOf x).toNat)
  case atStart => exact ⟨0, [], Nat.zero_le _, rfl, hrow, Nat.le_refl _, HM, hb0, ct0⟩
  case round =>
    clear hrow hb0 ct0 HM
    obtain ⟨i, P, hit, rfl, hrow, hP, HM, hb0, ct0⟩ := hrel
    have hs0 := hb0.size
    by_cases hlt : i < t.size
    · have hb := HK.out i hlt
      cases h32 : ((t[i].toNat : Int) == 32) with
      | true =>
        have HN := Lib.hid (HM.out.blank (by rw [hb, is32 h32]))
        clear hb HM HK HT HD
        go_wp2_with fail
        go_roundw
        case rel => exact ⟨i + 1, P, by omega, by go_num, hrow, by omega, HN, hb0, ct0⟩
        case measure => simp [intOf]; omega
      | false =>
        have hne32 := not32 h32
        have hdr := drop_cons hb
        cases hdg : isD t[i] with
        | true =>
          have hwr : w.heap.size < wr.heap.size := ct0.1
          have hne : wr.heap.size ≠ w.heap.size := by omega
          have hfar := tok_far hrow

          have HG := Lib.hid (fun w1 => digit_c t i (i : Int) rfl true (by rw [digAt_in hb, hdg]) w1)
          obtain ⟨x, m, K, hld⟩ : ∃ x m K, leadD (t.data.toList.drop i) = (x, m, K) := ⟨_, _, _, rfl⟩
          have HS := Lib.hid (fun w1 => rlead_c (t.extract i t.size) (by rw [ByteArray.size_extract]; omega) x m K (by rw [HD.out, hld]) w1)
          rw [hdr] at hld
          cases K with
          | false =>
            obtain ⟨htk, rfl⟩ := tok_none hdg _ hld
            rw [← hdr] at htk
            have HN := Lib.hid (HM.out.bad hb hne32 htk)
            clear hb HM HK HT HD hne32 hdr htk hdg hld
            go_wp2_with fail
            refine (HG.out _).mono ?_
            rintro e w1 ⟨rfl, rfl⟩
            go_wp2_with fail
            refine (HS.out _).mono ?_
            rintro e w2 ⟨rfl, hb3⟩
            have hy := (CellsAt.new wr [.int .i64 0, .int .i64 (i : Int), .string ⟨#[]⟩, .int .i64 0] 41).on hb3
            replace hrow := (hrow.on (below1 wr (.cells #[.int .i64 0, .int .i64 (i : Int), .string ⟨#[]⟩, .int .i64 0] 41))).on hb3
            replace hb0 := on (on_alloc hb0 (.cells #[.int .i64 0, .int .i64 (i : Int), .string ⟨#[]⟩, .int .i64 0] 41)) hb3
            replace ct0 := (ct0.on_alloc (.cells #[.int .i64 0, .int .i64 (i : Int), .string ⟨#[]⟩, .int .i64 0] 41)).on hb3
            have hs9 := hb0.size
            have hlt9 := hy.1
            have hlt8 := ct0.1
            obtain ⟨y0, y1, y2, y3, z0, z1, z2, z3⟩ := hy.four
            obtain ⟨c0, c1, c2, f0, f1, f2⟩ := ct0.three
            clear hb3
            clear HG HS
            go_wp2_with fail
            have hct := CellsAt.put3 (CellsAt.far (p := ⟨wr.heap.size, 3, none⟩) (CellsAt.far (p := ⟨wr.heap.size, 0, none⟩) (ct0) hne (.int .i64 1)) hne (.int .i64 x)) (.slice none 0 0) (.int .i64 (i : Int)) (.int .i64 1)
            have hbl := set3 (((hb0).setCell (p := ⟨wr.heap.size, 0, none⟩) (Nat.le_of_lt hwr) (.int .i64 1)).setCell (p := ⟨wr.heap.size, 3, none⟩) (Nat.le_of_lt hwr) (.int .i64 x)) (Nat.le_refl w.heap.size) (.slice none 0 0) (.int .i64 (i : Int)) (.int .i64 1)
            replace hct := hct.on_alloc (.cells #[.int .i64 x, .int .i64 0, .bool false] 44)
            replace hbl := on_alloc hbl (.cells #[.int .i64 x, .int .i64 0, .bool false] 44)
            obtain ⟨k0, k1, k2, _⟩ := hct.three
            exact bodyPost_ret (v := .agg #[.slice none 0 0, .int .i64 (i : Int), .int .i64 1]) (by simp [results, Tryz.results7, go_sem, k0, k1, k2]) rfl (by rw [HN.out]; exact ⟨rfl, hbl⟩)
          | true =>
            have htk := tok_num hdg _ hld
            rw [← hdr] at htk
            have HN := Lib.hid (HM.out.tok hb hne32 htk)
            have hm := HN.out.2
            have hml := hm.2
            rw [HT.out] at hml
            have d1 : ((i : Int) + (m : Int) == (i : Int)) = false := beq_eq_false_iff_ne.2 (by omega)
            clear hb HM HK HT HD hne32 hdr htk hdg hld
            go_wp2_with fail
            refine (HG.out _).mono ?_
            rintro e w1 ⟨rfl, rfl⟩
            go_wp2_with fail
            refine (HS.out _).mono ?_
            rintro e w2 ⟨rfl, hb3⟩
            have hy := (CellsAt.new wr [.int .i64 0, .int .i64 (i : Int), .string ⟨#[]⟩, .int .i64 0] 41).on hb3
            replace hrow := (hrow.on (below1 wr (.cells #[.int .i64 0, .int .i64 (i : Int), .string ⟨#[]⟩, .int .i64 0] 41))).on hb3
            replace hb0 := on (on_alloc hb0 (.cells #[.int .i64 0, .int .i64 (i : Int), .string ⟨#[]⟩, .int .i64 0] 41)) hb3
            replace ct0 := (ct0.on_alloc (.cells #[.int .i64 0, .int .i64 (i : Int), .string ⟨#[]⟩, .int .i64 0] 41)).on hb3
            have hs9 := hb0.size
            have hlt9 := hy.1
            have hlt8 := ct0.1
            obtain ⟨y0, y1, y2, y3, z0, z1, z2, z3⟩ := hy.four
            obtain ⟨c0, c1, c2, f0, f1, f2⟩ := ct0.three
            clear hb3
            clear HG HS
            replace hrow := hrow.set (p := ⟨wr.heap.size, 0, none⟩) hfar (.int .i64 1)
            replace hrow := hrow.set (p := ⟨wr.heap.size, 3, none⟩) hfar (.int .i64 x)
            replace hb0 := ((hb0).setCell (p := ⟨wr.heap.size, 0, none⟩) (Nat.le_of_lt hwr) (.int .i64 1)).setCell (p := ⟨wr.heap.size, 3, none⟩) (Nat.le_of_lt hwr) (.int .i64 x)
            replace ct0 := CellsAt.far (p := ⟨wr.heap.size, 3, none⟩) (CellsAt.far (p := ⟨wr.heap.size, 0, none⟩) (ct0) hne (.int .i64 1)) hne (.int .i64 x)
            replace hrow := hrow.on (below1 _ (.cells #[.int .i64 x, .int .i64 (m : Int), .bool true] 44))
            replace hb0 := on_alloc hb0 (.cells #[.int .i64 x, .int .i64 (m : Int), .bool true] 44)
            replace ct0 := ct0.on_alloc (.cells #[.int .i64 x, .int .i64 (m : Int), .bool true] 44)
            unfold OwnT at hrow
            go_wp2_with (at_builtin; refine wpList_append_own _ rfl _ _ 27 rfl (w.heap.size + 1) 41 i0 _ 4 40 Tryz.underlying27 hi hz0 hz1 hz2 rfl (by decide) _ _ _ rfl (hrow.alloc _) ⟨_, 0, none⟩ 1 1 [.int .i64 1, .int .i64 (i : Int), .string ⟨#[]⟩, .int .i64 x] rfl rfl (four_new (by simp) _ _ _ _ _) (by simp [Value.oneCell']) (by unfold maxLen; omega) (by omega) (by simp; omega) ?_)
            intro v1 w3 hown1 hg1 _
            have hb4 := tok_below hrow hb0 (by omega) hg1
            have ct4 := cells_grown (ct0.on_alloc _) hg1 (own_far hrow (by omega))
            have hrow4 := OwnT.snoc ⟨1, i, _, x⟩ (show World.ownsRow _ _ _ _ _ _ (_ ++ [.int .i64 1, .int .i64 (i : Int), .string ⟨_⟩, .int .i64 x]) from hown1)
            clear hown1 hg1 hrow hb0 ct0
            go_wp2_with fail
            skip
            go_roundw
            case rel => exact ⟨i + m, _, by omega, by go_num, hrow4, by simp only [List.length_append, List.length_singleton]; omega, Lib.hid (HN.out.1), hb4, ct4⟩
            case measure => simp [intOf]; omega
        | false =>
          have HG := Lib.hid (fun w1 => digit_c t i (i : Int) rfl false (by rw [digAt_in hb, hdg]) w1)
          cases h34 : ((t[i].toNat : Int) == 34) with
          | true =>
            have hwr : w.heap.size < wr.heap.size := ct0.1
            have hne : wr.heap.size ≠ w.heap.size := by omega
            have hfar := tok_far hrow

            have htk := tok_mark (t.data.toList.drop (i + 1))
            rw [← is34 h34, ← hdr] at htk
            have HS := Lib.hid (fun w1 => rmarked_c t (by omega) i hlt w1)
            cases hmk : markL (t.data.toList.drop (i + 1)) with
            | none =>
              rw [hmk] at HS htk
              have HN := Lib.hid (HM.out.bad hb hne32 htk)
              clear hb HM HK HT HD hne32 hdr htk hdg hmk
              go_wp2_with fail
              refine (HG.out _).mono ?_
              rintro e w1 ⟨rfl, rfl⟩
              go_wp2_with fail
              refine (HS.out _).mono ?_
              rintro e w2 ⟨s, rfl, hs, hb3⟩
              unfold markZ
              have hy := (CellsAt.new wr [.int .i64 0, .int .i64 (i : Int), .string ⟨#[]⟩, .int .i64 0] 41).on hb3
              replace hrow := (hrow.on (below1 wr (.cells #[.int .i64 0, .int .i64 (i : Int), .string ⟨#[]⟩, .int .i64 0] 41))).on hb3
              replace hb0 := on (on_alloc hb0 (.cells #[.int .i64 0, .int .i64 (i : Int), .string ⟨#[]⟩, .int .i64 0] 41)) hb3
              replace ct0 := (ct0.on_alloc (.cells #[.int .i64 0, .int .i64 (i : Int), .string ⟨#[]⟩, .int .i64 0] 41)).on hb3
              have hs9 := hb0.size
              have hlt9 := hy.1
              have hlt8 := ct0.1
              obtain ⟨y0, y1, y2, y3, z0, z1, z2, z3⟩ := hy.four
              obtain ⟨c0, c1, c2, f0, f1, f2⟩ := ct0.three
              clear hb3
              clear HG HS hs
              go_wp2_with fail
              have hct := CellsAt.put3 (CellsAt.far (p := ⟨wr.heap.size, 2, none⟩) (CellsAt.far (p := ⟨wr.heap.size, 0, none⟩) (ct0) hne (.int .i64 2)) hne (.string s)) (.slice none 0 0) (.int .i64 (i : Int)) (.int .i64 1)
              have hbl := set3 (((hb0).setCell (p := ⟨wr.heap.size, 0, none⟩) (Nat.le_of_lt hwr) (.int .i64 2)).setCell (p := ⟨wr.heap.size, 2, none⟩) (Nat.le_of_lt hwr) (.string s)) (Nat.le_refl w.heap.size) (.slice none 0 0) (.int .i64 (i : Int)) (.int .i64 1)
              obtain ⟨k0, k1, k2, _⟩ := hct.three
              exact bodyPost_ret (v := .agg #[.slice none 0 0, .int .i64 (i : Int), .int .i64 1]) (by simp [results, Tryz.results7, go_sem, k0, k1, k2]) rfl (by rw [HN.out]; exact ⟨rfl, hbl⟩)
            | some p =>
              obtain ⟨tx, m⟩ := p
              rw [hmk] at HS htk
              have HN := Lib.hid (HM.out.tok hb hne32 htk)
              have hm := HN.out.2
              have hml := hm.2
              rw [HT.out] at hml
              have d1 : (((i + 1 + m : Nat) : Int) == (i : Int)) = false := beq_eq_false_iff_ne.2 (by omega)
              have d2 : decide ((0 : Int) ≤ ((i + 1 + m : Nat) : Int)) = true := decide_eq_true (by omega)
              clear hb HM HK HT HD hne32 hdr htk hdg hmk
              go_wp2_with fail
              refine (HG.out _).mono ?_
              rintro e w1 ⟨rfl, rfl⟩
              go_wp2_with fail
              refine (HS.out _).mono ?_
              rintro e w2 ⟨s, rfl, hs, hb3⟩
              have HE : Hid (s = ⟨tx.toArray⟩) := Lib.hid (bytes_eq (by rw [hs]; rfl))
              have HZ : Hid (markZ i (some (tx, m)) = ((i + 1 + m : Nat) : Int)) := Lib.hid rfl
              rw [HZ.out]
              have hy := (CellsAt.new wr [.int .i64 0, .int .i64 (i : Int), .string ⟨#[]⟩, .int .i64 0] 41).on hb3
              replace hrow := (hrow.on (below1 wr (.cells #[.int .i64 0, .int .i64 (i : Int), .string ⟨#[]⟩, .int .i64 0] 41))).on hb3
              replace hb0 := on (on_alloc hb0 (.cells #[.int .i64 0, .int .i64 (i : Int), .string ⟨#[]⟩, .int .i64 0] 41)) hb3
              replace ct0 := (ct0.on_alloc (.cells #[.int .i64 0, .int .i64 (i : Int), .string ⟨#[]⟩, .int .i64 0] 41)).on hb3
              have hs9 := hb0.size
              have hlt9 := hy.1
              have hlt8 := ct0.1
              obtain ⟨y0, y1, y2, y3, z0, z1, z2, z3⟩ := hy.four
              obtain ⟨c0, c1, c2, f0, f1, f2⟩ := ct0.three
              clear hb3
              clear HG HS hs HZ
              replace hrow := hrow.set (p := ⟨wr.heap.size, 0, none⟩) hfar (.int .i64 2)
              replace hrow := hrow.set (p := ⟨wr.heap.size, 2, none⟩) hfar (.string s)
              replace hb0 := ((hb0).setCell (p := ⟨wr.heap.size, 0, none⟩) (Nat.le_of_lt hwr) (.int .i64 2)).setCell (p := ⟨wr.heap.size, 2, none⟩) (Nat.le_of_lt hwr) (.string s)
              replace ct0 := CellsAt.far (p := ⟨wr.heap.size, 2, none⟩) (CellsAt.far (p := ⟨wr.heap.size, 0, none⟩) (ct0) hne (.int .i64 2)) hne (.string s)
              unfold OwnT at hrow
              go_wp2_with (at_builtin; refine wpList_append_own _ rfl _ _ 27 rfl (w.heap.size + 1) 41 i0 _ 4 40 Tryz.underlying27 hi hz0 hz1 hz2 rfl (by decide) _ _ _ rfl (hrow.alloc _) ⟨_, 0, none⟩ 1 1 [.int .i64 2, .int .i64 (i : Int), .string s, .int .i64 0] rfl rfl (four_new (by simp) _ _ _ _ _) (by simp [Value.oneCell']) (by unfold maxLen; omega) (by omega) (by simp; omega) ?_)
              intro v1 w3 hown1 hg1 _
              have hb4 := tok_below hrow hb0 (by omega) hg1
              have ct4 := cells_grown (ct0.on_alloc _) hg1 (own_far hrow (by omega))
              have hrow4 := OwnT.snoc ⟨2, i, _, 0⟩ (show World.ownsRow _ _ _ _ _ _ (_ ++ [.int .i64 2, .int .i64 (i : Int), .string ⟨_⟩, .int .i64 0]) from by rw [← HE.out]; exact hown1)
              clear hown1 hg1 hrow hb0 ct0
              go_wp2_with fail
              skip
              go_roundw
              case rel => exact ⟨i + (m + 1), _, by omega, by go_num, hrow4, by simp only [List.length_append, List.length_singleton]; omega, Lib.hid (HN.out.1), hb4, ct4⟩
              case measure => simp [intOf]; omega
          | false =>
            have hne34 := not34 h34
            cases hup : upB t[i] with
            | true =>
              have hwr : w.heap.size < wr.heap.size := ct0.1
              have hne : wr.heap.size ≠ w.heap.size := by omega
              have hfar := tok_far hrow

              have HU := Lib.hid (fun w1 => rupper_c t[i] true hup w1)
              have HUJ := Lib.hid (fun j (hj : j < t.size) b (h : upB t[j] = b) w1 => rupper_c t[j] b h w1)
              have HDJ := Lib.hid (fun j (hj : j < t.size) b (h : isD t[j] = b) w1 => digit_c t j (j : Int) rfl b (by rw [digAt_in (HK.out j hj), h]) w1)
              have htk := (tok_word hup (t.data.toList.drop (i + 1))).1
              rw [← hdr] at htk
              have HN := Lib.hid (HM.out.tok hb hne32 htk)
              have hm := HN.out.2
              have HI : Hid (∀ j (hj : j < t.size), i ≤ j → (j < i + wordN (t.data.toList.drop i) → wordB t[j] = true) ∧ (j = i + wordN (t.data.toList.drop i) → wordB t[j] = false)) := Lib.hid fun j hj hij => by
                have e : (t.data.toList.drop i)[j - i]? = some t[j] := by rw [List.getElem?_drop, show i + (j - i) = j from by omega]; exact HK.out j hj
                exact ⟨fun h => word_in _ _ _ (by omega) e, fun h => word_end _ _ (by rw [← e]; congr 1; omega)⟩
              have HX : Hid (t.extract i (i + wordN (t.data.toList.drop i)) = ⟨((t.data.toList.drop i).take (wordN (t.data.toList.drop i))).toArray⟩) := Lib.hid (bytes_eq (by rw [Lib.extract_data]; congr 1; omega))
              generalize wordN (t.data.toList.drop i) = m at *
              generalize (t.data.toList.drop i).take m = tx at *
              have hml := hm.2
              rw [HT.out] at hml
              have d1 : ((i : Int) + (m : Int) == (i : Int)) = false := beq_eq_false_iff_ne.2 (by omega)
              clear hb HM HK HT HD hne32 hdr htk hdg hup hne34
              go_wp2_with fail
              refine (HG.out _).mono ?_
              rintro e w1 ⟨rfl, rfl⟩
              go_wp2_with fail
              refine (HU.out _).mono ?_
              rintro e w1 ⟨rfl, rfl⟩
              go_wp2_with fail
              have hy := CellsAt.new wr [.int .i64 0, .int .i64 (i : Int), .string ⟨#[]⟩, .int .i64 0] 41
              replace hrow := hrow.on (below1 wr (.cells #[.int .i64 0, .int .i64 (i : Int), .string ⟨#[]⟩, .int .i64 0] 41))
              replace hb0 := on_alloc hb0 (.cells #[.int .i64 0, .int .i64 (i : Int), .string ⟨#[]⟩, .int .i64 0] 41)
              replace ct0 := ct0.on_alloc (.cells #[.int .i64 0, .int .i64 (i : Int), .string ⟨#[]⟩, .int .i64 0] 41)
              generalize (wr.alloc (.cells #[.int .i64 0, .int .i64 (i : Int), .string ⟨#[]⟩, .int .i64 0] 41)) = W at *
              generalize wr.heap.size = g at *
              go_loopw [6] (fun e wx => ∃ j, i ≤ j ∧ j ≤ i + m ∧ e = .int .i64 (j : Int) ∧ wx = W) (fun e _ => t.size - (intOf e).toNat)
              case atStart => exact ⟨i, Nat.le_refl _, by omega, rfl, rfl⟩
              case round =>
                obtain ⟨j, hij, hjm, rfl, rfl⟩ := hrel
                by_cases hjt : j < t.size
                · obtain ⟨g1, g2⟩ := HI.out j hjt hij
                  by_cases hin : j < i + m
                  · have g := g1 hin
                    unfold wordB at g
                    cases hu : upB t[j] with
                    | true =>
                      clear g1 g2 g
                      go_wp2_with fail
                      refine ((HUJ.out j hjt true hu) _).mono ?_
                      rintro e w1 ⟨rfl, rfl⟩
                      go_wp2_with fail
                      go_roundw
                      case rel => exact ⟨j + 1, by omega, by omega, by go_num, by first | rfl | trivial⟩
                      case measure => simp [intOf]; omega
                    | false =>
                      have hd : isD t[j] = true := by rw [hu] at g; simpa using g
                      clear g1 g2 g
                      go_wp2_with fail
                      refine ((HUJ.out j hjt false hu) _).mono ?_
                      rintro e w1 ⟨rfl, rfl⟩
                      go_wp2_with fail
                      refine ((HDJ.out j hjt true hd) _).mono ?_
                      rintro e w1 ⟨rfl, rfl⟩
                      go_wp2_with fail
                      go_roundw
                      case rel => exact ⟨j + 1, by omega, by omega, by go_num, by first | rfl | trivial⟩
                      case measure => simp [intOf]; omega
                  · obtain rfl : j = i + m := by omega
                    have g := g2 rfl
                    unfold wordB at g
                    have hu : upB t[i + m] = false := (Bool.or_eq_false_iff.1 g).1
                    have hd : isD t[i + m] = false := (Bool.or_eq_false_iff.1 g).2
                    clear g1 g2 g
                    obtain ⟨y0, y1, y2, y3, z0, z1, z2, z3⟩ := hy.four
                    obtain ⟨c0, c1, c2, f0, f1, f2⟩ := ct0.three
                    have hlt9 := hy.1
                    have hlt8 := ct0.1
                    go_wp2_with fail
                    refine ((HUJ.out (i + m) hjt false hu) _).mono ?_
                    rintro e w1 ⟨rfl, rfl⟩
                    go_wp2_with fail
                    refine ((HDJ.out (i + m) hjt false hd) _).mono ?_
                    rintro e w1 ⟨rfl, rfl⟩
                    have HE := Lib.hid HX.out
                    generalize hsx : t.extract i (i + m) = s at *

                    replace hrow := hrow.set (p := ⟨g, 0, none⟩) hfar (.int .i64 3)
                    replace hrow := hrow.set (p := ⟨g, 2, none⟩) hfar (.string s)
                    replace hb0 := ((hb0).setCell (p := ⟨g, 0, none⟩) (Nat.le_of_lt hwr) (.int .i64 3)).setCell (p := ⟨g, 2, none⟩) (Nat.le_of_lt hwr) (.string s)
                    replace ct0 := CellsAt.far (p := ⟨g, 2, none⟩) (CellsAt.far (p := ⟨g, 0, none⟩) (ct0) hne (.int .i64 3)) hne (.string s)


                    unfold OwnT at hrow
                    go_wp2_with (at_builtin; refine wpList_append_own _ rfl _ _ 27 rfl (w.heap.size + 1) 41 i0 _ 4 40 Tryz.underlying27 hi hz0 hz1 hz2 rfl (by decide) _ _ _ rfl (hrow.alloc _) ⟨_, 0, none⟩ 1 1 [.int .i64 3, .int .i64 (i : Int), .string s, .int .i64 0] rfl rfl (four_new (by simp) _ _ _ _ _) (by simp [Value.oneCell']) (by unfold maxLen; omega) (by omega) (by simp; omega) ?_)
                    intro v1 w3 hown1 hg1 _
                    have hb4 := tok_below hrow hb0 (by omega) hg1
                    have ct4 := cells_grown (ct0.on_alloc _) hg1 (own_far hrow (by omega))
                    have hrow4 := OwnT.snoc ⟨3, i, _, 0⟩ (show World.ownsRow _ _ _ _ _ _ (_ ++ [.int .i64 3, .int .i64 (i : Int), .string ⟨_⟩, .int .i64 0]) from by rw [← HE.out]; exact hown1)
                    clear hown1 hg1 hrow hb0 ct0
                    go_wp2_with fail
                    skip
                    go_roundw
                    case rel => exact ⟨i + m, _, by omega, by go_num, hrow4, by simp only [List.length_append, List.length_singleton]; omega, Lib.hid (HN.out.1), hb4, ct4⟩
                    case measure => simp [intOf]; omega
                · obtain rfl : j = i + m := by omega
                  clear HI HUJ HDJ
                  obtain ⟨y0, y1, y2, y3, z0, z1, z2, z3⟩ := hy.four
                  obtain ⟨c0, c1, c2, f0, f1, f2⟩ := ct0.three
                  have hlt9 := hy.1
                  have hlt8 := ct0.1

                  have HE := Lib.hid HX.out
                  generalize hsx : t.extract i (i + m) = s at *

                  replace hrow := hrow.set (p := ⟨g, 0, none⟩) hfar (.int .i64 3)
                  replace hrow := hrow.set (p := ⟨g, 2, none⟩) hfar (.string s)
                  replace hb0 := ((hb0).setCell (p := ⟨g, 0, none⟩) (Nat.le_of_lt hwr) (.int .i64 3)).setCell (p := ⟨g, 2, none⟩) (Nat.le_of_lt hwr) (.string s)
                  replace ct0 := CellsAt.far (p := ⟨g, 2, none⟩) (CellsAt.far (p := ⟨g, 0, none⟩) (ct0) hne (.int .i64 3)) hne (.string s)


                  unfold OwnT at hrow
                  go_wp2_with (at_builtin; refine wpList_append_own _ rfl _ _ 27 rfl (w.heap.size + 1) 41 i0 _ 4 40 Tryz.underlying27 hi hz0 hz1 hz2 rfl (by decide) _ _ _ rfl (hrow.alloc _) ⟨_, 0, none⟩ 1 1 [.int .i64 3, .int .i64 (i : Int), .string s, .int .i64 0] rfl rfl (four_new (by simp) _ _ _ _ _) (by simp [Value.oneCell']) (by unfold maxLen; omega) (by omega) (by simp; omega) ?_)
                  intro v1 w3 hown1 hg1 _
                  have hb4 := tok_below hrow hb0 (by omega) hg1
                  have ct4 := cells_grown (ct0.on_alloc _) hg1 (own_far hrow (by omega))
                  have hrow4 := OwnT.snoc ⟨3, i, _, 0⟩ (show World.ownsRow _ _ _ _ _ _ (_ ++ [.int .i64 3, .int .i64 (i : Int), .string ⟨_⟩, .int .i64 0]) from by rw [← HE.out]; exact hown1)
                  clear hown1 hg1 hrow hb0 ct0
                  go_wp2_with fail
                  skip
                  go_roundw
                  case rel => exact ⟨i + m, _, by omega, by go_num, hrow4, by simp only [List.length_append, List.length_singleton]; omega, Lib.hid (HN.out.1), hb4, ct4⟩
                  case measure => simp [intOf]; omega
            | false =>
              have HU := Lib.hid (fun w1 => rupper_c t[i] false hup w1)
              have htk := tok_sign hdg hne34 hup (t.data.toList.drop (i + 1))
              rw [← hdr] at htk
              have HS := Lib.hid (fun w1 => rsign_c t (by omega) i hit w1)
              have hwr : w.heap.size < wr.heap.size := ct0.1
              have hne : wr.heap.size ≠ w.heap.size := by omega
              have hfar := tok_far hrow

              by_cases hz : signN (t.data.toList.drop i) = 0
              · rw [if_pos hz] at htk
                have HN := Lib.hid (HM.out.bad hb hne32 htk)
                have HZ := Lib.hid hz
                clear hb HM HK HT HD hne32 hdr htk hz hdg hup hne34
                go_wp2_with fail
                refine (HG.out _).mono ?_
                rintro e w1 ⟨rfl, rfl⟩
                go_wp2_with fail
                refine (HU.out _).mono ?_
                rintro e w1 ⟨rfl, rfl⟩
                go_wp2_with fail
                refine (HS.out _).mono ?_
                rintro e w2 ⟨s, rfl, hs, hb3⟩
                obtain rfl : s = ⟨#[]⟩ := bytes_eq (by rw [hs, HZ.out]; rfl)
                have hy := (CellsAt.new wr [.int .i64 4, .int .i64 (i : Int), .string ⟨#[]⟩, .int .i64 0] 41).on hb3
                replace hrow := (hrow.on (below1 wr (.cells #[.int .i64 4, .int .i64 (i : Int), .string ⟨#[]⟩, .int .i64 0] 41))).on hb3
                replace hb0 := on (on_alloc hb0 (.cells #[.int .i64 4, .int .i64 (i : Int), .string ⟨#[]⟩, .int .i64 0] 41)) hb3
                replace ct0 := (ct0.on_alloc (.cells #[.int .i64 4, .int .i64 (i : Int), .string ⟨#[]⟩, .int .i64 0] 41)).on hb3
                have hs9 := hb0.size
                have hlt9 := hy.1
                have hlt8 := ct0.1
                obtain ⟨y0, y1, y2, y3, z0, z1, z2, z3⟩ := hy.four
                obtain ⟨c0, c1, c2, f0, f1, f2⟩ := ct0.three
                clear hb3
                clear HG HU HS HZ hs
                go_wp2_with fail
                have hct := CellsAt.put3 (CellsAt.far (p := ⟨wr.heap.size, 2, none⟩) ct0 hne (.string ⟨#[]⟩)) (.slice none 0 0) (.int .i64 (i : Int)) (.int .i64 1)
                have hbl := set3 (hb0.setCell (p := ⟨wr.heap.size, 2, none⟩) (Nat.le_of_lt hwr) (.string ⟨#[]⟩)) (Nat.le_refl w.heap.size) (.slice none 0 0) (.int .i64 (i : Int)) (.int .i64 1)
                obtain ⟨k0, k1, k2, _⟩ := hct.three
                exact bodyPost_ret (v := .agg #[.slice none 0 0, .int .i64 (i : Int), .int .i64 1]) (by simp [results, Tryz.results7, go_sem, k0, k1, k2]) rfl (by rw [HN.out]; exact ⟨rfl, hbl⟩)
              · rw [if_neg hz] at htk
                have HN := Lib.hid (HM.out.tok hb hne32 htk)
                have hm := HN.out.2
                have HZ := Lib.hid (show ((t.data.toList.drop i).take (signN (t.data.toList.drop i))).length = signN (t.data.toList.drop i) from by rw [List.length_take]; exact Nat.min_eq_left (sign_le _))
                generalize signN (t.data.toList.drop i) = m at *
                generalize (t.data.toList.drop i).take m = tx at *
                have hml := hm.2
                rw [HT.out] at hml
                clear hb HM HK HT HD hne32 hdr htk hz hdg hup hne34
                go_wp2_with fail
                refine (HG.out _).mono ?_
                rintro e w1 ⟨rfl, rfl⟩
                go_wp2_with fail
                refine (HU.out _).mono ?_
                rintro e w1 ⟨rfl, rfl⟩
                go_wp2_with fail
                refine (HS.out _).mono ?_
                rintro e w2 ⟨s, rfl, hs, hb3⟩
                have hsz : s.size = m := by rw [← len, hs, HZ.out]
                have HE : Hid (s = ⟨tx.toArray⟩) := Lib.hid (bytes_eq (by rw [hs]))
                have HSZ := Lib.hid hsz
                have hs200 : s.size ≤ 200 := by omega
                have d1 : ((i : Int) + (s.size : Int) == (i : Int)) = false := beq_eq_false_iff_ne.2 (by omega)
                have hy := (CellsAt.new wr [.int .i64 4, .int .i64 (i : Int), .string ⟨#[]⟩, .int .i64 0] 41).on hb3
                replace hrow := (hrow.on (below1 wr (.cells #[.int .i64 4, .int .i64 (i : Int), .string ⟨#[]⟩, .int .i64 0] 41))).on hb3
                replace hb0 := on (on_alloc hb0 (.cells #[.int .i64 4, .int .i64 (i : Int), .string ⟨#[]⟩, .int .i64 0] 41)) hb3
                replace ct0 := (ct0.on_alloc (.cells #[.int .i64 4, .int .i64 (i : Int), .string ⟨#[]⟩, .int .i64 0] 41)).on hb3
                have hs9 := hb0.size
                have hlt9 := hy.1
                have hlt8 := ct0.1
                obtain ⟨y0, y1, y2, y3, z0, z1, z2, z3⟩ := hy.four
                obtain ⟨c0, c1, c2, f0, f1, f2⟩ := ct0.three
                clear hb3
                clear HG HU HS HZ hs hsz
                replace hrow := hrow.set (p := ⟨wr.heap.size, 2, none⟩) hfar (.string s)
                replace hb0 := hb0.setCell (p := ⟨wr.heap.size, 2, none⟩) (Nat.le_of_lt hwr) (.string s)
                replace ct0 := CellsAt.far (p := ⟨wr.heap.size, 2, none⟩) ct0 hne (.string s)
                unfold OwnT at hrow
                go_wp2_with (at_builtin; refine wpList_append_own _ rfl _ _ 27 rfl (w.heap.size + 1) 41 i0 _ 4 40 Tryz.underlying27 hi hz0 hz1 hz2 rfl (by decide) _ _ _ rfl (hrow.alloc _) ⟨_, 0, none⟩ 1 1 [.int .i64 4, .int .i64 (i : Int), .string s, .int .i64 0] rfl rfl (four_new (by simp) _ _ _ _ _) (by simp [Value.oneCell']) (by unfold maxLen; omega) (by omega) (by simp; omega) ?_)
                intro v1 w3 hown1 hg1 _
                have hb4 := tok_below hrow hb0 (by omega) hg1
                have ct4 := cells_grown (ct0.on_alloc _) hg1 (own_far hrow (by omega))
                have hrow4 := OwnT.snoc ⟨4, i, _, 0⟩ (show World.ownsRow _ _ _ _ _ _ (_ ++ [.int .i64 4, .int .i64 (i : Int), .string ⟨_⟩, .int .i64 0]) from by rw [← HE.out]; exact hown1)
                clear hown1 hg1 hrow hb0 ct0
                go_wp2_with fail
                have hsm := HSZ.out
                go_roundw
                case rel => exact ⟨i + m, _, by omega, by go_num, hrow4, by simp only [List.length_append, List.length_singleton]; omega, Lib.hid (HN.out.1), hb4, ct4⟩
                case measure => simp [intOf]; omega
    · obtain rfl : i = t.size := by omega
      have HN := Lib.hid (HM.out.fin (by rw [HT.out]))
      clear HM HK HT HD
      obtain ⟨c0, c1, c2, f0, f1, f2⟩ := ct0.three
      have hlt8 := ct0.1
      unfold OwnT at hrow
      go_wp2_with (at_builtin; refine wpList_append_own _ rfl _ _ 27 rfl (w.heap.size + 1) 41 i0 _ 4 40 Tryz.underlying27 hi hz0 hz1 hz2 rfl (by decide) _ _ _ rfl (hrow.alloc _) ⟨_, 0, none⟩ 1 1 [.int .i64 5, .int .i64 (t.size : Int), .string ⟨#[]⟩, .int .i64 0] rfl rfl (four_new (by simp) _ _ _ _ _) (by simp [Value.oneCell']) (by unfold maxLen; omega) (by omega) (by simp; omega) ?_)
      intro v1 w3 hown1 hg1 _
      have hb4 := tok_below hrow hb0 (by omega) hg1
      have ct4 := cells_grown (ct0.on_alloc _) hg1 (own_far hrow (by omega))
      have hrow4 := OwnT.snoc (L := P) (Tok.mk 5 t.size [] 0) hown1
      clear hown1 hg1 hrow hb0 ct0 c0 c1 c2 f0 f1 f2
      obtain ⟨A, cap, rfl, _⟩ := hrow4.reads
      have hfar : some w.heap.size ≠ (Value.slice A (P ++ [Tok.mk 5 t.size [] 0]).length cap).ownBlock := own_far hrow4 (by omega)
      obtain ⟨c0, c1, c2, f0, f1, f2⟩ := ct4.three
      have HRW := Lib.hid (((hrow4.set (p := ⟨w.heap.size, 0, none⟩) hfar (.slice A (P ++ [Tok.mk 5 t.size [] 0]).length cap)).set (p := ⟨w.heap.size, 1, none⟩) hfar (.int .i64 0)).set (p := ⟨w.heap.size, 2, none⟩) hfar (.int .i64 0))
      clear hrow4
      generalize P ++ [Tok.mk 5 t.size [] 0] = T at *
      go_wp2_with fail
      have hct := CellsAt.put3 ct4 (.slice A T.length cap) (.int .i64 0) (.int .i64 0)
      have hbl := set3 hb4 (Nat.le_refl w.heap.size) (.slice A T.length cap) (.int .i64 0) (.int .i64 0)
      obtain ⟨k0, k1, k2, _⟩ := hct.three
      exact bodyPost_ret (v := .agg #[.slice A T.length cap, .int .i64 0, .int .i64 0]) (by simp [results, Tryz.results7, go_sem, k0, k1, k2]) rfl (by
        rw [HN.out]
        obtain ⟨A2, cap2, e, hr⟩ := HRW.out.reads
        obtain ⟨rfl, _, rfl⟩ := Value.slice.inj e
        exact ⟨_, _, rfl, hr, hbl⟩)
set_option maxRecDepth 100000 in
set_option maxHeartbeats 1000000 in
theorem rlex_long (t : ByteArray) (ht : 200 < t.size) (w : World) : Calls Tryz.prog 7 #[.string t] w fun e w' => e = .returned (.agg #[.slice none 0 0, .int .i64 0, .int .i64 3]) ∧ Below w.heap.size w w' := by
  have d1 : decide ((200 : Int) < (t.size : Int)) = true := decide_eq_true (by omega)
  have hb0 := below1 w (.cells #[.slice none 0 0, .int .i64 0, .int .i64 3] 29)
  have ct0 := CellsAt.new w [.slice none 0 0, .int .i64 0, .int .i64 3] 29
  clear ht
  go_enter Tryz.func7, Tryz.ntmps7
  go_wp2_with fail
  obtain ⟨k0, k1, k2, _⟩ := ct0.three
  exact bodyPost_ret (v := .agg #[.slice none 0 0, .int .i64 0, .int .i64 3]) (by simp [results, Tryz.results7, go_sem, k0, k1, k2]) rfl ⟨rfl, hb0⟩
end Go.Proofs.YtmoednmgmmgjeaaGreatDoor.Lex

/- What the reference's Plain, upper, marked answer. -/
import Derived.Test.YtmoednmgmmgjeaaGreatDoorLexWays
import Derived.Test.YtmoednmgmmgjeaaGreatDoorDigRLead
import Derived.Test.YtmoednmgmmgjeaaGreatDoorValRQuote
namespace Go.Proofs.YtmoednmgmmgjeaaGreatDoor.Lex
open Go.RowKit Kit Dec Dig
open Val (quoteL quoteL_skip quoteL_mark one_cell)

theorem plain_iff (b : UInt8) : plainB b = true ↔ 32 ≤ b.toNat ∧ b.toNat ≠ 127 := by
  unfold plainB
  rw [Bool.and_eq_true, decide_eq_true_eq, Bool.not_eq_true', beq_eq_false_iff_ne]
  refine and_congr_right fun _ => not_congr ⟨fun h => by rw [h]; rfl, fun h => UInt8.toNat_inj.1 h⟩
theorem up_iff (b : UInt8) : upB b = true ↔ (65 ≤ b.toNat ∧ b.toNat ≤ 90) ∨ b.toNat = 36 := by
  unfold upB
  rw [Bool.or_eq_true, Bool.and_eq_true, decide_eq_true_eq, decide_eq_true_eq, beq_iff_eq]
  exact or_congr_right ⟨fun h => by rw [h]; rfl, fun h => UInt8.toNat_inj.1 h⟩
theorem bool_of {p : Prop} {b c : Bool} (h : b = true ↔ p) (hb : b = c) : (p ∧ c = true) ∨ (¬ p ∧ c = false) := by
  cases c with
  | true => exact .inl ⟨h.1 hb, rfl⟩
  | false => exact .inr ⟨fun hp => by (rw [h.2 hp] at hb; cases hb), rfl⟩
set_option maxRecDepth 100000 in
set_option maxHeartbeats 400000 in
theorem rplain_c (b : UInt8) (c : Bool) (hc : plainB b = c) (w : World) : Calls Tryz.prog 8 #[.int .u8 (b.toNat : Int)] w fun e w' => e = .returned (.bool c) ∧ w = w' := by
  rcases bool_of (plain_iff b) hc with ⟨h, rfl⟩ | ⟨h, rfl⟩
  · obtain ⟨h1, h2⟩ := h
    have d1 : decide (32 ≤ (b.toNat : Int)) = true := decide_eq_true (by omega)
    have d2 : ((b.toNat : Int) == 127) = false := beq_eq_false_iff_ne.2 (by omega)
    clear h1 h2 hc
    go_enter Tryz.func8, Tryz.ntmps8
    go_wp2
    go_ret
    first | exact ⟨rfl, rfl⟩ | exact ⟨by simp [bne, d2], rfl⟩
  · by_cases h1 : 32 ≤ b.toNat
    · have d1 : decide (32 ≤ (b.toNat : Int)) = true := decide_eq_true (by omega)
      have d2 : ((b.toNat : Int) == 127) = true := beq_iff_eq.2 (by omega)
      clear h h1 hc
      go_enter Tryz.func8, Tryz.ntmps8
      go_wp2
      go_ret
      first | exact ⟨rfl, rfl⟩ | exact ⟨by simp [bne, d2], rfl⟩
    · have d1 : decide (32 ≤ (b.toNat : Int)) = false := decide_eq_false (by omega)
      clear h h1 hc
      go_enter Tryz.func8, Tryz.ntmps8
      go_wp2
      go_ret
      exact ⟨rfl, rfl⟩
set_option maxRecDepth 100000 in
set_option maxHeartbeats 400000 in
theorem rupper_c (b : UInt8) (c : Bool) (hc : upB b = c) (w : World) : Calls Tryz.prog 18 #[.int .u8 (b.toNat : Int)] w fun e w' => e = .returned (.bool c) ∧ w = w' := by
  have hu := bool_of (up_iff b) hc
  clear hc
  by_cases h1 : 65 ≤ b.toNat
  · have d1 : decide (65 ≤ (b.toNat : Int)) = true := decide_eq_true (by omega)
    by_cases h2 : b.toNat ≤ 90
    · have d2 : decide ((b.toNat : Int) ≤ 90) = true := decide_eq_true (by omega)
      obtain rfl : c = true := hu.elim (fun h => h.2) (fun h => absurd (.inl ⟨h1, h2⟩) h.1)
      clear hu h1 h2
      go_enter Tryz.func18, Tryz.ntmps18
      go_wp2
      go_ret
      exact ⟨rfl, rfl⟩
    · have d2 : decide ((b.toNat : Int) ≤ 90) = false := decide_eq_false (by omega)
      have d3 : ((b.toNat : Int) == 36) = false := beq_eq_false_iff_ne.2 (by omega)
      obtain rfl : c = false := hu.elim (fun h => by omega) (fun h => h.2)
      clear hu h1 h2
      go_enter Tryz.func18, Tryz.ntmps18
      go_wp2
      go_ret
      exact ⟨rfl, rfl⟩
  · have d1 : decide (65 ≤ (b.toNat : Int)) = false := decide_eq_false (by omega)
    have d3 : ((b.toNat : Int) == 36) = c := by
      rcases hu with ⟨h, rfl⟩ | ⟨h, rfl⟩
      · exact beq_iff_eq.2 (by omega)
      · exact beq_eq_false_iff_ne.2 (fun e => h (.inr (by omega)))
    clear hu h1
    go_enter Tryz.func18, Tryz.ntmps18
    go_wp2
    go_ret
    exact ⟨rfl, rfl⟩
theorem is34 {x : UInt8} (h : ((x.toNat : Int) == 34) = true) : x = 34 := UInt8.toNat_inj.1 (by
  have h1 : (x.toNat : Int) = 34 := by simpa using h
  have h2 : (34 : UInt8).toNat = 34 := rfl
  omega)
theorem is32 {x : UInt8} (h : ((x.toNat : Int) == 32) = true) : x = 32 := UInt8.toNat_inj.1 (by
  have h1 : (x.toNat : Int) = 32 := by simpa using h
  have h2 : (32 : UInt8).toNat = 32 := rfl
  omega)
theorem not32 {x : UInt8} (h : ((x.toNat : Int) == 32) = false) : x ≠ 32 := fun e => by rw [e] at h; simp at h
theorem not34 {x : UInt8} (h : ((x.toNat : Int) == 34) = false) : x ≠ 34 := fun e => by rw [e] at h; simp at h
/-- what stands within marks, and where it ends -/
def markT : Option (List UInt8 × Nat) → List UInt8
  | some p => p.1
  | none => []
def markZ (a : Nat) : Option (List UInt8 × Nat) → Int
  | some p => ((a + 1 + p.2 : Nat) : Int)
  | none => -1
def MarkIs (a : Nat) (r : Option (List UInt8 × Nat)) (w : World) (e : Ending) (w' : World) : Prop := ∃ s : ByteArray, e = .returned (.tuple #[.string s, .int .i64 (markZ a r)]) ∧ s.data.toList = markT r ∧ Below w.heap.size w w'
/-- where a reader of marks stands -/
def MarkAt (R : List UInt8) (j : Nat) (O : List UInt8) : Prop := markL R = (markL (R.drop j)).map (fun p => (O ++ p.1, j + p.2))
theorem MarkAt.start (R : List UInt8) : MarkAt R 0 [] := by
  unfold MarkAt
  rw [List.drop_zero]
  cases markL R with
  | none => rfl
  | some p => rw [Option.map_some, List.nil_append, Nat.zero_add]
theorem mark_bad {b : UInt8} (h : plainB b = false) (r : List UInt8) : markL (b :: r) = none := by unfold markL; exact if_pos h
theorem mark_byte {b : UInt8} (h : plainB b = true) (h34 : b ≠ 34) (r : List UInt8) : markL (b :: r) = (markL r).map (fun p => (b :: p.1, p.2 + 1)) := by
  conv => lhs; unfold markL
  rw [if_neg (by rw [h]; exact Bool.noConfusion), if_neg h34]
theorem mark_two (r : List UInt8) : markL (34 :: 34 :: r) = (markL r).map (fun p => (34 :: p.1, p.2 + 2)) := by
  conv => lhs; unfold markL
  rw [if_neg (by decide), if_pos rfl]
  exact if_pos rfl
theorem mark_end {r : List UInt8} (h : r.head? ≠ some 34) : markL (34 :: r) = some ([], 1) := by
  conv => lhs; unfold markL
  rw [if_neg (by decide), if_pos rfl]
  cases r with
  | nil => rfl
  | cons c r => exact if_neg fun e => h (by rw [e]; rfl)
theorem drop_at {R : List UInt8} {j : Nat} {b : UInt8} (h : R[j]? = some b) : R.drop j = b :: R.drop (j + 1) := by
  obtain ⟨hj, hb⟩ := List.getElem?_eq_some_iff.1 h
  rw [List.drop_eq_getElem_cons hj, hb]
theorem MarkAt.byte {R : List UInt8} {j : Nat} {O : List UInt8} {b : UInt8} (h : MarkAt R j O) (hb : R[j]? = some b) (hp : plainB b = true) (h34 : b ≠ 34) : MarkAt R (j + 1) (O ++ [b]) := by
  unfold MarkAt at *
  rw [h, drop_at hb, mark_byte hp h34]
  cases markL (R.drop (j + 1)) with
  | none => rfl
  | some p => simp only [Option.map_some, List.append_assoc, List.cons_append, List.nil_append]; congr 2; omega
theorem MarkAt.two {R : List UInt8} {j : Nat} {O : List UInt8} (h : MarkAt R j O) (hb : R[j]? = some 34) (hc : R[j + 1]? = some 34) : MarkAt R (j + 2) (O ++ [34]) := by
  unfold MarkAt at *
  rw [h, drop_at hb, drop_at hc, mark_two]
  cases markL (R.drop (j + 2)) with
  | none => rfl
  | some p => simp only [Option.map_some, List.append_assoc, List.cons_append, List.nil_append]; congr 2; omega
theorem MarkAt.bad {R : List UInt8} {j : Nat} {O : List UInt8} {b : UInt8} (h : MarkAt R j O) (hb : R[j]? = some b) (hp : plainB b = false) : markL R = none := by
  unfold MarkAt at h
  rw [h, drop_at hb, mark_bad hp]
  rfl
theorem MarkAt.out {R : List UInt8} {j : Nat} {O : List UInt8} (h : MarkAt R j O) (hb : R.length ≤ j) : markL R = none := by
  unfold MarkAt at h
  rw [h, List.drop_eq_nil_of_le hb]
  rfl
theorem MarkAt.ends {R : List UInt8} {j : Nat} {O : List UInt8} (h : MarkAt R j O) (hb : R[j]? = some 34) (hc : R[j + 1]? ≠ some 34) : markL R = some (O, j + 1) := by
  unfold MarkAt at h
  rw [h, drop_at hb, mark_end (by rw [List.head?_eq_getElem?, List.getElem?_drop, Nat.add_zero]; exact hc)]
  simp
set_option maxRecDepth 100000 in
set_option maxHeartbeats 4000000 in
theorem rmarked_c (t : ByteArray) (ht : t.size ≤ 1000) (a : Nat) (ha : a < t.size) (w : World) : Calls Tryz.prog 17 #[.string t, .int .i64 (a : Int)] w (MarkIs a (markL (t.data.toList.drop (a + 1))) w) := by
  obtain ⟨i0, hi, hz0, hz1, hz2⟩ := info_parts infoB
  have HG := Lib.hid (fun i (hi : i < t.size) => (show (t.data.toList.drop (a + 1))[i - (a + 1)]? = t.data.toList[a + 1 + (i - (a + 1))]? from List.getElem?_drop ..))
  have HK := Lib.hid (fun i (hi : i < t.size) => Lib.data_getElem? t i hi)
  have HL : Hid ((t.data.toList.drop (a + 1)).length = t.size - (a + 1)) := Lib.hid (by rw [List.length_drop, len])
  generalize hR : t.data.toList.drop (a + 1) = R at *
  clear hR
  have hrow : OwnB w.heap.size (.slice (some ⟨w.heap.size, 0, none⟩) 0 0) [] (w.alloc (.cells #[] 5)) := World.ownsRow_lit w #[] 0 (Nat.le_refl _) (by decide) rfl
  have hb0 := below1 w (.cells #[] 5)
  go_enter Tryz.func17, Tryz.ntmps17
  go_wp2_with fail
  go_loopw [6, 7] (fun v x wr => ∃ i O, a + 1 ≤ i ∧ i ≤ t.size ∧ x = .int .i64 (i : Int) ∧ OwnB w.heap.size v O wr ∧ O.length ≤ i ∧ Hid (MarkAt R (i - (a + 1)) O) ∧ Below w.heap.size w wr) (fun _ x _ => t.size - (intOf x).toNat)
  case atStart => exact ⟨a + 1, [], Nat.le_refl _, ha, rfl, hrow, Nat.zero_le _, Lib.hid (by rw [Nat.sub_self]; exact MarkAt.start R), hb0⟩
  case round =>
    clear hrow hb0
    obtain ⟨i, O, hai, hit, rfl, hrow, hO, HM, hb0⟩ := hrel
    have hs0 := hb0.size
    by_cases hlt : i < t.size
    · have hb := HG.out i hlt
      rw [show a + 1 + (i - (a + 1)) = i from by omega, HK.out i hlt] at hb
      cases hp : plainB t[i] with
      | false =>
        have HP := Lib.hid (fun w1 => rplain_c t[i] false hp w1)
        have HN := Lib.hid (HM.out.bad hb hp)
        clear hb hp HM HG HK HL
        go_wp2_with fail
        refine (HP.out _).mono ?_
        rintro e w1 ⟨rfl, rfl⟩
        go_wp2_with fail
        go_ret2
        exact ⟨⟨#[]⟩, by rw [HN.out]; rfl, by rw [HN.out]; rfl, hb0⟩
      | true =>
        have HP := Lib.hid (fun w1 => rplain_c t[i] true hp w1)
        cases hq : ((t[i].toNat : Int) == 34) with
        | false =>
          have h34 := not34 hq
          have HN : Hid (MarkAt R (i + 1 - (a + 1)) (O ++ [t[i]])) := Lib.hid (by have := HM.out.byte hb hp h34; rwa [show i - (a + 1) + 1 = i + 1 - (a + 1) from by omega] at this)
          clear hb hp HM HG HK HL h34
          go_wp2_with fail
          refine (HP.out _).mono ?_
          rintro e w1 ⟨rfl, rfl⟩
          go_wp2_with (at_builtin; refine wpList_append_own _ rfl _ _ 62 rfl w.heap.size 5 i0 (.int .u8 0) 1 1 Tryz.underlying62 hi hz0 hz1 hz2 rfl (by decide) _ _ _ rfl (hrow.alloc _) ⟨_, 0, none⟩ 1 1 [.int .u8 (t[i].toNat : Int)] rfl rfl ?c1 ?c2 ?c3 ?c4 ?c5 ?_)
          case c1 => exact cell_one_new _ _ _
          case c2 => exact one_cell _ rfl
          case c3 => unfold maxLen; omega
          case c4 => omega
          case c5 => simp; omega
          intro v1 w1 hown1 hg1 _
          have hb1 := OwnB.below hrow hb0 (Nat.le_refl _) hg1
          have hrow1 := OwnB.snoc t[i] (t[i].toNat : Int) rfl hown1
          have hO1 : (O ++ [t[i]]).length ≤ i + 1 := by simp only [List.length_append, List.length_singleton]; omega
          clear hown1 hg1 hrow hb0
          go_wp2_with fail
          go_roundw
          case rel => exact ⟨i + 1, _, by omega, by omega, by go_num, hrow1, hO1, HN, hb1⟩
          case measure => first | (simp [intOf]; done) | (simp [intOf]; omega)
        | true =>
          have h34 := is34 hq
          rw [h34] at hb
          by_cases h2 : i + 1 < t.size
          · have hc := HG.out (i + 1) h2
            rw [show a + 1 + (i + 1 - (a + 1)) = i + 1 from by omega, HK.out (i + 1) h2, show i + 1 - (a + 1) = i - (a + 1) + 1 from by omega] at hc
            cases hq2 : ((t[i + 1].toNat : Int) == 34) with
            | true =>
              have h35 := is34 hq2
              have d1 : decide ((t.size : Int) ≤ (i : Int) + 1) = false := decide_eq_false (by omega)
              have hn2 : ((t[i + 1].toNat : Int) != 34) = false := by rw [bne, hq2]; rfl
              rw [h35] at hc
              have HN : Hid (MarkAt R (i + 2 - (a + 1)) (O ++ [34])) := Lib.hid (by have := HM.out.two hb hc; rwa [show i - (a + 1) + 2 = i + 2 - (a + 1) from by omega] at this)
              clear hb hc hp HM HG HK HL h34 h35
              go_wp2_with fail
              refine (HP.out _).mono ?_
              rintro e w1 ⟨rfl, rfl⟩
              go_wp2_with (at_builtin; refine wpList_append_own _ rfl _ _ 62 rfl w.heap.size 5 i0 (.int .u8 0) 1 1 Tryz.underlying62 hi hz0 hz1 hz2 rfl (by decide) _ _ _ rfl (hrow.alloc _) ⟨_, 0, none⟩ 1 1 [.int .u8 34] rfl rfl ?c1 ?c2 ?c3 ?c4 ?c5 ?_)
              case c1 => exact cell_one_new _ _ _
              case c2 => exact one_cell _ rfl
              case c3 => unfold maxLen; omega
              case c4 => omega
              case c5 => simp; omega
              intro v1 w1 hown1 hg1 _
              have hb1 := OwnB.below hrow hb0 (Nat.le_refl _) hg1
              have hrow1 := OwnB.snoc 34 34 rfl hown1
              have hO1 : (O ++ [34]).length ≤ i + 2 := by simp only [List.length_append, List.length_singleton]; omega
              clear hown1 hg1 hrow hb0
              go_wp2_with fail
              go_roundw
              case rel => exact ⟨i + 2, _, by omega, by omega, by go_num, hrow1, hO1, HN, hb1⟩
              case measure => first | (simp [intOf]; done) | (simp [intOf]; omega)
            | false =>
              have d1 : decide ((t.size : Int) ≤ (i : Int) + 1) = false := decide_eq_false (by omega)
              have hn2 : ((t[i + 1].toNat : Int) != 34) = true := by rw [bne, hq2]; rfl
              have HN := Lib.hid (HM.out.ends hb (by rw [hc]; exact fun e => not34 hq2 (Option.some.inj e)))
              have HC := Lib.hid hrow.conv
              clear hb hc hp HM HG HK HL h34 hrow
              go_wp2_with fail
              refine (HP.out _).mono ?_
              rintro e w1 ⟨rfl, rfl⟩
              have hconv := HC.out
              clear HC
              go_wp2_with fail
              go_ret2
              exact ⟨⟨O.toArray⟩, by rw [HN.out, show markZ a (some (O, i - (a + 1) + 1)) = (i : Int) + 1 from by show ((a + 1 + (i - (a + 1) + 1) : Nat) : Int) = _; omega]; rfl, by rw [HN.out]; rfl, hb0⟩
          · have d1 : decide ((t.size : Int) ≤ (i : Int) + 1) = true := decide_eq_true (by omega)
            have d9 : R.length ≤ i - (a + 1) + 1 := by rw [HL.out]; omega
            have HN := Lib.hid (HM.out.ends hb (by rw [List.getElem?_eq_none d9]; exact nofun))
            have HC := Lib.hid hrow.conv
            clear hb hp HM HG HK HL h34 hrow d9
            go_wp2_with fail
            refine (HP.out _).mono ?_
            rintro e w1 ⟨rfl, rfl⟩
            have hconv := HC.out
            clear HC
            go_wp2_with fail
            go_ret2
            exact ⟨⟨O.toArray⟩, by rw [HN.out, show markZ a (some (O, i - (a + 1) + 1)) = (i : Int) + 1 from by show ((a + 1 + (i - (a + 1) + 1) : Nat) : Int) = _; omega]; rfl, by rw [HN.out]; rfl, hb0⟩
    · have HN := Lib.hid (HM.out.out (by rw [HL.out]; omega))
      clear HM HG HK HL
      go_wp2_with fail
      go_ret2
      exact ⟨⟨#[]⟩, by rw [HN.out]; rfl, by rw [HN.out]; rfl, hb0⟩
end Go.Proofs.YtmoednmgmmgjeaaGreatDoor.Lex

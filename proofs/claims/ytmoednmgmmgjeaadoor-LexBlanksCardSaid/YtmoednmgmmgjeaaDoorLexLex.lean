/- Package lex's Lex. Written by wip/gen21lex.py. -/
import Derived.Test.YtmoednmgmmgjeaaDoorLexFirst
import Derived.OwnWalk
namespace Go.Proofs.YtmoednmgmmgjeaaDoor.Lex
open Go.RowKit Kit Reg Dec Dig

/-- what Lex answers of a text that is not too long -/
def LexIs : Sum (List Tok) Nat → World → Ending → World → Prop
  | .inl T, w, e, w' => ∃ A cap, e = .returned (.tuple #[.slice A T.length cap, .int .i64 0, .int .i64 0]) ∧ (ToksR w' A T.length T ∧ T.length ≤ cap) ∧ Below w.heap.size w w'
  | .inr n, w, e, w' => e = .returned (.tuple #[.slice none 0 0, .int .i64 (n : Int), .int .i64 1]) ∧ Below w.heap.size w w'
set_option maxRecDepth 100000 in
set_option maxHeartbeats 8000000 in
theorem lex_c (t : ByteArray) (ht : t.size ≤ 200) (R : Sum (List Tok) Nat) (hR : LexAt t.data.toList 0 [] R) (w : World) (hL : LLibs w) : Calls Tryd.prog 4 #[.string t] w (LexIs R w) := by
  obtain ⟨i0, hi, hz0, hz1, hz2⟩ := info_parts infoT
  have HK := Lib.hid (fun i (hi : i < t.size) => Lib.data_getElem? t i hi)
  have HT := Lib.hid (len t)
  have HM := Lib.hid hR
  have HLib := Lib.hid hL
  have hb00 := Below.refl w.heap.size w
  have hrow : OwnT 27 w.heap.size (.slice none 0 0) [] w := OwnT.empty _ _ _
  clear hR hL
  go_enter Tryd.func4, Tryd.ntmps4
  go_wp2_with fail
  go_loopw [5, 6] (fun v x wr => ∃ i P, i ≤ t.size ∧ x = .int .i64 (i : Int) ∧ OwnT 27 w.heap.size v P wr ∧ P.length ≤ i ∧ Hid (LexAt t.data.toList i P R) ∧ Below w.heap.size w wr) (fun _ x _ => t.size - (intOf x).toNat)
  case atStart => exact ⟨0, [], Nat.zero_le _, rfl, hrow, Nat.le_refl _, HM, hb00⟩
  case round =>
    clear hrow hb00 HM
    obtain ⟨i, P, hit, rfl, hrow, hP, HM, hb0⟩ := hrel
    have hs0 := hb0.size
    by_cases hlt : i < t.size
    · have hb := HK.out i hlt
      cases h32 : ((t[i].toNat : Int) == 32) with
      | true =>
        have HN := Lib.hid (HM.out.blank (by rw [hb, is32 h32]))
        clear hb HM HK HT
        go_wp2_with fail
        go_roundw
        case rel => exact ⟨i + 1, P, by omega, by go_num, hrow, by omega, HN, hb0⟩
        case measure => simp [intOf]; omega
      | false =>
        have hne32 := not32 h32
        have HS := Lib.hid (fun w1 h => first_c (t.extract i t.size) (by rw [ByteArray.size_extract]; omega) (by rw [ByteArray.size_extract]; omega) _ rfl w1 h)
        rw [ext_drop] at HS
        cases htk : tokAt (t.data.toList.drop i) with
        | none =>
          have HN := Lib.hid (HM.out.bad hb hne32 htk)
          rw [htk] at HS
          clear hb HM HK HT hne32 htk
          go_wp2_with fail
          refine (HS.out _ (HLib.out.grown hb0)).mono ?_
          rintro e w2 ⟨k, s, n, rfl, hb3⟩
          replace hb0 := on_alloc (on hb0 hb3) (.cells #[.int .i64 k, .int .i64 0, .string s, .int .i64 n] 27)
          clear hb3 hrow
          go_wp2_with fail
          go_ret3
          rw [HN.out]
          exact ⟨rfl, hb0⟩
        | some p =>
          obtain ⟨k, tx, n, m⟩ := p
          have HN := Lib.hid (HM.out.tok hb hne32 htk)
          have hm := HN.out.2
          have hml := hm.2
          rw [HT.out] at hml
          rw [htk] at HS
          have d1 : ((m : Int) == 0) = false := beq_eq_false_iff_ne.2 (by omega)
          clear hb HM HK HT hne32 htk
          go_wp2_with fail
          refine (HS.out _ (HLib.out.grown hb0)).mono ?_
          rintro e w2 ⟨rfl, hb3⟩
          have hs8 := (on hb0 hb3).size
          have hrow2 := (hrow.on hb3).on (below1 w2 (.cells #[.int .i64 k, .int .i64 (i : Int), .string ⟨tx.toArray⟩, .int .i64 n] 27))
          replace hb0 := on_alloc (on hb0 hb3) (.cells #[.int .i64 k, .int .i64 (i : Int), .string ⟨tx.toArray⟩, .int .i64 n] 27)
          clear hb3 hrow
          unfold OwnT at hrow2
          have hrow := hrow2
          clear hrow2
          go_wp2_with (at_builtin; refine wpList_append_own _ rfl _ _ 22 rfl w.heap.size 27 i0 _ 4 40 Tryd.underlying22 hi hz0 hz1 hz2 rfl (by decide) _ _ _ rfl (hrow.alloc _) ⟨_, 0, none⟩ 1 1 [.int .i64 k, .int .i64 (i : Int), .string ⟨tx.toArray⟩, .int .i64 n] rfl rfl (four_new (by simp) _ _ _ _ _) (by simp [Value.oneCell']) (by unfold maxLen; omega) (by omega) (by simp; omega) ?_)
          intro v1 w3 hown1 hg1 _
          have hb4 := tok_below hrow hb0 (by omega) hg1
          have hrow4 := OwnT.snoc (L := P) ⟨k, i, tx, n⟩ hown1
          clear hown1 hg1 hrow hb0
          go_wp2_with fail
          go_roundw
          case rel => exact ⟨i + m, _, by omega, by go_num, hrow4, by simp only [List.length_append, List.length_singleton]; omega, Lib.hid (HN.out.1), hb4⟩
          case measure => simp [intOf]; omega
    · obtain rfl : i = t.size := by omega
      have HN := Lib.hid (HM.out.fin (by rw [HT.out]))
      clear HM HK HT
      unfold OwnT at hrow
      go_wp2_with (at_builtin; refine wpList_append_own _ rfl _ _ 22 rfl w.heap.size 27 i0 _ 4 40 Tryd.underlying22 hi hz0 hz1 hz2 rfl (by decide) _ _ _ rfl (hrow.alloc _) ⟨_, 0, none⟩ 1 1 [.int .i64 5, .int .i64 (t.size : Int), .string ⟨#[]⟩, .int .i64 0] rfl rfl (four_new (by simp) _ _ _ _ _) (by simp [Value.oneCell']) (by unfold maxLen; omega) (by omega) (by simp; omega) ?_)
      intro v1 w3 hown1 hg1 _
      have hb4 := tok_below hrow hb0 (by omega) hg1
      have hrow4 := OwnT.snoc (L := P) (Tok.mk 5 t.size [] 0) hown1
      clear hown1 hg1 hrow hb0
      obtain ⟨A, cap, rfl, hz⟩ := hrow4.reads
      have HRW := Lib.hid (And.intro hz hrow4.cap)
      clear hrow4 hz
      generalize P ++ [Tok.mk 5 t.size [] 0] = T at *
      go_wp2_with fail
      go_ret3
      rw [HN.out]
      exact ⟨A, cap, rfl, HRW.out, hb4⟩
set_option maxRecDepth 100000 in
set_option maxHeartbeats 1000000 in
theorem lex_long (t : ByteArray) (ht : 200 < t.size) (w : World) : Calls Tryd.prog 4 #[.string t] w fun e w' => e = .returned (.tuple #[.slice none 0 0, .int .i64 0, .int .i64 3]) ∧ w = w' := by
  have d1 : decide ((200 : Int) < (t.size : Int)) = true := decide_eq_true (by omega)
  clear ht
  go_enter Tryd.func4, Tryd.ntmps4
  go_wp2_with fail
  go_ret3
  exact ⟨rfl, rfl⟩
end Go.Proofs.YtmoednmgmmgjeaaDoor.Lex

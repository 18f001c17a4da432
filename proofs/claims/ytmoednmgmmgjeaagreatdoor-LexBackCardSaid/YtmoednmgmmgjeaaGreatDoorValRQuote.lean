/- What the reference's Quote answers: for every text of at most 100000 bytes. -/
import Derived.Test.YtmoednmgmmgjeaaGreatDoorValMath
import Derived.Test.YtmoednmgmmgjeaaGreatDoorDigTell
import Derived.Test.YtmoednmgmmgjeaaGreatDoorBytes
namespace Go.Proofs.YtmoednmgmmgjeaaGreatDoor.Val
open Go.RowKit Kit Dec Dig

theorem quote_mark : ∀ l : List UInt8, quoteL (l ++ [34]) = quoteL l ++ [34] ++ [34]
  | [] => rfl
  | b :: l => by
    have ih := quote_mark l
    by_cases h : b = 34
    · subst h; rw [List.cons_append, quoteL_mark, quoteL_mark, ih]; rfl
    · rw [List.cons_append, quoteL_skip h, quoteL_skip h, ih]; rfl
theorem quote_snoc {x : UInt8} (hx : x ≠ 34) : ∀ l : List UInt8, quoteL (l ++ [x]) = quoteL l ++ [x]
  | [] => by rw [List.nil_append, quoteL_skip hx]; rfl
  | b :: l => by
    have ih := quote_snoc hx l
    by_cases h : b = 34
    · subst h; rw [List.cons_append, quoteL_mark, quoteL_mark, ih]; rfl
    · rw [List.cons_append, quoteL_skip h, quoteL_skip h, ih]; rfl
theorem take_one {t : ByteArray} {k : Nat} (hk : k < t.size) : t.data.toList.take (k + 1) = t.data.toList.take k ++ [t[k]] := by
  rw [List.take_add_one, Lib.data_getElem? t k hk]
  rfl
theorem one_cell (x : Value) (h : x.oneCell' = true) : ∀ u ∈ [x], u.oneCell' = true := fun u hu => by
  simp only [List.mem_singleton] at hu
  subst hu
  exact h
set_option maxRecDepth 100000 in
set_option maxHeartbeats 4000000 in
theorem rquote_c (t : ByteArray) (ht : t.size ≤ 100000) (w : World) : Calls Tryz.prog 24 #[.string t] w (TextB (34 :: (quoteL t.data.toList ++ [34])) w) := by
  obtain ⟨i0, hi, hz0, hz1, hz2⟩ := info_parts infoB
  have h0 := OwnB.lit (Nat.le_refl w.heap.size) 34 34 rfl
  have hb00 := below1 w (.cells #[.int .u8 34] 5)
  go_enter Tryz.func24, Tryz.ntmps24
  go_wp2
  go_loopw [3, 4] (fun v i wr => ∃ k : Nat, k ≤ t.size ∧ i = .int .i64 k ∧ OwnB w.heap.size v (34 :: quoteL (t.data.toList.take k)) wr ∧ Below w.heap.size w wr) (fun _ i _ => t.size - (intOf i).toNat)
  case atStart => exact ⟨0, Nat.zero_le _, rfl, h0, hb00⟩
  case round =>
    clear h0 hb00
    obtain ⟨k, hk, rfl, hrow, hb0⟩ := hrel
    have hs0 := hb0.size
    have hql : (quoteL (t.data.toList.take k)).length ≤ 200000 := by
      have := quote_len (t.data.toList.take k)
      have := List.length_take_le k t.data.toList
      omega
    have hll : (34 :: quoteL (t.data.toList.take k)).length ≤ 200001 := by simp only [List.length_cons]; omega
    by_cases hlt : k < t.size
    · have hT := take_one hlt
      cases hq : ((t[k].toNat : Int) == 34) with
      | true =>
        have hx34 : t[k] = 34 := UInt8.toNat_inj.1 (by have : (t[k].toNat : Int) = 34 := by simpa using hq
                                                       have : (34 : UInt8).toNat = 34 := rfl
                                                       omega)
        have HN : Hid (34 :: quoteL (t.data.toList.take (k + 1)) = (34 :: quoteL (t.data.toList.take k)) ++ [34] ++ [34]) := by
          rw [hT, hx34, quote_mark]; exact Lib.hid rfl
        have hn34 := Lib.hid (show ((t[k].toNat : Int)) = ((34 : UInt8).toNat : Int) by rw [hx34])
        clear hx34 hT
        generalize 34 :: quoteL (t.data.toList.take k) = L at *
        go_wp2_with (at_builtin; refine wpList_append_own _ rfl _ _ 62 rfl w.heap.size 5 i0 (.int .u8 0) 1 1 Tryz.underlying62 hi hz0 hz1 hz2 rfl (by decide) _ _ _ rfl (hrow.alloc _) ⟨_, 0, none⟩ 1 1 [.int .u8 34] rfl rfl ?c1 ?c2 ?c3 ?c4 ?c5 ?_)
        case c1 => exact cell_one_new _ _ _
        case c2 => exact one_cell _ rfl
        case c3 => unfold maxLen; omega
        case c4 => omega
        case c5 => simp; omega
        intro v1 w1 hown1 hg1 _
        have hb1 := OwnB.below hrow hb0 (Nat.le_refl _) hg1
        have hrow1 := OwnB.snoc 34 34 rfl hown1
        have hl1 : (L ++ [34]).length ≤ 200002 := by simp only [List.length_append, List.length_singleton]; omega
        have hs1 := hb1.size
        clear hown1 hg1 hrow hb0
        generalize L ++ [34] = L1 at *
        go_wp2_with (at_builtin; refine wpList_append_own _ rfl _ _ 62 rfl w.heap.size 5 i0 (.int .u8 0) 1 1 Tryz.underlying62 hi hz0 hz1 hz2 rfl (by decide) _ _ _ rfl (hrow1.alloc _) ⟨_, 0, none⟩ 1 1 [.int .u8 (t[k].toNat : Int)] rfl rfl ?c1 ?c2 ?c3 ?c4 ?c5 ?_)
        case c1 => exact cell_one_new _ _ _
        case c2 => exact one_cell _ rfl
        case c3 => unfold maxLen; omega
        case c4 => omega
        case c5 => simp; omega
        intro v2 w2 hown2 hg2 _
        have hb2 := OwnB.below hrow1 hb1 (Nat.le_refl _) hg2
        have hrow2 := OwnB.snoc 34 _ hn34.out hown2
        clear hown2 hg2 hrow1 hb1
        go_wp2
        go_roundw
        case rel => exact ⟨k + 1, by omega, by go_num, by rw [HN.out]; exact hrow2, hb2⟩
        case measure => first | (simp [intOf]; done) | (simp [intOf]; omega)
      | false =>
        have hx34 : t[k] ≠ 34 := fun e => by rw [e] at hq; simp at hq
        have HN : Hid (34 :: quoteL (t.data.toList.take (k + 1)) = (34 :: quoteL (t.data.toList.take k)) ++ [t[k]]) := by
          rw [hT, quote_snoc hx34]; exact Lib.hid rfl
        clear hx34 hT
        generalize 34 :: quoteL (t.data.toList.take k) = L at *
        go_wp2_with (at_builtin; refine wpList_append_own _ rfl _ _ 62 rfl w.heap.size 5 i0 (.int .u8 0) 1 1 Tryz.underlying62 hi hz0 hz1 hz2 rfl (by decide) _ _ _ rfl (hrow.alloc _) ⟨_, 0, none⟩ 1 1 [.int .u8 (t[k].toNat : Int)] rfl rfl ?c1 ?c2 ?c3 ?c4 ?c5 ?_)
        case c1 => exact cell_one_new _ _ _
        case c2 => exact one_cell _ rfl
        case c3 => unfold maxLen; omega
        case c4 => omega
        case c5 => simp; omega
        intro v1 w1 hown1 hg1 _
        have hb1 := OwnB.below hrow hb0 (Nat.le_refl _) hg1
        have hrow1 := OwnB.snoc t[k] _ rfl hown1
        clear hown1 hg1 hrow hb0
        go_wp2
        go_roundw
        case rel => exact ⟨k + 1, by omega, by go_num, by rw [HN.out]; exact hrow1, hb1⟩
        case measure => first | (simp [intOf]; done) | (simp [intOf]; omega)
    · obtain rfl : k = t.size := by omega
      rw [List.take_of_length_le (by rw [len]; omega)] at hrow hll
      generalize hL : 34 :: quoteL t.data.toList = L at *
      replace hL := Lib.hid hL
      go_wp2_with (at_builtin; refine wpList_append_own _ rfl _ _ 62 rfl w.heap.size 5 i0 (.int .u8 0) 1 1 Tryz.underlying62 hi hz0 hz1 hz2 rfl (by decide) _ _ _ rfl (hrow.alloc _) ⟨_, 0, none⟩ 1 1 [.int .u8 34] rfl rfl ?c1 ?c2 ?c3 ?c4 ?c5 ?_)
      case c1 => exact cell_one_new _ _ _
      case c2 => exact one_cell _ rfl
      case c3 => unfold maxLen; omega
      case c4 => omega
      case c5 => simp; omega
      intro v1 w1 hown1 hg1 _
      have hb1 := OwnB.below hrow hb0 (Nat.le_refl _) hg1
      have hrow1 := OwnB.snoc 34 34 rfl hown1
      have hconv := hrow1.conv
      clear hown1 hg1 hrow hb0 hrow1
      go_wp2
      go_ret
      refine ⟨_, rfl, ?_, hb1⟩
      rw [← List.cons_append, hL.out]
end Go.Proofs.YtmoednmgmmgjeaaGreatDoor.Val

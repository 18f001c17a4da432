/- Package lex's Text. Written by wip/gen21text.py. -/
import Derived.Test.YtmoednmgmmgjeaaDoorLexGoM
import Derived.Test.YtmoednmgmmgjeaaDoorLexTell
import Derived.Test.YtmoednmgmmgjeaaDoorDigTell
namespace Go.Proofs.YtmoednmgmmgjeaaDoor.Lex
open Go.RowKit Kit Reg Dec Dig

theorem one_new {w : World} {g : Nat} (hg : g = w.heap.size) (x : Value) (ty : TypeId) : ∀ j q, [x][j]? = some q → (w.alloc (.cells #[x] ty)).cell? ((⟨g, 0, none⟩ : Addr).add j) = some q := by
  intro j q hj
  rw [show ((⟨g, 0, none⟩ : Addr).add j) = ⟨g, j, none⟩ by unfold Addr.add; split <;> simp_all, hg]
  exact ((CellsAt.new w [x] ty).2 j q hj).1
theorem infoS : (Tryd.prog.info? 9).map (fun i => (i.zero, i.size, i.bytes)) = some (some (.string ⟨#[]⟩), 1, 16) := by kernel_rfl
set_option maxRecDepth 100000 in
set_option maxHeartbeats 8000000 in
theorem textT_c (A : Option Addr) (n cap : Nat) (T : List Tok) (hf : FitsT T) (w : World) (hz : ToksR w A n T) (hL : LLibs w) : Calls Tryd.prog 8 #[.slice A n cap] w (TextB (textT T) w) := by
  obtain ⟨i0, hi, hz0, hz1, hz2⟩ := info_parts infoS
  have HZ := Lib.hid hz
  have HF := Lib.hid hf
  have HLib := Lib.hid hL
  have hn : n ≤ 1000 := by rw [← hz.1]; exact hf.1
  have hb00 := Below.refl w.heap.size w
  have hrow := OwnS.empty w.heap.size w
  clear hz hf hL
  go_enter Tryd.func8, Tryd.ntmps8
  go_wp2_with fail
  go_loopw [3, 8] (fun v x wr => ∃ k : Nat, k ≤ n ∧ x = .int .i64 k ∧ OwnS w.heap.size v (tellL (T.take k)) wr ∧ Below w.heap.size w wr) (fun _ x _ => n - (intOf x).toNat)
  case atStart => exact ⟨0, Nat.zero_le _, rfl, hrow, hb00⟩
  case round =>
    clear hrow hb00
    obtain ⟨k, hk, rfl, hrow, hb0⟩ := hrel
    have hs0 := hb0.size
    have hLl : (tellL (T.take k)).length ≤ 1000 := by
      unfold tellL
      rw [List.length_map]
      have := List.length_filter_le toldX (T.take k)
      have := (HF.out.take k).1
      omega
    by_cases hlt : k < n
    · obtain ⟨x, hx⟩ : ∃ x, T[k]? = some x := ⟨_, List.getElem?_eq_getElem (by rw [HZ.out.1]; exact hlt)⟩
      obtain ⟨b, o, rfl, hblt, y0, y1, y2, y3⟩ := (HZ.out.on hb0).at hx
      obtain ⟨ht9, hn0, h9⟩ := HF.out.2 x (List.mem_of_getElem? hx)
      by_cases h1 : x.k = 1
      · have d1 : (x.k == 1) = true := beq_iff_eq.2 (by omega)
        have d2 : (x.k == 2) = false := beq_eq_false_iff_ne.2 (by omega)
        have d3 : (x.k == 3) = false := beq_eq_false_iff_ne.2 (by omega)
        have d4 : (x.k == 4) = false := beq_eq_false_iff_ne.2 (by omega)
        have HN : Hid (tellL (T.take (k + 1)) = tellL (T.take k) ++ [textD x.n]) := Lib.hid (by rw [take_snoc hx, tellL_in (told_num h1).1, (told_num h1).2])
        have HC := Lib.hid (fun w1 h => text_c x.n h9 w1 h)
        clear hx h1
        have hy := CellsAt.new wr [.int .i64 x.k, .int .i64 (x.at' : Int), .string ⟨x.t.toArray⟩, .int .i64 x.n] 27
        replace hrow := hrow.on (below1 wr (.cells #[.int .i64 x.k, .int .i64 (x.at' : Int), .string ⟨x.t.toArray⟩, .int .i64 x.n] 27))
        replace hb0 := on_alloc hb0 (.cells #[.int .i64 x.k, .int .i64 (x.at' : Int), .string ⟨x.t.toArray⟩, .int .i64 x.n] 27)
        go_wp2_with fail
        refine (HC.out _ (HLib.out.1.1.grown hb0)).mono ?_
        rintro e w2 ⟨V, rfl, hV, hb3⟩
        have HE : Hid (V = ⟨(textD x.n).toArray⟩) := Lib.hid (bytes_eq (by rw [hV]))
        replace hrow := hrow.on hb3
        replace hb0 := on hb0 hb3
        have hs9 := hb0.size
        clear hb3
        clear hV hy y0 y1 y2 y3
        generalize tellL (T.take k) = L at *
        unfold OwnS at hrow
        go_wp2_with (at_builtin; refine wpList_append_own _ rfl _ _ 42 rfl w.heap.size 9 i0 _ 1 16 Tryd.underlying42 hi hz0 hz1 hz2 rfl (by decide) _ _ _ rfl (hrow.alloc _) ⟨_, 0, none⟩ 1 1 [.string V] rfl rfl ?c1 ?c2 ?c3 ?c4 ?c5 ?_)
        case c1 => exact one_new (by simp) _ _
        case c2 => exact Val.one_cell _ rfl
        case c3 => unfold maxLen; omega
        case c4 => omega
        case c5 => simp; omega
        intro v1 w3 hown1 hg1 _
        have hb4 := str_below hrow hb0 (Nat.le_refl _) hg1

        have hrow4 := OwnS.snoc (ws := L) (textD x.n) (by rw [← HE.out]; exact hown1)
        clear hown1 hg1 hrow hb0
        go_wp2_with fail
        go_roundw
        case rel => exact ⟨k + 1, by omega, by go_num, by rw [HN.out]; exact hrow4, hb4⟩
        case measure => simp [intOf]; omega
      · by_cases h2 : x.k = 2
        · have d1 : (x.k == 1) = false := beq_eq_false_iff_ne.2 (by omega)
          have d2 : (x.k == 2) = true := beq_iff_eq.2 (by omega)
          have d3 : (x.k == 3) = false := beq_eq_false_iff_ne.2 (by omega)
          have d4 : (x.k == 4) = false := beq_eq_false_iff_ne.2 (by omega)
          have HN : Hid (tellL (T.take (k + 1)) = tellL (T.take k) ++ [34 :: (Val.quoteL x.t ++ [34])]) := Lib.hid (by rw [take_snoc hx, tellL_in (told_str h2).1, (told_str h2).2])
          have HC := Lib.hid (fun w1 h => doquote_c ⟨x.t.toArray⟩ (by rw [← len]; exact ht9) w1 h)
          have hql := quote_len x.t
          clear hx h2
          have hy := CellsAt.new wr [.int .i64 x.k, .int .i64 (x.at' : Int), .string ⟨x.t.toArray⟩, .int .i64 x.n] 27
          replace hrow := hrow.on (below1 wr (.cells #[.int .i64 x.k, .int .i64 (x.at' : Int), .string ⟨x.t.toArray⟩, .int .i64 x.n] 27))
          replace hb0 := on_alloc hb0 (.cells #[.int .i64 x.k, .int .i64 (x.at' : Int), .string ⟨x.t.toArray⟩, .int .i64 x.n] 27)
          go_wp2_with fail
          refine (HC.out _ (HLib.out.grown hb0)).mono ?_
          rintro e w2 ⟨V, rfl, hV, hb3⟩
          have hVl : V.size ≤ 2000 := by rw [← len, hV]; show (Val.quoteL x.t).length ≤ _; omega
          have HE : Hid ((⟨#[34]⟩ ++ V ++ ⟨#[34]⟩ : ByteArray) = ⟨(34 :: (Val.quoteL x.t ++ [34])).toArray⟩) := Lib.hid (bytes_eq (by simp [hV]))
          replace hrow := hrow.on hb3
          replace hb0 := on hb0 hb3
          have hs9 := hb0.size
          clear hb3
          clear hV hy y0 y1 y2 y3 hql
          generalize tellL (T.take k) = L at *
          unfold OwnS at hrow
          go_wp2_with (at_builtin; refine wpList_append_own _ rfl _ _ 42 rfl w.heap.size 9 i0 _ 1 16 Tryd.underlying42 hi hz0 hz1 hz2 rfl (by decide) _ _ _ rfl (hrow.alloc _) ⟨_, 0, none⟩ 1 1 [.string (⟨#[34]⟩ ++ V ++ ⟨#[34]⟩)] rfl rfl ?c1 ?c2 ?c3 ?c4 ?c5 ?_)
          case c1 => exact one_new (by simp) _ _
          case c2 => exact Val.one_cell _ rfl
          case c3 => unfold maxLen; omega
          case c4 => omega
          case c5 => simp; omega
          intro v1 w3 hown1 hg1 _
          have hb4 := str_below hrow hb0 (Nat.le_refl _) hg1

          have hrow4 := OwnS.snoc (ws := L) (34 :: (Val.quoteL x.t ++ [34])) (by rw [← HE.out]; exact hown1)
          clear hown1 hg1 hrow hb0
          go_wp2_with fail
          go_roundw
          case rel => exact ⟨k + 1, by omega, by go_num, by rw [HN.out]; exact hrow4, hb4⟩
          case measure => simp [intOf]; omega
        · by_cases h3 : x.k = 3
          · have d1 : (x.k == 1) = false := beq_eq_false_iff_ne.2 (by omega)
            have d2 : (x.k == 2) = false := beq_eq_false_iff_ne.2 (by omega)
            have d3 : (x.k == 3) = true := beq_iff_eq.2 (by omega)
            have d4 : (x.k == 4) = false := beq_eq_false_iff_ne.2 (by omega)
            replace h3 : x.k = 3 ∨ x.k = 4 := .inl h3
            have HN : Hid (tellL (T.take (k + 1)) = tellL (T.take k) ++ [x.t]) := Lib.hid (by rw [take_snoc hx, tellL_in (told_word h3).1, (told_word h3).2])
            clear hx h3
            have hy := CellsAt.new wr [.int .i64 x.k, .int .i64 (x.at' : Int), .string ⟨x.t.toArray⟩, .int .i64 x.n] 27
            replace hrow := hrow.on (below1 wr (.cells #[.int .i64 x.k, .int .i64 (x.at' : Int), .string ⟨x.t.toArray⟩, .int .i64 x.n] 27))
            replace hb0 := on_alloc hb0 (.cells #[.int .i64 x.k, .int .i64 (x.at' : Int), .string ⟨x.t.toArray⟩, .int .i64 x.n] 27)
            have hs9 := hb0.size
            clear hy
            have hs10 := (Nat.le_trans hs0 (Nat.le_refl _))
            generalize tellL (T.take k) = L at *
            unfold OwnS at hrow
            go_wp2_with (at_builtin; refine wpList_append_own _ rfl _ _ 42 rfl w.heap.size 9 i0 _ 1 16 Tryd.underlying42 hi hz0 hz1 hz2 rfl (by decide) _ _ _ rfl (hrow.alloc _) ⟨_, 0, none⟩ 1 1 [.string ⟨x.t.toArray⟩] rfl rfl ?c1 ?c2 ?c3 ?c4 ?c5 ?_)
            case c1 => exact one_new (by simp) _ _
            case c2 => exact Val.one_cell _ rfl
            case c3 => unfold maxLen; omega
            case c4 => omega
            case c5 => simp; omega
            intro v1 w3 hown1 hg1 _
            have hb4 := str_below hrow hb0 (Nat.le_refl _) hg1

            have hrow4 := OwnS.snoc (ws := L) x.t hown1
            clear y0 y1 y2 y3
            clear hown1 hg1 hrow hb0
            go_wp2_with fail
            go_roundw
            case rel => exact ⟨k + 1, by omega, by go_num, by rw [HN.out]; exact hrow4, hb4⟩
            case measure => simp [intOf]; omega
          · by_cases h4 : x.k = 4
            · have d1 : (x.k == 1) = false := beq_eq_false_iff_ne.2 (by omega)
              have d2 : (x.k == 2) = false := beq_eq_false_iff_ne.2 (by omega)
              have d3 : (x.k == 3) = false := beq_eq_false_iff_ne.2 (by omega)
              have d4 : (x.k == 4) = true := beq_iff_eq.2 (by omega)
              replace h3 : x.k = 3 ∨ x.k = 4 := .inr h4
              clear h4
              have HN : Hid (tellL (T.take (k + 1)) = tellL (T.take k) ++ [x.t]) := Lib.hid (by rw [take_snoc hx, tellL_in (told_word h3).1, (told_word h3).2])
              clear hx h3
              have hy := CellsAt.new wr [.int .i64 x.k, .int .i64 (x.at' : Int), .string ⟨x.t.toArray⟩, .int .i64 x.n] 27
              replace hrow := hrow.on (below1 wr (.cells #[.int .i64 x.k, .int .i64 (x.at' : Int), .string ⟨x.t.toArray⟩, .int .i64 x.n] 27))
              replace hb0 := on_alloc hb0 (.cells #[.int .i64 x.k, .int .i64 (x.at' : Int), .string ⟨x.t.toArray⟩, .int .i64 x.n] 27)
              have hs9 := hb0.size
              clear hy
              have hs10 := (Nat.le_trans hs0 (Nat.le_refl _))
              generalize tellL (T.take k) = L at *
              unfold OwnS at hrow
              go_wp2_with (at_builtin; refine wpList_append_own _ rfl _ _ 42 rfl w.heap.size 9 i0 _ 1 16 Tryd.underlying42 hi hz0 hz1 hz2 rfl (by decide) _ _ _ rfl (hrow.alloc _) ⟨_, 0, none⟩ 1 1 [.string ⟨x.t.toArray⟩] rfl rfl ?c1 ?c2 ?c3 ?c4 ?c5 ?_)
              case c1 => exact one_new (by simp) _ _
              case c2 => exact Val.one_cell _ rfl
              case c3 => unfold maxLen; omega
              case c4 => omega
              case c5 => simp; omega
              intro v1 w3 hown1 hg1 _
              have hb4 := str_below hrow hb0 (Nat.le_refl _) hg1

              have hrow4 := OwnS.snoc (ws := L) x.t hown1
              clear y0 y1 y2 y3
              clear hown1 hg1 hrow hb0
              go_wp2_with fail
              go_roundw
              case rel => exact ⟨k + 1, by omega, by go_num, by rw [HN.out]; exact hrow4, hb4⟩
              case measure => simp [intOf]; omega
            · have d1 : (x.k == 1) = false := beq_eq_false_iff_ne.2 (by omega)
              have d2 : (x.k == 2) = false := beq_eq_false_iff_ne.2 (by omega)
              have d3 : (x.k == 3) = false := beq_eq_false_iff_ne.2 (by omega)
              have d4 : (x.k == 4) = false := beq_eq_false_iff_ne.2 (by omega)
              have HN : Hid (tellL (T.take (k + 1)) = tellL (T.take k)) := Lib.hid (by rw [take_snoc hx, tellL_out (told_none (by omega))])
              clear hx
              replace hrow := hrow.on (below1 wr (.cells #[.int .i64 x.k, .int .i64 (x.at' : Int), .string ⟨x.t.toArray⟩, .int .i64 x.n] 27))
              replace hb0 := on_alloc hb0 (.cells #[.int .i64 x.k, .int .i64 (x.at' : Int), .string ⟨x.t.toArray⟩, .int .i64 x.n] 27)
              go_wp2_with fail
              go_roundw
              case rel => exact ⟨k + 1, by omega, by go_num, by rw [HN.out]; exact hrow, hb0⟩
              case measure => simp [intOf]; omega
    · obtain rfl : k = n := by omega
      have HW : Hid (T.take k = T) := Lib.hid (List.take_of_length_le (by rw [HZ.out.1]; exact Nat.le_refl _))
      rw [HW.out] at hrow hLl
      have hjl := HF.out.len false
      rw [(join_tell T).2] at hjl
      have HJ : Hid (textT T = Lib.join (tellL T) [32]) := Lib.hid (join_tell T).2
      generalize tellL T = L at *
      obtain ⟨A2, cap2, rfl, hcap, hrd⟩ := hrow.reads
      rcases hrd with rfl | ⟨g, rfl, hg, hcell⟩
      · have HC := Lib.hid (fun w1 => Tryd.strings_Join_none A2 cap2 ⟨#[32]⟩ w1)
        clear hjl hLl
        go_wp2_with fail
        refine (HC.out _).mono ?_
        rintro e w1 ⟨rfl, rfl⟩
        go_wp2_with fail
        go_ret
        exact ⟨⟨#[]⟩, rfl, by rw [HJ.out]; rfl, hb0⟩
      · have hxl : (L.map fun x => (⟨x.toArray⟩ : ByteArray)).length = L.length := List.length_map ..
        have hmm : (L.map fun x => (⟨x.toArray⟩ : ByteArray)).map (·.data.toList) = L := by rw [List.map_map]; exact (List.map_congr_left fun x _ => rfl).trans (List.map_id L)
        have HC := Tryd.strings_Join g 0 cap2 (L.map fun x => (⟨x.toArray⟩ : ByteArray)) ⟨#[32]⟩ wr (fun j x hj => by
          rw [List.getElem?_map] at hj
          obtain ⟨y, hy, rfl⟩ := Option.map_eq_some_iff.1 hj
          rw [Nat.zero_add]
          exact hcell j y hy) hg (by rw [hxl]; omega) (by rw [hxl]; exact hcap) (by rw [hmm]; exact Nat.le_trans hjl (by decide))
        rw [hmm, hxl] at HC
        have HC := Lib.hid HC
        clear hjl hLl hcell hxl hmm hrow
        go_wp2_with fail
        refine HC.out.mono ?_
        rintro e w1 ⟨rfl, hb3⟩
        replace hb0 := on hb0 hb3
        go_wp2_with fail
        go_ret
        exact ⟨_, rfl, by rw [HJ.out], hb0⟩
end Go.Proofs.YtmoednmgmmgjeaaDoor.Lex

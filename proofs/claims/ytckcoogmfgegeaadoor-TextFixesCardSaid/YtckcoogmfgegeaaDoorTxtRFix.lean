/- What the reference's Fixed answers: for every number of 64 bits. -/
import Derived.Test.YtckcoogmfgegeaaDoorTxtFix
import Derived.Test.YtckcoogmfgegeaaDoorRndRefs
import Derived.Test.YtckcoogmfgegeaaDoorDigRef
namespace Go.Proofs.YtckcoogmfgegeaaDoor.Txt
open Go.RowKit Kit Reg Dec Dig Rnd

set_option maxRecDepth 100000 in
set_option maxHeartbeats 1000000 in
theorem rfixed_out (x p : Int) (h : p < 0 ∨ 4 < p) (w : World) : Calls Tryd.prog 21 #[.int .i64 x, .int .i64 p] w (GotS [] false w) := by
  rcases h with h | h
  · go_enter Tryd.func21, Tryd.ntmps21
    go_wp2
    exact bodyPost_ret (v := .agg #[.string ⟨#[]⟩, .bool false]) (by simp [results, Tryd.results21, go_sem]) rfl ⟨rfl, below1 _ _⟩
  · have h2 : ¬ p < 0 := by omega
    go_enter Tryd.func21, Tryd.ntmps21
    go_wp2
    exact bodyPost_ret (v := .agg #[.string ⟨#[]⟩, .bool false]) (by simp [results, Tryd.results21, go_sem]) rfl ⟨rfl, below1 _ _⟩
set_option maxRecDepth 100000 in
set_option maxHeartbeats 2000000 in
theorem rfixed_no (x r : Int) (x2 : x ≤ 9223372036854775807) (p : Nat) (hp : p ≤ 4) (hr : placesD x p 1 = (r, false)) (w : World) : Calls Tryd.prog 21 #[.int .i64 x, .int .i64 (p : Int)] w (GotS [] false w) := by
  have HP := Lib.hid (fun w => rplaces_c x p 1 x2 (by omega) r false hr w)
  have HEnd := Lib.hid (fun w1 hb1 => got_ends (w := w) (w1 := w1) (m := []) (b := false) hb1)
  clear hr
  go_enter Tryd.func21, Tryd.ntmps21
  go_wp2_with fail
  refine (HP.out _).mono ?_
  rintro e w1 ⟨rfl, hb1⟩
  have hb2 := on_alloc hb1 (.cells #[.int .i64 r, .bool false] 42)
  obtain ⟨⟨hlt9, p0, p1, f0, f1⟩, ⟨e0, e1⟩, hw3⟩ := HEnd.out _ hb2
  replace e0 := Lib.hid e0
  replace e1 := Lib.hid e1
  replace hw3 := Lib.hid hw3
  clear hb1 hb2
  go_wp2_with fail
  exact bodyPost_ret (v := .agg #[.string ⟨#[]⟩, .bool false]) (by simp [results, Tryd.results21, go_sem, e0.out, e1.out]) rfl ⟨rfl, hw3.out⟩
theorem byte_bool (d e : UInt8) : ((d.toNat : Int) == (e.toNat : Int)) = (d == e) := by
  rw [Bool.eq_iff_iff, beq_iff_eq, beq_iff_eq]
  constructor
  · intro h
    exact UInt8.toNat_inj.1 (by omega)
  · rintro rfl; rfl
theorem point_at {r : Int} (h : mayD r = true) (k : Nat) (d : UInt8) (hd : (textD r)[k]? = some d) : ((d.toNat : Int) == 46) = decide (k = (wholeT r).length) := by
  rw [show (46 : Int) = ((46 : UInt8).toNat : Int) from rfl, byte_bool]
  rw [text_parts h] at hd
  have hW := whole_point r
  rcases Nat.lt_trichotomy k (wholeT r).length with hk | hk | hk
  · rw [List.getElem?_append_left hk] at hd
    have hm := List.mem_of_getElem? hd
    rw [decide_eq_false (by omega), beq_eq_false_iff_ne]
    rintro rfl
    exact hW hm
  · rw [List.getElem?_append_right (by omega), hk, Nat.sub_self] at hd
    unfold fracL at hd
    split at hd
    · simp at hd
    · rw [decide_eq_true hk]
      simp at hd
      rw [← hd]; rfl
  · rw [List.getElem?_append_right (by omega)] at hd
    obtain ⟨j, hj⟩ : ∃ j, k - (wholeT r).length = j + 1 := ⟨k - (wholeT r).length - 1, by omega⟩
    rw [hj] at hd
    unfold fracL at hd
    split at hd
    · simp at hd
    · rw [List.getElem?_cons_succ] at hd
      have hm := partT_all (r := r.natAbs % 10000) (Nat.mod_lt _ (by omega)) d (List.mem_of_getElem? hd)
      rw [decide_eq_false (by omega), beq_eq_false_iff_ne]
      rintro rfl
      cases hm
/-- the text so far -/
def padL (W q : List UInt8) (k : Nat) : List UInt8 := W ++ 46 :: (q ++ List.replicate k 48)
theorem pad_succ (W q : List UInt8) (k : Nat) : padL W q (k + 1) = padL W q k ++ [48] := by
  unfold padL
  rw [List.replicate_succ']
  simp
set_option maxRecDepth 100000 in
set_option maxHeartbeats 4000000 in
theorem rfixed_yes (x r : Int) (x2 : x ≤ 9223372036854775807) (p : Nat) (hp : p ≤ 4) (hr : placesD x p 1 = (r, true)) (w : World) : Calls Tryd.prog 21 #[.int .i64 x, .int .i64 (p : Int)] w (GotS (fixL r p) true w) := by
  obtain ⟨hm, hr2, hpl, _, _, _⟩ := fix_facts hp hr
  have hwl := (whole_len hm hr2).1
  have hql := part_len (r.natAbs % 10000)
  have HB := Lib.hid (point_at hm)
  obtain ⟨q, hq⟩ : ∃ q, partT (r.natAbs % 10000) = q := ⟨_, rfl⟩
  obtain ⟨W, hW⟩ : ∃ W, wholeT r = W := ⟨_, rfl⟩
  obtain ⟨u, hu⟩ : ∃ u, pl (r.natAbs % 10000) = u := ⟨_, rfl⟩
  obtain ⟨c, hc⟩ : ∃ c, W.length = c := ⟨_, rfl⟩
  have hfix : fixL r p = if p = 0 then W else padL W q (p - u) := by
    unfold fixL padL
    rw [hW, hq, hu]
    split
    · rw [List.append_nil]
    · rfl
  have hways : (u = 0 ∧ textD r = W ∧ q = []) ∨ (1 ≤ u ∧ textD r = padL W q 0) := by
    rw [text_parts hm, hW]
    unfold fracL padL
    by_cases h0 : r.natAbs % 10000 = 0
    · left
      rw [if_pos h0, List.append_nil]
      rw [h0] at hu hq
      exact ⟨by rw [← hu]; decide, rfl, by rw [← hq, part_nil]⟩
    · right
      have := pl_pos h0
      rw [if_neg h0, hq]
      exact ⟨by omega, by simp⟩
  rw [hq, hu] at hql
  rw [hW, hc] at hwl HB
  rw [hu] at hpl
  have HP := Lib.hid (fun w => rplaces_c x p 1 x2 (by omega) r true hr w)
  have HT := Lib.hid (fun w => rtext_c r hr2 w)
  have HEnd := Lib.hid (fun w1 hb1 => got_ends (w := w) (w1 := w1) (m := fixL r p) (b := true) hb1)
  have HFx := Lib.hid hfix
  have HC := Lib.hid hc
  have HQ := Lib.hid hql
  have HWays := Lib.hid hways
  clear hr hfix hm hq hW hu hc hql hways
  go_enter Tryd.func21, Tryd.ntmps21
  go_wp2_with fail
  refine (HP.out _).mono ?_
  rintro e w1 ⟨rfl, hb1⟩
  have hb2 := Lib.hid (on_alloc hb1 (.cells #[.int .i64 r, .bool true] 42))
  clear hb1
  go_wp2_with fail
  refine (HT.out _).mono ?_
  rintro e w3 ⟨s, rfl, hs, hb3⟩
  obtain ⟨⟨hlt9, p0, p1, f0, f1⟩, ⟨e0, e1⟩, hw3⟩ := HEnd.out _ (on hb2.out hb3)
  replace e0 := Lib.hid e0
  replace e1 := Lib.hid e1
  replace hw3 := Lib.hid hw3
  have hsl : s.data.toList.length = s.size := Dig.len s
  have HB2 : Hid (∀ (k : Nat) (d : UInt8), s.data.toList[k]? = some d → ((d.toNat : Int) == 46) = decide (k = c)) := Lib.hid fun k d hd => HB.out k d (by rw [← hs]; exact hd)
  have HG : Hid (∀ (k : Nat) (d : UInt8), s.data.toList[k]? = some d → ∃ hk : k < s.size, s[k] = d) := Lib.hid fun k d h => get_byte rfl h
  have HWl : Hid ((u = 0 ∧ s.data.toList = W ∧ s.size = c ∧ q = []) ∨ (1 ≤ u ∧ s.data.toList = padL W q 0 ∧ s.size = c + 1 + u)) := Lib.hid (by
    rcases HWays.out with ⟨h1, h2, h3⟩ | ⟨h1, h2⟩
    · exact .inl ⟨h1, by rw [hs, h2], by rw [← hsl, hs, h2, HC.out], h3⟩
    · refine .inr ⟨h1, by rw [hs, h2], ?_⟩
      rw [← hsl, hs, h2, padL, List.replicate_zero, List.append_nil, List.length_append, List.length_cons, HC.out, HQ.out]
      omega)
  have hs9 : s.size ≤ 21 := by rcases HWl.out with ⟨_, _, h, _⟩ | ⟨_, _, h⟩ <;> omega
  clear hb3 hb2 hs HB HP HT HEnd HWays hsl
  go_wp2
  go_loopw [7, 8] (fun bv i wr => ∃ (k : Nat) (B : Int), k ≤ s.size ∧ i = .int .i64 k ∧ bv = .int .i64 B ∧ Hid (B = if c < k then (s.size : Int) - c - 1 else -1) ∧ wr = w3) (fun _ i _ => s.size - (intOf i).toNat)
  case atStart => exact ⟨0, -1, Nat.zero_le _, rfl, rfl, Lib.hid (by rw [if_neg (by omega)]), rfl⟩
  case round =>
    obtain ⟨k, B, hk, rfl, rfl, hB, rfl⟩ := hrel
    by_cases hlt : k < s.size
    · obtain ⟨d, hd⟩ : ∃ d, s.data.toList[k]? = some d := ⟨_, List.getElem?_eq_getElem (by rw [Dig.len]; exact hlt)⟩
      obtain ⟨hk2, hkd⟩ := HG.out k d hd
      have hbb := HB2.out k d hd
      by_cases hkc : k = c
      · rw [decide_eq_true hkc] at hbb
        have HN : Hid ((s.size : Int) - k - 1 = if c < k + 1 then (s.size : Int) - c - 1 else -1) := Lib.hid (by rw [if_pos (by omega), hkc])
        clear hd hB hkc HB2 HG HWl
        go_wp2
        go_roundw
        case rel => exact ⟨k + 1, _, by omega, by go_num, rfl, HN, by first | rfl | trivial⟩
        case measure => simp [intOf]; omega
      · rw [decide_eq_false hkc] at hbb
        have HN : Hid (B = if c < k + 1 then (s.size : Int) - c - 1 else -1) := Lib.hid (by
          rw [hB.out]
          by_cases h : c < k
          · rw [if_pos h, if_pos (by omega)]
          · rw [if_neg h, if_neg (by omega)])
        clear hd hB hkc HB2 HG HWl
        go_wp2
        go_roundw
        case rel => exact ⟨k + 1, _, by omega, by go_num, rfl, HN, by first | rfl | trivial⟩
        case measure => simp [intOf]; omega
    · obtain rfl : k = s.size := by omega
      rcases HWl.out with ⟨h1, h2, h3, h4⟩ | ⟨h1, h2, h3⟩
      · obtain rfl : B = -1 := by rw [hB.out, if_neg (by omega)]
        by_cases h0 : p = 0
        · subst h0
          have HE : Hid (s = ⟨(fixL r 0).toArray⟩) := Lib.hid (str_is (by rw [h2, HFx.out]; rfl))
          clear hB HB2 HG HWl h1 h2 h3 h4
          go_wp2
          go_loopw [6, 7] (fun o j w' => o = .string s ∧ j = .int .i64 (-1) ∧ w' = wr) (fun _ _ _ => 0)
          case atStart => exact ⟨rfl, rfl, rfl⟩
          case round =>
            obtain ⟨rfl, rfl, rfl⟩ := hrel
            go_wp2
            rw [HE.out]
            exact bodyPost_ret (v := .agg #[.string ⟨(fixL r 0).toArray⟩, .bool true]) (by simp [results, Tryd.results21, go_sem, e0.out, e1.out]) rfl ⟨rfl, hw3.out⟩
        · have HE : Hid (fixL r p = padL W q p) := Lib.hid (by rw [HFx.out, if_neg h0, h1, Nat.sub_zero])
          have HS0 : Hid ((s ++ ⟨#[46]⟩).data.toList = padL W q 0) := Lib.hid (by
            have : (s ++ ⟨#[46]⟩).data.toList = s.data.toList ++ [46] := by simp
            rw [this, h2, h4, padL]; rfl)
          have hsz0 : (s ++ ⟨#[46]⟩).size = s.size + 1 := by rw [ByteArray.size_append]; rfl
          have hp0 : 0 < p := by omega
          clear hB HB2 HG HWl h1 h2 h3 h4 HFx
          go_wp2
          go_loopw [6, 7] (fun o j w' => ∃ (k : Nat) (y : ByteArray), k ≤ p ∧ j = .int .i64 ((k : Int)) ∧ o = .string y ∧ Hid (y.data.toList = padL W q k) ∧ y.size ≤ 22 + k ∧ w' = wr) (fun _ j _ => p - (intOf j).toNat)
          case atStart => exact ⟨0, _, by omega, by go_num, rfl, HS0, by omega, rfl⟩
          case round =>
            obtain ⟨k, y, hk, rfl, rfl, hy, hy9, rfl⟩ := hrel
            by_cases hlt3 : k < p
            · have HN : Hid ((y ++ ⟨#[48]⟩).data.toList = padL W q (k + 1)) := Lib.hid (by rw [pad_succ, ← hy.out]; simp)
              have hsz : (y ++ ⟨#[48]⟩).size = y.size + 1 := by rw [ByteArray.size_append]; rfl
              clear hy HE
              go_wp2
              go_roundw
              case rel => exact ⟨k + 1, _, by omega, by go_num, rfl, HN, by omega, by first | rfl | trivial⟩
              case measure => simp [intOf]; omega
            · have HE2 : Hid (y = ⟨(fixL r p).toArray⟩) := Lib.hid (str_is (by rw [HE.out, hy.out]; congr 1; omega))
              clear hy HE
              go_wp2
              rw [HE2.out]
              exact bodyPost_ret (v := .agg #[.string ⟨(fixL r p).toArray⟩, .bool true]) (by simp [results, Tryd.results21, go_sem, e0.out, e1.out]) rfl ⟨rfl, hw3.out⟩
      · obtain rfl : B = (u : Int) := by rw [hB.out, if_pos (by omega)]; omega
        have hp0 : p ≠ 0 := by omega
        have HE : Hid (fixL r p = padL W q (p - u)) := Lib.hid (by rw [HFx.out, if_neg hp0])
        have HS0 : Hid (s.data.toList = padL W q 0) := Lib.hid h2
        clear hB HB2 HG HWl h2 HFx
        go_wp2
        go_loopw [6, 7] (fun o j w' => ∃ (k : Nat) (y : ByteArray), u + k ≤ p ∧ j = .int .i64 ((u : Int) + (k : Int)) ∧ o = .string y ∧ Hid (y.data.toList = padL W q k) ∧ y.size ≤ 22 + k ∧ w' = wr) (fun _ j _ => p - (intOf j).toNat)
        case atStart => exact ⟨0, _, by omega, by go_num, rfl, HS0, by omega, rfl⟩
        case round =>
          obtain ⟨k, y, hk, rfl, rfl, hy, hy9, rfl⟩ := hrel
          by_cases hlt3 : u + k < p
          · have HN : Hid ((y ++ ⟨#[48]⟩).data.toList = padL W q (k + 1)) := Lib.hid (by rw [pad_succ, ← hy.out]; simp)
            have hsz : (y ++ ⟨#[48]⟩).size = y.size + 1 := by rw [ByteArray.size_append]; rfl
            clear hy HE
            go_wp2
            go_roundw
            case rel => exact ⟨k + 1, _, by omega, by go_num, rfl, HN, by omega, by first | rfl | trivial⟩
            case measure => simp [intOf]; omega
          · have HE2 : Hid (y = ⟨(fixL r p).toArray⟩) := Lib.hid (str_is (by rw [HE.out, hy.out]; congr 1; omega))
            clear hy HE
            go_wp2
            rw [HE2.out]
            exact bodyPost_ret (v := .agg #[.string ⟨(fixL r p).toArray⟩, .bool true]) (by simp [results, Tryd.results21, go_sem, e0.out, e1.out]) rfl ⟨rfl, hw3.out⟩
end Go.Proofs.YtckcoogmfgegeaaDoor.Txt

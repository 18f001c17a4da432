/- What the program's Fixed answers (over the landed text of package text): for every number of 64 bits. -/
import Derived.Test.YtckcoogmfgegeaaDoorTxtPut
import Derived.Test.YtckcoogmfgegeaaDoorTxtFixM
import Derived.Test.YtckcoogmfgegeaaDoorDigTell
namespace Go.Proofs.YtckcoogmfgegeaaDoor.Txt
open Go.RowKit Kit Reg Dec Dig Rnd

theorem index_point (W r : List UInt8) (h : (46 : UInt8) ∉ W) : Lib.index (W ++ 46 :: r) [46] = W.length := by
  induction W with
  | nil => rfl
  | cons x W ih =>
    have hx : x ≠ 46 := fun e => h (by simp [e])
    have ih := ih (fun e => h (by simp [e]))
    rw [List.cons_append]
    unfold Lib.index
    have hp : ([46] : List UInt8).isPrefixOf (x :: (W ++ 46 :: r)) = false := by simp [List.isPrefixOf, Ne.symm hx]
    rw [if_neg (by rw [hp]; simp), ih]
    simp
theorem index_none (W : List UInt8) (h : (46 : UInt8) ∉ W) : Lib.index W [46] = -1 := by
  induction W with
  | nil => rfl
  | cons x W ih =>
    have hx : x ≠ 46 := fun e => h (by simp [e])
    have ih := ih (fun e => h (by simp [e]))
    unfold Lib.index
    have hp : ([46] : List UInt8).isPrefixOf (x :: W) = false := by simp [List.isPrefixOf, Ne.symm hx]
    rw [if_neg (by rw [hp]; simp), ih]
    rfl
theorem cut_text {r : Int} (h : mayD r = true) : ∃ f, Lib.cut (textD r) [46] = (wholeT r, partT (r.natAbs % 10000), f) := by
  rw [text_parts h]
  have hp := whole_point r
  unfold fracL
  by_cases h0 : r.natAbs % 10000 = 0
  · rw [if_pos h0, h0, part_nil, List.append_nil]
    refine ⟨false, ?_⟩
    unfold Lib.cut
    rw [index_none _ hp]
    simp
  · rw [if_neg h0]
    refine ⟨true, ?_⟩
    unfold Lib.cut
    rw [index_point _ _ hp]
    simp
theorem noughts_is (c : Nat) : Lib.repeatL [48] c = List.replicate c 48 := by
  have := Lib.repeatL_replicate 48 1 c
  rw [Nat.mul_one] at this
  exact this
set_option maxRecDepth 100000 in
set_option maxHeartbeats 1000000 in
theorem fixed_out (x p : Int) (h : p < 0 ∨ 4 < p) (w : World) : Calls Tryd.prog 20 #[.int .i64 x, .int .i64 p] w (TwoS [] false w) := by
  rcases h with h | h
  · go_enter Tryd.func20, Tryd.ntmps20
    go_wp2
    go_ret2
    exact ⟨rfl, Below.refl _ _⟩
  · have h2 : ¬ p < 0 := by omega
    go_enter Tryd.func20, Tryd.ntmps20
    go_wp2
    go_ret2
    exact ⟨rfl, Below.refl _ _⟩
set_option maxRecDepth 100000 in
set_option maxHeartbeats 1000000 in
theorem fixed_no (x r : Int) (x2 : x ≤ 9223372036854775807) (p : Nat) (hp : p ≤ 4) (hr : placesD x p 1 = (r, false)) (w : World) : Calls Tryd.prog 20 #[.int .i64 x, .int .i64 (p : Int)] w (TwoS [] false w) := by
  have HP := Lib.hid (fun w => places_c x p 1 x2 (by omega) r false hr w)
  clear hr
  go_enter Tryd.func20, Tryd.ntmps20
  go_wp2_with (go_at_call 33; refine (HP.out _).mono ?_; rintro e w' ⟨rfl, rfl⟩)
  go_ret2
  exact ⟨rfl, Below.refl _ _⟩
set_option maxRecDepth 100000 in
set_option maxHeartbeats 2000000 in
theorem fixed_yes (x r : Int) (x2 : x ≤ 9223372036854775807) (p : Nat) (hp : p ≤ 4) (hr : placesD x p 1 = (r, true)) (w : World) (hL : PLibs w) : Calls Tryd.prog 20 #[.int .i64 x, .int .i64 (p : Int)] w (TwoS (fixL r p) true w) := by
  obtain ⟨hm, hr2, hpl, _, _, _⟩ := fix_facts hp hr
  obtain ⟨f, hcut⟩ := cut_text hm
  have hwl := (whole_len hm hr2).1
  have hql := part_len (r.natAbs % 10000)
  have htl : (textD r).length ≤ 21 := text_len (by have := mayD_no (x := r); by_cases h : r < -9223372036854775807; rw [this h] at hm; cases hm; omega) hr2
  obtain ⟨q, hq⟩ : ∃ q, partT (r.natAbs % 10000) = q := ⟨_, rfl⟩
  obtain ⟨W, hW⟩ : ∃ W, wholeT r = W := ⟨_, rfl⟩
  obtain ⟨u, hu⟩ : ∃ u, pl (r.natAbs % 10000) = u := ⟨_, rfl⟩
  have hfix : fixL r p = W ++ (if p = 0 then [] else 46 :: (q ++ List.replicate (p - u) 48)) := by unfold fixL; rw [hW, hq, hu]
  rw [hq, hW] at hcut
  rw [hq, hu] at hql
  rw [hW] at hwl
  rw [hu] at hpl
  obtain ⟨m0, hm0⟩ := hL.2
  have HP := Lib.hid (fun w => places_c x p 1 x2 (by omega) r true hr w)
  have HT := Lib.hid (fun w hL => text_c r hr2 w hL)
  have HC : Hid (∀ (s : ByteArray) (w : World), s.data.toList = textD r → w.cell? ⟨0, 0, none⟩ = some (.int .i64 m0) →
      Calls Tryd.prog 34 #[.string s, .string ⟨#[46]⟩] w fun e w' => e = .returned (.tuple #[.string ⟨W.toArray⟩, .string ⟨q.toArray⟩, .bool f]) ∧ Below w.heap.size w w') := Lib.hid fun s w hs hm => by
    refine (Tryd.strings_Cut s ⟨#[46]⟩ m0 w (by rw [← Dig.len, hs]; omega) hm).mono fun e w' ⟨he, n, hw⟩ => ⟨?_, drew_below hw⟩
    rw [he, hs, show (⟨#[46]⟩ : ByteArray).data.toList = [46] from rfl, hcut]
  have HR := Lib.hid (fun w => Tryd.strings_Repeat ⟨#[48]⟩ (p - u) w (by omega) (by show 1 * (p - u) ≤ _; omega))
  have hL1 := Lib.hid hL.1
  have hHM := Lib.hid hm0
  have HFx := Lib.hid hfix
  clear hr hm0 hL hcut hfix hm htl hu
  go_enter Tryd.func20, Tryd.ntmps20
  go_wp2_with (go_at_call 33; refine (HP.out _).mono ?_; rintro e w' ⟨rfl, rfl⟩)
  refine (HT.out _ hL1.out).mono ?_
  rintro e w1 ⟨s, rfl, hs, hb1⟩
  have HS := Lib.hid hs
  clear hs
  go_wp2_with fail
  refine (HC.out _ _ HS.out (kept hb1 hHM.out)).mono ?_
  rintro e w2 ⟨rfl, hb2⟩
  have hb3 := on hb1 hb2
  clear hb1 hb2
  by_cases h0 : p = 0
  · subst h0
    go_wp2
    go_ret2
    exact ⟨by rw [HFx.out]; simp, hb3⟩
  · have hz : ((p : Int) == 0) = false := by simpa using h0
    have hz2 : (p == 0) = false := by simpa using h0
    rw [← arr_size W] at hwl
    rw [← arr_size q] at hql
    obtain ⟨c, hc⟩ : ∃ c, p - u = c := ⟨_, rfl⟩
    have hci : (p : Int) - ((⟨q.toArray⟩ : ByteArray).size : Int) = (c : Int) := by omega
    have hcl : c ≤ 4 := by omega
    have hql4 : (⟨q.toArray⟩ : ByteArray).size ≤ 4 := by omega
    rw [hc] at HR HFx
    rw [if_neg h0] at HFx
    have HNn := Lib.hid (noughts_is c)
    rw [HNn.out] at HR
    clear HC HT HP HS hL1 hHM hc hql
    generalize hsW : (⟨W.toArray⟩ : ByteArray) = sW at *
    generalize hsq : (⟨q.toArray⟩ : ByteArray) = sq at *
    replace hsW := Lib.hid hsW
    replace hsq := Lib.hid hsq
    go_wp2_with fail
    refine (HR.out _).mono ?_
    rintro e w4 ⟨rfl, hb4⟩
    have hb5 := on hb3 hb4
    have hcr : (⟨(List.replicate c 48).toArray⟩ : ByteArray).size ≤ 4 := by rw [arr_size, List.length_replicate]; exact hcl
    clear hb3 hb4
    generalize hsn : (⟨(List.replicate c 48).toArray⟩ : ByteArray) = sn at *
    replace hsn := Lib.hid hsn
    go_wp2
    go_ret2
    refine ⟨?_, hb5⟩
    have hX : sW ++ ⟨#[46]⟩ ++ sq ++ sn = ⟨(fixL r p).toArray⟩ := by
      apply bytes_eq
      rw [HFx.out, ← hsW.out, ← hsq.out, ← hsn.out]
      simp
    rw [← hX]
    rfl
theorem fixed_c (x : Int) (x2 : x ≤ 9223372036854775807) (p : Int) (m : List UInt8) (b : Bool) (hr : fixD x p = (m, b)) (w : World) (hL : PLibs w) : Calls Tryd.prog 20 #[.int .i64 x, .int .i64 p] w (TwoS m b w) := by
  by_cases h : p < 0 ∨ 4 < p
  · rw [fix_out h] at hr
    obtain ⟨rfl, rfl⟩ := Prod.mk.inj hr
    exact fixed_out x p h w
  · obtain ⟨P, rfl⟩ := Int.eq_ofNat_of_zero_le (show 0 ≤ p by omega)
    obtain ⟨⟨r, k⟩, hk⟩ : ∃ y, placesD x P 1 = y := ⟨_, rfl⟩
    cases k
    · rw [fix_no (by omega) hk] at hr
      obtain ⟨rfl, rfl⟩ := Prod.mk.inj hr
      exact fixed_no x r x2 P (by omega) hk w
    · rw [fix_yes (by omega) hk] at hr
      obtain ⟨rfl, rfl⟩ := Prod.mk.inj hr
      exact fixed_yes x r x2 P (by omega) hk w hL
end Go.Proofs.YtckcoogmfgegeaaDoor.Txt

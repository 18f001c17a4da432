/- The law RunesTurn: what is turned round, the first rune and the text of a rune are the reference's; turned twice a well-formed text is as it was. -/
import Derived.Test.YtkbibkadofeamaaRunAlive
namespace Go.Proofs.Ytkbibkadofeamaa.Run
open Go.RowKit Kit Reg

theorem whole_snoc {L : List (List UInt8)} {k : Nat} {p : List UInt8} (h : L[k]? = some p) : wholeB (L.take (k + 1)) = (wholeB (L.take k) && wellB p) := by
  rw [List.take_add_one, h, wholeB, wholeB, List.all_append]
  simp
theorem val_le (l : List UInt8) : valL l ≤ 2147483647 := by
  have h0 := atN_lt l 0
  have h1 := atN_lt l 1
  have h2 := atN_lt l 2
  have h3 := atN_lt l 3
  unfold valL valN
  repeat' split
  all_goals omega
theorem single_none {n : Int} (h : runeB n = false) : singleL n = [] := by rw [singleL, if_neg (by rw [h]; simp)]
theorem single_some {n : Int} (h : runeB n = true) : singleL n ≠ [] ∧ ((valL (singleL n) : Nat) : Int) = n ∧ 1 ≤ n ∧ n ≤ 1114111 ∧ (singleL n).length ≤ 4 := by
  have h2 := h
  simp only [runeB, decide_eq_true_eq] at h2
  obtain ⟨m, rfl⟩ : ∃ m : Nat, n = m := ⟨n.toNat, by omega⟩
  have e : singleL (m : Int) = encL m := by rw [singleL, if_pos h]; rfl
  obtain ⟨h3, h4⟩ := enc_back m h
  rw [e]
  refine ⟨h4, by rw [h3], by omega, by omega, ?_⟩
  unfold encL
  repeat' split
  all_goals simp
set_option maxRecDepth 100000 in
set_option maxHeartbeats 8000000 in
theorem turn_law (s : ByteArray) (n : Int) (w : World) :
    Calls Try.prog 6 #[.string s, .int .i64 n] w fun e w' => e = .returned (.bool true) ∧ Below w.heap.size w w' := by
  have HV := Lib.hid alive_c
  have hb0 := Below.refl w.heap.size w
  by_cases hsz : 300 < s.size
  · have d1 : decide ((300 : Int) < (s.size : Int)) = true := decide_eq_true (by omega)
    go_enter Try.func6, Try.ntmps6
    go_wp2_with fail
    refine (HV.out _).mono ?_
    rintro e w1 ⟨rfl, hb1⟩
    go_wp2
    go_ret
    exact ⟨rfl, hb1⟩
  have d1 : decide ((300 : Int) < (s.size : Int)) = false := decide_eq_false (by omega)
  have h9 : s.size ≤ 1000000 := by omega
  obtain ⟨l, hs⟩ : ∃ l, s.data.toList = l := ⟨_, rfl⟩
  have hl := len_of hs
  have hpl := ps_len l
  obtain ⟨c, hc⟩ : ∃ c, (ps l).length = c := ⟨_, rfl⟩
  rw [hc] at hpl
  obtain ⟨b, hb⟩ : ∃ b, runeB n = b := ⟨_, rfl⟩
  obtain ⟨x0, hx0⟩ : ∃ x : ByteArray, x = ⟨(singleL n).toArray⟩ := ⟨_, rfl⟩
  obtain ⟨x2, hx2⟩ : ∃ x : ByteArray, x = ⟨(revL l).toArray⟩ := ⟨_, rfl⟩
  have hx0l : x0.data.toList = singleL n := by rw [hx0]
  have hx2l : x2.data.toList = revL l := by rw [hx2]
  have H1 : Hid (∀ w, Calls Try.prog 17 #[.int .i64 n] w fun e w' => e = .returned (.tuple #[.string x0, .bool b]) ∧ w = w') := Lib.hid fun w => (single_c n b hb w).mono fun e w' ⟨t, h1, h2, h3⟩ => ⟨by rw [h1, str_is h2, hx0], h3⟩
  have H2 : Hid (∀ w, Calls Try.prog 18 #[.int .i64 n] w fun e w' => e = .returned (.string x0) ∧ Below w.heap.size w w') := Lib.hid fun w => (rsingle_c n w).mono fun e w' ⟨h1, h3⟩ => ⟨by rw [h1, hx0], h3⟩
  have H3 : Hid (∀ w, Calls Try.prog 19 #[.string s] w fun e w' => e = .returned (.string x2) ∧ Below w.heap.size w w') := Lib.hid fun w => (reverse_c s l hs h9 w).mono fun e w' ⟨h1, h3⟩ => ⟨by rw [h1, hx2], h3⟩
  have H4 : Hid (∀ w, Calls Try.prog 20 #[.string s] w fun e w' => e = .returned (.string x2) ∧ Below w.heap.size w w') := Lib.hid fun w => (rreverse_c s l hs h9 w).mono fun e w' ⟨h1, h3⟩ => ⟨by rw [h1, hx2], h3⟩
  have H5 : Hid (wholeB (ps l) = true → ∀ w, Calls Try.prog 19 #[.string x2] w fun e w' => e = .returned (.string s) ∧ Below w.heap.size w w') := Lib.hid fun hw w => (reverse_c x2 (revL l) hx2l (by rw [← len_of hx2l, rev_len]; omega) w).mono fun e w' ⟨h1, h3⟩ => ⟨by rw [h1, rev_rev hw, ← str_is hs], h3⟩
  have HP := Lib.hid (fun w => rpieces_c s l hs h9 w)
  have HW : Hid (∀ p ∈ ps l, p ≠ [] ∧ p.length ≤ 1000000) := Lib.hid fun p hp => ⟨(ps_well l p hp).1, by
    obtain ⟨k, hk⟩ := List.getElem?_of_mem hp
    have := flat_part hk
    rw [ps_flat] at this
    omega⟩
  obtain ⟨v, q, HFI, hq0, hv9, HRF⟩ : ∃ (v : Nat) (q : Bool), Hid (∀ w, Calls Try.prog 21 #[.string s] w fun e w' => e = .returned (.tuple #[.int .i32 v, .bool q]) ∧ Below w.heap.size w w') ∧ ((q = false ∧ v = 0 ∧ (s.toList == []) = true) ∨ (q = true ∧ (s.toList == []) = false)) ∧ v ≤ 2147483647 ∧
      Hid (q = true → ∀ w, Calls Try.prog 22 #[.string s] w fun e w' => e = .returned (.int .i64 v) ∧ w = w') := by
    by_cases h : l = []
    · exact ⟨0, false, Lib.hid fun w => first_none s (by rw [← hl, h]; rfl) w, .inl ⟨rfl, rfl, by rw [Lib.toList_data, hs, h]; rfl⟩, by omega, Lib.hid fun h => by cases h⟩
    · have hp : 0 < s.size := by have := List.length_pos_iff.2 h; omega
      exact ⟨valL l, true, Lib.hid fun w => first_c s l hs h _ rfl w, .inr ⟨rfl, by rw [Lib.toList_data, hs]; simpa using h⟩, val_le l, Lib.hid fun _ w => rfirst_c s l hs h9 hp w⟩
  have HB : Hid ((b = true → ((x0.toList == []) = false ∧ 1 ≤ n ∧ n ≤ 1114111) ∧ ∀ w, Calls Try.prog 21 #[.string x0] w fun e w' => e = .returned (.tuple #[.int .i32 n, .bool true]) ∧ Below w.heap.size w w') ∧ (b = false → (x0.toList == []) = true)) := Lib.hid ⟨fun h => by
      obtain ⟨h1, h2, h3, h4, h5⟩ := single_some (hb.trans h)
      refine ⟨⟨by rw [Lib.toList_data, hx0l]; simpa using h1, h3, h4⟩, fun w => ?_⟩
      refine (first_c x0 (singleL n) hx0l h1 _ rfl w).mono fun e w' ⟨e1, e2⟩ => ⟨?_, e2⟩
      rw [e1, h2], fun h => by rw [Lib.toList_data, hx0l, single_none (hb.trans h)]; rfl⟩
  obtain ⟨L, hL⟩ : ∃ L, ps l = L := ⟨_, rfl⟩
  rw [hL] at HP HW H5 hc
  have HC := Lib.hid hc
  clear hs hc hb hx0 hx2 hx0l hx2l hL
  have hb1 := HB.out.1
  have hb2 := HB.out.2
  clear HB
  cases b with
  | false =>
    have e0 := hb2 rfl
    clear hb1 hb2
    rcases hq0 with ⟨rfl, rfl, e1⟩ | ⟨rfl, e1⟩
    · clear HRF
      go_enter Try.func6, Try.ntmps6
      go_wp2_with fail
      refine (H1.out _).mono ?_
      rintro e w' ⟨rfl, rfl⟩
      go_wp2_with fail
      refine (H2.out _).mono ?_
      rintro e w' ⟨rfl, hb9⟩
      replace hb0 := on hb0 hb9
      clear hb9
      go_wp2_with fail
      refine (H3.out _).mono ?_
      rintro e w' ⟨rfl, hb9⟩
      replace hb0 := on hb0 hb9
      clear hb9
      go_wp2_with fail
      refine (H4.out _).mono ?_
      rintro e w' ⟨rfl, hb9⟩
      replace hb0 := on hb0 hb9
      clear hb9
      go_wp2_with fail
      refine (HFI.out _).mono ?_
      rintro e w' ⟨rfl, hb9⟩
      replace hb0 := on hb0 hb9
      clear hb9
      go_wp2_with fail
      refine (HP.out _).mono ?_
      rintro e wp ⟨vv, rfl, hv, hb9⟩
      obtain ⟨A, cap, rfl, hA, hcap⟩ := OwnS.strs hv c HC.out
      have HA := Lib.hid hA
      replace hb0 := on hb0 hb9
      clear hb9 hv hA HP
      go_wp2_with fail
      go_loopw [9, 11, 70] (fun z _ i wr => ∃ (k : Nat), k ≤ c ∧ i = .int .i64 k ∧ z = .bool (wholeB (L.take k)) ∧ wp = wr) (fun _ _ i _ => c - (intOf i).toNat)
      case atStart => exact ⟨0, Nat.zero_le _, rfl, rfl, rfl⟩
      case round =>
        obtain ⟨k, hk, rfl, rfl, rfl⟩ := hrel
        by_cases hlt : k < c
        · obtain ⟨p, hp⟩ : ∃ p, L[k]? = some p := ⟨_, List.getElem?_eq_getElem (by rw [HC.out]; exact hlt)⟩
          have hne : L ≠ [] := by intro e; have := HC.out; rw [e] at this; simp at this; omega
          obtain ⟨g, rfl, hg, hc1⟩ := HA.out.resolve_left hne
          have hpw := HW.out p (List.mem_of_getElem? hp)
          have hcell := hc1 k p hp
          have hys : (⟨p.toArray⟩ : ByteArray).size = p.length := by rw [ByteArray.size, List.size_toArray]
          have hyl : (⟨p.toArray⟩ : ByteArray).data.toList = p := rfl
          have HN := Lib.hid (whole_snoc hp)
          have hlen := List.length_pos_iff.2 hpw.1
          have hp9 := hpw.2
          clear hc1 hp hne hpw
          generalize (⟨p.toArray⟩ : ByteArray) = y at *
          have hpos : 0 < y.size := by omega
          obtain ⟨x, hx⟩ : ∃ x : UInt8, y[0]'hpos = x := ⟨_, rfl⟩
          have hat : atN p 0 = x.toNat := by rw [← hyl, at_byte y 0 hpos, hx]
          have HWB : Hid (wellB p = (decide (1 < y.size) || decide (x.toNat < 128))) := Lib.hid (by rw [wellB, hat, hys])
          have hy9 : y.size ≤ 1000000 := by omega
          clear hat hyl hys hlen hp9
          obtain ⟨z, hz⟩ : ∃ z, wholeB (L.take k) = z := ⟨_, rfl⟩
          have HZ := Lib.hid hz
          rw [hz]
          clear hz
          by_cases h1 : 1 < y.size
          · have e1 : decide ((1 : Int) < (y.size : Int)) = true := decide_eq_true (by omega)
            have HE : Hid (wholeB (L.take (k + 1)) = z) := Lib.hid (by rw [HN.out, HWB.out, HZ.out, decide_eq_true h1]; simp)
            cases z
            all_goals
              go_wp2
              go_roundw
              case rel => exact ⟨k + 1, by omega, by go_num, by rw [HE.out], by first | rfl | trivial⟩
              case measure => simp [intOf]; omega
          · have e1 : decide ((1 : Int) < (y.size : Int)) = false := decide_eq_false (by omega)
            obtain ⟨u, hu⟩ : ∃ u, decide (x.toNat < 128) = u := ⟨_, rfl⟩
            have hu2 : decide ((x.toNat : Int) < 128) = u := by rw [← hu]; simp; omega
            have HE : Hid (wholeB (L.take (k + 1)) = (z && u)) := Lib.hid (by rw [HN.out, HWB.out, HZ.out, decide_eq_false h1, hu]; simp)
            clear hu
            cases z <;> cases u
            all_goals
              go_wp2
              go_roundw
              case rel => exact ⟨k + 1, by omega, by go_num, by rw [HE.out]; rfl, by first | rfl | trivial⟩
              case measure => simp [intOf]; omega
        · obtain rfl : k = c := by omega
          have hwl : wholeB (L.take k) = wholeB L := by rw [List.take_of_length_le (by rw [HC.out]; exact Nat.le_refl _)]
          rw [hwl]
          obtain ⟨z, hz⟩ : ∃ z, wholeB L = z := ⟨_, rfl⟩
          rw [hz]
          have HZ := Lib.hid hz
          clear hz hwl
          cases z with
          | false =>
            go_wp2_with fail
            refine (HV.out _).mono ?_
            rintro e w8 ⟨rfl, hb9⟩
            replace hb0 := on hb0 hb9
            clear hb9
            go_wp2
            go_ret
            exact ⟨rfl, hb0⟩
          | true =>
            go_wp2_with fail
            refine (H3.out _).mono ?_
            rintro e w6 ⟨rfl, hb9⟩
            replace hb0 := on hb0 hb9
            clear hb9
            go_wp2_with fail
            refine (H5.out HZ.out _).mono ?_
            rintro e w7 ⟨rfl, hb9⟩
            replace hb0 := on hb0 hb9
            clear hb9
            go_wp2_with fail
            refine (HV.out _).mono ?_
            rintro e w8 ⟨rfl, hb9⟩
            replace hb0 := on hb0 hb9
            clear hb9
            go_wp2
            go_ret
            exact ⟨rfl, hb0⟩
    · have HRF2 := Lib.hid (HRF.out rfl)
      clear HRF
      go_enter Try.func6, Try.ntmps6
      go_wp2_with fail
      refine (H1.out _).mono ?_
      rintro e w' ⟨rfl, rfl⟩
      go_wp2_with fail
      refine (H2.out _).mono ?_
      rintro e w' ⟨rfl, hb9⟩
      replace hb0 := on hb0 hb9
      clear hb9
      go_wp2_with fail
      refine (H3.out _).mono ?_
      rintro e w' ⟨rfl, hb9⟩
      replace hb0 := on hb0 hb9
      clear hb9
      go_wp2_with fail
      refine (H4.out _).mono ?_
      rintro e w' ⟨rfl, hb9⟩
      replace hb0 := on hb0 hb9
      clear hb9
      go_wp2_with fail
      refine (HFI.out _).mono ?_
      rintro e w' ⟨rfl, hb9⟩
      replace hb0 := on hb0 hb9
      clear hb9
      go_wp2_with fail
      refine (HRF2.out _).mono ?_
      rintro e w' ⟨rfl, rfl⟩
      go_wp2_with fail
      refine (HP.out _).mono ?_
      rintro e wp ⟨vv, rfl, hv, hb9⟩
      obtain ⟨A, cap, rfl, hA, hcap⟩ := OwnS.strs hv c HC.out
      have HA := Lib.hid hA
      replace hb0 := on hb0 hb9
      clear hb9 hv hA HP
      go_wp2_with fail
      go_loopw [9, 11, 70] (fun z _ i wr => ∃ (k : Nat), k ≤ c ∧ i = .int .i64 k ∧ z = .bool (wholeB (L.take k)) ∧ wp = wr) (fun _ _ i _ => c - (intOf i).toNat)
      case atStart => exact ⟨0, Nat.zero_le _, rfl, rfl, rfl⟩
      case round =>
        obtain ⟨k, hk, rfl, rfl, rfl⟩ := hrel
        by_cases hlt : k < c
        · obtain ⟨p, hp⟩ : ∃ p, L[k]? = some p := ⟨_, List.getElem?_eq_getElem (by rw [HC.out]; exact hlt)⟩
          have hne : L ≠ [] := by intro e; have := HC.out; rw [e] at this; simp at this; omega
          obtain ⟨g, rfl, hg, hc1⟩ := HA.out.resolve_left hne
          have hpw := HW.out p (List.mem_of_getElem? hp)
          have hcell := hc1 k p hp
          have hys : (⟨p.toArray⟩ : ByteArray).size = p.length := by rw [ByteArray.size, List.size_toArray]
          have hyl : (⟨p.toArray⟩ : ByteArray).data.toList = p := rfl
          have HN := Lib.hid (whole_snoc hp)
          have hlen := List.length_pos_iff.2 hpw.1
          have hp9 := hpw.2
          clear hc1 hp hne hpw
          generalize (⟨p.toArray⟩ : ByteArray) = y at *
          have hpos : 0 < y.size := by omega
          obtain ⟨x, hx⟩ : ∃ x : UInt8, y[0]'hpos = x := ⟨_, rfl⟩
          have hat : atN p 0 = x.toNat := by rw [← hyl, at_byte y 0 hpos, hx]
          have HWB : Hid (wellB p = (decide (1 < y.size) || decide (x.toNat < 128))) := Lib.hid (by rw [wellB, hat, hys])
          have hy9 : y.size ≤ 1000000 := by omega
          clear hat hyl hys hlen hp9
          obtain ⟨z, hz⟩ : ∃ z, wholeB (L.take k) = z := ⟨_, rfl⟩
          have HZ := Lib.hid hz
          rw [hz]
          clear hz
          by_cases h1 : 1 < y.size
          · have e1 : decide ((1 : Int) < (y.size : Int)) = true := decide_eq_true (by omega)
            have HE : Hid (wholeB (L.take (k + 1)) = z) := Lib.hid (by rw [HN.out, HWB.out, HZ.out, decide_eq_true h1]; simp)
            cases z
            all_goals
              go_wp2
              go_roundw
              case rel => exact ⟨k + 1, by omega, by go_num, by rw [HE.out], by first | rfl | trivial⟩
              case measure => simp [intOf]; omega
          · have e1 : decide ((1 : Int) < (y.size : Int)) = false := decide_eq_false (by omega)
            obtain ⟨u, hu⟩ : ∃ u, decide (x.toNat < 128) = u := ⟨_, rfl⟩
            have hu2 : decide ((x.toNat : Int) < 128) = u := by rw [← hu]; simp; omega
            have HE : Hid (wholeB (L.take (k + 1)) = (z && u)) := Lib.hid (by rw [HN.out, HWB.out, HZ.out, decide_eq_false h1, hu]; simp)
            clear hu
            cases z <;> cases u
            all_goals
              go_wp2
              go_roundw
              case rel => exact ⟨k + 1, by omega, by go_num, by rw [HE.out]; rfl, by first | rfl | trivial⟩
              case measure => simp [intOf]; omega
        · obtain rfl : k = c := by omega
          have hwl : wholeB (L.take k) = wholeB L := by rw [List.take_of_length_le (by rw [HC.out]; exact Nat.le_refl _)]
          rw [hwl]
          obtain ⟨z, hz⟩ : ∃ z, wholeB L = z := ⟨_, rfl⟩
          rw [hz]
          have HZ := Lib.hid hz
          clear hz hwl
          cases z with
          | false =>
            go_wp2_with fail
            refine (HV.out _).mono ?_
            rintro e w8 ⟨rfl, hb9⟩
            replace hb0 := on hb0 hb9
            clear hb9
            go_wp2
            go_ret
            exact ⟨rfl, hb0⟩
          | true =>
            go_wp2_with fail
            refine (H3.out _).mono ?_
            rintro e w6 ⟨rfl, hb9⟩
            replace hb0 := on hb0 hb9
            clear hb9
            go_wp2_with fail
            refine (H5.out HZ.out _).mono ?_
            rintro e w7 ⟨rfl, hb9⟩
            replace hb0 := on hb0 hb9
            clear hb9
            go_wp2_with fail
            refine (HV.out _).mono ?_
            rintro e w8 ⟨rfl, hb9⟩
            replace hb0 := on hb0 hb9
            clear hb9
            go_wp2
            go_ret
            exact ⟨rfl, hb0⟩
  | true =>
    obtain ⟨⟨e0, hn1, hn2⟩, hf0⟩ := hb1 rfl
    have HF0 := Lib.hid hf0
    clear hf0 hb1 hb2
    rcases hq0 with ⟨rfl, rfl, e1⟩ | ⟨rfl, e1⟩
    · clear HRF
      go_enter Try.func6, Try.ntmps6
      go_wp2_with fail
      refine (H1.out _).mono ?_
      rintro e w' ⟨rfl, rfl⟩
      go_wp2_with fail
      refine (H2.out _).mono ?_
      rintro e w' ⟨rfl, hb9⟩
      replace hb0 := on hb0 hb9
      clear hb9
      go_wp2_with fail
      refine (H3.out _).mono ?_
      rintro e w' ⟨rfl, hb9⟩
      replace hb0 := on hb0 hb9
      clear hb9
      go_wp2_with fail
      refine (H4.out _).mono ?_
      rintro e w' ⟨rfl, hb9⟩
      replace hb0 := on hb0 hb9
      clear hb9
      go_wp2_with fail
      refine (HFI.out _).mono ?_
      rintro e w' ⟨rfl, hb9⟩
      replace hb0 := on hb0 hb9
      clear hb9
      go_wp2_with fail
      refine (HP.out _).mono ?_
      rintro e wp ⟨vv, rfl, hv, hb9⟩
      obtain ⟨A, cap, rfl, hA, hcap⟩ := OwnS.strs hv c HC.out
      have HA := Lib.hid hA
      replace hb0 := on hb0 hb9
      clear hb9 hv hA HP
      go_wp2_with fail
      go_loopw [9, 11, 70] (fun z _ i wr => ∃ (k : Nat), k ≤ c ∧ i = .int .i64 k ∧ z = .bool (wholeB (L.take k)) ∧ wp = wr) (fun _ _ i _ => c - (intOf i).toNat)
      case atStart => exact ⟨0, Nat.zero_le _, rfl, rfl, rfl⟩
      case round =>
        obtain ⟨k, hk, rfl, rfl, rfl⟩ := hrel
        by_cases hlt : k < c
        · obtain ⟨p, hp⟩ : ∃ p, L[k]? = some p := ⟨_, List.getElem?_eq_getElem (by rw [HC.out]; exact hlt)⟩
          have hne : L ≠ [] := by intro e; have := HC.out; rw [e] at this; simp at this; omega
          obtain ⟨g, rfl, hg, hc1⟩ := HA.out.resolve_left hne
          have hpw := HW.out p (List.mem_of_getElem? hp)
          have hcell := hc1 k p hp
          have hys : (⟨p.toArray⟩ : ByteArray).size = p.length := by rw [ByteArray.size, List.size_toArray]
          have hyl : (⟨p.toArray⟩ : ByteArray).data.toList = p := rfl
          have HN := Lib.hid (whole_snoc hp)
          have hlen := List.length_pos_iff.2 hpw.1
          have hp9 := hpw.2
          clear hc1 hp hne hpw
          generalize (⟨p.toArray⟩ : ByteArray) = y at *
          have hpos : 0 < y.size := by omega
          obtain ⟨x, hx⟩ : ∃ x : UInt8, y[0]'hpos = x := ⟨_, rfl⟩
          have hat : atN p 0 = x.toNat := by rw [← hyl, at_byte y 0 hpos, hx]
          have HWB : Hid (wellB p = (decide (1 < y.size) || decide (x.toNat < 128))) := Lib.hid (by rw [wellB, hat, hys])
          have hy9 : y.size ≤ 1000000 := by omega
          clear hat hyl hys hlen hp9
          obtain ⟨z, hz⟩ : ∃ z, wholeB (L.take k) = z := ⟨_, rfl⟩
          have HZ := Lib.hid hz
          rw [hz]
          clear hz
          by_cases h1 : 1 < y.size
          · have e1 : decide ((1 : Int) < (y.size : Int)) = true := decide_eq_true (by omega)
            have HE : Hid (wholeB (L.take (k + 1)) = z) := Lib.hid (by rw [HN.out, HWB.out, HZ.out, decide_eq_true h1]; simp)
            cases z
            all_goals
              go_wp2
              go_roundw
              case rel => exact ⟨k + 1, by omega, by go_num, by rw [HE.out], by first | rfl | trivial⟩
              case measure => simp [intOf]; omega
          · have e1 : decide ((1 : Int) < (y.size : Int)) = false := decide_eq_false (by omega)
            obtain ⟨u, hu⟩ : ∃ u, decide (x.toNat < 128) = u := ⟨_, rfl⟩
            have hu2 : decide ((x.toNat : Int) < 128) = u := by rw [← hu]; simp; omega
            have HE : Hid (wholeB (L.take (k + 1)) = (z && u)) := Lib.hid (by rw [HN.out, HWB.out, HZ.out, decide_eq_false h1, hu]; simp)
            clear hu
            cases z <;> cases u
            all_goals
              go_wp2
              go_roundw
              case rel => exact ⟨k + 1, by omega, by go_num, by rw [HE.out]; rfl, by first | rfl | trivial⟩
              case measure => simp [intOf]; omega
        · obtain rfl : k = c := by omega
          have hwl : wholeB (L.take k) = wholeB L := by rw [List.take_of_length_le (by rw [HC.out]; exact Nat.le_refl _)]
          rw [hwl]
          obtain ⟨z, hz⟩ : ∃ z, wholeB L = z := ⟨_, rfl⟩
          rw [hz]
          have HZ := Lib.hid hz
          clear hz hwl
          cases z with
          | false =>
            go_wp2_with fail
            refine (HF0.out _).mono ?_
            rintro e w5 ⟨rfl, hb9⟩
            replace hb0 := on hb0 hb9
            clear hb9
            go_wp2_with fail
            refine (HV.out _).mono ?_
            rintro e w8 ⟨rfl, hb9⟩
            replace hb0 := on hb0 hb9
            clear hb9
            go_wp2
            go_ret
            exact ⟨rfl, hb0⟩
          | true =>
            go_wp2_with fail
            refine (HF0.out _).mono ?_
            rintro e w5 ⟨rfl, hb9⟩
            replace hb0 := on hb0 hb9
            clear hb9
            go_wp2_with fail
            refine (H3.out _).mono ?_
            rintro e w6 ⟨rfl, hb9⟩
            replace hb0 := on hb0 hb9
            clear hb9
            go_wp2_with fail
            refine (H5.out HZ.out _).mono ?_
            rintro e w7 ⟨rfl, hb9⟩
            replace hb0 := on hb0 hb9
            clear hb9
            go_wp2_with fail
            refine (HV.out _).mono ?_
            rintro e w8 ⟨rfl, hb9⟩
            replace hb0 := on hb0 hb9
            clear hb9
            go_wp2
            go_ret
            exact ⟨rfl, hb0⟩
    · have HRF2 := Lib.hid (HRF.out rfl)
      clear HRF
      go_enter Try.func6, Try.ntmps6
      go_wp2_with fail
      refine (H1.out _).mono ?_
      rintro e w' ⟨rfl, rfl⟩
      go_wp2_with fail
      refine (H2.out _).mono ?_
      rintro e w' ⟨rfl, hb9⟩
      replace hb0 := on hb0 hb9
      clear hb9
      go_wp2_with fail
      refine (H3.out _).mono ?_
      rintro e w' ⟨rfl, hb9⟩
      replace hb0 := on hb0 hb9
      clear hb9
      go_wp2_with fail
      refine (H4.out _).mono ?_
      rintro e w' ⟨rfl, hb9⟩
      replace hb0 := on hb0 hb9
      clear hb9
      go_wp2_with fail
      refine (HFI.out _).mono ?_
      rintro e w' ⟨rfl, hb9⟩
      replace hb0 := on hb0 hb9
      clear hb9
      go_wp2_with fail
      refine (HRF2.out _).mono ?_
      rintro e w' ⟨rfl, rfl⟩
      go_wp2_with fail
      refine (HP.out _).mono ?_
      rintro e wp ⟨vv, rfl, hv, hb9⟩
      obtain ⟨A, cap, rfl, hA, hcap⟩ := OwnS.strs hv c HC.out
      have HA := Lib.hid hA
      replace hb0 := on hb0 hb9
      clear hb9 hv hA HP
      go_wp2_with fail
      go_loopw [9, 11, 70] (fun z _ i wr => ∃ (k : Nat), k ≤ c ∧ i = .int .i64 k ∧ z = .bool (wholeB (L.take k)) ∧ wp = wr) (fun _ _ i _ => c - (intOf i).toNat)
      case atStart => exact ⟨0, Nat.zero_le _, rfl, rfl, rfl⟩
      case round =>
        obtain ⟨k, hk, rfl, rfl, rfl⟩ := hrel
        by_cases hlt : k < c
        · obtain ⟨p, hp⟩ : ∃ p, L[k]? = some p := ⟨_, List.getElem?_eq_getElem (by rw [HC.out]; exact hlt)⟩
          have hne : L ≠ [] := by intro e; have := HC.out; rw [e] at this; simp at this; omega
          obtain ⟨g, rfl, hg, hc1⟩ := HA.out.resolve_left hne
          have hpw := HW.out p (List.mem_of_getElem? hp)
          have hcell := hc1 k p hp
          have hys : (⟨p.toArray⟩ : ByteArray).size = p.length := by rw [ByteArray.size, List.size_toArray]
          have hyl : (⟨p.toArray⟩ : ByteArray).data.toList = p := rfl
          have HN := Lib.hid (whole_snoc hp)
          have hlen := List.length_pos_iff.2 hpw.1
          have hp9 := hpw.2
          clear hc1 hp hne hpw
          generalize (⟨p.toArray⟩ : ByteArray) = y at *
          have hpos : 0 < y.size := by omega
          obtain ⟨x, hx⟩ : ∃ x : UInt8, y[0]'hpos = x := ⟨_, rfl⟩
          have hat : atN p 0 = x.toNat := by rw [← hyl, at_byte y 0 hpos, hx]
          have HWB : Hid (wellB p = (decide (1 < y.size) || decide (x.toNat < 128))) := Lib.hid (by rw [wellB, hat, hys])
          have hy9 : y.size ≤ 1000000 := by omega
          clear hat hyl hys hlen hp9
          obtain ⟨z, hz⟩ : ∃ z, wholeB (L.take k) = z := ⟨_, rfl⟩
          have HZ := Lib.hid hz
          rw [hz]
          clear hz
          by_cases h1 : 1 < y.size
          · have e1 : decide ((1 : Int) < (y.size : Int)) = true := decide_eq_true (by omega)
            have HE : Hid (wholeB (L.take (k + 1)) = z) := Lib.hid (by rw [HN.out, HWB.out, HZ.out, decide_eq_true h1]; simp)
            cases z
            all_goals
              go_wp2
              go_roundw
              case rel => exact ⟨k + 1, by omega, by go_num, by rw [HE.out], by first | rfl | trivial⟩
              case measure => simp [intOf]; omega
          · have e1 : decide ((1 : Int) < (y.size : Int)) = false := decide_eq_false (by omega)
            obtain ⟨u, hu⟩ : ∃ u, decide (x.toNat < 128) = u := ⟨_, rfl⟩
            have hu2 : decide ((x.toNat : Int) < 128) = u := by rw [← hu]; simp; omega
            have HE : Hid (wholeB (L.take (k + 1)) = (z && u)) := Lib.hid (by rw [HN.out, HWB.out, HZ.out, decide_eq_false h1, hu]; simp)
            clear hu
            cases z <;> cases u
            all_goals
              go_wp2
              go_roundw
              case rel => exact ⟨k + 1, by omega, by go_num, by rw [HE.out]; rfl, by first | rfl | trivial⟩
              case measure => simp [intOf]; omega
        · obtain rfl : k = c := by omega
          have hwl : wholeB (L.take k) = wholeB L := by rw [List.take_of_length_le (by rw [HC.out]; exact Nat.le_refl _)]
          rw [hwl]
          obtain ⟨z, hz⟩ : ∃ z, wholeB L = z := ⟨_, rfl⟩
          rw [hz]
          have HZ := Lib.hid hz
          clear hz hwl
          cases z with
          | false =>
            go_wp2_with fail
            refine (HF0.out _).mono ?_
            rintro e w5 ⟨rfl, hb9⟩
            replace hb0 := on hb0 hb9
            clear hb9
            go_wp2_with fail
            refine (HV.out _).mono ?_
            rintro e w8 ⟨rfl, hb9⟩
            replace hb0 := on hb0 hb9
            clear hb9
            go_wp2
            go_ret
            exact ⟨rfl, hb0⟩
          | true =>
            go_wp2_with fail
            refine (HF0.out _).mono ?_
            rintro e w5 ⟨rfl, hb9⟩
            replace hb0 := on hb0 hb9
            clear hb9
            go_wp2_with fail
            refine (H3.out _).mono ?_
            rintro e w6 ⟨rfl, hb9⟩
            replace hb0 := on hb0 hb9
            clear hb9
            go_wp2_with fail
            refine (H5.out HZ.out _).mono ?_
            rintro e w7 ⟨rfl, hb9⟩
            replace hb0 := on hb0 hb9
            clear hb9
            go_wp2_with fail
            refine (HV.out _).mono ?_
            rintro e w8 ⟨rfl, hb9⟩
            replace hb0 := on hb0 hb9
            clear hb9
            go_wp2
            go_ret
            exact ⟨rfl, hb0⟩
end Go.Proofs.Ytkbibkadofeamaa.Run

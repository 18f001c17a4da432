/- The law RunesSplit: what is left and right of a place are together the text. -/
import Derived.Test.YtkbibkadofeamaaRunAlive
namespace Go.Proofs.Ytkbibkadofeamaa.Run
open Go.RowKit Kit Reg

theorem split_cat (l : List UInt8) (k c : Nat) (hc : (ps l).length = c) (hk : k ≤ c) : leftL l k ++ rightL l (c - k) = l ∧ (ps (leftL l k)).length = k ∧ (ps (rightL l (c - k))).length = c - k ∧ midL l (k : Int) (c : Int) = rightL l (c - k) := by
  have e : (ps l).length - (c - k) = k := by omega
  unfold rightL
  rw [e]
  refine ⟨List.take_append_drop _ _, ?_, ?_, ?_⟩
  · rw [leftL, ps_take, List.length_take]; omega
  · rw [ps_drop, List.length_drop, hc]
  · rw [midL, if_neg (by omega), Int.toNat_natCast, Int.toNat_natCast, leftL, off_end (by rw [ps_drop, List.length_drop]; omega), List.take_length]
set_option maxRecDepth 100000 in
set_option maxHeartbeats 4000000 in
theorem split_law (s : ByteArray) (n : Int) (w : World) :
    Calls Try.prog 4 #[.string s, .int .i64 n] w fun e w' => e = .returned (.bool true) ∧ Below w.heap.size w w' := by
  have HV := Lib.hid alive_c
  by_cases hsz : 600 < s.size
  · have d1 : decide ((600 : Int) < (s.size : Int)) = true := decide_eq_true (by omega)
    go_enter Try.func4, Try.ntmps4
    go_wp2_with fail
    refine (HV.out _).mono ?_
    rintro e w1 ⟨rfl, hb1⟩
    go_wp2
    go_ret
    exact ⟨rfl, hb1⟩
  · have d1 : decide ((600 : Int) < (s.size : Int)) = false := decide_eq_false (by omega)
    have h9 : s.size ≤ 1000000 := by omega
    obtain ⟨l, hs⟩ : ∃ l, s.data.toList = l := ⟨_, rfl⟩
    have hl := len_of hs
    have hpl := ps_len l
    obtain ⟨c, hc⟩ : ∃ c, (ps l).length = c := ⟨_, rfl⟩
    rw [hc] at hpl
    obtain ⟨k, j, hw, hk, hj⟩ : ∃ k j : Nat, ((n < 0 ∧ k = 0 ∧ j = c) ∨ (¬ n < 0 ∧ ¬ (c : Int) < n ∧ n = k) ∨ (¬ n < 0 ∧ (c : Int) < n ∧ k = c ∧ j = 0)) ∧ k ≤ c ∧ j + k = c := by
      by_cases h1 : n < 0
      · exact ⟨0, c, .inl ⟨h1, rfl, rfl⟩, by omega, by omega⟩
      · by_cases h2 : (c : Int) < n
        · exact ⟨c, 0, .inr (.inr ⟨h1, h2, rfl, rfl⟩), by omega, by omega⟩
        · exact ⟨n.toNat, c - n.toNat, .inr (.inl ⟨h1, h2, by omega⟩), by omega, by omega⟩
    obtain ⟨hcat, hcl, hcr, hmid⟩ := split_cat l k c hc hk
    have hj2 : c - k = j := by omega
    rw [hj2] at hcat hcr hmid
    obtain ⟨x1, hx1⟩ : ∃ x : ByteArray, x = ⟨(leftL l k).toArray⟩ := ⟨_, rfl⟩
    obtain ⟨x2, hx2⟩ : ∃ x : ByteArray, x = ⟨(rightL l j).toArray⟩ := ⟨_, rfl⟩
    have hx1l : x1.data.toList = leftL l k := by rw [hx1]
    have hx2l : x2.data.toList = rightL l j := by rw [hx2]
    have hsum : x1 ++ x2 = s := bytes_eq (by rw [hs, ← hcat, ← hx1l, ← hx2l]; simp)
    have hsize : x1.size + x2.size = s.size := by rw [← hsum, ByteArray.size_append]
    have h91 : x1.size ≤ 1000000 := by omega
    have h92 : x2.size ≤ 1000000 := by omega
    have HC := Lib.hid (fun w => count_c s l hs h9 c hc w)
    have HL : Hid (∀ w, Calls Try.prog 10 #[.string s, .int .i64 k] w fun e w' => e = .returned (.string x1) ∧ Below w.heap.size w w') := Lib.hid fun w => (left_c s l hs h9 k (by omega) w).mono fun e w' ⟨t, h1, h2, h3⟩ => ⟨by rw [h1, str_is h2, hx1, Int.toNat_natCast], h3⟩
    have HR : Hid (∀ w, Calls Try.prog 12 #[.string s, .int .i64 j] w fun e w' => e = .returned (.string x2) ∧ Below w.heap.size w w') := Lib.hid fun w => (right_c s l hs h9 j (by omega) (by omega) w).mono fun e w' ⟨t, h1, h2, h3⟩ => ⟨by rw [h1, str_is h2, hx2, Int.toNat_natCast], h3⟩
    have HC1 := Lib.hid (fun w => count_c x1 _ hx1l h91 k hcl w)
    have HC2 := Lib.hid (fun w => count_c x2 _ hx2l h92 j hcr w)
    have HM : Hid (∀ w, Calls Try.prog 14 #[.string s, .int .i64 k, .int .i64 c] w fun e w' => e = .returned (.string x2) ∧ Below w.heap.size w w') := Lib.hid fun w => (mid_c s l hs h9 k c (by omega) (by omega) w).mono fun e w' ⟨t, h1, h2, h3⟩ => ⟨by rw [h1, str_is h2, hx2, hmid], h3⟩
    have hjc : (c : Int) - (k : Int) = (j : Int) := by omega
    have hb0 := Below.refl w.heap.size w
    have hk9 : k ≤ 1000000 := by omega
    have hc9 : c ≤ 1000000 := by omega
    clear hcat hcl hcr hmid hx1 hx2 hx1l hx2l hs hl hpl hc hj hj2 hk hsz
    rcases hw with ⟨g1, rfl, rfl⟩ | ⟨g1, g2, rfl⟩ | ⟨g1, g2, rfl, rfl⟩
    all_goals
      go_enter Try.func4, Try.ntmps4
      go_wp2_with fail
      refine (HC.out _).mono ?_
      rintro e w1 ⟨rfl, hb1⟩
      replace hb0 := on hb0 hb1
      clear hb1
      go_wp2_with fail
      refine (HL.out _).mono ?_
      rintro e w2 ⟨rfl, hb1⟩
      replace hb0 := on hb0 hb1
      clear hb1
      go_wp2_with fail
      refine (HR.out _).mono ?_
      rintro e w3 ⟨rfl, hb1⟩
      replace hb0 := on hb0 hb1
      clear hb1
      go_wp2_with fail
      refine (HC1.out _).mono ?_
      rintro e w4 ⟨rfl, hb1⟩
      replace hb0 := on hb0 hb1
      clear hb1
      go_wp2_with fail
      refine (HC2.out _).mono ?_
      rintro e w5 ⟨rfl, hb1⟩
      replace hb0 := on hb0 hb1
      clear hb1
      go_wp2_with fail
      refine (HM.out _).mono ?_
      rintro e w6 ⟨rfl, hb1⟩
      replace hb0 := on hb0 hb1
      clear hb1
      go_wp2_with fail
      refine (HV.out _).mono ?_
      rintro e w7 ⟨rfl, hb1⟩
      replace hb0 := on hb0 hb1
      clear hb1
      go_wp2
      go_ret
      exact ⟨rfl, hb0⟩
end Go.Proofs.Ytkbibkadofeamaa.Run

/- What the reference's down and times answer. -/
import Derived.Test.YtckcoogmfgegeaaDoorRndMod
import Derived.Test.YtckcoogmfgegeaaDoorDecRefScale
namespace Go.Proofs.YtckcoogmfgegeaaDoor.Rnd
open Go.RowKit Kit Dec Reg

theorem scaled_one {q s : Int} (q1 : -9223372036854775807 ≤ q) (s1 : 0 < s) : scaledD q s 1 = giveD true (q * s) := by
  rw [scaledD_may q1 (by omega) (by omega) (by omega)]
  have hr : ∀ n : Nat, roundN n (Int.natAbs 1) = n := by
    intro n
    have h1 : Int.natAbs 1 = 1 := rfl
    unfold roundN
    rw [h1, Nat.mod_one, Nat.div_one]
    rfl
  rw [hr]
  congr 1
  have hm := Int.natAbs_mul q s
  rw [← hm]
  unfold negs signed
  rw [decide_eq_false (p := s < 0) (by omega)]
  by_cases h : q < 0
  · have hneg := Int.mul_neg_of_neg_of_pos h s1
    rw [decide_eq_true h]
    generalize q * s = p at *
    simp
    omega
  · have hpos := Int.mul_nonneg (show 0 ≤ q by omega) (show 0 ≤ s by omega)
    rw [decide_eq_false h]
    generalize q * s = p at *
    simp
    omega
set_option maxRecDepth 100000 in
set_option maxHeartbeats 400000 in
theorem down_c (x s q l : Int) (x1 : -9223372036854775807 ≤ x) (x2 : x ≤ 9223372036854775807) (s1 : 0 < s) (s2 : s ≤ 9223372036854775807) (h : Fl x s q l) (w : World) :
    Calls Tryd.prog 83 #[.int .i64 x, .int .i64 s] w fun e w' => e = .returned (.int .i64 q) ∧ w = w' := by
  have hz : ¬ s = 0 := by omega
  have hz2 : (s == 0) = false := by simpa using hz
  obtain ⟨⟨t1, t2⟩, _, _⟩ := cut_any hz x1 x2
  obtain ⟨h1, h2, h3⟩ := h.cut s1
  have heq := h.eq
  have l0 := h.l0
  have ls := h.ls
  obtain ⟨d, ht⟩ : ∃ d, x.tdiv s = d := ⟨_, rfl⟩
  rw [ht] at t1 t2 h1 h2 h3
  by_cases hx : x < 0
  · obtain ⟨p, hp⟩ : ∃ p, d * s = p := ⟨_, rfl⟩
    by_cases hl : l = 0
    · obtain ⟨rfl, _⟩ := h2 hx hl
      obtain rfl : p = x := by omega
      clear h1 h2 h3 heq h
      go_enter Tryd.func83, Tryd.ntmps83
      go_wp2
      go_ret
      exact ⟨rfl, rfl⟩
    · obtain ⟨hd, _⟩ := h3 hx (by omega)
      have hps : p = x - l + s := by rw [← hp, hd, Int.add_mul, Int.one_mul]; omega
      have hne : (p == x) = false := by simp; omega
      have hne2 : ¬ p = x := by omega
      have p1 : -9223372036854775808 ≤ p := by omega
      have p2 : p ≤ 9223372036854775807 := by omega
      obtain rfl : q = d - 1 := by omega
      have d1 : -9223372036854775807 ≤ d - 1 := by
        by_cases hs1 : s = 1
        · omega
        · have := Int.natAbs_tdiv x s
          have h5 : x.natAbs / s.natAbs ≤ x.natAbs / 2 := Nat.div_le_div_left (by omega) (by omega)
          have h6 : (x.tdiv s).natAbs ≤ x.natAbs / 2 := by rw [this]; exact h5
          rw [ht] at h6
          omega
      clear h1 h2 h3 heq h hd hps l0 ls hl
      go_enter Tryd.func83, Tryd.ntmps83
      go_wp2
      go_ret
      exact ⟨rfl, rfl⟩
  · obtain ⟨rfl, _⟩ := h1 (by omega)
    clear h1 h2 h3 heq h l0 ls
    go_enter Tryd.func83, Tryd.ntmps83
    go_wp2
    go_ret
    exact ⟨rfl, rfl⟩
set_option maxRecDepth 100000 in
set_option maxHeartbeats 400000 in
theorem times_c (q s : Int) (q2 : q ≤ 9223372036854775807) (s2 : s ≤ 9223372036854775807) (n : Int) (k : Bool) (hn : scaledD q s 1 = (n, k)) (w : World) :
    Calls Tryd.prog 84 #[.int .i64 q, .int .i64 s] w (GotIs n k w) := by
  have S := Lib.hid (fun w1 => rscaled_c q s 1 q2 s2 (by omega) n k hn w1)
  clear hn
  go_enter Tryd.func84, Tryd.ntmps84
  go_wp2_with fail
  refine (S.out _).mono ?_
  rintro e w1 ⟨rfl, hb1⟩
  obtain ⟨hc, hw⟩ := slot (cs := [.int .i64 0, .bool false]) (ty := 42) hb1
  obtain ⟨p0, p1, f0, f1⟩ := hc.two
  obtain ⟨e0, e1⟩ := two_set (u := .int .i64 n) (v := .bool k) p0 p1
  have hw3 := Lib.hid hw
  replace e0 := Lib.hid e0
  replace e1 := Lib.hid e1
  have hlt := hc.1
  clear hb1 hc hw
  go_wp2_with fail
  exact bodyPost_ret (v := .agg #[.int .i64 n, .bool k]) (by simp [results, Tryd.results84, go_sem, e0.out, e1.out]) rfl ⟨rfl, set2 hw3.out (Nat.le_refl _) _ _⟩
end Go.Proofs.YtckcoogmfgegeaaDoor.Rnd

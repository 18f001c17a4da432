/- What the reference's Places, Mod, Quot answer. -/
import Derived.Test.YtckcoogmfgegeaaDoorRndRStep
namespace Go.Proofs.YtckcoogmfgegeaaDoor.Rnd
open Go.RowKit Kit Dec Reg

set_option maxRecDepth 100000 in
set_option maxHeartbeats 400000 in
theorem rplaces_low (x p m : Int) (h : p < -14) (w : World) : Calls Tryd.prog 36 #[.int .i64 x, .int .i64 p, .int .i64 m] w (GotIs 0 false w) := by
  go_enter Tryd.func36, Tryd.ntmps36
  go_wp2
  exact bodyPost_ret (v := .agg #[.int .i64 0, .bool false]) (by simp [results, Tryd.results36, go_sem]) rfl ⟨rfl, below1 _ _⟩
set_option maxRecDepth 100000 in
set_option maxHeartbeats 400000 in
theorem rplaces_some (x p m : Int) (x2 : x ≤ 9223372036854775807) (h : -14 ≤ p) (p2 : p ≤ 9223372036854775807) (n : Int) (k : Bool) (hn : stepD x ((10 ^ (4 - p).toNat : Nat) : Int) m = (n, k)) (w : World) :
    Calls Tryd.prog 36 #[.int .i64 x, .int .i64 p, .int .i64 m] w (GotIs n k w) := by
  obtain ⟨c, hc⟩ : ∃ c, (4 - p).toNat = c := ⟨_, rfl⟩
  have hc18 : c ≤ 18 := by omega
  rw [hc] at hn
  obtain ⟨Q, hQ⟩ : ∃ Q, TenAt c Q := ⟨_, rfl⟩
  have S := Lib.hid (fun w1 => rstep_c x Q m x2 (by have := (hQ.room hc18).2; omega) n k (by rw [show Q = 10 ^ c from hQ]; exact hn) w1)
  replace hQ := Lib.hid hQ
  clear hn
  have H0 : Hid (TenAt 0 1) := Lib.hid rfl
  go_enter Tryd.func36, Tryd.ntmps36
  go_wp2
  go_loop [1, 7] (fun i q => ∃ j r : Nat, j ≤ c ∧ i = .int .i64 (p + j) ∧ Hid (TenAt j r) ∧ q = .int .i64 r) (fun i _ => c - (intOf i - p).toNat)
  case atStart => exact ⟨0, 1, by omega, by simp, H0, rfl⟩
  case round =>
    clear H0
    obtain ⟨j, r, hj, rfl, hr, rfl⟩ := hrel
    by_cases hlt : j < c
    · obtain ⟨r0, r1⟩ := hr.out.room (by omega)
      have r2 := (hr.out.next).room (by omega)
      have hn2 := Lib.hid hr.out.next
      have ht : decide (p + (j : Int) < 4) = true := decide_eq_true (by omega)
      go_wp2
      exact ⟨⟨j + 1, r * 10, by omega, by go_num, hn2, by go_num⟩, by simp [intOf]; omega⟩
    · obtain rfl : j = c := by omega
      obtain rfl : r = Q := by rw [show r = 10 ^ j from hr.out, show Q = 10 ^ j from hQ.out]
      obtain ⟨r0, r1⟩ := hr.out.room hc18
      have ht : decide (p + (j : Int) < 4) = false := decide_eq_false (by omega)
      go_wp2_with fail
      refine (S.out _).mono ?_
      rintro e w1 ⟨rfl, hb1⟩
      obtain ⟨hc2, hw⟩ := slot (cs := [.int .i64 0, .bool false]) (ty := 42) hb1
      obtain ⟨p0, p1, f0, f1⟩ := hc2.two
      obtain ⟨e0, e1⟩ := two_set (u := .int .i64 n) (v := .bool k) p0 p1
      have hw3 := Lib.hid hw
      replace e0 := Lib.hid e0
      replace e1 := Lib.hid e1
      have hlt2 := hc2.1
      clear hb1 hc2 hw
      go_wp2_with fail
      exact bodyPost_ret (v := .agg #[.int .i64 n, .bool k]) (by simp [results, Tryd.results36, go_sem, e0.out, e1.out]) rfl ⟨rfl, set2 hw3.out (Nat.le_refl _) _ _⟩
theorem rplaces_c (x p m : Int) (x2 : x ≤ 9223372036854775807) (p2 : p ≤ 9223372036854775807) (n : Int) (k : Bool) (hn : placesD x p m = (n, k)) (w : World) :
    Calls Tryd.prog 36 #[.int .i64 x, .int .i64 p, .int .i64 m] w (GotIs n k w) := by
  unfold placesD at hn
  by_cases h : p < -14
  · rw [if_pos h] at hn
    obtain ⟨rfl, rfl⟩ := Prod.mk.inj hn
    exact rplaces_low x p m h w
  · rw [if_neg h] at hn
    exact rplaces_some x p m x2 (by omega) p2 n k hn w

end Go.Proofs.YtckcoogmfgegeaaDoor.Rnd

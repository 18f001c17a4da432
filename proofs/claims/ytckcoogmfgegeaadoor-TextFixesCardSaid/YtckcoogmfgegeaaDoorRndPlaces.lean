/- What package round's Places answers: for every number of 64 bits. -/
import Derived.Test.YtckcoogmfgegeaaDoorRndGo
namespace Go.Proofs.YtckcoogmfgegeaaDoor.Rnd
open Go.RowKit Kit Dec

/-- rounded to so many places -/
def placesD (x p m : Int) : Int × Bool := if p < -14 then (0, false) else stepD x ((10 ^ (4 - p).toNat : Nat) : Int) m
def TenAt (k q : Nat) : Prop := q = 10 ^ k
theorem TenAt.next {k q : Nat} (h : TenAt k q) : TenAt (k + 1) (q * 10) := by unfold TenAt at *; rw [h, Nat.pow_succ]
theorem TenAt.room {k q : Nat} (h : TenAt k q) (hk : k ≤ 18) : 0 < q ∧ q ≤ 1000000000000000000 := by
  rw [h]
  exact ⟨Nat.pow_pos (by omega), Nat.le_trans (Nat.pow_le_pow_right (by omega) hk) (by decide)⟩
set_option maxRecDepth 100000 in
set_option maxHeartbeats 400000 in
theorem places_low (x p m : Int) (h : p < -14) (w : World) : Calls Tryd.prog 33 #[.int .i64 x, .int .i64 p, .int .i64 m] w (Two 0 false w) := by
  go_enter Tryd.func33, Tryd.ntmps33
  go_wp2
  go_ret2
  exact ⟨rfl, rfl⟩
set_option maxRecDepth 100000 in
set_option maxHeartbeats 400000 in
theorem places_some (x p m : Int) (x2 : x ≤ 9223372036854775807) (h : -14 ≤ p) (p2 : p ≤ 9223372036854775807) (n : Int) (k : Bool) (hn : stepD x ((10 ^ (4 - p).toNat : Nat) : Int) m = (n, k)) (w : World) :
    Calls Tryd.prog 33 #[.int .i64 x, .int .i64 p, .int .i64 m] w (Two n k w) := by
  obtain ⟨c, hc⟩ : ∃ c, (4 - p).toNat = c := ⟨_, rfl⟩
  have hc18 : c ≤ 18 := by omega
  have hmin : (4 : Int) - min p 4 = (c : Int) := by omega
  rw [hc] at hn
  obtain ⟨Q, hQ⟩ : ∃ Q, TenAt c Q := ⟨_, rfl⟩
  have S := Lib.hid (fun w1 => step_c x Q m x2 (by have := (hQ.room hc18).2; omega) n k (by rw [show Q = 10 ^ c from hQ]; exact hn) w1)
  replace hQ := Lib.hid hQ
  clear hn
  have H0 : Hid (TenAt 0 1) := Lib.hid rfl
  go_enter Tryd.func33, Tryd.ntmps33
  go_wp2
  go_loop [8, 14] (fun q i => ∃ j r : Nat, j ≤ c ∧ i = .int .i64 j ∧ Hid (TenAt j r) ∧ q = .int .i64 r) (fun _ i => c - (intOf i).toNat)
  case atStart => exact ⟨0, 1, by omega, rfl, H0, rfl⟩
  case round =>
    clear H0
    obtain ⟨j, r, hj, rfl, hr, rfl⟩ := hrel
    by_cases hlt : j < c
    · obtain ⟨r0, r1⟩ := hr.out.room (by omega)
      have r2 := (hr.out.next).room (by omega)
      have hn2 := Lib.hid hr.out.next
      go_wp2
      exact ⟨⟨j + 1, r * 10, by omega, by go_num, hn2, by go_num⟩, by simp [intOf]; omega⟩
    · obtain rfl : j = c := by omega
      obtain rfl : r = Q := by rw [show r = 10 ^ j from hr.out, show Q = 10 ^ j from hQ.out]
      obtain ⟨r0, r1⟩ := hr.out.room hc18
      go_wp2_with (go_at_call 53; refine (S.out _).mono ?_; rintro e w' ⟨rfl, rfl⟩)
      go_ret2
      exact ⟨rfl, rfl⟩
theorem places_c (x p m : Int) (x2 : x ≤ 9223372036854775807) (p2 : p ≤ 9223372036854775807) (n : Int) (k : Bool) (hn : placesD x p m = (n, k)) (w : World) :
    Calls Tryd.prog 33 #[.int .i64 x, .int .i64 p, .int .i64 m] w (Two n k w) := by
  unfold placesD at hn
  by_cases h : p < -14
  · rw [if_pos h] at hn
    obtain ⟨rfl, rfl⟩ := Prod.mk.inj hn
    exact places_low x p m h w
  · rw [if_neg h] at hn
    exact places_some x p m x2 (by omega) p2 n k hn w
end Go.Proofs.YtckcoogmfgegeaaDoor.Rnd

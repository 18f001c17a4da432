/- What package round's small functions answer: signed, size, onward: for every number of 64 bits that comes to them. -/
import Derived.Test.YtckcoogmfgegeaaDoorRndMath
namespace Go.Proofs.YtckcoogmfgegeaaDoor.Rnd
open Go.RowKit Kit Dec

theorem signD_is (x : Int) : signD x = -1 ∨ signD x = 0 ∨ signD x = 1 := by
  unfold signD
  split
  · simp
  · split
    · simp
    · split <;> simp
theorem sign_self {x : Int} (h : -9223372036854775807 ≤ x) : x * signD x = (x.natAbs : Int) := by
  unfold signD
  rw [if_neg (by omega)]
  split
  · omega
  · split
    · omega
    · omega
set_option maxRecDepth 100000 in
set_option maxHeartbeats 400000 in
theorem signed_c (x y : Int) (h1 : -9223372036854775807 ≤ x) (h2 : x ≤ 9223372036854775807) (n : Int) (hn : x * signD y = n) (w : World) : Calls Tryd.prog 77 #[.int .i64 x, .int .i64 y] w fun e w' => e = .returned (.int .i64 n) ∧ w = w' := by
  subst hn
  obtain ⟨s, hs⟩ : ∃ s, signD y = s := ⟨_, rfl⟩
  have S := Lib.hid (fun w1 => sign_c y s hs w1)
  have hi := signD_is y
  rw [hs] at hi ⊢
  clear hs
  rcases hi with rfl | rfl | rfl
  · go_enter Tryd.func77, Tryd.ntmps77
    go_wp2_with (go_at_call 95; refine (S.out _).mono ?_; rintro e w' ⟨rfl, rfl⟩)
    go_ret
    exact ⟨ret_i64 (by omega), rfl⟩
  · go_enter Tryd.func77, Tryd.ntmps77
    go_wp2_with (go_at_call 95; refine (S.out _).mono ?_; rintro e w' ⟨rfl, rfl⟩)
    go_ret
    exact ⟨ret_i64 (by omega), rfl⟩
  · go_enter Tryd.func77, Tryd.ntmps77
    go_wp2_with (go_at_call 95; refine (S.out _).mono ?_; rintro e w' ⟨rfl, rfl⟩)
    go_ret
    exact ⟨ret_i64 (by omega), rfl⟩
set_option maxRecDepth 100000 in
set_option maxHeartbeats 400000 in
theorem size_r (x : Int) (h1 : -9223372036854775807 ≤ x) (h2 : x ≤ 9223372036854775807) (n : Nat) (hn : x.natAbs = n) (w : World) : Calls Tryd.prog 94 #[.int .i64 x] w fun e w' => e = .returned (.int .i64 (n : Int)) ∧ w = w' := by
  subst hn
  have S := Lib.hid (fun w1 => signed_c x x h1 h2 _ (sign_self h1) w1)
  go_enter Tryd.func94, Tryd.ntmps94
  go_wp2_with (go_at_call 77; refine (S.out _).mono ?_; rintro e w' ⟨rfl, rfl⟩)
  go_ret
  exact ⟨rfl, rfl⟩
set_option maxRecDepth 100000 in
set_option maxHeartbeats 400000 in
theorem onward_c (r s m : Int) (h1 : -s < r) (h2 : r < s) (hs : s ≤ 9223372036854775807) (m1 : 1 ≤ m) (m2 : m ≤ 5) (b : Bool) (hb : onD r s m = b) (w : World) : Calls Tryd.prog 75 #[.int .i64 r, .int .i64 s, .int .i64 m] w fun e w' => e = .returned (.bool b) ∧ w = w' := by
  unfold onD at hb
  obtain hm | hm | hm | hm | hm : m = 1 ∨ m = 2 ∨ m = 3 ∨ m = 4 ∨ m = 5 := by omega
  all_goals subst hm
  · rw [if_pos rfl] at hb
    obtain ⟨n, hn⟩ : ∃ n, r.natAbs = n := ⟨_, rfl⟩
    have S := Lib.hid (fun w1 => size_r r (by omega) (by omega) n hn w1)
    rw [hn] at hb
    have hl : (n : Int) ≤ s := by omega
    clear hn h1 h2
    go_enter Tryd.func75, Tryd.ntmps75
    go_wp2_with (go_at_call 94; refine (S.out _).mono ?_; rintro e w' ⟨rfl, rfl⟩)
    go_ret
    exact ⟨ret_bool rfl, rfl⟩
  · simp at hb
    subst hb
    go_enter Tryd.func75, Tryd.ntmps75
    go_wp2
    go_ret
    exact ⟨rfl, rfl⟩
  · have hb : decide (r ≠ 0) = b := hb
    have hb2 : (!(r == 0)) = b := by rw [← hb]; by_cases h : r = 0 <;> simp [h]
    have hb3 : (r != 0) = b := hb2
    clear hb
    go_enter Tryd.func75, Tryd.ntmps75
    go_wp2
    go_ret
    exact ⟨rfl, rfl⟩
  · have hb : decide (r < 0) = b := hb
    go_enter Tryd.func75, Tryd.ntmps75
    go_wp2
    go_ret
    exact ⟨rfl, rfl⟩
  · have hb : decide (0 < r) = b := hb
    go_enter Tryd.func75, Tryd.ntmps75
    go_wp2
    go_ret
    exact ⟨rfl, rfl⟩
end Go.Proofs.YtckcoogmfgegeaaDoor.Rnd

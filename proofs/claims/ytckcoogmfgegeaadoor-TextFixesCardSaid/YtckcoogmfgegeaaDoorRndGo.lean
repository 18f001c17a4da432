/- What package round's Step, Int, Even answer: for every number of 64 bits. -/
import Derived.Test.YtckcoogmfgegeaaDoorRndLeaf
namespace Go.Proofs.YtckcoogmfgegeaaDoor.Rnd
open Go.RowKit Kit Dec

set_option maxRecDepth 100000 in
set_option maxHeartbeats 400000 in
theorem step_none (x s m : Int) (h : x < -9223372036854775807 ∨ s ≤ 0 ∨ m < 1 ∨ 5 < m) (w : World) :
    Calls Tryd.prog 53 #[.int .i64 x, .int .i64 s, .int .i64 m] w (Two 0 false w) := by
  by_cases h1 : x < -9223372036854775807
  · have M := Lib.hid (fun w1 => may_c x false (mayD_no h1) w1)
    clear h
    go_enter Tryd.func53, Tryd.ntmps53
    go_wp2_with (go_at_call 55; refine (M.out _).mono ?_; rintro e w' ⟨rfl, rfl⟩)
    go_ret2
    exact ⟨rfl, rfl⟩
  have M := Lib.hid (fun w1 => may_c x true (mayD_yes (by omega)) w1)
  by_cases h2 : s ≤ 0
  · clear h
    go_enter Tryd.func53, Tryd.ntmps53
    go_wp2_with (go_at_call 55; refine (M.out _).mono ?_; rintro e w' ⟨rfl, rfl⟩)
    go_ret2
    exact ⟨rfl, rfl⟩
  by_cases h3 : m < 1
  · clear h
    go_enter Tryd.func53, Tryd.ntmps53
    go_wp2_with (go_at_call 55; refine (M.out _).mono ?_; rintro e w' ⟨rfl, rfl⟩)
    go_ret2
    exact ⟨rfl, rfl⟩
  have h4 : 5 < m := by omega
  clear h
  go_enter Tryd.func53, Tryd.ntmps53
  go_wp2_with (go_at_call 55; refine (M.out _).mono ?_; rintro e w' ⟨rfl, rfl⟩)
  go_ret2
  exact ⟨rfl, rfl⟩
set_option maxRecDepth 100000 in
set_option maxHeartbeats 400000 in
theorem step_may (x s m : Int) (x1 : -9223372036854775807 ≤ x) (x2 : x ≤ 9223372036854775807) (s1 : 0 < s) (s2 : s ≤ 9223372036854775807) (m1 : 1 ≤ m) (m2 : m ≤ 5) (n : Int) (k : Bool) (hn : stepD x s m = (n, k)) (w : World) :
    Calls Tryd.prog 53 #[.int .i64 x, .int .i64 s, .int .i64 m] w (Two n k w) := by
  have M := Lib.hid (fun w1 => may_c x true (mayD_yes x1) w1)
  have hr := rest_of (x := x) s1
  obtain ⟨b, hb⟩ : ∃ b, onD (x.tmod s) s m = b := ⟨_, rfl⟩
  have O := Lib.hid (fun w1 => onward_c (x.tmod s) s m (by omega) (by omega) s2 m1 m2 b hb w1)
  rw [stepD_may x1 s1 m1 m2] at hn
  have hz : ¬ s = 0 := by omega
  have hz2 : (s == 0) = false := by simpa using hz
  have t1 : -9223372036854775808 ≤ x.tmod s := by omega
  have t2 : x.tmod s ≤ 9223372036854775807 := by omega
  cases b
  · rw [round_off s1 m1 m2 hb, giveD_in (by omega) (by omega)] at hn
    obtain ⟨rfl, rfl⟩ := Prod.mk.inj hn
    clear hn hb
    obtain ⟨t, ht⟩ : ∃ t, x.tmod s = t := ⟨_, rfl⟩
    rw [ht] at O hr t1 t2 ⊢
    go_enter Tryd.func53, Tryd.ntmps53
    go_wp2_with (first
      | (go_at_call 55; refine (M.out _).mono ?_; rintro e w' ⟨rfl, rfl⟩)
      | (go_at_call 75; refine (O.out _).mono ?_; rintro e w' ⟨rfl, rfl⟩))
    go_ret2
    exact ⟨rfl, rfl⟩
  · obtain ⟨he, hne⟩ := round_on x1 s1 m1 m2 hb
    rw [he] at hn
    clear he hb
    obtain ⟨t, ht⟩ : ∃ t, x.tmod s = t := ⟨_, rfl⟩
    rw [ht] at O hr t1 t2 hn hne
    obtain ⟨v, hv⟩ : ∃ v, s * signD t = v := ⟨_, rfl⟩
    have hvv : v = s ∨ v = -s := by
      rw [← hv]
      unfold signD
      rw [if_neg (by omega)]
      split
      · omega
      · omega
    have G := Lib.hid (fun w1 => signed_c s t (by omega) s2 v hv w1)
    have A := Lib.hid (fun w1 => add_c (x - t) v (by omega) (by omega) n k (by rw [addD, mayD_yes (by omega), mayD_yes (by omega)]; rw [hv] at hn; exact hn) w1)
    clear hn hv hvv hne
    go_enter Tryd.func53, Tryd.ntmps53
    go_wp2_with (first
      | (go_at_call 55; refine (M.out _).mono ?_; rintro e w' ⟨rfl, rfl⟩)
      | (go_at_call 75; refine (O.out _).mono ?_; rintro e w' ⟨rfl, rfl⟩)
      | (go_at_call 77; refine (G.out _).mono ?_; rintro e w' ⟨rfl, rfl⟩)
      | (go_at_call 76; refine (A.out _).mono ?_; rintro e w' ⟨rfl, rfl⟩))
    go_ret2
    exact ⟨rfl, rfl⟩
theorem step_c (x s m : Int) (x2 : x ≤ 9223372036854775807) (s2 : s ≤ 9223372036854775807) (n : Int) (k : Bool) (hn : stepD x s m = (n, k)) (w : World) :
    Calls Tryd.prog 53 #[.int .i64 x, .int .i64 s, .int .i64 m] w (Two n k w) := by
  by_cases h : x < -9223372036854775807 ∨ s ≤ 0 ∨ m < 1 ∨ 5 < m
  · obtain ⟨rfl, rfl⟩ := Prod.mk.inj ((stepD_none h).symm.trans hn)
    exact step_none x s m h w
  · exact step_may x s m (by omega) x2 (by omega) s2 (by omega) (by omega) n k hn w
end Go.Proofs.YtckcoogmfgegeaaDoor.Rnd

/- What package order's Median answers: for any slice of at most 1000 numbers. -/
import Derived.Test.YtngnjphhjmhomaaOrdMode
import Derived.Test.YtngnjphhjmhomaaDecScale
import Derived.Deep.QuietTactic
import Derived.BigQuiet
namespace Go.Proofs.Ytngnjphhjmhomaa.Odr
open Go.RowKit Kit Reg Dec

theorem addD_room {a b n : Int} {k : Bool} (h : addD a b = (n, k)) : n ≤ 9223372036854775807 := by
  unfold addD giveD at h
  split at h
  · rename_i h2
    have := (Prod.mk.inj h).1
    simp only [okD, Bool.and_eq_true, decide_eq_true_eq] at h2
    omega
  · have := (Prod.mk.inj h).1
    omega
theorem halves {n h r : Nat} (hd : n / 2 = h) (hm : n % 2 = r) : ((n : Int).tdiv 2 = (h : Int) ∧ (n : Int).tmod 2 = (r : Int)) ∧ n = 2 * h + r ∧ r ≤ 1 := by
  subst hd hm
  refine ⟨⟨rfl, rfl⟩, by omega, by omega⟩
set_option maxRecDepth 100000 in
set_option maxHeartbeats 1000000 in
theorem median_nil (A : Option Addr) (c : Nat) (w : World) :
    Calls Try.prog 14 #[.slice A 0 c] w (TwoB 0 false w) := by
  go_enter Try.func14, Try.ntmps14
  go_wp2
  go_ret2
  exact ⟨rfl, Below.refl _ _⟩
set_option maxRecDepth 100000 in
set_option maxHeartbeats 1000000 in
theorem median_odd (A : Option Addr) (n c : Nat) (xs : List Int) (hn : n ≤ 1000) (h : Nat) (hd : n / 2 = h) (hm : n % 2 = 1) (x : Int) (hx : (srt xs)[h]? = some x) (w : World) (hz : NumsR w A n c xs) :
    Calls Try.prog 14 #[.slice A n c] w (TwoB x true w) := by
  obtain ⟨⟨d1, d2⟩, hn2, _⟩ := halves hd hm
  have HS := Lib.hid (sorted_c A n c xs hn w hz)
  have HX := Lib.hid hx
  have q0 : ((n : Int) == 0) = false := by simp; omega
  have hlt : h < n := by omega
  replace d2 : (n : Int).tmod 2 = 1 := d2
  clear hd hm hx hz hn2
  go_enter Try.func14, Try.ntmps14
  go_wp2_with (go_at_call 8; refine HS.out.mono ?_; rintro e w1 ⟨A2, c2, rfl, hr, hb⟩; obtain ⟨g, o, rfl, hg, c0⟩ := hr.at HX.out; clear hr)
  go_ret2
  exact ⟨rfl, hb⟩
set_option maxRecDepth 100000 in
set_option maxHeartbeats 1000000 in
theorem median_even (A : Option Addr) (n c : Nat) (xs : List Int) (hn : n ≤ 1000) (h : Nat) (h0 : ¬ n = 0) (hd : n / 2 = h) (hm : n % 2 = 0) (x y : Int) (hx : (srt xs)[h - 1]? = some x) (hy : (srt xs)[h]? = some y)
    (x2 : x ≤ 9223372036854775807) (y2 : y ≤ 9223372036854775807) (s m : Int) (a b : Bool) (hs : addD x y = (s, a)) (hq : (a = false ∧ m = 0 ∧ b = false) ∨ (a = true ∧ scaledD s 1 2 = (m, b))) (w : World) (hz : NumsR w A n c xs) :
    Calls Try.prog 14 #[.slice A n c] w (TwoB m b w) := by
  obtain ⟨⟨d1, d2⟩, hn2, _⟩ := halves hd hm
  have HS := Lib.hid (sorted_c A n c xs hn w hz)
  have HX := Lib.hid hx
  have HY := Lib.hid hy
  have HA := Lib.hid (fun w1 => add_c x y x2 y2 s a hs w1)
  have hs2 := addD_room hs
  have q0 : ((n : Int) == 0) = false := by simp; omega
  have q1 : (h : Int) - 1 = ((h - 1 : Nat) : Int) := by omega
  have hlt : h < n := by omega
  have hlt1 : h - 1 < n := by omega
  obtain ⟨p, hp⟩ : ∃ p, h - 1 = p := ⟨_, rfl⟩
  rw [hp] at q1 HX hlt1
  clear hd hm hx hz hy hs hn2 hp h0
  replace d2 : (n : Int).tmod 2 = 0 := d2
  rcases hq with ⟨rfl, rfl, rfl⟩ | ⟨rfl, hq⟩
  · go_enter Try.func14, Try.ntmps14
    go_wp2_with (go_at_call 8; refine HS.out.mono ?_; rintro e w1 ⟨A2, c2, rfl, hr, hb⟩; obtain ⟨g, o, rfl, hg, c0⟩ := hr.at HX.out; obtain ⟨g1, o1, e1, _, c1⟩ := hr.at HY.out; simp only [Option.some.injEq, Addr.mk.injEq, and_true] at e1; obtain ⟨rfl, rfl⟩ := e1; clear hr)
    go_quiet ((go_at_call 24; refine Calls.quiet_of_same ((HA.out _).mono fun _ _ h => ⟨h.1, h.2.symm⟩)))
    go_wp2
    go_ret2
    exact ⟨rfl, on hb (drew_below rfl)⟩
  · have HQ := Lib.hid (fun w1 => scaled_c s 1 2 hs2 (by decide) (by decide) m b hq w1)
    clear hq
    go_enter Try.func14, Try.ntmps14
    go_wp2_with (go_at_call 8; refine HS.out.mono ?_; rintro e w1 ⟨A2, c2, rfl, hr, hb⟩; obtain ⟨g, o, rfl, hg, c0⟩ := hr.at HX.out; obtain ⟨g1, o1, e1, _, c1⟩ := hr.at HY.out; simp only [Option.some.injEq, Addr.mk.injEq, and_true] at e1; obtain ⟨rfl, rfl⟩ := e1; clear hr)
    go_quiet ((go_at_call 24; refine Calls.quiet_of_same ((HA.out _).mono fun _ _ h => ⟨h.1, h.2.symm⟩)))
    go_wp2_with (go_at_call 25; refine (HQ.out _).mono ?_; rintro e w2 ⟨rfl, qd, rfl⟩)
    go_ret2
    exact ⟨rfl, on hb (drew_below rfl)⟩
theorem median_c (A : Option Addr) (n c : Nat) (xs : List Int) (hn : n ≤ 1000) (m : Int) (b : Bool) (hm : medD xs = (m, b)) (w : World) (hz : NumsR w A n c xs) :
    Calls Try.prog 14 #[.slice A n c] w (TwoB m b w) := by
  have hl := hz.len
  have hin : ∀ j, j < n → ∃ y, (srt xs)[j]? = some y ∧ y ≤ 9223372036854775807 := fun j hj => by
    have hlj : j < (srt xs).length := by rw [srt_len]; omega
    exact ⟨_, List.getElem?_eq_getElem hlj, (hz.fits _ (srt_mem.1 (List.getElem_mem hlj))).2⟩
  by_cases h0 : n = 0
  · subst h0
    obtain ⟨rfl, rfl⟩ := Prod.mk.inj ((medD_nil hl).symm.trans hm)
    exact median_nil A c w
  by_cases h1 : n % 2 = 1
  · obtain ⟨x, hx, _⟩ := hin (n / 2) (by omega)
    obtain ⟨rfl, rfl⟩ := Prod.mk.inj ((medD_odd (by rw [hl]; exact h1) (by rw [hl]; exact hx)).symm.trans hm)
    exact median_odd A n c xs hn _ rfl h1 x hx w hz
  · obtain ⟨x, hx, x2⟩ := hin (n / 2 - 1) (by omega)
    obtain ⟨y, hy, y2⟩ := hin (n / 2) (by omega)
    obtain ⟨⟨s, a⟩, hs⟩ : ∃ r, addD x y = r := ⟨_, rfl⟩
    refine median_even A n c xs hn _ h0 rfl (by omega) x y hx hy x2 y2 s m a b hs ?_ w hz
    cases a
    · obtain ⟨rfl, rfl⟩ := Prod.mk.inj ((medD_none (by rw [hl]; exact h0) (by rw [hl]; omega) (by rw [hl]; exact hx) (by rw [hl]; exact hy) hs).symm.trans hm)
      exact .inl ⟨rfl, rfl, rfl⟩
    · exact .inr ⟨rfl, (medD_even (by rw [hl]; exact h0) (by rw [hl]; omega) (by rw [hl]; exact hx) (by rw [hl]; exact hy) hs).symm.trans hm⟩
end Go.Proofs.Ytngnjphhjmhomaa.Odr

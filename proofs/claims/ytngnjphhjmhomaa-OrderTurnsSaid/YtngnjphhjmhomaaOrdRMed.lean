/- What the reference's Median answers: for any slice of at most 1000 numbers. -/
import Derived.Test.YtngnjphhjmhomaaOrdRGot
import Derived.Test.YtngnjphhjmhomaaOrdMed
import Derived.Test.YtngnjphhjmhomaaDecRefScale
namespace Go.Proofs.Ytngnjphhjmhomaa.Odr
open Go.RowKit Kit Reg Dec

theorem smallD_at {l : List Int} {j : Nat} {x k : Int} (h : (srt l)[j]? = some x) (hk : k = (j : Int) + 1) : smallD l k = (x, true) := by rw [hk]; exact smallD_yes h
set_option maxRecDepth 100000 in
set_option maxHeartbeats 1000000 in
theorem rmedian_odd (A : Option Addr) (n c : Nat) (xs : List Int) (hn : n ≤ 1000) (h : Nat) (hd : n / 2 = h) (hm : n % 2 = 1) (x : Int) (hx : (srt xs)[h]? = some x) (w : World) (hz : NumsR w A n c xs) :
    Calls Try.prog 17 #[.slice A n c] w (GotIs x true w) := by
  obtain ⟨⟨d1, d2⟩, hn2, _⟩ := halves hd hm
  have HS := Lib.hid (rsmall_c A n c xs hn ((h : Int) + 1) x true (smallD_at hx rfl) _ (hz.on (below1 w (.cells #[.int .i64 0, .bool false] 30))))
  have HEnd := Lib.hid (fun w1 hb1 => got_ends (w := w) (w1 := w1) (n := x) (b := true) hb1)
  have hlt : h < n := by omega
  replace d2 : (n : Int).tmod 2 = 1 := d2
  clear hd hm hx hz hn2
  go_enter Try.func17, Try.ntmps17
  go_wp2_with (go_at_call 12; refine HS.out.mono ?_; rintro e w1 ⟨rfl, hb⟩; obtain ⟨⟨hl, p0, p1, f0, f1⟩, ⟨z0, z1⟩, hw⟩ := HEnd.out w1 hb)
  exact bodyPost_ret (v := .agg #[.int .i64 x, .bool true]) (by simp [results, Try.results17, go_sem, z0, z1]) rfl ⟨rfl, hw⟩
set_option maxRecDepth 100000 in
set_option maxHeartbeats 2000000 in
theorem rmedian_even (A : Option Addr) (n c : Nat) (xs : List Int) (hn : n ≤ 1000) (h : Nat) (hd : n / 2 = h) (hm : n % 2 = 0) (x y : Int) (ax ay : Bool) (hx : smallD xs h = (x, ax)) (hy : smallD xs ((h : Int) + 1) = (y, ay))
    (x2 : x ≤ 9223372036854775807) (y2 : y ≤ 9223372036854775807) (s m : Int) (a b : Bool) (hs : addD x y = (s, a)) (hq : ((ax && (ay && a)) = false ∧ m = 0 ∧ b = false) ∨ ((ax = true ∧ ay = true ∧ a = true) ∧ scaledD s 1 2 = (m, b))) (w : World) (hz : NumsR w A n c xs) :
    Calls Try.prog 17 #[.slice A n c] w (GotIs m b w) := by
  obtain ⟨⟨d1, d2⟩, hn2, _⟩ := halves hd hm
  have HZ := Lib.hid hz
  have HX := Lib.hid (fun w1 h1 => rsmall_c A n c xs hn h x ax hx w1 h1)
  have HY := Lib.hid (fun w1 h1 => rsmall_c A n c xs hn ((h : Int) + 1) y ay hy w1 h1)
  have HA := Lib.hid (fun w1 => radd_c x y x2 y2 s a hs w1)
  have HEnd := Lib.hid (fun w1 hb1 => got_ends (w := w) (w1 := w1) (n := m) (b := b) hb1)
  have hs2 := addD_room hs
  have hlt : h ≤ n := by omega
  replace d2 : (n : Int).tmod 2 = 0 := d2
  clear hd hm hx hz hy hs hn2
  go_enter Try.func17, Try.ntmps17
  go_wp2_with (go_at_call 12; first
    | ((with_reducible refine (HX.out _ (HZ.out.on (below1 _ _))).mono ?_); rintro e w1 ⟨rfl, hb1⟩; have hbA := Lib.hid (Kit.on (below1 _ _) hb1))
    | ((with_reducible refine (HY.out _ (HZ.out.on hbA.out)).mono ?_); rintro e w2 ⟨rfl, hb2⟩))
  obtain ⟨hR, hW⟩ := slot (w := w) (cs := [.int .i64 0, .bool false]) (ty := 30) (Kit.on hb1 hb2)
  have hA := (CellsAt.new w2 [.int .i64 x, .bool ax] 30).on_alloc (.cells #[.int .i64 y, .bool ay] 30)
  have hB := CellsAt.new (w2.alloc (.cells #[.int .i64 x, .bool ax] 30)) [.int .i64 y, .bool ay] 30
  rw [show (w2.alloc (.cells #[.int .i64 x, .bool ax] 30)).heap.size = w2.heap.size + 1 by simp] at hB
  replace hR := (hR.on_alloc (.cells #[.int .i64 x, .bool ax] 30)).on_alloc (.cells #[.int .i64 y, .bool ay] 30)
  replace hW := on_alloc (on_alloc hW (.cells #[.int .i64 x, .bool ax] 30)) (.cells #[.int .i64 y, .bool ay] 30)
  clear hb1 hb2 hbA HX HY HZ HEnd
  replace hB : CellsAt ((w2.alloc (.cells #[.int .i64 x, .bool ax] 30)).alloc (.cells #[.int .i64 y, .bool ay] 30)) (w2.heap.size + 1) [.int .i64 y, .bool ay] := hB
  replace hA : CellsAt ((w2.alloc (.cells #[.int .i64 x, .bool ax] 30)).alloc (.cells #[.int .i64 y, .bool ay] 30)) w2.heap.size [.int .i64 x, .bool ax] := hA
  generalize (w2.alloc (.cells #[.int .i64 x, .bool ax] 30)).alloc (.cells #[.int .i64 y, .bool ay] 30) = W at *
  generalize w2.heap.size = B at *
  refine (HA.out _).mono ?_
  rintro e w3 ⟨rfl, hb3⟩
  have hC := CellsAt.new w3 [.int .i64 s, .bool a] 30
  replace hA := (hA.on hb3).on_alloc (.cells #[.int .i64 s, .bool a] 30)
  replace hB := (hB.on hb3).on_alloc (.cells #[.int .i64 s, .bool a] 30)
  replace hR := (hR.on hb3).on_alloc (.cells #[.int .i64 s, .bool a] 30)
  have HW := Lib.hid (on_alloc (on hW hb3) (.cells #[.int .i64 s, .bool a] 30))
  clear hb3 hW HA
  have HR := Lib.hid hR
  have k1 := hA.1
  have k2 := hB.1
  have k3 := hR.1
  obtain ⟨a0, a1, _, _⟩ := hA.two
  obtain ⟨b0, b1, _, _⟩ := hB.two
  obtain ⟨c0, c1, _, _⟩ := hC.two
  obtain ⟨p0, p1, f0, f1⟩ := hR.two
  clear hA hB hC hR
  rcases hq with ⟨hf, rfl, rfl⟩ | ⟨⟨rfl, rfl, rfl⟩, hq⟩
  · obtain ⟨z0, z1⟩ := two_set (u := .int .i64 0) (v := .bool false) p0 p1
    have HZ1 := Lib.hid (⟨z0, z1⟩ : _ ∧ _)
    have HE := Lib.hid (set2 HW.out (Nat.le_refl _) (.int .i64 0) (.bool false))
    clear z0 z1
    cases ax <;> cases ay <;> cases a <;> first | (exact absurd hf (by decide)) | skip
    all_goals clear hf
    all_goals go_wp2_with fail
    all_goals exact bodyPost_ret (v := .agg #[.int .i64 0, .bool false]) (by obtain ⟨z0, z1⟩ := HZ1.out; simp [results, Try.results17, go_sem, z0, z1]) rfl ⟨rfl, HE.out⟩
  · have HQ := Lib.hid (fun w1 => rscaled_c s 1 2 hs2 (by decide) (by decide) m b hq w1)
    clear hq
    go_wp2_with fail
    refine (HQ.out _).mono ?_
    rintro e w5 ⟨rfl, hb5⟩
    have hR5 := HR.out.on hb5
    have k5 := hR5.1
    obtain ⟨p0, p1, f0, f1⟩ := hR5.two
    obtain ⟨z0, z1⟩ := two_set (u := .int .i64 m) (v := .bool b) p0 p1
    have HE := Lib.hid (set2 (on HW.out hb5) (Nat.le_refl _) (.int .i64 m) (.bool b))
    clear hR5 hb5
    go_wp2_with fail
    exact bodyPost_ret (v := .agg #[.int .i64 m, .bool b]) (by simp [results, Try.results17, go_sem, z0, z1]) rfl ⟨rfl, HE.out⟩
theorem rmedian_c (A : Option Addr) (n c : Nat) (xs : List Int) (hn : n ≤ 1000) (m : Int) (b : Bool) (hm : medD xs = (m, b)) (w : World) (hz : NumsR w A n c xs) :
    Calls Try.prog 17 #[.slice A n c] w (GotIs m b w) := by
  have hl := hz.len
  have hin : ∀ j, j < n → ∃ y, (srt xs)[j]? = some y ∧ y ≤ 9223372036854775807 := fun j hj => by
    have hlj : j < (srt xs).length := by rw [srt_len]; omega
    exact ⟨_, List.getElem?_eq_getElem hlj, (hz.fits _ (srt_mem.1 (List.getElem_mem hlj))).2⟩
  by_cases h0 : n = 0
  · subst h0
    obtain ⟨rfl, rfl⟩ := Prod.mk.inj ((medD_nil hl).symm.trans hm)
    exact rmedian_even A 0 c xs hn 0 rfl rfl 0 0 false false (smallD_no (.inl (by decide))) (smallD_no (.inr (by rw [hl]; decide))) (by decide) (by decide) 0 0 true false (addD_in (by decide) (by decide) (by decide) (by decide)) (.inl ⟨rfl, rfl, rfl⟩) w hz
  by_cases h1 : n % 2 = 1
  · obtain ⟨x, hx, _⟩ := hin (n / 2) (by omega)
    obtain ⟨rfl, rfl⟩ := Prod.mk.inj ((medD_odd (by rw [hl]; exact h1) (by rw [hl]; exact hx)).symm.trans hm)
    exact rmedian_odd A n c xs hn _ rfl h1 x hx w hz
  · obtain ⟨x, hx, x2⟩ := hin (n / 2 - 1) (by omega)
    obtain ⟨y, hy, y2⟩ := hin (n / 2) (by omega)
    obtain ⟨⟨s, a⟩, hs⟩ : ∃ r, addD x y = r := ⟨_, rfl⟩
    refine rmedian_even A n c xs hn _ rfl (by omega) x y true true (smallD_at hx (by omega)) (smallD_at hy rfl) x2 y2 s m a b hs ?_ w hz
    cases a
    · obtain ⟨rfl, rfl⟩ := Prod.mk.inj ((medD_none (by rw [hl]; exact h0) (by rw [hl]; omega) (by rw [hl]; exact hx) (by rw [hl]; exact hy) hs).symm.trans hm)
      exact .inl ⟨rfl, rfl, rfl⟩
    · exact .inr ⟨⟨rfl, rfl, rfl⟩, (medD_even (by rw [hl]; exact h0) (by rw [hl]; omega) (by rw [hl]; exact hx) (by rw [hl]; exact hy) hs).symm.trans hm⟩
end Go.Proofs.Ytngnjphhjmhomaa.Odr

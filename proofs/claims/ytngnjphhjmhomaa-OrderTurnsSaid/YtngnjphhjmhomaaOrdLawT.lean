/- What the statement OrderTurns answers: yes, for every slice of numbers and every place. -/
import Derived.Test.YtngnjphhjmhomaaOrdLawM
namespace Go.Proofs.Ytngnjphhjmhomaa.Odr
open Go.RowKit Kit Reg Dec

set_option maxRecDepth 100000 in
set_option maxHeartbeats 2000000 in
theorem turns_no (A : Option Addr) (n c : Nat) (xs : List Int) (hn : n ≤ 9223372036854775807) (k : Int) (hk : okL xs = false) (w : World) (hz : NumsR w A n c xs) :
    Calls Try.prog 5 #[.slice A n c, .int .i64 k] w (LawEnd w) := by
  have HR := Lib.hid (right_c A n c xs hn false hk w hz)
  clear hk hz
  go_enter Try.func5, Try.ntmps5
  go_wp2_with (first
    | (go_at_call 6; refine HR.out.mono ?_; rintro e w1 ⟨rfl, rfl⟩)
    | (go_at_call 7; refine (alive_c _).mono ?_; rintro e w2 ⟨rfl, hb⟩))
  go_ret
  exact ⟨rfl, hb⟩
theorem back_at {xs : List Int} {n j : Nat} (hl : xs.length = n) (hj : j < n) {x : Int} (h : xs[n - 1 - j]? = some x) : xs.reverse[j]? = some x := by
  rw [List.getElem?_reverse (by omega), hl]
  exact h
set_option maxRecDepth 100000 in
set_option maxHeartbeats 4000000 in
theorem turns_yes (A : Option Addr) (n c : Nat) (xs : List Int) (hn : n ≤ 1000) (k : Int) (hk : okL xs = true) (m : Int) (a : Bool) (hm : medD xs = (m, a)) (o o2 : Int) (b : Bool) (q : Nat) (ho : modeD xs = (o, b)) (ho2 : modeD xs.reverse = (o2, b)) (hq : xs.count o = q) (hq2 : xs.count o2 = q)
    (s : Int) (d : Bool) (hs : smallD xs k = (s, d)) (w : World) (hz : NumsR w A n c xs) :
    Calls Try.prog 5 #[.slice A n c, .int .i64 k] w (LawEnd w) := by
  obtain ⟨i0, hi, hz0, hz1, hz2⟩ := info_parts infoI
  have HR := Lib.hid (right_c A n c xs (by omega) true hk w hz)
  have HM := Lib.hid (fun w1 h => median_c A n c xs hn m a hm w1 h)
  have HN := Lib.hid (fun A2 c2 w1 h => median_c A2 n c2 xs.reverse hn m a ((medD_rev xs).trans hm) w1 h)
  have HO := Lib.hid (fun w1 h => mode_c A n c xs hn o b ho w1 h)
  have HP := Lib.hid (fun A2 c2 w1 h => mode_c A2 n c2 xs.reverse hn o2 b ho2 w1 h)
  have HS := Lib.hid (fun w1 h => small_c A n c xs hn k s d hs w1 h)
  have HU := Lib.hid (fun A2 c2 w1 h => small_c A2 n c2 xs.reverse hn k s d ((smallD_rev xs k).trans hs) w1 h)
  have HT1 := Lib.hid (fun w1 h => rtimes_c A n c xs hn o q hq w1 hz.len h)
  have HT2 := Lib.hid (fun w1 h => rtimes_c A n c xs hn o2 q hq2 w1 hz.len h)
  have HZ := Lib.hid hz
  clear hk hz hm ho ho2 hs hq hq2
  go_enter Try.func5, Try.ntmps5
  go_wp2_with (go_at_call 6; refine HR.out.mono ?_; rintro e w1 ⟨rfl, rfl⟩)
  go_loopw [5, 6, 31] (fun v _ i wr => ∃ j : Nat, j ≤ n ∧ i = .int .i64 j ∧ OwnI w.heap.size v (xs.reverse.take j) wr ∧ Below w.heap.size w wr) (fun _ _ i _ => n - (intOf i).toNat)
  case atStart => exact ⟨0, Nat.zero_le _, rfl, World.ownsRow_nil _ _ _ _, Below.refl _ _⟩
  case round =>
    obtain ⟨j, hj, rfl, hown, hb⟩ := hrel
    by_cases hlt : j < n
    · obtain ⟨x, hx⟩ := HZ.out.get (k := n - 1 - j) (by omega)
      obtain ⟨g, p, rfl, hg, c0⟩ := (HZ.out.on hb).at hx
      have HY : Hid (xs.reverse[j]? = some x) := Lib.hid (back_at HZ.out.len hlt hx)
      have HL : Hid ((xs.reverse.take j).length = j) := Lib.hid (by rw [List.length_take, List.length_reverse, HZ.out.len]; omega)
      have HK : Hid (xs.reverse.take (j + 1) = xs.reverse.take j ++ [x]) := Lib.hid (take_one HY.out)
      have e1 : (n : Int) - 1 - (j : Int) = ((n - 1 - j : Nat) : Int) := by omega
      obtain ⟨u, hu⟩ : ∃ u, n - 1 - j = u := ⟨_, rfl⟩
      have hun : u < n := by omega
      rw [hu] at e1 c0
      clear hx hu HY
      generalize xs.reverse.take j = P at *
      have hbs := hb.size
      unfold OwnI at hown
      go_wp2_with (at_builtin; refine wpList_append_own _ rfl _ _ 22 rfl w.heap.size 2 i0 (.int .i64 0) 1 8 Try.underlying22 hi hz0 hz1 hz2 rfl (by decide) _ _ _ rfl (hown.alloc _) ⟨_, 0, none⟩ 1 1 [.int .i64 x] rfl rfl (one_new (by simp) _ _) (one_cells _ rfl) (by have := HL.out; unfold maxLen; omega) (by have := HL.out; omega) (by simp; omega) ?_)
      intro v1 w2 ho1 hg1 _
      have hb2 : Below w.heap.size w w2 := own_below hown hb (Nat.le_refl _) hg1
      have ow1 : OwnI w.heap.size v1 (P ++ [x]) w2 := OwnI.snoc x ho1
      rw [← HK.out] at ow1
      clear ho1 hg1 hown hb hbs c0
      go_wp2
      go_roundw
      case rel => exact ⟨j + 1, by omega, by go_num, ow1, hb2⟩
      case measure => simp [intOf]; omega
    · obtain rfl : j = n := by omega
      rw [List.take_of_length_le (by rw [List.length_reverse, HZ.out.len]; omega)] at hown
      obtain ⟨A2, c2, rfl, hrd, hnil, _⟩ := hown.reads
      have hl2 : xs.reverse.length = j := by rw [List.length_reverse, HZ.out.len]
      rw [hl2] at hnil ⊢
      have hy : NumsR wr A2 j c2 xs.reverse := ⟨hl2, hnil, fun x hx => HZ.out.fits x (List.mem_reverse.1 hx), hrd⟩
      have HY := Lib.hid hy
      replace HZ := Lib.hid (HZ.out.on hb)
      have HB := Lib.hid hb
      clear hown hrd hnil hl2 hy hb HR
      go_wp2_with (first
        | (go_at_call 14; first
          | ((with_reducible refine (HM.out _ HZ.out).mono ?_); rintro e w2 ⟨rfl, hb1⟩; replace HZ := Lib.hid (HZ.out.on hb1); replace HY := Lib.hid (HY.out.on hb1); replace HB := Lib.hid (on HB.out hb1); clear hb1)
          | ((with_reducible refine (HN.out _ _ _ HY.out).mono ?_); rintro e w3 ⟨rfl, hb1⟩; replace HZ := Lib.hid (HZ.out.on hb1); replace HY := Lib.hid (HY.out.on hb1); replace HB := Lib.hid (on HB.out hb1); clear hb1))
        | (go_at_call 15; first
          | ((with_reducible refine (HO.out _ HZ.out).mono ?_); rintro e w4 ⟨rfl, hb1⟩; replace HZ := Lib.hid (HZ.out.on hb1); replace HY := Lib.hid (HY.out.on hb1); replace HB := Lib.hid (on HB.out hb1); clear hb1)
          | ((with_reducible refine (HP.out _ _ _ HY.out).mono ?_); rintro e w5 ⟨rfl, hb1⟩; replace HZ := Lib.hid (HZ.out.on hb1); replace HY := Lib.hid (HY.out.on hb1); replace HB := Lib.hid (on HB.out hb1); clear hb1))
        | (go_at_call 9; first
          | ((with_reducible refine (HT1.out _ HZ.out.reads).mono ?_); rintro e w6 ⟨rfl, rfl⟩)
          | ((with_reducible refine (HT2.out _ HZ.out.reads).mono ?_); rintro e w6 ⟨rfl, rfl⟩)))
      clear HM HN HO HP HT1 HT2
      go_loopw [16, 17, 18, 19, 20, 90] (fun _ _ _ _ _ i wr => ∃ t : Nat, t ≤ j ∧ i = .int .i64 t ∧ Below w5.heap.size w5 wr) (fun _ _ _ _ _ i _ => j - (intOf i).toNat)
      case atStart => exact ⟨0, Nat.zero_le _, rfl, Below.refl _ _⟩
      case round =>
        obtain ⟨t, ht, rfl, hbt⟩ := hrel
        by_cases hlt2 : t < j
        · obtain ⟨x, hx⟩ := HZ.out.get hlt2
          obtain ⟨g, p, rfl, hg, c0⟩ := (HZ.out.on hbt).at hx
          have hmem : x ∈ xs := List.mem_iff_getElem?.2 ⟨t, hx⟩
          have HR1 := Lib.hid (rank_c A2 j c2 xs.reverse hn x _ true (by rw [rankD_rev, rankD_yes hmem]) wr (HY.out.on hbt))
          have HR2 := Lib.hid (fun w1 h => large_c (some ⟨g, p, none⟩) j c xs hn _ x true (rank_back hmem) w1 h)
          generalize (1 + (gtN x xs : Int)) = r at *
          have HBT := Lib.hid hbt
          clear hx hmem hbt
          go_wp2_with (first
            | (go_at_call 16; refine HR1.out.mono ?_; rintro e w6 ⟨rfl, rfl⟩)
            | (go_at_call 11; refine (HR2.out _ (HZ.out.on HBT.out)).mono ?_; rintro e w7 ⟨rfl, hb7⟩; replace HBT := Lib.hid (on HBT.out hb7); clear hb7))
          go_roundw
          case rel => exact ⟨t + 1, by omega, by go_num, HBT.out⟩
          case measure => simp [intOf]; omega
        · obtain rfl : t = j := by omega
          replace HZ := Lib.hid (HZ.out.on hbt)
          replace HY := Lib.hid (HY.out.on hbt)
          replace HB := Lib.hid (on HB.out hbt)
          clear hbt
          go_wp2_with (first
            | (go_at_call 10; first
              | ((with_reducible refine (HS.out _ HZ.out).mono ?_); rintro e w8 ⟨rfl, hb1⟩; replace HY := Lib.hid (HY.out.on hb1); replace HB := Lib.hid (on HB.out hb1); clear hb1)
              | ((with_reducible refine (HU.out _ _ _ HY.out).mono ?_); rintro e w9 ⟨rfl, hb1⟩; replace HB := Lib.hid (on HB.out hb1); clear hb1))
            | (go_at_call 7; refine (alive_c _).mono ?_; rintro e w10 ⟨rfl, hb1⟩; replace HB := Lib.hid (on HB.out hb1); clear hb1))
          go_ret
          exact ⟨rfl, HB.out⟩
theorem turns_law (A : Option Addr) (n c : Nat) (xs : List Int) (hn : n ≤ 9223372036854775807) (k : Int) (w : World) (hz : NumsR w A n c xs) :
    Calls Try.prog 5 #[.slice A n c, .int .i64 k] w (LawEnd w) := by
  cases hk : okL xs
  · exact turns_no A n c xs hn k hk w hz
  · have hl := okL_few hk
    rw [hz.len] at hl
    obtain ⟨h1, h2⟩ := mode_rev xs
    obtain ⟨⟨o, b⟩, ho⟩ : ∃ r, modeD xs = r := ⟨_, rfl⟩
    obtain ⟨⟨o2, b2⟩, ho2⟩ : ∃ r, modeD xs.reverse = r := ⟨_, rfl⟩
    rw [ho, ho2] at h1 h2
    dsimp only at h1 h2
    subst h1
    exact turns_yes A n c xs (by omega) k hk _ _ rfl o o2 b2 _ ho ho2 rfl h2.symm _ _ rfl w hz
end Go.Proofs.Ytngnjphhjmhomaa.Odr

/- What the reference's Times, Rank, Sorted answer: for any slice of at most 1000 numbers.
   What the reference's Sorted answers: for any slice of at most 1000 numbers.
   The library's sort, of a row of numbers of one's own.
   What package order's Sorted, isPlace, Small, Large, Rank and Mode answer: for any slice of at most 1000 numbers. -/
import Derived.Test.YtebjedbppiphgaaGreatDoorKfa30
import Derived.Deep.QuietTactic
import Derived.BigQuiet
import Derived.Test.YtebjedbppiphgaaGreatDoorKfa04
import Derived.Sort.OwnSortedInts
import Derived.Maps.OwnOps
namespace Go.Proofs.YtebjedbppiphgaaGreatDoor.Odr
open Go.RowKit Kit Reg Dec
set_option maxRecDepth 100000 in
set_option maxHeartbeats 1000000 in
theorem rtimes_c (A : Option Addr) (n c : Nat) (xs : List Int) (hn : n ≤ 1000) (x : Int) (q : Nat) (hq : xs.count x = q) (w : World) (hz : xs.length = n) (hr : IntsR w A xs) :
    Calls Tryz.prog 244 #[.int .i64 x, .slice A n c] w fun e w' => e = .returned (.int .i64 (q : Int)) ∧ w = w' := by
  have HL := Lib.hid hz
  have HR := Lib.hid hr
  have HQ := Lib.hid hq
  clear hz hr hq
  go_enter Tryz.func244, Tryz.ntmps244
  go_wp2
  go_loopw [5, 6] (fun r i wr => ∃ k m : Nat, k ≤ n ∧ i = .int .i64 k ∧ Hid ((xs.take k).count x = m) ∧ m ≤ k ∧ r = .int .i64 (m : Int) ∧ w = wr) (fun _ i _ => n - (intOf i).toNat)
  case atStart => exact ⟨0, 0, Nat.zero_le _, rfl, Lib.hid rfl, Nat.le_refl _, rfl, rfl⟩
  case round =>
    obtain ⟨k, m, hk, rfl, HM, hm, rfl, rfl⟩ := hrel
    by_cases hlt : k < n
    · obtain ⟨y, hy⟩ : ∃ y, xs[k]? = some y := ⟨_, List.getElem?_eq_getElem (by rw [HL.out]; exact hlt)⟩
      obtain ⟨b, o, rfl, hb, c0⟩ := HR.out.at hy
      have HY := Lib.hid hy
      clear hy
      by_cases h : y = x
      · have HN : Hid ((xs.take (k + 1)).count x = m + 1) := Lib.hid (by rw [cnt_hit HY.out h, HM.out])
        have q1 : (y == x) = true := by simpa using h
        clear HY HM h
        go_wp2
        go_roundw
        case rel => exact ⟨k + 1, m + 1, by omega, by go_num, HN, by omega, by go_num, by first | rfl | trivial⟩
        case measure => simp [intOf]; omega
      · have HN : Hid ((xs.take (k + 1)).count x = m) := Lib.hid (by rw [cnt_miss HY.out h, HM.out])
        have q1 : (y == x) = false := by simpa using h
        clear HY HM h
        go_wp2
        go_roundw
        case rel => exact ⟨k + 1, m, by omega, by go_num, HN, by omega, by go_num, by first | rfl | trivial⟩
        case measure => simp [intOf]; omega
    · obtain rfl : k = n := by omega
      have HE : Hid (m = q) := Lib.hid (by have := HM.out; rw [List.take_of_length_le (by rw [HL.out]; omega)] at this; exact this.symm.trans HQ.out)
      go_wp2
      go_ret
      exact ⟨by rw [← HE.out]; rfl, rfl⟩
end Go.Proofs.YtebjedbppiphgaaGreatDoor.Odr
namespace Go.Proofs.YtebjedbppiphgaaGreatDoor.Odr
open Go.RowKit Kit Reg Dec
/-- so far all are not greater -/
def Upto (s : List Int) (j : Nat) (x : Int) : Prop := ∀ i y, i < j → s[i]? = some y → y ≤ x
theorem Upto.zero (s : List Int) (x : Int) : Upto s 0 x := fun i y h => by omega
theorem Upto.next {s : List Int} {j : Nat} {x y : Int} (h : Upto s j x) (hj : s[j]? = some y) (hy : y ≤ x) : Upto s (j + 1) x := fun i z hi hz => by
  by_cases e : i < j
  · exact h i z e hz
  · obtain rfl : i = j := by omega
    obtain rfl := Option.some.inj (hj.symm.trans hz)
    exact hy
theorem IntsR.take {w : World} {A : Option Addr} {xs : List Int} (h : IntsR w A xs) (j : Nat) : IntsR w A (xs.take j) := by
  rcases h with rfl | ⟨g, o, hA, hg, h⟩
  · exact .inl (by simp)
  · refine .inr ⟨g, o, hA, hg, fun i n hi => h i n ?_⟩
    by_cases e : i < j
    · rwa [List.getElem?_take_of_lt e] at hi
    · rw [List.getElem?_take_eq_none (by omega)] at hi
      cases hi
theorem IntsR.drop {w : World} {g : Nat} {xs : List Int} (h : IntsR w (some ⟨g, 0, none⟩) xs) (j : Nat) : IntsR w (some ⟨g, j, none⟩) (xs.drop j) := by
  rcases h with rfl | ⟨g2, o, hA, hg, h⟩
  · exact .inl (by simp)
  · simp only [Option.some.injEq, Addr.mk.injEq, and_true] at hA
    obtain ⟨rfl, rfl⟩ := hA
    refine .inr ⟨_, j, rfl, hg, fun i n hi => ?_⟩
    rw [List.getElem?_drop] at hi
    have := h (j + i) n hi
    rwa [Nat.zero_add] at this
end Go.Proofs.YtebjedbppiphgaaGreatDoor.Odr
namespace Go.Proofs.YtebjedbppiphgaaGreatDoor.Odr
open Go.RowKit Kit Reg Dec
theorem sort_own {B : Nat} (v : Value) (xs : List Int) (hn : xs.length ≤ 1000) (w : World) (h : OwnI B v xs w) :
    Calls Tryz.prog 292 #[v] w fun e w' => e = .returned (.tuple #[]) ∧ OwnI B v (srt xs) w' ∧ w.grownBy w' v.ownBlock := by
  have h0 := h
  rcases h.2 with ⟨rfl, h1⟩ | ⟨g, cap, cur, rfl, hb, hg, h1, h2, h3, h4⟩
  · have e := List.eq_nil_of_length_eq_zero h1
    subst e
    refine (Tryz.slices_Sort_int_none none 0 w).mono ?_
    rintro e w' ⟨rfl, rfl⟩
    exact ⟨rfl, by rw [srt_nil]; exact h0, rfl, rfl, rfl, Nat.le_refl _, fun _ _ _ => rfl⟩
  · refine (Tryz.slices_Sort_int g 0 cap xs w (Go.holds_of_blockI hg (by simpa using h4)) (Array.getElem?_eq_some_iff.1 hg).1 (by omega)).mono ?_
    rintro e w' ⟨rfl, n, os, rfl⟩
    refine ⟨rfl, ?_, Go.grownBy_sortedI _⟩
    have h5 := Go.ownsRow_sortedI (n := n) (os := os) (ts := srt xs) (srt_len xs) hb hg h1 h2 h3
    unfold OwnI
    rw [srt_len]
    exact h5
end Go.Proofs.YtebjedbppiphgaaGreatDoor.Odr
namespace Go.Proofs.YtebjedbppiphgaaGreatDoor.Odr
open Go.RowKit Kit Reg Dec Go.Maps
set_option maxRecDepth 100000 in
set_option maxHeartbeats 1000000 in
theorem place_c (A : Option Addr) (n c : Nat) (k : Int) (b : Bool) (hb : (decide (1 ≤ k) && decide (k ≤ (n : Int))) = b) (w : World) :
    Calls Tryz.prog 233 #[.slice A n c, .int .i64 k] w fun e w' => e = .returned (.bool b) ∧ w = w' := by
  subst hb
  by_cases h : 1 ≤ k
  · rw [decide_eq_true h, Bool.true_and]
    go_enter Tryz.func233, Tryz.ntmps233
    go_wp2
    go_ret
    exact ⟨rfl, rfl⟩
  · rw [decide_eq_false h, Bool.false_and]
    go_enter Tryz.func233, Tryz.ntmps233
    go_wp2
    go_ret
    exact ⟨rfl, rfl⟩
/-- a slice that reads as these numbers -/
def SliceIs (n : Nat) (xs : List Int) (w : World) : Ending → World → Prop := fun e w' => ∃ A c, e = .returned (.slice A n c) ∧ IntsR w' A xs ∧ Below w.heap.size w w'
set_option maxRecDepth 100000 in
set_option maxHeartbeats 1000000 in
theorem sorted_c (A : Option Addr) (n c : Nat) (xs : List Int) (hn : n ≤ 1000) (w : World) (hz : NumsR w A n c xs) :
    Calls Tryz.prog 232 #[.slice A n c] w (SliceIs n (srt xs) w) := by
  obtain ⟨i0, hi, hz0, hz1, hz2⟩ := info_parts infoI
  have HZ := Lib.hid hz
  have hrow := World.ownsRow_lit (base := w.heap.size) (e := 2) (size := 1) w #[] 0 (Nat.le_refl _) (by simp [maxLen]) rfl
  have hl : (xs.map (Value.int .i64)).length = n * 1 := by rw [List.length_map, hz.len, Nat.mul_one]
  have hnil := Lib.hid hz.none_
  have HL := Lib.hid hl
  clear hz hl
  go_enter Tryz.func232, Tryz.ntmps232
  go_wp2_with (at_builtin; refine wpList_append_any rfl _ _ 85 rfl w.heap.size 2 i0 (.int .i64 0) 1 8 Tryz.underlying85 hi hz0 hz1 hz2 rfl (by decide) _ _ _ rfl hrow A n c (xs.map (Value.int .i64)) rfl hnil.out HL.out (HZ.out.reads.on (below1 _ _)).cells (ints_cells xs) (by unfold maxLen; omega) (by omega) (by simp) ?_)
  intro v1 w2 hown hg
  have hb2 : Below w.heap.size w w2 := own_below0 hrow (below1 _ _) (Nat.le_refl _) hg
  have hlen : xs.length = n := HZ.out.len
  have hown2 : OwnI w.heap.size v1 xs w2 := by
    unfold OwnI
    rw [hlen]
    simpa using hown
  have HS := Lib.hid (sort_own v1 xs (by omega) w2 hown2)
  have H2 := Lib.hid hown2
  clear hown hg hrow hown2
  go_wp2_with (go_at_call 292; refine HS.out.mono ?_; rintro e w3 ⟨rfl, hs, hg2⟩)
  have hb3 := own_below0 H2.out hb2 (Nat.le_refl _) hg2
  obtain ⟨A2, c2, rfl, hr, _, _⟩ := hs.reads
  go_ret
  exact ⟨A2, c2, by rw [srt_len, hlen]; rfl, hr, hb3⟩
set_option maxRecDepth 100000 in
set_option maxHeartbeats 1000000 in
theorem small_no (A : Option Addr) (n c : Nat) (k : Int) (hk : k < 1 ∨ (n : Int) < k) (w : World) :
    Calls Tryz.prog 132 #[.slice A n c, .int .i64 k] w fun e w' => e = .returned (.tuple #[.int .i64 0, .bool false]) ∧ Below w.heap.size w w' := by
  have HP := Lib.hid (fun w1 => place_c A n c k false (by simp; omega) w1)
  clear hk
  go_enter Tryz.func132, Tryz.ntmps132
  go_wp2_with (go_at_call 233; refine (HP.out _).mono ?_; rintro e w1 ⟨rfl, rfl⟩)
  go_ret2
  exact ⟨rfl, Below.refl _ _⟩
set_option maxRecDepth 100000 in
set_option maxHeartbeats 1000000 in
theorem large_no (A : Option Addr) (n c : Nat) (k : Int) (hk : k < 1 ∨ (n : Int) < k) (w : World) :
    Calls Tryz.prog 131 #[.slice A n c, .int .i64 k] w fun e w' => e = .returned (.tuple #[.int .i64 0, .bool false]) ∧ Below w.heap.size w w' := by
  have HP := Lib.hid (fun w1 => place_c A n c k false (by simp; omega) w1)
  clear hk
  go_enter Tryz.func131, Tryz.ntmps131
  go_wp2_with (go_at_call 233; refine (HP.out _).mono ?_; rintro e w1 ⟨rfl, rfl⟩)
  go_ret2
  exact ⟨rfl, Below.refl _ _⟩
set_option maxRecDepth 100000 in
set_option maxHeartbeats 1000000 in
theorem small_yes (A : Option Addr) (n c : Nat) (xs : List Int) (hn : n ≤ 1000) (j : Nat) (x k : Int) (hk : k = (j : Int) + 1) (hx : (srt xs)[j]? = some x) (w : World) (hz : NumsR w A n c xs) :
    Calls Tryz.prog 132 #[.slice A n c, .int .i64 k] w fun e w' => e = .returned (.tuple #[.int .i64 x, .bool true]) ∧ Below w.heap.size w w' := by
  have hj : j < n := by have := (List.getElem?_eq_some_iff.1 hx).1; rw [srt_len, hz.len] at this; exact this
  have HP := Lib.hid (fun w1 => place_c A n c k true (by simp; omega) w1)
  have HS := Lib.hid (sorted_c A n c xs hn w hz)
  have HX := Lib.hid hx
  have hk1 : k - 1 = (j : Int) := by omega
  have hk2 : 1 ≤ k ∧ k ≤ 1000 := by omega
  clear hz hx hk
  go_enter Tryz.func132, Tryz.ntmps132
  go_wp2_with (first
    | (go_at_call 233; refine (HP.out _).mono ?_; rintro e w1 ⟨rfl, rfl⟩)
    | (go_at_call 232; refine HS.out.mono ?_; rintro e w1 ⟨A2, c2, rfl, hr, hb⟩; obtain ⟨g, o, rfl, hg, c0⟩ := hr.at HX.out; clear hr))
  go_ret2
  exact ⟨rfl, hb⟩
set_option maxRecDepth 100000 in
set_option maxHeartbeats 1000000 in
theorem large_yes (A : Option Addr) (n c : Nat) (xs : List Int) (hn : n ≤ 1000) (j : Nat) (x k : Int) (hk : (n : Int) - k = (j : Int)) (hx : (srt xs)[j]? = some x) (hk2 : 1 ≤ k ∧ k ≤ (n : Int)) (w : World) (hz : NumsR w A n c xs) :
    Calls Tryz.prog 131 #[.slice A n c, .int .i64 k] w fun e w' => e = .returned (.tuple #[.int .i64 x, .bool true]) ∧ Below w.heap.size w w' := by
  have hj : j < n := by omega
  have HP := Lib.hid (fun w1 => place_c A n c k true (by simp; omega) w1)
  have HS := Lib.hid (sorted_c A n c xs hn w hz)
  have HX := Lib.hid hx
  clear hz hx
  go_enter Tryz.func131, Tryz.ntmps131
  go_wp2_with (first
    | (go_at_call 233; refine (HP.out _).mono ?_; rintro e w1 ⟨rfl, rfl⟩)
    | (go_at_call 232; refine HS.out.mono ?_; rintro e w1 ⟨A2, c2, rfl, hr, hb⟩; obtain ⟨g, o, rfl, hg, c0⟩ := hr.at HX.out; clear hr))
  go_ret2
  exact ⟨rfl, hb⟩
/-- two results, and memory that only grew -/
def TwoB (n : Int) (b : Bool) (w : World) : Ending → World → Prop := fun e w' => e = .returned (.tuple #[.int .i64 n, .bool b]) ∧ Below w.heap.size w w'
theorem small_c (A : Option Addr) (n c : Nat) (xs : List Int) (hn : n ≤ 1000) (k m : Int) (b : Bool) (hm : smallD xs k = (m, b)) (w : World) (hz : NumsR w A n c xs) :
    Calls Tryz.prog 132 #[.slice A n c, .int .i64 k] w (TwoB m b w) := by
  have hl := hz.len
  by_cases h : k < 1 ∨ (n : Int) < k
  · obtain ⟨rfl, rfl⟩ := Prod.mk.inj ((smallD_no (by rw [hl]; exact h)).symm.trans hm)
    exact small_no A n c k h w
  · obtain ⟨y, hx⟩ : ∃ y, (srt xs)[(k - 1).toNat]? = some y := ⟨_, List.getElem?_eq_getElem (by rw [srt_len]; omega)⟩
    have h2 := smallD_yes hx
    rw [show (((k - 1).toNat : Nat) : Int) + 1 = k by omega] at h2
    obtain ⟨rfl, rfl⟩ := Prod.mk.inj (h2.symm.trans hm)
    exact small_yes A n c xs hn _ y k (by omega) hx w hz
theorem large_c (A : Option Addr) (n c : Nat) (xs : List Int) (hn : n ≤ 1000) (k m : Int) (b : Bool) (hm : largeD xs k = (m, b)) (w : World) (hz : NumsR w A n c xs) :
    Calls Tryz.prog 131 #[.slice A n c, .int .i64 k] w (TwoB m b w) := by
  have hl := hz.len
  by_cases h : k < 1 ∨ (n : Int) < k
  · obtain ⟨rfl, rfl⟩ := Prod.mk.inj ((largeD_no (by rw [hl]; exact h)).symm.trans hm)
    exact large_no A n c k h w
  · obtain ⟨y, hx⟩ : ∃ y, (srt xs)[((n : Int) - k).toNat]? = some y := ⟨_, List.getElem?_eq_getElem (by rw [srt_len]; omega)⟩
    have h2 := largeD_yes hx
    rw [hl, show (n : Int) - ((((n : Int) - k).toNat : Nat) : Int) = k by omega] at h2
    obtain ⟨rfl, rfl⟩ := Prod.mk.inj (h2.symm.trans hm)
    exact large_yes A n c xs hn _ y k (by omega) hx (by omega) w hz
end Go.Proofs.YtebjedbppiphgaaGreatDoor.Odr

/- What package order's Sorted, isPlace, Small, Large, Rank and Mode answer: for any slice of at most 1000 numbers. -/
import Derived.Test.YtngnjphhjmhomaaOrdSort
import Derived.Maps.OwnOps
namespace Go.Proofs.Ytngnjphhjmhomaa.Odr
open Go.RowKit Kit Reg Dec Go.Maps

set_option maxRecDepth 100000 in
set_option maxHeartbeats 1000000 in
theorem place_c (A : Option Addr) (n c : Nat) (k : Int) (b : Bool) (hb : (decide (1 ≤ k) && decide (k ≤ (n : Int))) = b) (w : World) :
    Calls Try.prog 22 #[.slice A n c, .int .i64 k] w fun e w' => e = .returned (.bool b) ∧ w = w' := by
  subst hb
  by_cases h : 1 ≤ k
  · rw [decide_eq_true h, Bool.true_and]
    go_enter Try.func22, Try.ntmps22
    go_wp2
    go_ret
    exact ⟨rfl, rfl⟩
  · rw [decide_eq_false h, Bool.false_and]
    go_enter Try.func22, Try.ntmps22
    go_wp2
    go_ret
    exact ⟨rfl, rfl⟩
/-- a slice that reads as these numbers -/
def SliceIs (n : Nat) (xs : List Int) (w : World) : Ending → World → Prop := fun e w' => ∃ A c, e = .returned (.slice A n c) ∧ IntsR w' A xs ∧ Below w.heap.size w w'
set_option maxRecDepth 100000 in
set_option maxHeartbeats 1000000 in
theorem sorted_c (A : Option Addr) (n c : Nat) (xs : List Int) (hn : n ≤ 1000) (w : World) (hz : NumsR w A n c xs) :
    Calls Try.prog 8 #[.slice A n c] w (SliceIs n (srt xs) w) := by
  obtain ⟨i0, hi, hz0, hz1, hz2⟩ := info_parts infoI
  have HZ := Lib.hid hz
  have hrow := World.ownsRow_lit (base := w.heap.size) (e := 2) (size := 1) w #[] 0 (Nat.le_refl _) (by simp [maxLen]) rfl
  have hl : (xs.map (Value.int .i64)).length = n * 1 := by rw [List.length_map, hz.len, Nat.mul_one]
  have hnil := Lib.hid hz.none_
  have HL := Lib.hid hl
  clear hz hl
  go_enter Try.func8, Try.ntmps8
  go_wp2_with (at_builtin; refine wpList_append_any rfl _ _ 22 rfl w.heap.size 2 i0 (.int .i64 0) 1 8 Try.underlying22 hi hz0 hz1 hz2 rfl (by decide) _ _ _ rfl hrow A n c (xs.map (Value.int .i64)) rfl hnil.out HL.out (HZ.out.reads.on (below1 _ _)).cells (ints_cells xs) (by unfold maxLen; omega) (by omega) (by simp) ?_)
  intro v1 w2 hown hg
  have hb2 : Below w.heap.size w w2 := own_below0 hrow (below1 _ _) (Nat.le_refl _) hg
  have hlen : xs.length = n := HZ.out.len
  have hown2 : OwnI w.heap.size v1 xs w2 := by
    unfold OwnI
    rw [hlen]
    simpa using hown
  have HS := Lib.hid (sort_own v1 xs (by omega) w2 hown2)
  have H2 := Lib.hid hown2
  clear hown hg hrow hown2
  go_wp2_with (go_at_call 21; refine HS.out.mono ?_; rintro e w3 ⟨rfl, hs, hg2⟩)
  have hb3 := own_below0 H2.out hb2 (Nat.le_refl _) hg2
  obtain ⟨A2, c2, rfl, hr, _, _⟩ := hs.reads
  go_ret
  exact ⟨A2, c2, by rw [srt_len, hlen]; rfl, hr, hb3⟩
set_option maxRecDepth 100000 in
set_option maxHeartbeats 1000000 in
theorem small_no (A : Option Addr) (n c : Nat) (k : Int) (hk : k < 1 ∨ (n : Int) < k) (w : World) :
    Calls Try.prog 10 #[.slice A n c, .int .i64 k] w fun e w' => e = .returned (.tuple #[.int .i64 0, .bool false]) ∧ Below w.heap.size w w' := by
  have HP := Lib.hid (fun w1 => place_c A n c k false (by simp; omega) w1)
  clear hk
  go_enter Try.func10, Try.ntmps10
  go_wp2_with (go_at_call 22; refine (HP.out _).mono ?_; rintro e w1 ⟨rfl, rfl⟩)
  go_ret2
  exact ⟨rfl, Below.refl _ _⟩
set_option maxRecDepth 100000 in
set_option maxHeartbeats 1000000 in
theorem large_no (A : Option Addr) (n c : Nat) (k : Int) (hk : k < 1 ∨ (n : Int) < k) (w : World) :
    Calls Try.prog 11 #[.slice A n c, .int .i64 k] w fun e w' => e = .returned (.tuple #[.int .i64 0, .bool false]) ∧ Below w.heap.size w w' := by
  have HP := Lib.hid (fun w1 => place_c A n c k false (by simp; omega) w1)
  clear hk
  go_enter Try.func11, Try.ntmps11
  go_wp2_with (go_at_call 22; refine (HP.out _).mono ?_; rintro e w1 ⟨rfl, rfl⟩)
  go_ret2
  exact ⟨rfl, Below.refl _ _⟩
set_option maxRecDepth 100000 in
set_option maxHeartbeats 1000000 in
theorem small_yes (A : Option Addr) (n c : Nat) (xs : List Int) (hn : n ≤ 1000) (j : Nat) (x k : Int) (hk : k = (j : Int) + 1) (hx : (srt xs)[j]? = some x) (w : World) (hz : NumsR w A n c xs) :
    Calls Try.prog 10 #[.slice A n c, .int .i64 k] w fun e w' => e = .returned (.tuple #[.int .i64 x, .bool true]) ∧ Below w.heap.size w w' := by
  have hj : j < n := by have := (List.getElem?_eq_some_iff.1 hx).1; rw [srt_len, hz.len] at this; exact this
  have HP := Lib.hid (fun w1 => place_c A n c k true (by simp; omega) w1)
  have HS := Lib.hid (sorted_c A n c xs hn w hz)
  have HX := Lib.hid hx
  have hk1 : k - 1 = (j : Int) := by omega
  have hk2 : 1 ≤ k ∧ k ≤ 1000 := by omega
  clear hz hx hk
  go_enter Try.func10, Try.ntmps10
  go_wp2_with (first
    | (go_at_call 22; refine (HP.out _).mono ?_; rintro e w1 ⟨rfl, rfl⟩)
    | (go_at_call 8; refine HS.out.mono ?_; rintro e w1 ⟨A2, c2, rfl, hr, hb⟩; obtain ⟨g, o, rfl, hg, c0⟩ := hr.at HX.out; clear hr))
  go_ret2
  exact ⟨rfl, hb⟩
set_option maxRecDepth 100000 in
set_option maxHeartbeats 1000000 in
theorem large_yes (A : Option Addr) (n c : Nat) (xs : List Int) (hn : n ≤ 1000) (j : Nat) (x k : Int) (hk : (n : Int) - k = (j : Int)) (hx : (srt xs)[j]? = some x) (hk2 : 1 ≤ k ∧ k ≤ (n : Int)) (w : World) (hz : NumsR w A n c xs) :
    Calls Try.prog 11 #[.slice A n c, .int .i64 k] w fun e w' => e = .returned (.tuple #[.int .i64 x, .bool true]) ∧ Below w.heap.size w w' := by
  have hj : j < n := by omega
  have HP := Lib.hid (fun w1 => place_c A n c k true (by simp; omega) w1)
  have HS := Lib.hid (sorted_c A n c xs hn w hz)
  have HX := Lib.hid hx
  clear hz hx
  go_enter Try.func11, Try.ntmps11
  go_wp2_with (first
    | (go_at_call 22; refine (HP.out _).mono ?_; rintro e w1 ⟨rfl, rfl⟩)
    | (go_at_call 8; refine HS.out.mono ?_; rintro e w1 ⟨A2, c2, rfl, hr, hb⟩; obtain ⟨g, o, rfl, hg, c0⟩ := hr.at HX.out; clear hr))
  go_ret2
  exact ⟨rfl, hb⟩
/-- two results, and memory that only grew -/
def TwoB (n : Int) (b : Bool) (w : World) : Ending → World → Prop := fun e w' => e = .returned (.tuple #[.int .i64 n, .bool b]) ∧ Below w.heap.size w w'
theorem small_c (A : Option Addr) (n c : Nat) (xs : List Int) (hn : n ≤ 1000) (k m : Int) (b : Bool) (hm : smallD xs k = (m, b)) (w : World) (hz : NumsR w A n c xs) :
    Calls Try.prog 10 #[.slice A n c, .int .i64 k] w (TwoB m b w) := by
  have hl := hz.len
  by_cases h : k < 1 ∨ (n : Int) < k
  · obtain ⟨rfl, rfl⟩ := Prod.mk.inj ((smallD_no (by rw [hl]; exact h)).symm.trans hm)
    exact small_no A n c k h w
  · obtain ⟨y, hx⟩ : ∃ y, (srt xs)[(k - 1).toNat]? = some y := ⟨_, List.getElem?_eq_getElem (by rw [srt_len]; omega)⟩
    have h2 := smallD_yes hx
    rw [show (((k - 1).toNat : Nat) : Int) + 1 = k by omega] at h2
    obtain ⟨rfl, rfl⟩ := Prod.mk.inj (h2.symm.trans hm)
    exact small_yes A n c xs hn _ y k (by omega) hx w hz
theorem large_c (A : Option Addr) (n c : Nat) (xs : List Int) (hn : n ≤ 1000) (k m : Int) (b : Bool) (hm : largeD xs k = (m, b)) (w : World) (hz : NumsR w A n c xs) :
    Calls Try.prog 11 #[.slice A n c, .int .i64 k] w (TwoB m b w) := by
  have hl := hz.len
  by_cases h : k < 1 ∨ (n : Int) < k
  · obtain ⟨rfl, rfl⟩ := Prod.mk.inj ((largeD_no (by rw [hl]; exact h)).symm.trans hm)
    exact large_no A n c k h w
  · obtain ⟨y, hx⟩ : ∃ y, (srt xs)[((n : Int) - k).toNat]? = some y := ⟨_, List.getElem?_eq_getElem (by rw [srt_len]; omega)⟩
    have h2 := largeD_yes hx
    rw [hl, show (n : Int) - ((((n : Int) - k).toNat : Nat) : Int) = k by omega] at h2
    obtain ⟨rfl, rfl⟩ := Prod.mk.inj (h2.symm.trans hm)
    exact large_yes A n c xs hn _ y k (by omega) hx (by omega) w hz
set_option maxRecDepth 100000 in
set_option maxHeartbeats 1000000 in
theorem rank_no (A : Option Addr) (n c : Nat) (xs : List Int) (hn : n ≤ 1000) (x : Int) (hx : ¬ x ∈ xs) (w : World) (hz : NumsR w A n c xs) :
    Calls Try.prog 16 #[.int .i64 x, .slice A n c] w fun e w' => e = .returned (.tuple #[.int .i64 0, .bool false]) ∧ w = w' := by
  have HC := Lib.hid (contains_c A n c xs x (by omega) false (by simpa using hx) w hz)
  clear hx hz
  go_enter Try.func16, Try.ntmps16
  go_wp2_with (go_at_call 26; refine HC.out.mono ?_; rintro e w1 ⟨rfl, rfl⟩)
  go_ret2
  exact ⟨rfl, rfl⟩
set_option maxRecDepth 100000 in
set_option maxHeartbeats 1000000 in
theorem rank_yes (A : Option Addr) (n c : Nat) (xs : List Int) (hn : n ≤ 1000) (x : Int) (hx : x ∈ xs) (w : World) (hz : NumsR w A n c xs) :
    Calls Try.prog 16 #[.int .i64 x, .slice A n c] w fun e w' => e = .returned (.tuple #[.int .i64 (1 + (gtN x xs : Int)), .bool true]) ∧ w = w' := by
  have HC := Lib.hid (contains_c A n c xs x (by omega) true (by simpa using hx) w hz)
  have HZ := Lib.hid hz
  clear hx hz
  go_enter Try.func16, Try.ntmps16
  go_wp2_with (go_at_call 26; refine HC.out.mono ?_; rintro e w1 ⟨rfl, rfl⟩)
  go_loopw [6, 15] (fun r i wr => ∃ k m : Nat, k ≤ n ∧ i = .int .i64 k ∧ Hid (gtN x (xs.take k) = m) ∧ m ≤ k ∧ r = .int .i64 (1 + (m : Int)) ∧ w = wr) (fun _ i _ => n - (intOf i).toNat)
  case atStart => exact ⟨0, 0, Nat.zero_le _, rfl, Lib.hid rfl, Nat.le_refl _, rfl, rfl⟩
  case round =>
    obtain ⟨k, m, hk, rfl, HM, hm, rfl, rfl⟩ := hrel
    by_cases hlt : k < n
    · obtain ⟨y, hy⟩ := HZ.out.get hlt
      obtain ⟨b, o, rfl, hb, c0⟩ := HZ.out.at hy
      have HY := Lib.hid hy
      clear hy
      by_cases h : x < y
      · have HN : Hid (gtN x (xs.take (k + 1)) = m + 1) := Lib.hid (by rw [gtN_hit HY.out h, HM.out])
        clear HY HM
        go_wp2
        go_roundw
        case rel => exact ⟨k + 1, m + 1, by omega, by go_num, HN, by omega, by go_num, by first | rfl | trivial⟩
        case measure => simp [intOf]; omega
      · have HN : Hid (gtN x (xs.take (k + 1)) = m) := Lib.hid (by rw [gtN_miss HY.out h, HM.out])
        clear HY HM
        go_wp2
        go_roundw
        case rel => exact ⟨k + 1, m, by omega, by go_num, HN, by omega, by go_num, by first | rfl | trivial⟩
        case measure => simp [intOf]; omega
    · obtain rfl : k = n := by omega
      have HE : Hid (gtN x xs = m) := Lib.hid (by have := HM.out; rwa [List.take_of_length_le (by rw [HZ.out.len]; omega)] at this)
      go_wp2
      go_ret2
      exact ⟨by rw [HE.out]; rfl, rfl⟩
theorem rank_c (A : Option Addr) (n c : Nat) (xs : List Int) (hn : n ≤ 1000) (x m : Int) (b : Bool) (hm : rankD x xs = (m, b)) (w : World) (hz : NumsR w A n c xs) :
    Calls Try.prog 16 #[.int .i64 x, .slice A n c] w fun e w' => e = .returned (.tuple #[.int .i64 m, .bool b]) ∧ w = w' := by
  by_cases h : x ∈ xs
  · obtain ⟨rfl, rfl⟩ := Prod.mk.inj ((rankD_yes h).symm.trans hm)
    exact rank_yes A n c xs hn x h w hz
  · obtain ⟨rfl, rfl⟩ := Prod.mk.inj ((rankD_no h).symm.trans hm)
    exact rank_no A n c xs hn x h w hz
end Go.Proofs.Ytngnjphhjmhomaa.Odr

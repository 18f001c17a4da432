/- What package order's Sorted, isPlace, Small, Large, Rank and Mode answer: for any slice of at most 1000 numbers.
   What package order's Mode answers: for any slice of at most 1000 numbers. How often a number is there is kept in a map.
   What package order's Median answers: for any slice of at most 1000 numbers.
   What the reference's functions of lists answer. Written by wip/gen20e.py.
   The reference's Call, function by function: lists; what it doesn't call; NA. Written by wip/gen20l.py.
   What package fname answers: row, count, Name, Fits, Kind, Lazy, Number. -/
import Derived.Test.YtebjedbppiphgaaGreatDoorKtu33
import Derived.Maps.OwnOps
import Derived.Test.YtebjedbppiphgaaGreatDoorKtu10
import Derived.Deep.QuietTactic
import Derived.BigQuiet
import Derived.Test.YtebjedbppiphgaaGreatDoorKtu24
import Derived.Test.YtebjedbppiphgaaGreatDoorKtu32
import Derived.Test.YtebjedbppiphgaaGreatDoorKtu11
import Derived.Test.YtebjedbppiphgaaGreatDoorKtu23
import Derived.Test.YtebjedbppiphgaaGreatDoorKtu30
import Derived.Test.YtebjedbppiphgaaGreatDoorKtu29
import Derived.Test.YtebjedbppiphgaaGreatDoorKtu03
import Derived.Test.YtebjedbppiphgaaGreatDoorKtu05
import Derived.Lib.Strings
namespace Go.Proofs.YtebjedbppiphgaaGreatDoor.Odr
open Go.RowKit Kit Reg Dec Go.Maps
set_option maxRecDepth 100000 in
set_option maxHeartbeats 1000000 in
theorem place_c (A : Option Addr) (n c : Nat) (k : Int) (b : Bool) (hb : (decide (1 ≤ k) && decide (k ≤ (n : Int))) = b) (w : World) :
    Calls Tryz.prog 233 #[.slice A n c, .int .i64 k] w fun e w' => e = .returned (.bool b) ∧ w = w' := by
  subst hb
  by_cases h : 1 ≤ k
  · rw [decide_eq_true h, Bool.true_and]
    go_enter Tryz.func233, Tryz.ntmps233
    go_wp2
    go_ret
    exact ⟨rfl, rfl⟩
  · rw [decide_eq_false h, Bool.false_and]
    go_enter Tryz.func233, Tryz.ntmps233
    go_wp2
    go_ret
    exact ⟨rfl, rfl⟩
/-- a slice that reads as these numbers -/
def SliceIs (n : Nat) (xs : List Int) (w : World) : Ending → World → Prop := fun e w' => ∃ A c, e = .returned (.slice A n c) ∧ IntsR w' A xs ∧ Below w.heap.size w w'
set_option maxRecDepth 100000 in
set_option maxHeartbeats 1000000 in
theorem sorted_c (A : Option Addr) (n c : Nat) (xs : List Int) (hn : n ≤ 1000) (w : World) (hz : NumsR w A n c xs) :
    Calls Tryz.prog 232 #[.slice A n c] w (SliceIs n (srt xs) w) := by
  obtain ⟨i0, hi, hz0, hz1, hz2⟩ := info_parts infoI
  have HZ := Lib.hid hz
  have hrow := World.ownsRow_lit (base := w.heap.size) (e := 2) (size := 1) w #[] 0 (Nat.le_refl _) (by simp [maxLen]) rfl
  have hl : (xs.map (Value.int .i64)).length = n * 1 := by rw [List.length_map, hz.len, Nat.mul_one]
  have hnil := Lib.hid hz.none_
  have HL := Lib.hid hl
  clear hz hl
  go_enter Tryz.func232, Tryz.ntmps232
  go_wp2_with (at_builtin; refine wpList_append_any rfl _ _ 85 rfl w.heap.size 2 i0 (.int .i64 0) 1 8 Tryz.underlying85 hi hz0 hz1 hz2 rfl (by decide) _ _ _ rfl hrow A n c (xs.map (Value.int .i64)) rfl hnil.out HL.out (HZ.out.reads.on (below1 _ _)).cells (ints_cells xs) (by unfold maxLen; omega) (by omega) (by simp) ?_)
  intro v1 w2 hown hg
  have hb2 : Below w.heap.size w w2 := own_below0 hrow (below1 _ _) (Nat.le_refl _) hg
  have hlen : xs.length = n := HZ.out.len
  have hown2 : OwnI w.heap.size v1 xs w2 := by
    unfold OwnI
    rw [hlen]
    simpa using hown
  have HS := Lib.hid (sort_own v1 xs (by omega) w2 hown2)
  have H2 := Lib.hid hown2
  clear hown hg hrow hown2
  go_wp2_with (go_at_call 292; refine HS.out.mono ?_; rintro e w3 ⟨rfl, hs, hg2⟩)
  have hb3 := own_below0 H2.out hb2 (Nat.le_refl _) hg2
  obtain ⟨A2, c2, rfl, hr, _, _⟩ := hs.reads
  go_ret
  exact ⟨A2, c2, by rw [srt_len, hlen]; rfl, hr, hb3⟩
set_option maxRecDepth 100000 in
set_option maxHeartbeats 1000000 in
theorem large_no (A : Option Addr) (n c : Nat) (k : Int) (hk : k < 1 ∨ (n : Int) < k) (w : World) :
    Calls Tryz.prog 131 #[.slice A n c, .int .i64 k] w fun e w' => e = .returned (.tuple #[.int .i64 0, .bool false]) ∧ Below w.heap.size w w' := by
  have HP := Lib.hid (fun w1 => place_c A n c k false (by simp; omega) w1)
  clear hk
  go_enter Tryz.func131, Tryz.ntmps131
  go_wp2_with (go_at_call 233; refine (HP.out _).mono ?_; rintro e w1 ⟨rfl, rfl⟩)
  go_ret2
  exact ⟨rfl, Below.refl _ _⟩
set_option maxRecDepth 100000 in
set_option maxHeartbeats 1000000 in
theorem large_yes (A : Option Addr) (n c : Nat) (xs : List Int) (hn : n ≤ 1000) (j : Nat) (x k : Int) (hk : (n : Int) - k = (j : Int)) (hx : (srt xs)[j]? = some x) (hk2 : 1 ≤ k ∧ k ≤ (n : Int)) (w : World) (hz : NumsR w A n c xs) :
    Calls Tryz.prog 131 #[.slice A n c, .int .i64 k] w fun e w' => e = .returned (.tuple #[.int .i64 x, .bool true]) ∧ Below w.heap.size w w' := by
  have hj : j < n := by omega
  have HP := Lib.hid (fun w1 => place_c A n c k true (by simp; omega) w1)
  have HS := Lib.hid (sorted_c A n c xs hn w hz)
  have HX := Lib.hid hx
  clear hz hx
  go_enter Tryz.func131, Tryz.ntmps131
  go_wp2_with (first
    | (go_at_call 233; refine (HP.out _).mono ?_; rintro e w1 ⟨rfl, rfl⟩)
    | (go_at_call 232; refine HS.out.mono ?_; rintro e w1 ⟨A2, c2, rfl, hr, hb⟩; obtain ⟨g, o, rfl, hg, c0⟩ := hr.at HX.out; clear hr))
  go_ret2
  exact ⟨rfl, hb⟩
/-- two results, and memory that only grew -/
def TwoB (n : Int) (b : Bool) (w : World) : Ending → World → Prop := fun e w' => e = .returned (.tuple #[.int .i64 n, .bool b]) ∧ Below w.heap.size w w'
theorem large_c (A : Option Addr) (n c : Nat) (xs : List Int) (hn : n ≤ 1000) (k m : Int) (b : Bool) (hm : largeD xs k = (m, b)) (w : World) (hz : NumsR w A n c xs) :
    Calls Tryz.prog 131 #[.slice A n c, .int .i64 k] w (TwoB m b w) := by
  have hl := hz.len
  by_cases h : k < 1 ∨ (n : Int) < k
  · obtain ⟨rfl, rfl⟩ := Prod.mk.inj ((largeD_no (by rw [hl]; exact h)).symm.trans hm)
    exact large_no A n c k h w
  · obtain ⟨y, hx⟩ : ∃ y, (srt xs)[((n : Int) - k).toNat]? = some y := ⟨_, List.getElem?_eq_getElem (by rw [srt_len]; omega)⟩
    have h2 := largeD_yes hx
    rw [hl, show (n : Int) - ((((n : Int) - k).toNat : Nat) : Int) = k by omega] at h2
    obtain ⟨rfl, rfl⟩ := Prod.mk.inj (h2.symm.trans hm)
    exact large_yes A n c xs hn _ y k (by omega) hx (by omega) w hz
end Go.Proofs.YtebjedbppiphgaaGreatDoor.Odr
namespace Go.Proofs.YtebjedbppiphgaaGreatDoor.Odr
open Go.RowKit Kit Reg Dec Go.Maps
/-- a map of one's own that reads as how often each number is there -/
def MapC (B k : Nat) (p : List Int) (w : World) : Prop := ∃ D, w.ownsMap Tryz.prog 2 (plainElem (H := Unit) Tryz.prog 3) B k D ∧ IsCnt D p
theorem MapC.on {B k : Nat} {p : List Int} {w w' : World} (h : MapC B k p w) (hb : Below w.heap.size w w') : MapC B k p w' := by
  obtain ⟨D, h1, h2⟩ := h
  exact ⟨D, h1.kept (below_none hb) (by simp), h2⟩
end Go.Proofs.YtebjedbppiphgaaGreatDoor.Odr
namespace Go.Proofs.YtebjedbppiphgaaGreatDoor.Odr
open Go.RowKit Kit Reg Dec
theorem halves {n h r : Nat} (hd : n / 2 = h) (hm : n % 2 = r) : ((n : Int).tdiv 2 = (h : Int) ∧ (n : Int).tmod 2 = (r : Int)) ∧ n = 2 * h + r ∧ r ≤ 1 := by
  subst hd hm
  refine ⟨⟨rfl, rfl⟩, by omega, by omega⟩
end Go.Proofs.YtebjedbppiphgaaGreatDoor.Odr
namespace Go.Proofs.YtebjedbppiphgaaGreatDoor.Cal
open Go.RowKit Kit Reg Dec Dig Val Fld
/-- a list's numbers, as rows of numbers are read elsewhere -/
theorem nums_of {w : World} {A : Option Addr} {c : Nat} {L : List Vl} (hm : ∀ v ∈ L, v.may) (hf : ∀ v ∈ L, v.fits) (hr : IntsR w A (numsF L)) (hc : A = none → c = 0) : Odr.NumsR w A (numsF L).length c (numsF L) := by
  refine ⟨rfl, fun h => ⟨?_, hc h⟩, fun x hx => ?_, ?_⟩
  · rcases hr with h1 | ⟨g, o, h1, _⟩
    · rw [h1]; rfl
    · rw [h] at h1; cases h1
  · have := numsF_room hm hf hx
    exact ⟨by omega, this.2⟩
  · rcases hr with h1 | ⟨g, o, h1, h2, h3⟩
    · exact .inl h1
    · exact .inr ⟨g, o, h1, h2, h3⟩
end Go.Proofs.YtebjedbppiphgaaGreatDoor.Cal
namespace Go.Proofs.YtebjedbppiphgaaGreatDoor.Cal
open Go.RowKit Kit Reg Dec Dig Val Fld
theorem fits_most {fn : Int} {n : Nat} (h : Fnm.fitsF fn (n : Int) = true) : n ≤ 8 := by
  unfold Fnm.fitsF at h
  obtain ⟨h1, h2, h3, h4⟩ := of_decide_eq_true h
  have h5 := Fnm.of_all Fnm.hi_8 (k := fn.toNat - 1) (by omega)
  simp only [Bool.and_eq_true, decide_eq_true_eq] at h5
  omega
end Go.Proofs.YtebjedbppiphgaaGreatDoor.Cal
namespace Go.Proofs.YtebjedbppiphgaaGreatDoor.Fnm
open Go.RowKit Kit Reg
def tab : ByteArray := ⟨prows.flatten.toArray⟩
theorem tab_ext {k : Nat} (hk : k < 78) : (tab.extract (k * 18) ((k + 1) * 18)).data.toList = pr k := by
  rw [Lib.extract_data, show (k + 1) * 18 - k * 18 = 18 by omega]
  exact flat_k hk
theorem count_c (c : UInt8) (h : 48 ≤ c.toNat) (w : World) : Calls Tryz.prog 74 #[.int .u8 c.toNat] w fun e w' => e = .returned (.int .i64 ((c.toNat : Int) - 48)) ∧ w = w' := by
  have h2 : ((c.toNat : Int) - 48) % 256 = (c.toNat : Int) - 48 := Int.emod_eq_of_lt (by omega) (by have := c.toNat_lt; omega)
  go_enter Tryz.func74, Tryz.ntmps74
  go_wp2
  go_ret
  exact ⟨rfl, rfl⟩
set_option maxRecDepth 100000 in
set_option maxHeartbeats 2000000 in
theorem row_in (k : Nat) (hk : k < 78) (w : World) : Calls Tryz.prog 73 #[.int .i64 ((k : Int) + 1)] w fun e w' => ∃ s, e = .returned (.string s) ∧ s.data.toList = pr k ∧ w = w' := by
  have d0 : decide ((k : Int) + 1 < 1) = false := decide_eq_false (by omega)
  have d1 : decide ((78 : Int) < (k : Int) + 1) = false := decide_eq_false (by omega)
  have HT := Lib.hid (tab_ext hk)
  go_enter Tryz.func73, Tryz.ntmps73
  go_wp2
  go_ret
  exact ⟨_, rfl, HT.out, rfl⟩
set_option maxRecDepth 100000 in
set_option maxHeartbeats 2000000 in
theorem row_out (n : Int) (h : ¬ (1 ≤ n ∧ n ≤ 78)) (w : World) : Calls Tryz.prog 73 #[.int .i64 n] w fun e w' => e = .returned (.string ⟨#[]⟩) ∧ w = w' := by
  by_cases h0 : n < 1
  · have d0 : decide (n < 1) = true := decide_eq_true h0
    go_enter Tryz.func73, Tryz.ntmps73
    go_wp2
    go_ret
    exact ⟨rfl, rfl⟩
  · have d0 : decide (n < 1) = false := decide_eq_false h0
    have d1 : decide (78 < n) = true := decide_eq_true (by omega)
    go_enter Tryz.func73, Tryz.ntmps73
    go_wp2
    go_ret
    exact ⟨rfl, rfl⟩

set_option maxRecDepth 100000 in
set_option maxHeartbeats 2000000 in
theorem fits_c (fn n : Int) (r : Bool) (hr : fitsF fn n = r) (w : World) : Calls Tryz.prog 20 #[.int .i64 fn, .int .i64 n] w fun e w' => e = .returned (.bool r) ∧ Below w.heap.size w w' := by
  by_cases h : 1 ≤ fn ∧ fn ≤ 78
  · obtain ⟨k, hk, rfl⟩ := to_k h
    rw [fits_k hk] at hr
    have HR := Lib.hid (fun w1 => row_in k hk w1)
    obtain ⟨x, y, hl, hx, hy, hx4, hy4, hlo, hhi, _⟩ := pr_facts hk
    have HX := Lib.hid (fun w1 => count_c x hx4 w1)
    have HY := Lib.hid (fun w1 => count_c y hy4 w1)
    rw [hlo] at HX
    rw [hhi] at HY
    have HA := Lib.hid (fun (s : ByteArray) (hs : s.data.toList = pr k) => (⟨like_at s 11 x (hs ▸ hx), like_at s 13 y (hs ▸ hy)⟩ : (∃ hk : 11 < s.size, s[11] = x) ∧ ∃ hk : 13 < s.size, s[13] = y))
    have HE := Lib.hid (fun (s : ByteArray) (hs : s.data.toList = pr k) => (show (s.toList == []) = false by rw [Lib.toList_data, hs]; cases e : pr k with | nil => rw [e] at hl; cases hl | cons => rfl))
    generalize lo k = a at *
    generalize hi k = b at *
    clear hl hx hy hx4 hy4 hlo hhi h hk
    go_enter Tryz.func20, Tryz.ntmps20
    go_wp2_with fail
    refine (HR.out _).mono ?_
    rintro e w1 ⟨s, rfl, hs, rfl⟩
    obtain ⟨⟨hx1, hx2⟩, hy1, hy2⟩ := HA.out s hs
    have he := HE.out s hs
    clear hs
    by_cases h1 : a ≤ n
    · have d1 : decide (a ≤ n) = true := decide_eq_true h1
      go_wp2_with fail
      refine (HX.out _).mono ?_
      rintro e w1 ⟨rfl, rfl⟩
      go_wp2_with fail
      refine (HY.out _).mono ?_
      rintro e w1 ⟨rfl, rfl⟩
      go_wp2
      go_ret
      exact ⟨by rw [← hr, d1]; rfl, Below.refl _ _⟩
    · have d1 : decide (a ≤ n) = false := decide_eq_false h1
      go_wp2_with fail
      refine (HX.out _).mono ?_
      rintro e w1 ⟨rfl, rfl⟩
      go_wp2
      go_ret
      exact ⟨by rw [← hr, d1]; rfl, Below.refl _ _⟩
  · obtain rfl : false = r := by rw [← hr]; exact ((no_fn h).2.1 n).symm
    have HR := Lib.hid (fun w1 => row_out fn h w1)
    go_enter Tryz.func20, Tryz.ntmps20
    go_wp2_with fail
    refine (HR.out _).mono ?_
    rintro e w1 ⟨rfl, rfl⟩
    go_wp2
    go_ret
    exact ⟨rfl, Below.refl _ _⟩
set_option maxRecDepth 100000 in
set_option maxHeartbeats 2000000 in
theorem kind_c (fn n : Int) (r : UInt8) (hr : kindF fn n = r) (w : World) : Calls Tryz.prog 21 #[.int .i64 fn, .int .i64 n] w fun e w' => e = .returned (.int .u8 r.toNat) ∧ Below w.heap.size w w' := by
  by_cases h : 1 ≤ fn ∧ fn ≤ 78
  · obtain ⟨k, hk, rfl⟩ := to_k h
    have HR := Lib.hid (fun w1 => row_in k hk w1)
    obtain ⟨x, y, hl, hx, hy, hx4, hy4, hlo, hhi, hki⟩ := pr_facts hk
    have h8 := of_all hi_8 hk
    simp only [Bool.and_eq_true, decide_eq_true_eq] at h8
    have HY := Lib.hid (fun w1 => count_c y hy4 w1)
    rw [hhi] at HY
    have HA := Lib.hid (fun (s : ByteArray) (hs : s.data.toList = pr k) => like_at s 13 y (hs ▸ hy))
    have HE := Lib.hid (fun (s : ByteArray) (hs : s.data.toList = pr k) => (show (s.toList == []) = false by rw [Lib.toList_data, hs]; cases e : pr k with | nil => rw [e] at hl; cases hl | cons => rfl))
    by_cases h0 : n < 0
    · have d0 : decide (n < 0) = true := decide_eq_true h0
      obtain rfl : 0 = r := by rw [← hr]; exact (kind_no (.inl h0)).symm
      go_enter Tryz.func21, Tryz.ntmps21
      go_wp2_with fail
      refine (HR.out _).mono ?_
      rintro e w1 ⟨s, rfl, hs, rfl⟩
      have he := HE.out s hs
      clear hs
      go_wp2
      go_ret
      exact ⟨rfl, Below.refl _ _⟩
    · have d0 : decide (n < 0) = false := decide_eq_false h0
      by_cases h1 : hi k ≤ n
      · have d1 : decide (hi k ≤ n) = true := decide_eq_true h1
        obtain rfl : 0 = r := by rw [← hr]; exact (kind_no (.inr h1)).symm
        go_enter Tryz.func21, Tryz.ntmps21
        go_wp2_with fail
        refine (HR.out _).mono ?_
        rintro e w1 ⟨s, rfl, hs, rfl⟩
        obtain ⟨hy1, hy2⟩ := HA.out s hs
        have he := HE.out s hs
        clear hs
        go_wp2_with fail
        refine (HY.out _).mono ?_
        rintro e w1 ⟨rfl, rfl⟩
        go_wp2
        go_ret
        exact ⟨rfl, Below.refl _ _⟩
      · have d1 : decide (hi k ≤ n) = false := decide_eq_false h1
        obtain ⟨i, rfl⟩ := Int.eq_ofNat_of_zero_le (show 0 ≤ n by omega)
        rw [kind_k hk (by omega)] at hr
        have hz := hki i (by omega)
        rw [hr] at hz
        have HZ := Lib.hid (fun (s : ByteArray) (hs : s.data.toList = pr k) => like_at s (15 + min i 2) r (hs ▸ hz))
        have hm : (15 + min (i : Int) 2).toNat = 15 + min i 2 := by omega
        go_enter Tryz.func21, Tryz.ntmps21
        go_wp2_with fail
        refine (HR.out _).mono ?_
        rintro e w1 ⟨s, rfl, hs, rfl⟩
        obtain ⟨hy1, hy2⟩ := HA.out s hs
        obtain ⟨hz1, hz2⟩ := HZ.out s hs
        have h9 : s.size = 18 := by rw [← len, hs]; exact hl
        have he := HE.out s hs
        clear hs
        go_wp2_with fail
        refine (HY.out _).mono ?_
        rintro e w1 ⟨rfl, rfl⟩
        go_wp2
        go_ret
        exact ⟨rfl, Below.refl _ _⟩
  · obtain rfl : 0 = r := by rw [← hr]; exact ((no_fn h).2.2 n).symm
    have HR := Lib.hid (fun w1 => row_out fn h w1)
    go_enter Tryz.func21, Tryz.ntmps21
    go_wp2_with fail
    refine (HR.out _).mono ?_
    rintro e w1 ⟨rfl, rfl⟩
    go_wp2
    go_ret
    exact ⟨rfl, Below.refl _ _⟩
end Go.Proofs.YtebjedbppiphgaaGreatDoor.Fnm

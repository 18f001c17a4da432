/- What package fname answers: row, count, Name, Fits, Kind, Lazy, Number. -/
import Derived.Test.YtcgpggknmhlnkaaDoorPs33
import Derived.Lib.Strings
namespace Go.Proofs.YtcgpggknmhlnkaaDoor.Fnm
open Go.RowKit Kit Reg
def tab : ByteArray := ⟨prows.flatten.toArray⟩
theorem tab_ext {k : Nat} (hk : k < 78) : (tab.extract (k * 18) ((k + 1) * 18)).data.toList = pr k := by
  rw [Lib.extract_data, show (k + 1) * 18 - k * 18 = 18 by omega]
  exact flat_k hk
theorem count_c (c : UInt8) (h : 48 ≤ c.toNat) (w : World) : Calls Tryd.prog 41 #[.int .u8 c.toNat] w fun e w' => e = .returned (.int .i64 ((c.toNat : Int) - 48)) ∧ w = w' := by
  have h2 : ((c.toNat : Int) - 48) % 256 = (c.toNat : Int) - 48 := Int.emod_eq_of_lt (by omega) (by have := c.toNat_lt; omega)
  go_enter Tryd.func41, Tryd.ntmps41
  go_wp2
  go_ret
  exact ⟨rfl, rfl⟩
set_option maxRecDepth 100000 in
set_option maxHeartbeats 2000000 in
theorem row_in (k : Nat) (hk : k < 78) (w : World) : Calls Tryd.prog 40 #[.int .i64 ((k : Int) + 1)] w fun e w' => ∃ s, e = .returned (.string s) ∧ s.data.toList = pr k ∧ w = w' := by
  have d0 : decide ((k : Int) + 1 < 1) = false := decide_eq_false (by omega)
  have d1 : decide ((78 : Int) < (k : Int) + 1) = false := decide_eq_false (by omega)
  have HT := Lib.hid (tab_ext hk)
  go_enter Tryd.func40, Tryd.ntmps40
  go_wp2
  go_ret
  exact ⟨_, rfl, HT.out, rfl⟩
set_option maxRecDepth 100000 in
set_option maxHeartbeats 2000000 in
theorem row_out (n : Int) (h : ¬ (1 ≤ n ∧ n ≤ 78)) (w : World) : Calls Tryd.prog 40 #[.int .i64 n] w fun e w' => e = .returned (.string ⟨#[]⟩) ∧ w = w' := by
  by_cases h0 : n < 1
  · have d0 : decide (n < 1) = true := decide_eq_true h0
    go_enter Tryd.func40, Tryd.ntmps40
    go_wp2
    go_ret
    exact ⟨rfl, rfl⟩
  · have d0 : decide (n < 1) = false := decide_eq_false h0
    have d1 : decide (78 < n) = true := decide_eq_true (by omega)
    go_enter Tryd.func40, Tryd.ntmps40
    go_wp2
    go_ret
    exact ⟨rfl, rfl⟩

set_option maxRecDepth 100000 in
set_option maxHeartbeats 2000000 in
theorem fits_c (fn n : Int) (r : Bool) (hr : fitsF fn n = r) (w : World) : Calls Tryd.prog 30 #[.int .i64 fn, .int .i64 n] w fun e w' => e = .returned (.bool r) ∧ Below w.heap.size w w' := by
  by_cases h : 1 ≤ fn ∧ fn ≤ 78
  · obtain ⟨k, hk, rfl⟩ := to_k h
    rw [fits_k hk] at hr
    have HR := Lib.hid (fun w1 => row_in k hk w1)
    obtain ⟨x, y, hl, hx, hy, hx4, hy4, hlo, hhi, _⟩ := pr_facts hk
    have HX := Lib.hid (fun w1 => count_c x hx4 w1)
    have HY := Lib.hid (fun w1 => count_c y hy4 w1)
    rw [hlo] at HX
    rw [hhi] at HY
    have HA := Lib.hid (fun (s : ByteArray) (hs : s.data.toList = pr k) => (⟨like_at s 11 x (hs ▸ hx), like_at s 13 y (hs ▸ hy)⟩ : (∃ hk : 11 < s.size, s[11] = x) ∧ ∃ hk : 13 < s.size, s[13] = y))
    have HE := Lib.hid (fun (s : ByteArray) (hs : s.data.toList = pr k) => (show (s.toList == []) = false by rw [Lib.toList_data, hs]; cases e : pr k with | nil => rw [e] at hl; cases hl | cons => rfl))
    generalize lo k = a at *
    generalize hi k = b at *
    clear hl hx hy hx4 hy4 hlo hhi h hk
    go_enter Tryd.func30, Tryd.ntmps30
    go_wp2_with fail
    refine (HR.out _).mono ?_
    rintro e w1 ⟨s, rfl, hs, rfl⟩
    obtain ⟨⟨hx1, hx2⟩, hy1, hy2⟩ := HA.out s hs
    have he := HE.out s hs
    clear hs
    by_cases h1 : a ≤ n
    · have d1 : decide (a ≤ n) = true := decide_eq_true h1
      go_wp2_with fail
      refine (HX.out _).mono ?_
      rintro e w1 ⟨rfl, rfl⟩
      go_wp2_with fail
      refine (HY.out _).mono ?_
      rintro e w1 ⟨rfl, rfl⟩
      go_wp2
      go_ret
      exact ⟨by rw [← hr, d1]; rfl, Below.refl _ _⟩
    · have d1 : decide (a ≤ n) = false := decide_eq_false h1
      go_wp2_with fail
      refine (HX.out _).mono ?_
      rintro e w1 ⟨rfl, rfl⟩
      go_wp2
      go_ret
      exact ⟨by rw [← hr, d1]; rfl, Below.refl _ _⟩
  · obtain rfl : false = r := by rw [← hr]; exact ((no_fn h).2.1 n).symm
    have HR := Lib.hid (fun w1 => row_out fn h w1)
    go_enter Tryd.func30, Tryd.ntmps30
    go_wp2_with fail
    refine (HR.out _).mono ?_
    rintro e w1 ⟨rfl, rfl⟩
    go_wp2
    go_ret
    exact ⟨rfl, Below.refl _ _⟩
set_option maxRecDepth 100000 in
set_option maxHeartbeats 2000000 in
theorem kind_c (fn n : Int) (r : UInt8) (hr : kindF fn n = r) (w : World) : Calls Tryd.prog 32 #[.int .i64 fn, .int .i64 n] w fun e w' => e = .returned (.int .u8 r.toNat) ∧ Below w.heap.size w w' := by
  by_cases h : 1 ≤ fn ∧ fn ≤ 78
  · obtain ⟨k, hk, rfl⟩ := to_k h
    have HR := Lib.hid (fun w1 => row_in k hk w1)
    obtain ⟨x, y, hl, hx, hy, hx4, hy4, hlo, hhi, hki⟩ := pr_facts hk
    have h8 := of_all hi_8 hk
    simp only [Bool.and_eq_true, decide_eq_true_eq] at h8
    have HY := Lib.hid (fun w1 => count_c y hy4 w1)
    rw [hhi] at HY
    have HA := Lib.hid (fun (s : ByteArray) (hs : s.data.toList = pr k) => like_at s 13 y (hs ▸ hy))
    have HE := Lib.hid (fun (s : ByteArray) (hs : s.data.toList = pr k) => (show (s.toList == []) = false by rw [Lib.toList_data, hs]; cases e : pr k with | nil => rw [e] at hl; cases hl | cons => rfl))
    by_cases h0 : n < 0
    · have d0 : decide (n < 0) = true := decide_eq_true h0
      obtain rfl : 0 = r := by rw [← hr]; exact (kind_no (.inl h0)).symm
      go_enter Tryd.func32, Tryd.ntmps32
      go_wp2_with fail
      refine (HR.out _).mono ?_
      rintro e w1 ⟨s, rfl, hs, rfl⟩
      have he := HE.out s hs
      clear hs
      go_wp2
      go_ret
      exact ⟨rfl, Below.refl _ _⟩
    · have d0 : decide (n < 0) = false := decide_eq_false h0
      by_cases h1 : hi k ≤ n
      · have d1 : decide (hi k ≤ n) = true := decide_eq_true h1
        obtain rfl : 0 = r := by rw [← hr]; exact (kind_no (.inr h1)).symm
        go_enter Tryd.func32, Tryd.ntmps32
        go_wp2_with fail
        refine (HR.out _).mono ?_
        rintro e w1 ⟨s, rfl, hs, rfl⟩
        obtain ⟨hy1, hy2⟩ := HA.out s hs
        have he := HE.out s hs
        clear hs
        go_wp2_with fail
        refine (HY.out _).mono ?_
        rintro e w1 ⟨rfl, rfl⟩
        go_wp2
        go_ret
        exact ⟨rfl, Below.refl _ _⟩
      · have d1 : decide (hi k ≤ n) = false := decide_eq_false h1
        obtain ⟨i, rfl⟩ := Int.eq_ofNat_of_zero_le (show 0 ≤ n by omega)
        rw [kind_k hk (by omega)] at hr
        have hz := hki i (by omega)
        rw [hr] at hz
        have HZ := Lib.hid (fun (s : ByteArray) (hs : s.data.toList = pr k) => like_at s (15 + min i 2) r (hs ▸ hz))
        have hm : (15 + min (i : Int) 2).toNat = 15 + min i 2 := by omega
        go_enter Tryd.func32, Tryd.ntmps32
        go_wp2_with fail
        refine (HR.out _).mono ?_
        rintro e w1 ⟨s, rfl, hs, rfl⟩
        obtain ⟨hy1, hy2⟩ := HA.out s hs
        obtain ⟨hz1, hz2⟩ := HZ.out s hs
        have h9 : s.size = 18 := by rw [← len, hs]; exact hl
        have he := HE.out s hs
        clear hs
        go_wp2_with fail
        refine (HY.out _).mono ?_
        rintro e w1 ⟨rfl, rfl⟩
        go_wp2
        go_ret
        exact ⟨rfl, Below.refl _ _⟩
  · obtain rfl : 0 = r := by rw [← hr]; exact ((no_fn h).2.2 n).symm
    have HR := Lib.hid (fun w1 => row_out fn h w1)
    go_enter Tryd.func32, Tryd.ntmps32
    go_wp2_with fail
    refine (HR.out _).mono ?_
    rintro e w1 ⟨rfl, rfl⟩
    go_wp2
    go_ret
    exact ⟨rfl, Below.refl _ _⟩
end Go.Proofs.YtcgpggknmhlnkaaDoor.Fnm

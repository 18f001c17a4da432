/- What the reference's Less answers, and what a byte of a text is.
   What strings.Cut answers at a separator of one byte: for every text within the form's reach.
   What package fname answers: row, count, Name, Fits, Kind, Lazy, Number. -/
import Derived.Test.YtcgpggknmhlnkaaGreatDoorPt20
import Derived.BigQuiet
import Derived.Lib.IndexBytes
import Derived.Test.YtcgpggknmhlnkaaGreatDoorPt03
import Derived.Test.YtcgpggknmhlnkaaGreatDoorPt12
import Derived.Lib.Strings
namespace Go.Proofs.YtcgpggknmhlnkaaGreatDoor.Fnm
open Go.RowKit Kit Reg
theorem len (t : ByteArray) : t.data.toList.length = t.size := (Lib.size_eq t).symm
theorem lt_at {α : Type} {l : List α} {k : Nat} {x : α} (h : l[k]? = some x) : k < l.length := (List.getElem?_eq_some_iff.1 h).1
theorem like_at (p : ByteArray) (k : Nat) (x : UInt8) (h : p.data.toList[k]? = some x) : ∃ hk : k < p.size, p[k] = x := by
  have h1 := lt_at h
  rw [len] at h1
  refine ⟨h1, ?_⟩
  have h2 := Lib.data_getElem? p k h1
  rw [h] at h2
  exact (Option.some.inj h2).symm
theorem drop_at {α : Type} {l : List α} {k : Nat} {x : α} (h : l[k]? = some x) : l.drop k = x :: l.drop (k + 1) := by
  obtain ⟨hk, rfl⟩ := List.getElem?_eq_some_iff.1 h
  rw [List.drop_eq_getElem_cons hk]
end Go.Proofs.YtcgpggknmhlnkaaGreatDoor.Fnm
namespace Go.Proofs.YtcgpggknmhlnkaaGreatDoor.Kit
open Go.RowKit
/-- what stands ahead of the first byte c, and what stands behind it -/
def cutAt (c : UInt8) : List UInt8 → Option (List UInt8 × List UInt8)
  | [] => none
  | x :: r => if x = c then some ([], r) else (cutAt c r).map fun p => (x :: p.1, p.2)
theorem cutAt_index (c : UInt8) (l : List UInt8) : (Lib.indexByte l c = -1 ∧ cutAt c l = none) ∨ ∃ i : Nat, Lib.indexByte l c = i ∧ i + 1 ≤ l.length ∧ cutAt c l = some (l.take i, l.drop (i + 1)) := by
  induction l with
  | nil => exact .inl ⟨rfl, rfl⟩
  | cons x r ih =>
    unfold Lib.indexByte cutAt
    by_cases hc : x = c
    · subst hc
      exact .inr ⟨0, by simp, by simp, by simp⟩
    · have hb : (x == c) = false := by simpa using hc
      rcases ih with ⟨h1, h2⟩ | ⟨i, h1, h2, h3⟩
      · exact .inl ⟨by simp [hb, h1], by simp [hc, h2]⟩
      · refine .inr ⟨i + 1, ?_, by simp; omega, by simp [hc, h3]⟩
        rw [h1]
        have : ((i : Int) == -1) = false := by simp
        simp [hb, this]
theorem cutAt_none {c : UInt8} {w : List UInt8} (h : c ∉ w) : cutAt c w = none := by
  induction w with
  | nil => rfl
  | cons x r ih =>
    unfold cutAt
    rw [if_neg (fun e => h (by simp [e])), ih fun hb => h (by simp [hb])]
    rfl
theorem cutAt_some {c : UInt8} {w : List UInt8} (r : List UInt8) (h : c ∉ w) : cutAt c (w ++ c :: r) = some (w, r) := by
  induction w with
  | nil => simp [cutAt]
  | cons x y ih =>
    rw [List.cons_append]
    unfold cutAt
    rw [if_neg (fun e => h (by simp [e])), ih fun hb => h (by simp [hb])]
    rfl
theorem of_cutAt {c : UInt8} {l a b : List UInt8} (h : cutAt c l = some (a, b)) : l = a ++ c :: b ∧ c ∉ a := by
  induction l generalizing a b with
  | nil => simp [cutAt] at h
  | cons x r ih =>
    unfold cutAt at h
    by_cases hc : x = c
    · simp only [hc, if_true, Option.some.injEq, Prod.mk.injEq] at h
      obtain ⟨rfl, rfl⟩ := h
      simp [hc]
    · simp only [hc, if_false, Option.map_eq_some_iff] at h
      obtain ⟨⟨p, q⟩, h1, h2⟩ := h
      simp only [Prod.mk.injEq] at h2
      obtain ⟨rfl, rfl⟩ := h2
      obtain ⟨h3, h4⟩ := ih h1
      exact ⟨by rw [h3]; rfl, by simp only [List.mem_cons, not_or]; exact ⟨fun e => hc e.symm, h4⟩⟩

set_option maxRecDepth 100000 in
set_option maxHeartbeats 400000 in
theorem lcutB_hit (s : ByteArray) (c : UInt8) (i : Nat) (hi : Lib.indexByte s.data.toList c = i) (hr : i + 1 ≤ s.size) (hs : s.size ≤ 9223372036854775807) (w : World) :
    Calls Tryz.prog 71 #[.string s, .string ⟨#[c]⟩] w fun e w' => e = .returned (.tuple #[.string (s.extract 0 i), .string (s.extract (i + 1) s.size), .bool true]) ∧ Below w.heap.size w w' := by
  have HI := Lib.hid hi
  clear hi
  have c1 : (0 : Int) ≤ ↑i := by omega
  have c2 : (↑i : Int) ≤ ↑s.size := by omega
  have c3 : (0 : Int) ≤ ↑i + 1 := by omega
  have c4 : (↑i + 1 : Int) ≤ ↑s.size := by omega
  go_enter Tryz.func71, Tryz.ntmps71
  go_wp2_with (go_at_call 80; refine (Tryz.stringslite_Index_one s c _).mono ?_; rintro e w' ⟨rfl, rfl⟩; rw [HI.out])
  go_region
  all_goals (try go_wp2)
  all_goals go_ret3
  all_goals exact ⟨rfl, drew_below (n := 1) rfl⟩
set_option maxRecDepth 100000 in
set_option maxHeartbeats 400000 in
theorem lcutB_miss (s : ByteArray) (c : UInt8) (hi : Lib.indexByte s.data.toList c = -1) (w : World) :
    Calls Tryz.prog 71 #[.string s, .string ⟨#[c]⟩] w fun e w' => e = .returned (.tuple #[.string s, .string ⟨#[]⟩, .bool false]) ∧ Below w.heap.size w w' := by
  have HI := Lib.hid hi
  clear hi
  go_enter Tryz.func71, Tryz.ntmps71
  go_wp2_with (go_at_call 80; refine (Tryz.stringslite_Index_one s c _).mono ?_; rintro e w' ⟨rfl, rfl⟩; rw [HI.out])
  go_ret3
  exact ⟨rfl, Below.refl _ _⟩
/-- how the cut goes, in lists -/
def CutsAt (c : UInt8) (l a b : List UInt8) (f : Bool) : Prop := (cutAt c l = some (a, b) ∧ f = true) ∨ (cutAt c l = none ∧ a = l ∧ b = [] ∧ f = false)
def CutsEnd (c : UInt8) (l : List UInt8) (w : World) (e : Ending) (w' : World) : Prop :=
  ∃ sa sb f, e = .returned (.tuple #[.string sa, .string sb, .bool f]) ∧ CutsAt c l sa.data.toList sb.data.toList f ∧ Below w.heap.size w w'
theorem lcutB_c (s : ByteArray) (c : UInt8) (hs : s.size ≤ 9223372036854775807) (w : World) :
    Calls Tryz.prog 71 #[.string s, .string ⟨#[c]⟩] w (CutsEnd c s.data.toList w) := by
  rcases cutAt_index c s.data.toList with ⟨h1, h2⟩ | ⟨i, h1, h2, h3⟩
  · exact (lcutB_miss s c h1 w).mono fun e w' ⟨he, hw⟩ => ⟨_, _, _, he, .inr ⟨h2, rfl, rfl, rfl⟩, hw⟩
  · rw [← Lib.size_eq] at h2
    refine (lcutB_hit s c i h1 h2 hs w).mono fun e w' ⟨he, hw⟩ => ⟨_, _, _, he, .inl ⟨?_, rfl⟩, hw⟩
    rw [h3, Lib.extract_eq, Lib.extract_eq, Lib.size_eq]
    simp only [List.drop_zero, Nat.sub_zero]
    rw [List.take_of_length_le (l := List.drop (i + 1) s.data.toList) (by simp)]
set_option maxRecDepth 100000 in
set_option maxHeartbeats 400000 in
theorem cutB_c (s : ByteArray) (c : UInt8) (hs : s.size ≤ 9223372036854775807) (w : World) :
    Calls Tryz.prog 63 #[.string s, .string ⟨#[c]⟩] w (CutsEnd c s.data.toList w) := by
  go_enter Tryz.func63, Tryz.ntmps63
  go_wp2_with (go_at_call 71; refine (lcutB_c s c hs _).mono ?_; rintro e w' ⟨sa, sb, f, rfl, hc, hw⟩)
  go_ret3
  exact ⟨_, _, _, rfl, hc, hw⟩
end Go.Proofs.YtcgpggknmhlnkaaGreatDoor.Kit
namespace Go.Proofs.YtcgpggknmhlnkaaGreatDoor.Fnm
open Go.RowKit Kit Reg
def tab : ByteArray := ⟨prows.flatten.toArray⟩
theorem tab_ext {k : Nat} (hk : k < 78) : (tab.extract (k * 18) ((k + 1) * 18)).data.toList = pr k := by
  rw [Lib.extract_data, show (k + 1) * 18 - k * 18 = 18 by omega]
  exact flat_k hk
theorem count_c (c : UInt8) (h : 48 ≤ c.toNat) (w : World) : Calls Tryz.prog 54 #[.int .u8 c.toNat] w fun e w' => e = .returned (.int .i64 ((c.toNat : Int) - 48)) ∧ w = w' := by
  have h2 : ((c.toNat : Int) - 48) % 256 = (c.toNat : Int) - 48 := Int.emod_eq_of_lt (by omega) (by have := c.toNat_lt; omega)
  go_enter Tryz.func54, Tryz.ntmps54
  go_wp2
  go_ret
  exact ⟨rfl, rfl⟩
set_option maxRecDepth 100000 in
set_option maxHeartbeats 2000000 in
theorem row_in (k : Nat) (hk : k < 78) (w : World) : Calls Tryz.prog 53 #[.int .i64 ((k : Int) + 1)] w fun e w' => ∃ s, e = .returned (.string s) ∧ s.data.toList = pr k ∧ w = w' := by
  have d0 : decide ((k : Int) + 1 < 1) = false := decide_eq_false (by omega)
  have d1 : decide ((78 : Int) < (k : Int) + 1) = false := decide_eq_false (by omega)
  have HT := Lib.hid (tab_ext hk)
  go_enter Tryz.func53, Tryz.ntmps53
  go_wp2
  go_ret
  exact ⟨_, rfl, HT.out, rfl⟩
set_option maxRecDepth 100000 in
set_option maxHeartbeats 2000000 in
theorem row_out (n : Int) (h : ¬ (1 ≤ n ∧ n ≤ 78)) (w : World) : Calls Tryz.prog 53 #[.int .i64 n] w fun e w' => e = .returned (.string ⟨#[]⟩) ∧ w = w' := by
  by_cases h0 : n < 1
  · have d0 : decide (n < 1) = true := decide_eq_true h0
    go_enter Tryz.func53, Tryz.ntmps53
    go_wp2
    go_ret
    exact ⟨rfl, rfl⟩
  · have d0 : decide (n < 1) = false := decide_eq_false h0
    have d1 : decide (78 < n) = true := decide_eq_true (by omega)
    go_enter Tryz.func53, Tryz.ntmps53
    go_wp2
    go_ret
    exact ⟨rfl, rfl⟩

set_option maxRecDepth 100000 in
set_option maxHeartbeats 2000000 in
theorem fits_c (fn n : Int) (r : Bool) (hr : fitsF fn n = r) (w : World) : Calls Tryz.prog 40 #[.int .i64 fn, .int .i64 n] w fun e w' => e = .returned (.bool r) ∧ Below w.heap.size w w' := by
  by_cases h : 1 ≤ fn ∧ fn ≤ 78
  · obtain ⟨k, hk, rfl⟩ := to_k h
    rw [fits_k hk] at hr
    have HR := Lib.hid (fun w1 => row_in k hk w1)
    obtain ⟨x, y, hl, hx, hy, hx4, hy4, hlo, hhi, _⟩ := pr_facts hk
    have HX := Lib.hid (fun w1 => count_c x hx4 w1)
    have HY := Lib.hid (fun w1 => count_c y hy4 w1)
    rw [hlo] at HX
    rw [hhi] at HY
    have HA := Lib.hid (fun (s : ByteArray) (hs : s.data.toList = pr k) => (⟨like_at s 11 x (hs ▸ hx), like_at s 13 y (hs ▸ hy)⟩ : (∃ hk : 11 < s.size, s[11] = x) ∧ ∃ hk : 13 < s.size, s[13] = y))
    have HE := Lib.hid (fun (s : ByteArray) (hs : s.data.toList = pr k) => (show (s.toList == []) = false by rw [Lib.toList_data, hs]; cases e : pr k with | nil => rw [e] at hl; cases hl | cons => rfl))
    generalize lo k = a at *
    generalize hi k = b at *
    clear hl hx hy hx4 hy4 hlo hhi h hk
    go_enter Tryz.func40, Tryz.ntmps40
    go_wp2_with fail
    refine (HR.out _).mono ?_
    rintro e w1 ⟨s, rfl, hs, rfl⟩
    obtain ⟨⟨hx1, hx2⟩, hy1, hy2⟩ := HA.out s hs
    have he := HE.out s hs
    clear hs
    by_cases h1 : a ≤ n
    · have d1 : decide (a ≤ n) = true := decide_eq_true h1
      go_wp2_with fail
      refine (HX.out _).mono ?_
      rintro e w1 ⟨rfl, rfl⟩
      go_wp2_with fail
      refine (HY.out _).mono ?_
      rintro e w1 ⟨rfl, rfl⟩
      go_wp2
      go_ret
      exact ⟨by rw [← hr, d1]; rfl, Below.refl _ _⟩
    · have d1 : decide (a ≤ n) = false := decide_eq_false h1
      go_wp2_with fail
      refine (HX.out _).mono ?_
      rintro e w1 ⟨rfl, rfl⟩
      go_wp2
      go_ret
      exact ⟨by rw [← hr, d1]; rfl, Below.refl _ _⟩
  · obtain rfl : false = r := by rw [← hr]; exact ((no_fn h).2.1 n).symm
    have HR := Lib.hid (fun w1 => row_out fn h w1)
    go_enter Tryz.func40, Tryz.ntmps40
    go_wp2_with fail
    refine (HR.out _).mono ?_
    rintro e w1 ⟨rfl, rfl⟩
    go_wp2
    go_ret
    exact ⟨rfl, Below.refl _ _⟩
set_option maxRecDepth 100000 in
set_option maxHeartbeats 2000000 in
theorem kind_c (fn n : Int) (r : UInt8) (hr : kindF fn n = r) (w : World) : Calls Tryz.prog 42 #[.int .i64 fn, .int .i64 n] w fun e w' => e = .returned (.int .u8 r.toNat) ∧ Below w.heap.size w w' := by
  by_cases h : 1 ≤ fn ∧ fn ≤ 78
  · obtain ⟨k, hk, rfl⟩ := to_k h
    have HR := Lib.hid (fun w1 => row_in k hk w1)
    obtain ⟨x, y, hl, hx, hy, hx4, hy4, hlo, hhi, hki⟩ := pr_facts hk
    have h8 := of_all hi_8 hk
    simp only [Bool.and_eq_true, decide_eq_true_eq] at h8
    have HY := Lib.hid (fun w1 => count_c y hy4 w1)
    rw [hhi] at HY
    have HA := Lib.hid (fun (s : ByteArray) (hs : s.data.toList = pr k) => like_at s 13 y (hs ▸ hy))
    have HE := Lib.hid (fun (s : ByteArray) (hs : s.data.toList = pr k) => (show (s.toList == []) = false by rw [Lib.toList_data, hs]; cases e : pr k with | nil => rw [e] at hl; cases hl | cons => rfl))
    by_cases h0 : n < 0
    · have d0 : decide (n < 0) = true := decide_eq_true h0
      obtain rfl : 0 = r := by rw [← hr]; exact (kind_no (.inl h0)).symm
      go_enter Tryz.func42, Tryz.ntmps42
      go_wp2_with fail
      refine (HR.out _).mono ?_
      rintro e w1 ⟨s, rfl, hs, rfl⟩
      have he := HE.out s hs
      clear hs
      go_wp2
      go_ret
      exact ⟨rfl, Below.refl _ _⟩
    · have d0 : decide (n < 0) = false := decide_eq_false h0
      by_cases h1 : hi k ≤ n
      · have d1 : decide (hi k ≤ n) = true := decide_eq_true h1
        obtain rfl : 0 = r := by rw [← hr]; exact (kind_no (.inr h1)).symm
        go_enter Tryz.func42, Tryz.ntmps42
        go_wp2_with fail
        refine (HR.out _).mono ?_
        rintro e w1 ⟨s, rfl, hs, rfl⟩
        obtain ⟨hy1, hy2⟩ := HA.out s hs
        have he := HE.out s hs
        clear hs
        go_wp2_with fail
        refine (HY.out _).mono ?_
        rintro e w1 ⟨rfl, rfl⟩
        go_wp2
        go_ret
        exact ⟨rfl, Below.refl _ _⟩
      · have d1 : decide (hi k ≤ n) = false := decide_eq_false h1
        obtain ⟨i, rfl⟩ := Int.eq_ofNat_of_zero_le (show 0 ≤ n by omega)
        rw [kind_k hk (by omega)] at hr
        have hz := hki i (by omega)
        rw [hr] at hz
        have HZ := Lib.hid (fun (s : ByteArray) (hs : s.data.toList = pr k) => like_at s (15 + min i 2) r (hs ▸ hz))
        have hm : (15 + min (i : Int) 2).toNat = 15 + min i 2 := by omega
        go_enter Tryz.func42, Tryz.ntmps42
        go_wp2_with fail
        refine (HR.out _).mono ?_
        rintro e w1 ⟨s, rfl, hs, rfl⟩
        obtain ⟨hy1, hy2⟩ := HA.out s hs
        obtain ⟨hz1, hz2⟩ := HZ.out s hs
        have h9 : s.size = 18 := by rw [← len, hs]; exact hl
        have he := HE.out s hs
        clear hs
        go_wp2_with fail
        refine (HY.out _).mono ?_
        rintro e w1 ⟨rfl, rfl⟩
        go_wp2
        go_ret
        exact ⟨rfl, Below.refl _ _⟩
  · obtain rfl : 0 = r := by rw [← hr]; exact ((no_fn h).2.2 n).symm
    have HR := Lib.hid (fun w1 => row_out fn h w1)
    go_enter Tryz.func42, Tryz.ntmps42
    go_wp2_with fail
    refine (HR.out _).mono ?_
    rintro e w1 ⟨rfl, rfl⟩
    go_wp2
    go_ret
    exact ⟨rfl, Below.refl _ _⟩
end Go.Proofs.YtcgpggknmhlnkaaGreatDoor.Fnm

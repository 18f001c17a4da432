/- What the reference answers: Names, Rows, Name, Fits, Kind, Find. -/
import Derived.Test.YtcgpggknmhlnkaaGreatDoorPt32
namespace Go.Proofs.YtcgpggknmhlnkaaGreatDoor.Fnm
open Go.RowKit Kit Reg
/-- a new slice of these texts -/
def GotL (L : List (List UInt8)) (w : World) (e : Ending) (w' : World) : Prop :=
  ∃ b, e = .returned (.slice (some ⟨b, 0, none⟩) 78 78) ∧ (b < w'.heap.size ∧ ∀ k x, L[k]? = some x → w'.cell? ⟨b, k, none⟩ = some (.string ⟨x.toArray⟩)) ∧ Below w.heap.size w w'
theorem texts_new (w : World) (L : List (List UInt8)) (ty : TypeId) :
    w.heap.size < (w.alloc (.cells (L.map fun x => Value.string ⟨x.toArray⟩).toArray ty)).heap.size ∧ ∀ k x, L[k]? = some x → (w.alloc (.cells (L.map fun x => Value.string ⟨x.toArray⟩).toArray ty)).cell? ⟨w.heap.size, k, none⟩ = some (.string ⟨x.toArray⟩) := by
  have h := CellsAt.new w (L.map fun x => Value.string ⟨x.toArray⟩) ty
  exact ⟨h.1, fun k x hx => (h.2 k _ (by rw [List.getElem?_map, hx]; rfl)).1⟩
/-- a row as a text -/
theorem row_text {k : Nat} (hk : k < 78) : ∃ s : ByteArray, s.data.toList = rr k ∧ ⟨(rr k).toArray⟩ = s ∧ ∃ x y : UInt8, (∃ h : 0 < s.size, s[0] = x) ∧ (∃ h : 1 < s.size, s[1] = y) ∧ s.size ≤ 5 ∧ (x.toNat : Int) - 48 = lo k ∧ (y.toNat : Int) - 48 = hi k ∧
    ∀ i : Nat, (i : Int) < hi k → (2 + i < s.size → ∃ h : 2 + i < s.size, s[2 + i] = kind k i) ∧ (¬ 2 + i < s.size → ∃ h : s.size - 1 < s.size, s[s.size - 1] = kind k i) := by
  obtain ⟨x, y, hl2, hl5, hx, hy, hlo, hhi, hki⟩ := rr_facts hk
  obtain ⟨s, hs⟩ : ∃ s : ByteArray, ⟨(rr k).toArray⟩ = s := ⟨_, rfl⟩
  have hsl : s.data.toList = rr k := by rw [← hs]
  rw [← hsl] at hl2 hl5 hx hy hki
  rw [len] at hl2 hl5 hki
  exact ⟨s, hsl, hs, x, y, like_at s 0 x hx, like_at s 1 y hy, hl5, hlo, hhi, fun i h => ⟨fun h2 => like_at s _ _ ((hki i h).1 h2), fun h2 => like_at s _ _ ((hki i h).2 h2)⟩⟩
set_option maxRecDepth 100000 in
set_option maxHeartbeats 2000000 in
theorem rrows_c (w : World) : Calls Tryz.prog 46 #[] w (GotL rrows w) := by
  have H := Lib.hid (texts_new w rrows 9)
  have HB := Lib.hid (below1 w (.cells (rrows.map fun x => Value.string ⟨x.toArray⟩).toArray 9))
  go_enter Tryz.func46, Tryz.ntmps46
  go_wp2
  go_ret
  exact ⟨_, rfl, H.out, HB.out⟩
set_option maxRecDepth 100000 in
set_option maxHeartbeats 2000000 in
theorem rfits_c (fn n : Int) (r : Bool) (hr : fitsF fn n = r) (w : World) : Calls Tryz.prog 34 #[.int .i64 fn, .int .i64 n] w fun e w' => e = .returned (.bool r) ∧ Below w.heap.size w w' := by
  by_cases h : 1 ≤ fn ∧ fn ≤ 78
  · obtain ⟨k, hk, rfl⟩ := to_k h
    rw [fits_k hk] at hr
    have HR := Lib.hid (fun w1 => rrows_c w1)
    have HA := rrows_at hk
    obtain ⟨s, hsl, hs, x, y, ⟨hx1, hx2⟩, ⟨hy1, hy2⟩, _, hlo, hhi, _⟩ := row_text hk
    have hx9 := x.toNat_lt
    have hy9 := y.toNat_lt
    have d0 : decide ((k : Int) + 1 < 1) = false := decide_eq_false (by omega)
    have d1 : decide ((78 : Int) < (k : Int) + 1) = false := decide_eq_false (by omega)
    have HS := Lib.hid hs
    rw [← hlo, ← hhi] at hr
    clear hs hsl hlo hhi h
    by_cases h1 : (x.toNat : Int) - 48 ≤ n
    · have d2 : decide ((x.toNat : Int) - 48 ≤ n) = true := decide_eq_true h1
      go_enter Tryz.func34, Tryz.ntmps34
      go_wp2_with fail
      refine (HR.out _).mono ?_
      rintro e w1 ⟨b, rfl, ⟨hb0, hc⟩, hb⟩
      have c0 := hc k _ HA
      rw [HS.out] at c0
      clear hc HA HS
      go_wp2
      go_ret
      exact ⟨by rw [← hr, d2]; rfl, hb⟩
    · have d2 : decide ((x.toNat : Int) - 48 ≤ n) = false := decide_eq_false h1
      go_enter Tryz.func34, Tryz.ntmps34
      go_wp2_with fail
      refine (HR.out _).mono ?_
      rintro e w1 ⟨b, rfl, ⟨hb0, hc⟩, hb⟩
      have c0 := hc k _ HA
      rw [HS.out] at c0
      clear hc HA HS
      go_wp2
      go_ret
      exact ⟨by rw [← hr, d2]; rfl, hb⟩
  · obtain rfl : false = r := by rw [← hr]; exact ((no_fn h).2.1 n).symm
    by_cases h0 : fn < 1
    · have d0 : decide (fn < 1) = true := decide_eq_true h0
      go_enter Tryz.func34, Tryz.ntmps34
      go_wp2
      go_ret
      exact ⟨rfl, Below.refl _ _⟩
    · have d0 : decide (fn < 1) = false := decide_eq_false h0
      have d1 : decide (78 < fn) = true := decide_eq_true (by omega)
      go_enter Tryz.func34, Tryz.ntmps34
      go_wp2
      go_ret
      exact ⟨rfl, Below.refl _ _⟩
set_option maxRecDepth 100000 in
set_option maxHeartbeats 2000000 in
theorem rkind_c (fn n : Int) (r : UInt8) (hr : kindF fn n = r) (w : World) : Calls Tryz.prog 35 #[.int .i64 fn, .int .i64 n] w fun e w' => e = .returned (.int .u8 r.toNat) ∧ Below w.heap.size w w' := by
  by_cases h : 1 ≤ fn ∧ fn ≤ 78
  · obtain ⟨k, hk, rfl⟩ := to_k h
    have d0 : decide ((k : Int) + 1 < 1) = false := decide_eq_false (by omega)
    have d1 : decide ((78 : Int) < (k : Int) + 1) = false := decide_eq_false (by omega)
    by_cases h0 : n < 0
    · have d2 : decide (n < 0) = true := decide_eq_true h0
      obtain rfl : 0 = r := by rw [← hr]; exact (kind_no (.inl h0)).symm
      clear h
      go_enter Tryz.func35, Tryz.ntmps35
      go_wp2
      go_ret
      exact ⟨rfl, Below.refl _ _⟩
    · have d2 : decide (n < 0) = false := decide_eq_false h0
      have h8 := of_all hi_8 hk
      simp only [Bool.and_eq_true, decide_eq_true_eq] at h8
      have HR := Lib.hid (fun w1 => rrows_c w1)
      have HA := rrows_at hk
      obtain ⟨s, hsl, hs, x, y, ⟨hx1, hx2⟩, ⟨hy1, hy2⟩, h5, hlo, hhi, hki⟩ := row_text hk
      have hy9 := y.toNat_lt
      have HS := Lib.hid hs
      clear hs hsl
      by_cases h1 : hi k ≤ n
      · have d3 : decide ((y.toNat : Int) - 48 ≤ n) = true := decide_eq_true (by omega)
        obtain rfl : 0 = r := by rw [← hr]; exact (kind_no (.inr h1)).symm
        clear hki h
        go_enter Tryz.func35, Tryz.ntmps35
        go_wp2_with fail
        refine (HR.out _).mono ?_
        rintro e w1 ⟨b, rfl, ⟨hb0, hc⟩, hb⟩
        have c0 := hc k _ HA
        rw [HS.out] at c0
        clear hc HA HS
        go_wp2
        go_ret
        exact ⟨rfl, hb⟩
      · have d3 : decide ((y.toNat : Int) - 48 ≤ n) = false := decide_eq_false (by omega)
        obtain ⟨i, rfl⟩ := Int.eq_ofNat_of_zero_le (show 0 ≤ n by omega)
        rw [kind_k hk (by omega)] at hr
        obtain ⟨hyes, hno⟩ := hki i (by omega)
        rw [hr] at hyes hno
        have h9 : i < 8 := by omega
        clear hki h hr
        by_cases h4 : 2 + i < s.size
        · have d4 : decide (2 + i < s.size) = true := decide_eq_true h4
          have d5 : decide (2 + (i : Int) < (s.size : Int)) = true := decide_eq_true (by omega)
          obtain ⟨hz1, hz2⟩ := hyes h4
          clear hyes hno
          go_enter Tryz.func35, Tryz.ntmps35
          go_wp2_with fail
          refine (HR.out _).mono ?_
          rintro e w1 ⟨b, rfl, ⟨hb0, hc⟩, hb⟩
          have c0 := hc k _ HA
          rw [HS.out] at c0
          clear hc HA HS
          go_wp2
          go_ret
          exact ⟨rfl, hb⟩
        · have d4 : decide (2 + i < s.size) = false := decide_eq_false h4
          have d5 : decide (2 + (i : Int) < (s.size : Int)) = false := decide_eq_false (by omega)
          obtain ⟨hz1, hz2⟩ := hno h4
          clear hyes hno
          go_enter Tryz.func35, Tryz.ntmps35
          go_wp2_with fail
          refine (HR.out _).mono ?_
          rintro e w1 ⟨b, rfl, ⟨hb0, hc⟩, hb⟩
          have c0 := hc k _ HA
          rw [HS.out] at c0
          clear hc HA HS
          go_wp2
          go_ret
          exact ⟨rfl, hb⟩
  · obtain rfl : 0 = r := by rw [← hr]; exact ((no_fn h).2.2 n).symm
    by_cases h0 : fn < 1
    · have d0 : decide (fn < 1) = true := decide_eq_true h0
      go_enter Tryz.func35, Tryz.ntmps35
      go_wp2
      go_ret
      exact ⟨rfl, Below.refl _ _⟩
    · have d0 : decide (fn < 1) = false := decide_eq_false h0
      have d1 : decide (78 < fn) = true := decide_eq_true (by omega)
      go_enter Tryz.func35, Tryz.ntmps35
      go_wp2
      go_ret
      exact ⟨rfl, Below.refl _ _⟩
end Go.Proofs.YtcgpggknmhlnkaaGreatDoor.Fnm

/- What the reference's Text of a label answers: for every label. -/
import Derived.Test.YtcgpggknmhlnkaaGreatDoorPt16
namespace Go.Proofs.YtcgpggknmhlnkaaGreatDoor.Cats
open Go.RowKit
theorem mk_two (a b : List UInt8) : (⟨a.toArray⟩ : ByteArray) ++ ⟨b.toArray⟩ = ⟨(a ++ b).toArray⟩ := by
  apply ByteArray.ext
  simp
theorem mk_three (a b c : List UInt8) : (⟨a.toArray⟩ : ByteArray) ++ ⟨b.toArray⟩ ++ ⟨c.toArray⟩ = ⟨(a ++ (b ++ c)).toArray⟩ := by rw [mk_two, mk_two, List.append_assoc]
set_option maxRecDepth 100000 in
set_option maxHeartbeats 1000000 in
theorem rlabtext_out (l : Int) (s : Nat) (h : l < 0 ∨ 15 < l) (w : World) : Calls Tryz.prog 59 #[.agg #[.int .i64 l, .int .u64 s]] w fun e w' => e = .returned (.string ⟨#[]⟩) ∧ Below w.heap.size w w' := by
  rcases h with h | h
  · go_enter Tryz.func59, Tryz.ntmps59
    go_wp2
    go_ret
    exact ⟨rfl, below1 _ _⟩
  · go_enter Tryz.func59, Tryz.ntmps59
    go_wp2
    go_ret
    exact ⟨rfl, below1 _ _⟩
set_option maxRecDepth 100000 in
set_option maxHeartbeats 1000000 in
theorem rlabtext_top (l : Int) (s : Nat) (h0 : 0 ≤ l) (h1 : l ≤ 15) (hl : (l == 15) = true) (hs : ((s : Int) == (allN : Int)) = true) (w : World) : Calls Tryz.prog 59 #[.agg #[.int .i64 l, .int .u64 s]] w fun e w' => e = .returned (.string ⟨#[116, 111, 112]⟩) ∧ Below w.heap.size w w' := by
  have Ht := Lib.hid (fun w1 => rtop_c w1)
  go_enter Tryz.func59, Tryz.ntmps59
  go_wp2_with fail
  generalize allN = N at *
  go_region_held3 (fun w' => w'.cell? ⟨w.heap.size, 0, none⟩ = some (.int .i64 l) ∧ w'.cell? ⟨w.heap.size, 1, none⟩ = some (.int .u64 s))
    (first | go_keep | (go_split_ands; refine ⟨?_, ?_⟩ <;> (rw [hb.cell (by simp)]; assumption)))
    (first | (go_at_call 56; refine (Ht.out _).mono ?_; rintro e w' ⟨rfl, hb⟩))
  go_wp2
  go_ret
  exact ⟨rfl, (below1 w _).drew.trans (Below.mono (B' := w.heap.size) hb (by simp))⟩

set_option maxRecDepth 100000 in
set_option maxHeartbeats 2000000 in
theorem rlabtext_bare1 (k : Nat) (s : Nat) (h1 : k ≤ 15) (hne : ((k : Int) == 15) = false) (hs : ((s : Int) != 0) = false) (_hs2 : ((s : Int) == 0) = true) (w : World) : Calls Tryz.prog 59 #[.agg #[.int .i64 k, .int .u64 s]] w fun e w' => e = .returned (.string ⟨(digs k).toArray⟩) ∧ Below w.heap.size w w' := by
  have Ht := Lib.hid (fun w1 => rtop_c w1)
  have Hd := Lib.hid (fun w1 => digits_c k (by omega) w1)
  generalize allN = N at *
  go_enter Tryz.func59, Tryz.ntmps59
  go_wp2_with fail
  go_region_held3 (fun w' => w'.cell? ⟨w.heap.size, 0, none⟩ = some (.int .i64 k) ∧ w'.cell? ⟨w.heap.size, 1, none⟩ = some (.int .u64 s))
    (first | go_keep | (go_split_ands; refine ⟨?_, ?_⟩ <;> (rw [hb.cell (by simp)]; assumption)))
    (first | (go_at_call 56; refine (Ht.out _).mono ?_; rintro e w' ⟨rfl, hb⟩))
  have hb1 : Below w.heap.size w w' := (below1 w _).drew.trans (Below.mono (B' := w.heap.size) hb (by simp))
  have hcs : w'.cell? ⟨w.heap.size, 0, none⟩ = some (.int .i64 k) ∧ w'.cell? ⟨w.heap.size, 1, none⟩ = some (.int .u64 s) := by assumption
  have hz : w.heap.size < w'.heap.size := by have := hb.size; simp at this; omega
  clear hb
  go_wp2_with fail
  refine (Hd.out _).mono ?_
  rintro e w2 ⟨rfl, hb2⟩
  have hb3 := hb1.trans (hb2.mono hb1.size)
  have c1 : w2.cell? ⟨w.heap.size, 1, none⟩ = some (.int .u64 s) := (hb2.cell (p := ⟨w.heap.size, 1, none⟩) hz).trans hcs.2
  clear hb1 hb2
  go_wp2
  go_ret
  exact ⟨rfl, hb3⟩

set_option maxRecDepth 100000 in
set_option maxHeartbeats 2000000 in
theorem rlabtext_bare2 (k : Nat) (s : Nat) (h1 : k ≤ 15) (hne : ((k : Int) == 15) = true) (hne2 : ((s : Int) == (allN : Int)) = false) (hs : ((s : Int) != 0) = false) (_hs2 : ((s : Int) == 0) = true) (w : World) : Calls Tryz.prog 59 #[.agg #[.int .i64 k, .int .u64 s]] w fun e w' => e = .returned (.string ⟨(digs k).toArray⟩) ∧ Below w.heap.size w w' := by
  have Ht := Lib.hid (fun w1 => rtop_c w1)
  have Hd := Lib.hid (fun w1 => digits_c k (by omega) w1)
  generalize allN = N at *
  go_enter Tryz.func59, Tryz.ntmps59
  go_wp2_with fail
  go_region_held3 (fun w' => w'.cell? ⟨w.heap.size, 0, none⟩ = some (.int .i64 k) ∧ w'.cell? ⟨w.heap.size, 1, none⟩ = some (.int .u64 s))
    (first | go_keep | (go_split_ands; refine ⟨?_, ?_⟩ <;> (rw [hb.cell (by simp)]; assumption)))
    (first | (go_at_call 56; refine (Ht.out _).mono ?_; rintro e w' ⟨rfl, hb⟩))
  have hb1 : Below w.heap.size w w' := (below1 w _).drew.trans (Below.mono (B' := w.heap.size) hb (by simp))
  have hcs : w'.cell? ⟨w.heap.size, 0, none⟩ = some (.int .i64 k) ∧ w'.cell? ⟨w.heap.size, 1, none⟩ = some (.int .u64 s) := by assumption
  have hz : w.heap.size < w'.heap.size := by have := hb.size; simp at this; omega
  clear hb
  go_wp2_with fail
  refine (Hd.out _).mono ?_
  rintro e w2 ⟨rfl, hb2⟩
  have hb3 := hb1.trans (hb2.mono hb1.size)
  have c1 : w2.cell? ⟨w.heap.size, 1, none⟩ = some (.int .u64 s) := (hb2.cell (p := ⟨w.heap.size, 1, none⟩) hz).trans hcs.2
  clear hb1 hb2
  go_wp2
  go_ret
  exact ⟨rfl, hb3⟩

set_option maxRecDepth 100000 in
set_option maxHeartbeats 2000000 in
theorem rlabtext_both1 (k : Nat) (s : Nat) (h1 : k ≤ 15) (hne : ((k : Int) == 15) = false) (hs : ((s : Int) != 0) = true) (_hs2 : ((s : Int) == 0) = false) (hsU : U s) (w : World) : Calls Tryz.prog 59 #[.agg #[.int .i64 k, .int .u64 s]] w fun e w' => e = .returned (.string ⟨(digs k ++ 58 :: textL s).toArray⟩) ∧ Below w.heap.size w w' := by
  have Ht := Lib.hid (fun w1 => rtop_c w1)
  have Hd := Lib.hid (fun w1 => digits_c k (by omega) w1)
  have Hx := Lib.hid (fun w1 => rtext_c s hsU w1)
  have hdl := digs_length k
  have htl := textL_length s
  clear hsU
  generalize allN = N at *
  go_enter Tryz.func59, Tryz.ntmps59
  go_wp2_with fail
  go_region_held3 (fun w' => w'.cell? ⟨w.heap.size, 0, none⟩ = some (.int .i64 k) ∧ w'.cell? ⟨w.heap.size, 1, none⟩ = some (.int .u64 s))
    (first | go_keep | (go_split_ands; refine ⟨?_, ?_⟩ <;> (rw [hb.cell (by simp)]; assumption)))
    (first | (go_at_call 56; refine (Ht.out _).mono ?_; rintro e w' ⟨rfl, hb⟩))
  have hb1 : Below w.heap.size w w' := (below1 w _).drew.trans (Below.mono (B' := w.heap.size) hb (by simp))
  have hcs : w'.cell? ⟨w.heap.size, 0, none⟩ = some (.int .i64 k) ∧ w'.cell? ⟨w.heap.size, 1, none⟩ = some (.int .u64 s) := by assumption
  have hz : w.heap.size < w'.heap.size := by have := hb.size; simp at this; omega
  clear hb
  go_wp2_with fail
  refine (Hd.out _).mono ?_
  rintro e w2 ⟨rfl, hb2⟩
  have hb3 := hb1.trans (hb2.mono hb1.size)
  have c1 : w2.cell? ⟨w.heap.size, 1, none⟩ = some (.int .u64 s) := (hb2.cell (p := ⟨w.heap.size, 1, none⟩) hz).trans hcs.2
  clear hb1 hb2
  go_wp2_with fail
  refine (Hx.out _).mono ?_
  rintro e w4 ⟨rfl, hb4⟩
  have hb5 := hb3.trans (hb4.mono hb3.size)
  clear hb4
  go_wp2
  go_ret
  exact ⟨congrArg (fun x => Ending.returned (.string x)) (mk_three (digs k) [58] (textL s)), hb5⟩

set_option maxRecDepth 100000 in
set_option maxHeartbeats 2000000 in
theorem rlabtext_both2 (k : Nat) (s : Nat) (h1 : k ≤ 15) (hne : ((k : Int) == 15) = true) (hne2 : ((s : Int) == (allN : Int)) = false) (hs : ((s : Int) != 0) = true) (_hs2 : ((s : Int) == 0) = false) (hsU : U s) (w : World) : Calls Tryz.prog 59 #[.agg #[.int .i64 k, .int .u64 s]] w fun e w' => e = .returned (.string ⟨(digs k ++ 58 :: textL s).toArray⟩) ∧ Below w.heap.size w w' := by
  have Ht := Lib.hid (fun w1 => rtop_c w1)
  have Hd := Lib.hid (fun w1 => digits_c k (by omega) w1)
  have Hx := Lib.hid (fun w1 => rtext_c s hsU w1)
  have hdl := digs_length k
  have htl := textL_length s
  clear hsU
  generalize allN = N at *
  go_enter Tryz.func59, Tryz.ntmps59
  go_wp2_with fail
  go_region_held3 (fun w' => w'.cell? ⟨w.heap.size, 0, none⟩ = some (.int .i64 k) ∧ w'.cell? ⟨w.heap.size, 1, none⟩ = some (.int .u64 s))
    (first | go_keep | (go_split_ands; refine ⟨?_, ?_⟩ <;> (rw [hb.cell (by simp)]; assumption)))
    (first | (go_at_call 56; refine (Ht.out _).mono ?_; rintro e w' ⟨rfl, hb⟩))
  have hb1 : Below w.heap.size w w' := (below1 w _).drew.trans (Below.mono (B' := w.heap.size) hb (by simp))
  have hcs : w'.cell? ⟨w.heap.size, 0, none⟩ = some (.int .i64 k) ∧ w'.cell? ⟨w.heap.size, 1, none⟩ = some (.int .u64 s) := by assumption
  have hz : w.heap.size < w'.heap.size := by have := hb.size; simp at this; omega
  clear hb
  go_wp2_with fail
  refine (Hd.out _).mono ?_
  rintro e w2 ⟨rfl, hb2⟩
  have hb3 := hb1.trans (hb2.mono hb1.size)
  have c1 : w2.cell? ⟨w.heap.size, 1, none⟩ = some (.int .u64 s) := (hb2.cell (p := ⟨w.heap.size, 1, none⟩) hz).trans hcs.2
  clear hb1 hb2
  go_wp2_with fail
  refine (Hx.out _).mono ?_
  rintro e w4 ⟨rfl, hb4⟩
  have hb5 := hb3.trans (hb4.mono hb3.size)
  clear hb4
  go_wp2
  go_ret
  exact ⟨congrArg (fun x => Ending.returned (.string x)) (mk_three (digs k) [58] (textL s)), hb5⟩

theorem rlabtext_c (l : Int) (s : Nat) (hs : U s) (w : World) : Calls Tryz.prog 59 #[.agg #[.int .i64 l, .int .u64 s]] w fun e w' => e = .returned (.string ⟨(labT l s).toArray⟩) ∧ Below w.heap.size w w' := by
  unfold labT
  by_cases ho : l < 0 ∨ 15 < l
  · rw [if_pos ho]
    exact rlabtext_out l s ho w
  · rw [if_neg ho]
    obtain ⟨k, rfl⟩ := Int.eq_ofNat_of_zero_le (show 0 ≤ l by omega)
    by_cases ht : (k : Int) = 15 ∧ s = allN
    · rw [if_pos ht]
      exact rlabtext_top k s (by omega) (by omega) (by simpa using ht.1) (by rw [cast_beq]; simpa using ht.2) w
    · rw [if_neg ht, Int.toNat_natCast]
      by_cases h15 : (k : Int) = 15
      · have hne2 : ((s : Int) == (allN : Int)) = false := by rw [cast_beq]; simpa using fun e => ht ⟨h15, e⟩
        by_cases hz : s = 0
        · rw [if_pos hz]
          exact rlabtext_bare2 k s (by omega) (by simpa using h15) hne2 (by simp [hz]) (by simp [hz]) w
        · rw [if_neg hz]
          exact rlabtext_both2 k s (by omega) (by simpa using h15) hne2 (by simp [hz]) (by simp [hz]) hs w
      · by_cases hz : s = 0
        · rw [if_pos hz]
          exact rlabtext_bare1 k s (by omega) (by simpa using h15) (by simp [hz]) (by simp [hz]) w
        · rw [if_neg hz]
          exact rlabtext_both1 k s (by omega) (by simpa using h15) (by simp [hz]) (by simp [hz]) hs w
end Go.Proofs.YtcgpggknmhlnkaaGreatDoor.Cats

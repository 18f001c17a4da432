/- What the program's Text of a label answers: for every label. -/
import Derived.Test.YtcgpggknmhlnkaaDoorPs35
namespace Go.Proofs.YtcgpggknmhlnkaaDoor.Cats
open Go.RowKit
theorem box_kept {w w1 : World} {x y : Value} {ty : TypeId} (hb : Below (w.alloc (.cells #[x, y] ty)).heap.size (w.alloc (.cells #[x, y] ty)) w1) :
    w1.cell? ⟨w.heap.size, 0, none⟩ = some x ∧ w1.cell? ⟨w.heap.size, 1, none⟩ = some y ∧ w.heap.size < w1.heap.size ∧ Below w.heap.size w w1 := by
  obtain ⟨c0, c1, _, _, hz⟩ := slot_kept2 (w := w) (hb.mono (by simp))
  exact ⟨c0, c1, hz, (below1 w _).trans (Below.mono (B' := w.heap.size) hb (by simp))⟩
set_option maxRecDepth 100000 in
set_option maxHeartbeats 1000000 in
theorem ltext_out (l : Int) (s : Nat) (h : mayL l = false) (w : World) : Calls Tryd.prog 49 #[.agg #[.int .i64 l, .int .u64 s]] w fun e w' => e = .returned (.string ⟨#[]⟩) ∧ Below w.heap.size w w' := by
  have Hm := Lib.hid (fun w1 => lmay_c l s false h w1)
  clear h
  go_enter Tryd.func49, Tryd.ntmps49
  go_wp2_with fail
  refine (Hm.out _).mono ?_
  rintro e w1 ⟨rfl, hb0⟩
  obtain ⟨_, _, _, hb⟩ := box_kept (w := w) hb0
  clear hb0
  go_wp2
  go_ret
  exact ⟨rfl, hb⟩
set_option maxRecDepth 100000 in
set_option maxHeartbeats 2000000 in
theorem ltext_top (l : Int) (s : Nat) (h : mayL l = true) (hl : (l == 15) = true) (hs : ((s : Int) == (allN : Int)) = true) (w : World) : Calls Tryd.prog 49 #[.agg #[.int .i64 l, .int .u64 s]] w fun e w' => e = .returned (.string ⟨#[116, 111, 112]⟩) ∧ Below w.heap.size w w' := by
  have Hm := Lib.hid (fun w1 => lmay_c l s true h w1)
  have Ht := Lib.hid (fun w1 => ltop_c w1)
  clear h
  generalize allN = N at *
  go_enter Tryd.func49, Tryd.ntmps49
  go_wp2_with fail
  refine (Hm.out _).mono ?_
  rintro e w1 ⟨rfl, hb0⟩
  obtain ⟨c0, c1, hz, hbw⟩ := box_kept (w := w) hb0
  clear hb0
  go_wp2_with fail
  go_region_held3 (fun w' => w'.cell? ⟨w.heap.size, 0, none⟩ = some (.int .i64 l) ∧ w'.cell? ⟨w.heap.size, 1, none⟩ = some (.int .u64 s))
    (first | go_keep | (go_split_ands; refine ⟨?_, ?_⟩ <;> (rw [hb.cell (by simp; omega)]; assumption)))
    (first | (go_at_call 45; refine (Ht.out _).mono ?_; rintro e w' ⟨rfl, hb⟩))
  have hb1 : Below w.heap.size w w' := hbw.drew.trans (Below.mono (B' := w.heap.size) hb (by simp; omega))
  clear hb
  go_wp2
  go_ret
  exact ⟨rfl, hb1⟩

/-- the region behind Top's call, and the digits -/
theorem ltext_split {k s N : Nat} (h : ¬ ((k : Int) = 15 ∧ s = N)) : ((k : Int) == 15) = false ∨ (((k : Int) == 15) = true ∧ ((s : Int) == (N : Int)) = false) := by
  by_cases h1 : (k : Int) = 15
  · exact .inr ⟨by simpa using h1, by rw [cast_beq]; simpa using fun e => h ⟨h1, e⟩⟩
  · exact .inl (by simpa using h1)
set_option maxRecDepth 100000 in
set_option maxHeartbeats 4000000 in
theorem ltext_in (k s : Nat) (h1 : k ≤ 15) (hsU : U s) (hnt : ¬ ((k : Int) = 15 ∧ s = allN)) (w : World) : Calls Tryd.prog 49 #[.agg #[.int .i64 k, .int .u64 s]] w fun e w' => e = .returned (.string ⟨(if s = 0 then digs k else digs k ++ 58 :: textL s).toArray⟩) ∧ Below w.heap.size w w' := by
  have Hm := Lib.hid (fun w1 => lmay_c (k : Int) s true (mayL_yes (by omega) (by omega)) w1)
  have Ht := Lib.hid (fun w1 => ltop_c w1)
  have Hd := Lib.hid (fun w1 => itoa_c k (by omega) w1)
  have Hx := Lib.hid (fun w1 => text_c s hsU w1)
  have hdl := digs_length k
  have htl := textL_length s
  have hsp := ltext_split hnt
  clear hsU hnt
  generalize allN = N at *
  rcases hsp with hne | ⟨hne, hne2⟩
  all_goals
    by_cases hz0 : s = 0
    · have hs2 : ((s : Int) == 0) = true := by simp [hz0]
      rw [if_pos hz0]
      clear hz0
      go_enter Tryd.func49, Tryd.ntmps49
      go_wp2_with fail
      refine (Hm.out _).mono ?_
      rintro e w1 ⟨rfl, hb0⟩
      obtain ⟨c0, c1, hz, hbw⟩ := box_kept (w := w) hb0
      clear hb0
      go_wp2_with fail
      go_region_held3 (fun w' => w'.cell? ⟨w.heap.size, 0, none⟩ = some (.int .i64 k) ∧ w'.cell? ⟨w.heap.size, 1, none⟩ = some (.int .u64 s))
        (first | go_keep | (go_split_ands; refine ⟨?_, ?_⟩ <;> (rw [hb.cell (by simp; omega)]; assumption)))
        (first | (go_at_call 45; refine (Ht.out _).mono ?_; rintro e w' ⟨rfl, hb⟩))
      have hb1 : Below w.heap.size w w' := hbw.drew.trans (Below.mono (B' := w.heap.size) hb (by simp; omega))
      clear hb
      go_wp2_with fail
      refine (Hd.out _).mono ?_
      rintro e w2 ⟨rfl, rfl⟩
      go_wp2
      go_ret
      exact ⟨rfl, hb1⟩
    · have hs2 : ((s : Int) == 0) = false := by simp [hz0]
      rw [if_neg hz0]
      clear hz0
      go_enter Tryd.func49, Tryd.ntmps49
      go_wp2_with fail
      refine (Hm.out _).mono ?_
      rintro e w1 ⟨rfl, hb0⟩
      obtain ⟨c0, c1, hz, hbw⟩ := box_kept (w := w) hb0
      clear hb0
      go_wp2_with fail
      go_region_held3 (fun w' => w'.cell? ⟨w.heap.size, 0, none⟩ = some (.int .i64 k) ∧ w'.cell? ⟨w.heap.size, 1, none⟩ = some (.int .u64 s))
        (first | go_keep | (go_split_ands; refine ⟨?_, ?_⟩ <;> (rw [hb.cell (by simp; omega)]; assumption)))
        (first | (go_at_call 45; refine (Ht.out _).mono ?_; rintro e w' ⟨rfl, hb⟩))
      have hb1 : Below w.heap.size w w' := hbw.drew.trans (Below.mono (B' := w.heap.size) hb (by simp; omega))
      clear hb
      go_wp2_with fail
      refine (Hd.out _).mono ?_
      rintro e w2 ⟨rfl, rfl⟩
      go_wp2_with fail
      refine (Hx.out _).mono ?_
      rintro e w4 ⟨rfl, hb4⟩
      have hb5 := hb1.trans (hb4.mono hb1.size)
      clear hb4
      go_wp2
      go_ret
      exact ⟨congrArg (fun x => Ending.returned (.string x)) (mk_three (digs k) [58] (textL s)), hb5⟩
theorem ltext_c (l : Int) (s : Nat) (hs : U s) (w : World) : Calls Tryd.prog 49 #[.agg #[.int .i64 l, .int .u64 s]] w fun e w' => e = .returned (.string ⟨(labT l s).toArray⟩) ∧ Below w.heap.size w w' := by
  unfold labT
  by_cases ho : l < 0 ∨ 15 < l
  · rw [if_pos ho]
    exact ltext_out l s (by rcases ho with h | h; exact mayL_neg h; exact mayL_big h) w
  · rw [if_neg ho]
    obtain ⟨k, rfl⟩ := Int.eq_ofNat_of_zero_le (show 0 ≤ l by omega)
    by_cases ht : (k : Int) = 15 ∧ s = allN
    · rw [if_pos ht]
      exact ltext_top k s (mayL_yes (by omega) (by omega)) (by simpa using ht.1) (by rw [cast_beq]; simpa using ht.2) w
    · rw [if_neg ht, Int.toNat_natCast]
      exact ltext_in k s (by omega) hs ht w
end Go.Proofs.YtcgpggknmhlnkaaDoor.Cats

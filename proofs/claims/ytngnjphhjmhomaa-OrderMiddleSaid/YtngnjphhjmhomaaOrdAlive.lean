/- What the statements' check of life and their guard answer: the one yes; the other whether all numbers of a slice may be, and are few. -/
import Derived.Test.YtngnjphhjmhomaaOrdMed
import Derived.Test.YtngnjphhjmhomaaDecRef
namespace Go.Proofs.Ytngnjphhjmhomaa.Odr
open Go.RowKit Kit Reg Dec

/-- may all be, and are they few? -/
def okL (xs : List Int) : Bool := xs.all mayD && decide (xs.length ≤ 200)
set_option maxRecDepth 100000 in
set_option maxHeartbeats 1000000 in
theorem right_c (A : Option Addr) (n c : Nat) (xs : List Int) (hn : n ≤ 9223372036854775807) (b : Bool) (hb : okL xs = b) (w : World) (hz : NumsR w A n c xs) :
    Calls Try.prog 6 #[.slice A n c] w fun e w' => e = .returned (.bool b) ∧ w = w' := by
  have HZ := Lib.hid hz
  have HB := Lib.hid hb
  clear hz hb
  go_enter Try.func6, Try.ntmps6
  go_wp2
  go_loopw [4, 7] (fun _ i wr => ∃ k : Nat, k ≤ n ∧ i = .int .i64 k ∧ Hid ((xs.take k).all mayD = true) ∧ w = wr) (fun _ i _ => n - (intOf i).toNat)
  case atStart => exact ⟨0, Nat.zero_le _, rfl, Lib.hid rfl, rfl⟩
  case round =>
    obtain ⟨k, hk, rfl, HK, rfl⟩ := hrel
    by_cases hlt : k < n
    · obtain ⟨x, hx⟩ := HZ.out.get hlt
      obtain ⟨g, o, rfl, hg, c0⟩ := HZ.out.at hx
      obtain ⟨q, hq⟩ : ∃ q, mayD x = q := ⟨_, rfl⟩
      have HM := Lib.hid (fun w1 => rmay_c x q hq w1)
      have HX := Lib.hid hx
      have HQ := Lib.hid hq
      clear hx hq
      cases q
      · have HF : Hid (false = b) := Lib.hid (by
          rw [← HB.out, okL]
          have : xs.all mayD = false := by
            rw [List.all_eq_false]
            exact ⟨x, List.mem_iff_getElem?.2 ⟨k, HX.out⟩, by rw [HQ.out]; simp⟩
          rw [this]
          rfl)
        go_wp2_with (go_at_call 20; refine (HM.out _).mono ?_; rintro e w1 ⟨rfl, rfl⟩)
        go_ret
        exact ⟨ret_bool HF.out, rfl⟩
      · have HN : Hid ((xs.take (k + 1)).all mayD = true) := Lib.hid (by rw [take_one HX.out, List.all_append, HK.out]; simp [HQ.out])
        go_wp2_with (go_at_call 20; refine (HM.out _).mono ?_; rintro e w1 ⟨rfl, rfl⟩)
        go_roundw
        case rel => exact ⟨k + 1, by omega, by go_num, HN, by first | rfl | trivial⟩
        case measure => simp [intOf]; omega
    · obtain rfl : k = n := by omega
      have HF : Hid (decide ((k : Int) ≤ 200) = b) := Lib.hid (by
        rw [← HB.out, okL, HZ.out.len]
        have h1 := HK.out
        rw [List.take_of_length_le (by rw [HZ.out.len]; omega)] at h1
        rw [h1, Bool.true_and, decide_eq_decide]
        omega)
      go_wp2
      go_ret
      exact ⟨ret_bool HF.out, rfl⟩
theorem four_srt : srt [30, 10, 21, 10] = [10, 10, 21, 30] := srt_one (by decide) (by decide)
theorem four_med : medD [30, 10, 21, 10] = (16, true) := by
  rw [medD_even (x := 10) (y := 21) (s := 31) (by decide) (by decide) (by rw [four_srt]; rfl) (by rw [four_srt]; rfl) (by decide)]
  decide
theorem four_large : largeD [30, 10, 21, 10] 1 = (30, true) := largeD_yes (l := [30, 10, 21, 10]) (j := 3) (by rw [four_srt]; rfl)
theorem four_rank : rankD 21 [30, 10, 21, 10] = (2, true) := by decide
theorem four_mode : modeD [30, 10, 21, 10] = (10, true) := by decide
set_option maxRecDepth 100000 in
set_option maxHeartbeats 1000000 in
theorem alive_c (w : World) : Calls Try.prog 7 #[] w fun e w' => e = .returned (.bool true) ∧ Below w.heap.size w w' := by
  have hl : NumsR (w.alloc (.cells #[.int .i64 30, .int .i64 10, .int .i64 21, .int .i64 10] 2)) (some ⟨w.heap.size, 0, none⟩) 4 4 [30, 10, 21, 10] :=
    ⟨rfl, (fun h => by cases h), by decide, .inr ⟨_, 0, rfl, by simp, fun i n hi => by
      have h := (CellsAt.new w [.int .i64 30, .int .i64 10, .int .i64 21, .int .i64 10] 2).2 i (.int .i64 n) (by
        have : [Value.int .i64 30, .int .i64 10, .int .i64 21, .int .i64 10] = [30, 10, 21, 10].map (Value.int .i64) := rfl
        rw [this, List.getElem?_map, hi]
        rfl)
      rw [Nat.zero_add]
      exact h.1⟩⟩
  have HL := Lib.hid hl
  have HB := Lib.hid (below1 w (.cells #[.int .i64 30, .int .i64 10, .int .i64 21, .int .i64 10] 2))
  clear hl
  go_enter Try.func7, Try.ntmps7
  go_wp2_with (first
    | (go_at_call 14; refine (median_c _ 4 4 _ (by decide) 16 true four_med _ HL.out).mono ?_; rintro e w1 ⟨rfl, hb1⟩; replace HL := Lib.hid (HL.out.on hb1); replace HB := Lib.hid (on HB.out hb1); clear hb1)
    | (go_at_call 16; refine (rank_c _ 4 4 _ (by decide) 21 2 true four_rank _ HL.out).mono ?_; rintro e w2 ⟨rfl, rfl⟩)
    | (go_at_call 15; refine (mode_c _ 4 4 _ (by decide) 10 true four_mode _ HL.out).mono ?_; rintro e w3 ⟨rfl, hb1⟩; replace HL := Lib.hid (HL.out.on hb1); replace HB := Lib.hid (on HB.out hb1); clear hb1)
    | (go_at_call 11; refine (large_c _ 4 4 _ (by decide) 1 30 true four_large _ HL.out).mono ?_; rintro e w4 ⟨rfl, hb1⟩; replace HB := Lib.hid (on HB.out hb1); clear hb1))
  go_ret
  exact ⟨rfl, HB.out⟩
end Go.Proofs.Ytngnjphhjmhomaa.Odr

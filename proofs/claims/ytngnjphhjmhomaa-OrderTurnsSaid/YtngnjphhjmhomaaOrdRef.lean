/- What the reference's Times, Rank, Sorted answer: for any slice of at most 1000 numbers. -/
import Derived.Test.YtngnjphhjmhomaaOrdRows
import Derived.Deep.QuietTactic
import Derived.BigQuiet
namespace Go.Proofs.Ytngnjphhjmhomaa.Odr
open Go.RowKit Kit Reg Dec

set_option maxRecDepth 100000 in
set_option maxHeartbeats 1000000 in
theorem rtimes_c (A : Option Addr) (n c : Nat) (xs : List Int) (hn : n ≤ 1000) (x : Int) (q : Nat) (hq : xs.count x = q) (w : World) (hz : xs.length = n) (hr : IntsR w A xs) :
    Calls Try.prog 9 #[.int .i64 x, .slice A n c] w fun e w' => e = .returned (.int .i64 (q : Int)) ∧ w = w' := by
  have HL := Lib.hid hz
  have HR := Lib.hid hr
  have HQ := Lib.hid hq
  clear hz hr hq
  go_enter Try.func9, Try.ntmps9
  go_wp2
  go_loopw [5, 6] (fun r i wr => ∃ k m : Nat, k ≤ n ∧ i = .int .i64 k ∧ Hid ((xs.take k).count x = m) ∧ m ≤ k ∧ r = .int .i64 (m : Int) ∧ w = wr) (fun _ i _ => n - (intOf i).toNat)
  case atStart => exact ⟨0, 0, Nat.zero_le _, rfl, Lib.hid rfl, Nat.le_refl _, rfl, rfl⟩
  case round =>
    obtain ⟨k, m, hk, rfl, HM, hm, rfl, rfl⟩ := hrel
    by_cases hlt : k < n
    · obtain ⟨y, hy⟩ : ∃ y, xs[k]? = some y := ⟨_, List.getElem?_eq_getElem (by rw [HL.out]; exact hlt)⟩
      obtain ⟨b, o, rfl, hb, c0⟩ := HR.out.at hy
      have HY := Lib.hid hy
      clear hy
      by_cases h : y = x
      · have HN : Hid ((xs.take (k + 1)).count x = m + 1) := Lib.hid (by rw [cnt_hit HY.out h, HM.out])
        have q1 : (y == x) = true := by simpa using h
        clear HY HM h
        go_wp2
        go_roundw
        case rel => exact ⟨k + 1, m + 1, by omega, by go_num, HN, by omega, by go_num, by first | rfl | trivial⟩
        case measure => simp [intOf]; omega
      · have HN : Hid ((xs.take (k + 1)).count x = m) := Lib.hid (by rw [cnt_miss HY.out h, HM.out])
        have q1 : (y == x) = false := by simpa using h
        clear HY HM h
        go_wp2
        go_roundw
        case rel => exact ⟨k + 1, m, by omega, by go_num, HN, by omega, by go_num, by first | rfl | trivial⟩
        case measure => simp [intOf]; omega
    · obtain rfl : k = n := by omega
      have HE : Hid (m = q) := Lib.hid (by have := HM.out; rw [List.take_of_length_le (by rw [HL.out]; omega)] at this; exact this.symm.trans HQ.out)
      go_wp2
      go_ret
      exact ⟨by rw [← HE.out]; rfl, rfl⟩
set_option maxRecDepth 100000 in
set_option maxHeartbeats 1000000 in
theorem rrank_c (A : Option Addr) (n c : Nat) (xs : List Int) (hn : n ≤ 1000) (x r : Int) (hr : (rankD x xs).1 = r) (w : World) (hz : NumsR w A n c xs) :
    Calls Try.prog 19 #[.int .i64 x, .slice A n c] w fun e w' => e = .returned (.int .i64 r) ∧ w = w' := by
  obtain ⟨q, hq⟩ : ∃ q, xs.count x = q := ⟨_, rfl⟩
  have HT := Lib.hid (fun w1 h => rtimes_c A n c xs hn x q hq w1 hz.len h)
  have HZ := Lib.hid hz
  by_cases hx : x ∈ xs
  · have hq1 : 1 ≤ q := by rw [← hq]; exact List.count_pos_iff.2 hx
    have HE : Hid (1 + (gtN x xs : Int) = r) := Lib.hid (by rw [rankD_yes hx] at hr; exact hr)
    have q1 : ((q : Int) == 0) = false := by simp; omega
    clear hz hr hq hx
    go_enter Try.func19, Try.ntmps19
    go_wp2_with (go_at_call 9; refine (HT.out _ HZ.out.reads).mono ?_; rintro e w1 ⟨rfl, rfl⟩)
    clear q1
    go_loopw [5, 6] (fun r i wr => ∃ k m : Nat, k ≤ n ∧ i = .int .i64 k ∧ Hid (gtN x (xs.take k) = m) ∧ m ≤ k ∧ r = .int .i64 (1 + (m : Int)) ∧ w = wr) (fun _ i _ => n - (intOf i).toNat)
    case atStart => exact ⟨0, 0, Nat.zero_le _, rfl, Lib.hid rfl, Nat.le_refl _, rfl, rfl⟩
    case round =>
      obtain ⟨k, m, hk, rfl, HM, hm, rfl, rfl⟩ := hrel
      by_cases hlt : k < n
      · obtain ⟨y, hy⟩ := HZ.out.get hlt
        obtain ⟨b, o, rfl, hb, c0⟩ := HZ.out.at hy
        have HY := Lib.hid hy
        clear hy
        by_cases h : x < y
        · have HN : Hid (gtN x (xs.take (k + 1)) = m + 1) := Lib.hid (by rw [gtN_hit HY.out h, HM.out])
          clear HY HM
          go_wp2
          go_roundw
          case rel => exact ⟨k + 1, m + 1, by omega, by go_num, HN, by omega, by go_num, by first | rfl | trivial⟩
          case measure => simp [intOf]; omega
        · have HN : Hid (gtN x (xs.take (k + 1)) = m) := Lib.hid (by rw [gtN_miss HY.out h, HM.out])
          clear HY HM
          go_wp2
          go_roundw
          case rel => exact ⟨k + 1, m, by omega, by go_num, HN, by omega, by go_num, by first | rfl | trivial⟩
          case measure => simp [intOf]; omega
      · obtain rfl : k = n := by omega
        have HF : Hid (1 + (m : Int) = r) := Lib.hid (by have := HM.out; rw [List.take_of_length_le (by rw [HZ.out.len]; omega)] at this; rw [← this]; exact HE.out)
        clear HE HM
        go_wp2
        go_ret
        exact ⟨by rw [← HF.out]; rfl, rfl⟩
  · have hq1 : q = 0 := by rw [← hq]; exact List.count_eq_zero.2 hx
    have HE : Hid (0 = r) := Lib.hid (by rw [rankD_no hx] at hr; exact hr)
    clear hz hr hq hx
    subst hq1
    go_enter Try.func19, Try.ntmps19
    go_wp2_with (go_at_call 9; refine (HT.out _ HZ.out.reads).mono ?_; rintro e w1 ⟨rfl, rfl⟩)
    go_ret
    exact ⟨by rw [← HE.out]; rfl, rfl⟩
end Go.Proofs.Ytngnjphhjmhomaa.Odr

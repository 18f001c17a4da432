/- What the statement OrderSorts answers: yes, for every slice of numbers, every place and every number. -/
import Derived.Test.YtngnjphhjmhomaaOrdLawM
namespace Go.Proofs.Ytngnjphhjmhomaa.Odr
open Go.RowKit Kit Reg Dec

set_option maxRecDepth 100000 in
set_option maxHeartbeats 2000000 in
theorem sorts_no (A : Option Addr) (n c : Nat) (xs : List Int) (hn : n ≤ 9223372036854775807) (k x : Int) (hk : okL xs = false) (w : World) (hz : NumsR w A n c xs) :
    Calls Try.prog 3 #[.slice A n c, .int .i64 k, .int .i64 x] w (LawEnd w) := by
  have HR := Lib.hid (right_c A n c xs hn false hk w hz)
  clear hk hz
  go_enter Try.func3, Try.ntmps3
  go_wp2_with (first
    | (go_at_call 6; refine HR.out.mono ?_; rintro e w1 ⟨rfl, rfl⟩)
    | (go_at_call 7; refine (alive_c _).mono ?_; rintro e w2 ⟨rfl, hb⟩))
  go_ret
  exact ⟨rfl, hb⟩
set_option maxRecDepth 100000 in
set_option maxHeartbeats 2000000 in
theorem sorts_yes (A : Option Addr) (n c : Nat) (xs : List Int) (hn : n ≤ 1000) (k x : Int) (hk : okL xs = true) (m : Int) (a : Bool) (hm : smallD xs k = (m, a)) (o : Int) (b : Bool) (ho : largeD xs k = (o, b)) (w : World) (hz : NumsR w A n c xs) :
    Calls Try.prog 3 #[.slice A n c, .int .i64 k, .int .i64 x] w (LawEnd w) := by
  have HR := Lib.hid (right_c A n c xs (by omega) true hk w hz)
  have HS := Lib.hid (sorted_c A n c xs hn w hz)
  have H1 := Lib.hid (fun w1 h => small_c A n c xs hn k m a hm w1 h)
  have H2 := Lib.hid (fun w1 h => large_c A n c xs hn k o b ho w1 h)
  have H3 := Lib.hid (fun w1 h => rsmall_c A n c xs hn k m a hm w1 h)
  have H4 := Lib.hid (fun w1 h => rlarge_c A n c xs hn k o b ho w1 h)
  have HT := Lib.hid (fun y q (hq : xs.count y = q) w1 h => rtimes_c A n c xs hn y q hq w1 hz.len h)
  have hsl : (srt xs).length = n := by rw [srt_len, hz.len]
  have HL := Lib.hid hsl
  obtain ⟨q, hq⟩ : ∃ q, xs.count x = q := ⟨_, rfl⟩
  have HQ := Lib.hid hq
  have HZ := Lib.hid hz
  clear hk hz hm ho hsl hq
  go_enter Try.func3, Try.ntmps3
  go_wp2_with (first
    | (go_at_call 6; refine HR.out.mono ?_; rintro e w1 ⟨rfl, rfl⟩)
    | (go_at_call 8; refine HS.out.mono ?_; rintro e w1 ⟨A2, c2, rfl, hr, hb⟩; replace HZ := Lib.hid (HZ.out.on hb); have HB := Lib.hid hb; have HI := Lib.hid hr; clear hr hb)
    | (go_at_call 9; first
      | ((with_reducible refine (HT.out x q HQ.out _ HZ.out.reads).mono ?_); rintro e w2 ⟨rfl, rfl⟩)
      | ((with_reducible refine (rtimes_c A2 n c2 (srt xs) hn x q (by rw [srt_count, HQ.out]) _ HL.out HI.out).mono ?_); rintro e w2 ⟨rfl, rfl⟩)))
  go_loopw [8, 9, 38] (fun _ _ i wr => ∃ j : Nat, j ≤ n ∧ i = .int .i64 j ∧ w1 = wr) (fun _ _ i _ => n - (intOf i).toNat)
  case atStart => exact ⟨0, Nat.zero_le _, rfl, rfl⟩
  case round =>
    obtain ⟨j, hj, rfl, rfl⟩ := hrel
    by_cases hlt : j < n
    · obtain ⟨y, hy⟩ : ∃ y, (srt xs)[j]? = some y := ⟨_, List.getElem?_eq_getElem (by rw [HL.out]; exact hlt)⟩
      obtain ⟨g, p, rfl, hg, c0⟩ := HI.out.at hy
      obtain ⟨d, hd⟩ : ∃ d, xs.count y = d := ⟨_, rfl⟩
      have HD := Lib.hid hd
      have HY := Lib.hid hy
      clear hd hy
      cases j with
      | zero =>
        rw [Nat.add_zero] at c0
        go_wp2_with (go_at_call 9; first
          | ((with_reducible refine (HT.out y d HD.out _ HZ.out.reads).mono ?_); rintro e w2 ⟨rfl, rfl⟩)
          | ((with_reducible refine (rtimes_c (some ⟨g, p, none⟩) n c2 (srt xs) hn y d (by rw [srt_count, HD.out]) _ HL.out HI.out).mono ?_); rintro e w2 ⟨rfl, rfl⟩))
        go_roundw
        case rel => exact ⟨1, by omega, by go_num, by first | rfl | trivial⟩
        case measure => simp [intOf]; omega
      | succ i =>
        obtain ⟨z, hz⟩ : ∃ z, (srt xs)[i]? = some z := ⟨_, List.getElem?_eq_getElem (by rw [HL.out]; omega)⟩
        obtain ⟨g1, p1, e1, _, c1⟩ := HI.out.at hz
        simp only [Option.some.injEq, Addr.mk.injEq, and_true] at e1
        obtain ⟨rfl, rfl⟩ := e1
        have hzy := srt_step hz HY.out
        have t1 : decide (y < z) = false := decide_eq_false (by omega)
        have ei : ((i + 1 : Nat) : Int) - 1 = (i : Int) := by omega
        clear hz
        go_wp2_with (go_at_call 9; first
          | ((with_reducible refine (HT.out y d HD.out _ HZ.out.reads).mono ?_); rintro e w2 ⟨rfl, rfl⟩)
          | ((with_reducible refine (rtimes_c (some ⟨g, p, none⟩) n c2 (srt xs) hn y d (by rw [srt_count, HD.out]) _ HL.out HI.out).mono ?_); rintro e w2 ⟨rfl, rfl⟩))
        go_roundw
        case rel => exact ⟨i + 1 + 1, by omega, by go_num, by first | rfl | trivial⟩
        case measure => simp [intOf]; omega
    · obtain rfl : j = n := by omega
      go_wp2_with (first
        | (go_at_call 10; refine (H1.out _ HZ.out).mono ?_; rintro e w2 ⟨rfl, hb1⟩; replace HZ := Lib.hid (HZ.out.on hb1); replace HB := Lib.hid (on HB.out hb1); clear hb1)
        | (go_at_call 11; refine (H2.out _ HZ.out).mono ?_; rintro e w3 ⟨rfl, hb1⟩; replace HZ := Lib.hid (HZ.out.on hb1); replace HB := Lib.hid (on HB.out hb1); clear hb1)
        | (go_at_call 12; refine (H3.out _ HZ.out).mono ?_; rintro e w4 ⟨rfl, hb1⟩; replace HZ := Lib.hid (HZ.out.on hb1); replace HB := Lib.hid (on HB.out hb1); clear hb1)
        | (go_at_call 13; refine (H4.out _ HZ.out).mono ?_; rintro e w5 ⟨rfl, hb1⟩; replace HB := Lib.hid (on_alloc (on_alloc (on HB.out hb1) (.cells #[.int .i64 m, .bool a] 30)) (.cells #[.int .i64 o, .bool b] 30)); clear hb1)
        | (go_at_call 7; refine (alive_c _).mono ?_; rintro e w7 ⟨rfl, hb1⟩; replace HB := Lib.hid (on HB.out hb1); clear hb1))
      go_ret
      exact ⟨rfl, HB.out⟩
theorem sorts_law (A : Option Addr) (n c : Nat) (xs : List Int) (hn : n ≤ 9223372036854775807) (k x : Int) (w : World) (hz : NumsR w A n c xs) :
    Calls Try.prog 3 #[.slice A n c, .int .i64 k, .int .i64 x] w (LawEnd w) := by
  cases hk : okL xs
  · exact sorts_no A n c xs hn k x hk w hz
  · have hl := okL_few hk
    rw [hz.len] at hl
    exact sorts_yes A n c xs (by omega) k x hk _ _ rfl _ _ rfl w hz
end Go.Proofs.Ytngnjphhjmhomaa.Odr

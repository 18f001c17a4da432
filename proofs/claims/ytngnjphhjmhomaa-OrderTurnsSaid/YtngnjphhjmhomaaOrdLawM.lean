/- What the statement OrderMiddle answers: yes, for every slice of numbers and every number. -/
import Derived.Test.YtngnjphhjmhomaaOrdAlive
import Derived.Test.YtngnjphhjmhomaaOrdRMed
namespace Go.Proofs.Ytngnjphhjmhomaa.Odr
open Go.RowKit Kit Reg Dec

theorem okL_few {xs : List Int} (h : okL xs = true) : xs.length ≤ 200 := by
  rw [okL, Bool.and_eq_true, decide_eq_true_eq] at h
  exact h.2
/-- where not all numbers may be, or they are many, each statement asks the check of life alone -/
def LawEnd (w : World) : Ending → World → Prop := fun e w' => e = .returned (.bool true) ∧ Below w.heap.size w w'
set_option maxRecDepth 100000 in
set_option maxHeartbeats 2000000 in
theorem middle_no (A : Option Addr) (n c : Nat) (xs : List Int) (hn : n ≤ 9223372036854775807) (x : Int) (hk : okL xs = false) (w : World) (hz : NumsR w A n c xs) :
    Calls Try.prog 4 #[.slice A n c, .int .i64 x] w (LawEnd w) := by
  have HR := Lib.hid (right_c A n c xs hn false hk w hz)
  clear hk hz
  go_enter Try.func4, Try.ntmps4
  go_wp2_with (first
    | (go_at_call 6; refine HR.out.mono ?_; rintro e w1 ⟨rfl, rfl⟩)
    | (go_at_call 7; refine (alive_c _).mono ?_; rintro e w2 ⟨rfl, hb⟩))
  go_ret
  exact ⟨rfl, hb⟩
set_option maxRecDepth 100000 in
set_option maxHeartbeats 2000000 in
theorem middle_yes (A : Option Addr) (n c : Nat) (xs : List Int) (hn : n ≤ 1000) (x : Int) (hk : okL xs = true) (m : Int) (a : Bool) (hm : medD xs = (m, a)) (o : Int) (b : Bool) (ho : modeD xs = (o, b)) (r : Int) (d : Bool) (hr : rankD x xs = (r, d)) (w : World) (hz : NumsR w A n c xs) :
    Calls Try.prog 4 #[.slice A n c, .int .i64 x] w (LawEnd w) := by
  have HR := Lib.hid (right_c A n c xs (by omega) true hk w hz)
  have H1 := Lib.hid (fun w1 h => median_c A n c xs hn m a hm w1 h)
  have H2 := Lib.hid (fun w1 h => mode_c A n c xs hn o b ho w1 h)
  have H3 := Lib.hid (fun w1 h => rank_c A n c xs hn x r d hr w1 h)
  have H4 := Lib.hid (fun w1 h => rmedian_c A n c xs hn m a hm w1 h)
  have H5 := Lib.hid (fun w1 h => rmode_c A n c xs hn o b ho w1 h)
  have H6 := Lib.hid (fun w1 h => rrank_c A n c xs hn x r (by rw [hr]) w1 h)
  have HZ := Lib.hid hz
  have HB := Lib.hid (Below.refl w.heap.size w)
  have hd : decide (0 < r) = d := by have := rankD_pos x xs; rw [hr] at this; exact this.symm
  clear hk hz hm ho hr
  go_enter Try.func4, Try.ntmps4
  go_wp2_with (first
    | (go_at_call 6; refine HR.out.mono ?_; rintro e w1 ⟨rfl, rfl⟩)
    | (go_at_call 14; refine (H1.out _ HZ.out).mono ?_; rintro e w1 ⟨rfl, hb1⟩; replace HZ := Lib.hid (HZ.out.on hb1); replace HB := Lib.hid (on HB.out hb1); clear hb1)
    | (go_at_call 15; refine (H2.out _ HZ.out).mono ?_; rintro e w2 ⟨rfl, hb1⟩; replace HZ := Lib.hid (HZ.out.on hb1); replace HB := Lib.hid (on HB.out hb1); clear hb1)
    | (go_at_call 16; refine (H3.out _ HZ.out).mono ?_; rintro e w3 ⟨rfl, rfl⟩)
    | (go_at_call 17; refine (H4.out _ HZ.out).mono ?_; rintro e w4 ⟨rfl, hb1⟩; replace HZ := Lib.hid (HZ.out.on hb1); replace HB := Lib.hid (on HB.out hb1); clear hb1)
    | (go_at_call 18; refine (H5.out _ HZ.out).mono ?_; rintro e w5 ⟨rfl, hb1⟩; replace HZ := Lib.hid ((HZ.out.on hb1).on (below2 w5 (.cells #[.int .i64 m, .bool a] 30) (.cells #[.int .i64 o, .bool b] 30))); replace HB := Lib.hid (on_alloc (on_alloc (on HB.out hb1) (.cells #[.int .i64 m, .bool a] 30)) (.cells #[.int .i64 o, .bool b] 30)); clear hb1)
    | (go_at_call 19; refine (H6.out _ HZ.out).mono ?_; rintro e w6 ⟨rfl, rfl⟩)
    | (go_at_call 7; refine (alive_c _).mono ?_; rintro e w7 ⟨rfl, hb1⟩; replace HB := Lib.hid (on HB.out hb1); clear hb1))
  go_ret
  exact ⟨rfl, HB.out⟩
theorem middle_law (A : Option Addr) (n c : Nat) (xs : List Int) (hn : n ≤ 9223372036854775807) (x : Int) (w : World) (hz : NumsR w A n c xs) :
    Calls Try.prog 4 #[.slice A n c, .int .i64 x] w (LawEnd w) := by
  cases hk : okL xs
  · exact middle_no A n c xs hn x hk w hz
  · have hl := okL_few hk
    rw [hz.len] at hl
    exact middle_yes A n c xs (by omega) x hk _ _ rfl _ _ rfl _ _ rfl w hz
end Go.Proofs.Ytngnjphhjmhomaa.Odr

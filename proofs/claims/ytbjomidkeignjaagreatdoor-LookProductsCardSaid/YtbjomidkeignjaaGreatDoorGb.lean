/- What is reckoned of a list's numbers one behind the other: the program's reckoned, for any step that answers; its Sum, Product, Squares, Least and Most.
   The program's steps: of the sum, the product, the sum of the squares, the least and the greatest number; and what Sum, Product, Squares, Least and Most answer. -/
import Derived.Test.YtbjomidkeignjaaGreatDoorGa
import Derived.Test.YtbjomidkeignjaaGreatDoorG8
import Derived.Test.YtbjomidkeignjaaGreatDoorG13
import Derived.Test.YtbjomidkeignjaaGreatDoorDecScale
namespace Go.Proofs.YtbjomidkeignjaaGreatDoor.Fld
open Go.RowKit Kit Reg Dec Dig Val Txt

/-- a function that is called where it stands in the program -/
theorem enters {f : FuncId} {fn : Func} {c : Code} (hf : Tryz.prog.funcs[f]? = some fn) (hname : (fn.name == "runtime.NumGoroutine") = false) (hb : fn.body = some c) (args : Array Value) (w : World) : (callFunc f args).run Tryz.prog w = .ok (.enter f args) w := by
  have h1 : fn.name ≠ "runtime.NumGoroutine" := by simpa using hname
  simp [callFunc, hf, h1, hb]
/-- a step of the program's: what it answers, where it is called with what it has captured -/
def StepC (step : Int → Int → Int × Bool) (F : Nat) (caps : Array Value) (P : World → Prop) : Prop := ∀ (so x n : Int) (k : Bool), so ≤ 9223372036854775807 → x ≤ 9223372036854775807 → step so x = (n, k) → n ≤ 9223372036854775807 ∧
  ∀ w : World, P w → Calls Tryz.prog F (#[.int .i64 so, .int .i64 x] ++ caps) w fun e w' => e = .returned (.tuple #[.int .i64 n, .bool k]) ∧ Below w.heap.size w w'
set_option maxRecDepth 100000 in
set_option maxHeartbeats 2000000 in
theorem reckoned_no (A : Option Addr) (n cap : Nat) (L : List Vl) (hf : NoF L) (step : Int → Int → Int × Bool) (start : Int) (hs : start ≤ 9223372036854775807) (F : Nat) (caps : Array Value) (hE : ∀ (args : Array Value) (w : World), (callFunc F args).run Tryz.prog w = .ok (.enter F args) w) (P : World → Prop) (hP : ∀ w w', P w → Below w.heap.size w w' → P w') (HC : StepC step F caps P)
    (hfit : ∀ x ∈ numsF L, x ≤ 9223372036854775807) (k0 n0 : Int) (hv : allD step start (numsF L) = (k0, n0)) (w : World) (hz : ValsR w A n L) (hPw : P w) :
    Calls Tryz.prog 69 #[.slice A n cap, .int .i64 start, .func (.func F) #[] caps] w (ValIs k0 n0 ⟨#[]⟩ w) := by
  have HN := Lib.hid (fun w1 hz => numbers_no A n cap L hf w1 hz)
  have HZ := Lib.hid (hz.on (below1 w (.cells #[.int .i64 0, .int .i64 0, .string ⟨#[]⟩] 26)))
  have HP := Lib.hid hP
  have HE := Lib.hid hE
  have HPw := Lib.hid (hP _ _ hPw (below1 w (.cells #[.int .i64 0, .int .i64 0, .string ⟨#[]⟩] 26)))
  have HS := Lib.hid HC
  have HV := Lib.hid hv
  have HFit : Hid (∀ (k : Nat) (x : Int), (numsF L)[k]? = some x → x ≤ 9223372036854775807) := Lib.hid fun k x hx => hfit x (List.mem_of_getElem? hx)
  have HG := Lib.hid (fun x b k n h w1 => got_c x b k n h w1)
  have HZero : Hid (∀ w1, Calls Tryz.prog 30 #[.int .i64 0] w1 (ValIs 1 0 ⟨#[]⟩ w1)) := Lib.hid (fun w1 => num_c 0 1 0 (num_in (by decide)) w1)
  have hb0 := below1 w (.cells #[.int .i64 0, .int .i64 0, .string ⟨#[]⟩] 26)
  have hr := CellsAt.new w [.int .i64 0, .int .i64 0, .string ⟨#[]⟩] 26
  have hlen := Nat.le_trans (numsF_len L) (show L.length ≤ 1000 by rw [hz.1]; exact hz.2.1)
  clear hz hf hP HC hv hPw hfit hE
  go_enter Tryz.func69, Tryz.ntmps69
  go_wp2_with fail
  generalize w.alloc (.cells #[.int .i64 0, .int .i64 0, .string ⟨#[]⟩] 26) = W at *
  refine (HN.out _ HZ.out).mono ?_
  rintro e w1 ⟨A2, c2, rfl, hread, hb1⟩
  replace HPw := Lib.hid (HP.out _ _ HPw.out hb1)
  replace hb0 := on hb0 hb1
  replace hr := hr.on hb1
  have hl := hr.1
  clear hb1 HN HZ
  generalize numsF L = xs at *
  generalize hm : xs.length = m at *
  have HM := Lib.hid hm
  have hbx := below1 w1 (.cells #[.int .i64 0, .int .i64 0, .string ⟨#[]⟩] 26)
  replace hb0 := on_alloc hb0 (.cells #[.int .i64 0, .int .i64 0, .string ⟨#[]⟩] 26)
  replace hr := hr.on_alloc (.cells #[.int .i64 0, .int .i64 0, .string ⟨#[]⟩] 26)
  replace hread := Lib.hid (hread.on hbx)
  replace HPw := Lib.hid (HP.out _ _ HPw.out hbx)
  have hx := CellsAt.new w1 [.int .i64 0, .int .i64 0, .string ⟨#[]⟩] 26
  obtain ⟨x0, x1, x2, _⟩ := hx.three
  by_cases h0 : m = 0
  · obtain rfl : xs = [] := List.eq_nil_of_length_eq_zero (by rw [HM.out, h0])
    obtain ⟨rfl, rfl⟩ := Prod.mk.inj (show ((1 : Int), (0 : Int)) = (k0, n0) from HV.out)
    subst h0
    clear HM HV hm HFit HG HP HPw HS hread
    go_wp2_with fail
    refine (HZero.out _).mono ?_
    rintro e w2 ⟨rfl, hb2⟩
    replace hb0 := on hb0 hb2
    replace hr := hr.on hb2
    have hl2 := hr.1
    obtain ⟨p0, p1, p2, f0, f1, f2⟩ := hr.three
    obtain ⟨z0, z1, z2⟩ := three_set (u := .int .i64 1) (v := .int .i64 0) (r := .string ⟨#[]⟩) p0 p1 p2
    have hb3 := set3 hb0 (Nat.le_refl _) (.int .i64 1) (.int .i64 0) (.string ⟨#[]⟩)
    clear hb2 hb0 hr hx x0 x1 x2 HZero
    go_wp2_with fail
    exact bodyPost_ret (v := .agg #[.int .i64 1, .int .i64 0, .string ⟨#[]⟩]) (by simp [results, Tryz.results69, go_sem, z0, z1, z2]) rfl ⟨rfl, hb3⟩
  · have q0 : (m == 0) = false := by simpa using h0
    have q1 : ((m : Int) == 0) = false := by simpa using h0
    have hne : ¬ xs = [] := fun e => h0 (by rw [← HM.out, e]; rfl)
    have HV2 : Hid (gotV (totalD step start (xs.drop 0)).1 (totalD step start (xs.drop 0)).2 = (k0, n0)) := Lib.hid (by
      have h := HV.out
      unfold allD at h
      rw [if_neg hne] at h
      exact h)
    clear HV hm HZero hne hl
    go_wp2_with fail
    generalize w1.alloc (.cells #[.int .i64 0, .int .i64 0, .string ⟨#[]⟩] 26) = W1 at *
    go_loopw [9, 10, 29] (fun so ok i wr => ∃ (k : Nat) (s : Int), k ≤ m ∧ i = .int .i64 k ∧ so = .int .i64 s ∧ ok = .bool true ∧ s ≤ 9223372036854775807 ∧ Hid (gotV (totalD step s (xs.drop k)).1 (totalD step s (xs.drop k)).2 = (k0, n0)) ∧ Below w.heap.size w wr ∧ Below W1.heap.size W1 wr ∧ CellsAt wr w.heap.size [.int .i64 0, .int .i64 0, .string ⟨#[]⟩] ∧ P wr) (fun _ _ i _ => m - (intOf i).toNat)
    case atStart => exact ⟨0, start, Nat.zero_le _, rfl, rfl, rfl, hs, HV2, hb0, Below.refl _ _, hr, HPw.out⟩
    case round =>
      clear hb0 hr HPw HV2 hx x0 x1 x2
      obtain ⟨k, s, hk, rfl, rfl, rfl, hs2, HV2, hb0, hbW, hr, hPr⟩ := hrel
      replace hPr := Lib.hid hPr
      have hl := hr.1
      by_cases hlt : k < m
      · obtain ⟨x, hx⟩ : ∃ x, xs[k]? = some x := ⟨_, List.getElem?_eq_getElem (by rw [HM.out]; exact hlt)⟩
        obtain ⟨g, of, rfl, hg, hc⟩ := (hread.out.on hbW).at hx
        have hx9 := HFit.out k x hx
        obtain ⟨⟨t, b⟩, ht⟩ : ∃ r, step s x = r := ⟨_, rfl⟩
        obtain ⟨ht9, HC⟩ := HS.out s x t b hs2 hx9 ht
        replace HC := Lib.hid HC
        cases b
        · have HV3 : Hid (gotV t false = (k0, n0)) := Lib.hid (by have h := HV2.out; rw [total_no hx ht] at h; exact h)
          have HG2 := Lib.hid (HG.out t false k0 n0 HV3.out)
          clear HV2 HV3 HS ht hx
          go_wp2_with fail
          rw [HE.out, Oper.upon_enter]
          refine (HC.out _ hPr.out).mono ?_
          rintro e w3 ⟨rfl, hb3⟩
          replace hb0 := on hb0 hb3
          replace hr := hr.on hb3
          clear hb3 hbW hPr hc
          go_wp2_with fail
          refine (HG2.out _).mono ?_
          rintro e w4 ⟨rfl, hb4⟩
          replace hb0 := on hb0 hb4
          replace hr := hr.on hb4
          have hl2 := hr.1
          obtain ⟨p0, p1, p2, f0, f1, f2⟩ := hr.three
          obtain ⟨z0, z1, z2⟩ := three_set (u := .int .i64 k0) (v := .int .i64 n0) (r := .string ⟨#[]⟩) p0 p1 p2
          have hb5 := set3 hb0 (Nat.le_refl _) (.int .i64 k0) (.int .i64 n0) (.string ⟨#[]⟩)
          clear hb4 hb0 hr
          go_wp2_with fail
          exact bodyPost_ret (v := .agg #[.int .i64 k0, .int .i64 n0, .string ⟨#[]⟩]) (by simp [results, Tryz.results69, go_sem, z0, z1, z2]) rfl ⟨rfl, hb5⟩
        · have HV3 : Hid (gotV (totalD step t (xs.drop (k + 1))).1 (totalD step t (xs.drop (k + 1))).2 = (k0, n0)) := Lib.hid (by have h := HV2.out; rw [total_yes hx ht] at h; exact h)
          clear HV2 HS ht hx
          go_wp2_with fail
          rw [HE.out, Oper.upon_enter]
          refine (HC.out _ hPr.out).mono ?_
          rintro e w3 ⟨rfl, hb3⟩
          replace hb0 := on hb0 hb3
          replace hr := hr.on hb3
          replace hbW := on hbW hb3
          replace hPr := HP.out _ _ hPr.out hb3
          clear hb3 hc
          go_wp2_with fail
          go_roundw
          case rel => exact ⟨k + 1, t, by omega, by go_num, rfl, rfl, ht9, HV3, hb0, hbW, hr, hPr⟩
          case measure => simp [intOf]; omega
      · obtain rfl : k = m := by omega
        have HV3 : Hid (gotV s true = (k0, n0)) := Lib.hid (by have h := HV2.out; rw [← HM.out, total_end] at h; exact h)
        have HG2 := Lib.hid (HG.out s true k0 n0 HV3.out)
        clear HV2 HV3 HS hbW hPr
        go_wp2_with fail
        refine (HG2.out _).mono ?_
        rintro e w4 ⟨rfl, hb4⟩
        replace hb0 := on hb0 hb4
        replace hr := hr.on hb4
        have hl2 := hr.1
        obtain ⟨p0, p1, p2, f0, f1, f2⟩ := hr.three
        obtain ⟨z0, z1, z2⟩ := three_set (u := .int .i64 k0) (v := .int .i64 n0) (r := .string ⟨#[]⟩) p0 p1 p2
        have hb5 := set3 hb0 (Nat.le_refl _) (.int .i64 k0) (.int .i64 n0) (.string ⟨#[]⟩)
        clear hb4 hb0 hr
        go_wp2_with fail
        exact bodyPost_ret (v := .agg #[.int .i64 k0, .int .i64 n0, .string ⟨#[]⟩]) (by simp [results, Tryz.results69, go_sem, z0, z1, z2]) rfl ⟨rfl, hb5⟩
set_option maxRecDepth 100000 in
set_option maxHeartbeats 1000000 in
theorem reckoned_yes (A : Option Addr) (n cap : Nat) (L : List Vl) (p : Nat) (x : Vl) (hf : FirstF L p x) (hx : x.may) (start : Int) (fv : Value) (w : World) (hz : ValsR w A n L) :
    Calls Tryz.prog 69 #[.slice A n cap, .int .i64 start, fv] w (ValIs 4 x.n ⟨#[]⟩ w) := by
  have HN := Lib.hid (fun w1 hz => numbers_yes A n cap L p x hf w1 hz)
  have HZ := Lib.hid (hz.on (below1 w (.cells #[.int .i64 0, .int .i64 0, .string ⟨#[]⟩] 26)))
  have hb0 := below1 w (.cells #[.int .i64 0, .int .i64 0, .string ⟨#[]⟩] 26)
  have hr := CellsAt.new w [.int .i64 0, .int .i64 0, .string ⟨#[]⟩] 26
  have e4 := may_fault hx hf.2.1
  obtain ⟨vk, vn, vt⟩ := x
  simp only [Vl.mk.injEq] at e4
  obtain ⟨rfl, _, rfl⟩ := e4
  dsimp only at HN
  clear hz hf hx
  go_enter Tryz.func69, Tryz.ntmps69
  go_wp2_with fail
  generalize w.alloc (.cells #[.int .i64 0, .int .i64 0, .string ⟨#[]⟩] 26) = W at *
  refine (HN.out _ HZ.out).mono ?_
  rintro e w1 ⟨rfl, hb1⟩
  replace hb0 := on hb0 hb1
  replace hr := hr.on hb1
  have hl := hr.1
  clear hb1 HN HZ
  have hx := CellsAt.new w1 [.int .i64 4, .int .i64 vn, .string ⟨#[]⟩] 26
  obtain ⟨x0, x1, x2, _⟩ := hx.three
  obtain ⟨p0, p1, p2, f0, f1, f2⟩ := hr.three
  obtain ⟨z0, z1, z2⟩ := three_set (u := .int .i64 4) (v := .int .i64 vn) (r := .string ⟨#[]⟩) p0 p1 p2
  replace z0 := kept_alloc (.cells #[.int .i64 4, .int .i64 vn, .string ⟨#[]⟩] 26) z0
  replace z1 := kept_alloc (.cells #[.int .i64 4, .int .i64 vn, .string ⟨#[]⟩] 26) z1
  replace z2 := kept_alloc (.cells #[.int .i64 4, .int .i64 vn, .string ⟨#[]⟩] 26) z2
  have hb5 := on_alloc (set3 hb0 (Nat.le_refl _) (.int .i64 4) (.int .i64 vn) (.string ⟨#[]⟩)) (.cells #[.int .i64 4, .int .i64 vn, .string ⟨#[]⟩] 26)
  go_wp2_with fail
  exact bodyPost_ret (v := .agg #[.int .i64 4, .int .i64 vn, .string ⟨#[]⟩]) (by simp [results, Tryz.results69, go_sem, z0, z1, z2]) rfl ⟨rfl, hb5⟩
/-- whatever the list -/
theorem reckoned_c (A : Option Addr) (n cap : Nat) (L : List Vl) (hm : ∀ v ∈ L, v.may) (step : Int → Int → Int × Bool) (start : Int) (hs : start ≤ 9223372036854775807) (F : Nat) (caps : Array Value)
    (hE : ∀ (args : Array Value) (w : World), (callFunc F args).run Tryz.prog w = .ok (.enter F args) w) (P : World → Prop) (hP : ∀ w w', P w → Below w.heap.size w w' → P w') (HC : StepC step F caps P)
    (k0 n0 : Int) (hv : allV step start L = (k0, n0)) (w : World) (hz : ValsR w A n L) (hPw : P w) :
    Calls Tryz.prog 69 #[.slice A n cap, .int .i64 start, .func (.func F) #[] caps] w (ValIs k0 n0 ⟨#[]⟩ w) := by
  rcases fault_ways L with h | ⟨p, x, h⟩
  · rw [allV_no h] at hv
    exact reckoned_no A n cap L h step start hs F caps hE P hP HC (fun x hx => (numsF_room hm hz.2.2.1 hx).2) k0 n0 hv w hz hPw
  · rw [allV_yes h] at hv
    obtain ⟨rfl, rfl⟩ := Prod.mk.inj hv
    exact reckoned_yes A n cap L p x h (hm x (List.mem_of_getElem? h.1)) start _ w hz
end Go.Proofs.YtbjomidkeignjaaGreatDoor.Fld
namespace Go.Proofs.YtbjomidkeignjaaGreatDoor.Fld
open Go.RowKit Kit Reg Dec Dig Val Txt

theorem addD_room {a b n : Int} {k : Bool} (h : addD a b = (n, k)) : n ≤ 9223372036854775807 := by
  unfold addD giveD at h
  split at h
  · rename_i h2
    have := (Prod.mk.inj h).1
    simp only [okD, Bool.and_eq_true, decide_eq_true_eq] at h2
    omega
  · have := (Prod.mk.inj h).1
    omega
theorem mulD_room {a b n : Int} {k : Bool} (h : scaledD a b 10000 = (n, k)) : n ≤ 9223372036854775807 ∧ (k = false → n = 0) := by
  unfold scaledD giveD at h
  split at h
  · rename_i h2
    obtain ⟨h3, rfl⟩ := Prod.mk.inj h
    rw [Bool.and_eq_true] at h2
    have h4 := h2.2
    rw [h3] at h4
    simp only [okD, Bool.and_eq_true, decide_eq_true_eq] at h4
    exact ⟨by omega, fun e => by cases e⟩
  · have := (Prod.mk.inj h).1
    exact ⟨by omega, fun _ => by omega⟩
theorem step_add : StepC addD 70 #[] (fun _ => True) := fun so x n k h1 h2 h => ⟨addD_room h, fun w _ => (add_c so x h1 h2 n k h w).mono fun _ _ ⟨he, hw⟩ => ⟨he, by subst hw; exact Below.refl _ _⟩⟩
theorem step_mul : StepC mulD 53 #[] (fun _ => True) := fun so x n k h1 h2 h => ⟨(mulD_room h).1, fun w _ => (mul_c so x h1 h2 n k h w).mono fun _ _ ⟨he, hw⟩ => ⟨he, drawn_below hw⟩⟩
theorem sqD_room {a b n : Int} {k : Bool} (h : sqD a b = (n, k)) : n ≤ 9223372036854775807 := by
  obtain ⟨⟨s, c⟩, hs⟩ : ∃ r, scaledD b b 10000 = r := ⟨_, rfl⟩
  unfold sqD at h
  rw [hs] at h
  cases c
  · rw [← (Prod.mk.inj h).1]
    exact (mulD_room hs).1
  · exact addD_room h
set_option maxRecDepth 100000 in
set_option maxHeartbeats 1000000 in
theorem sum_c (A : Option Addr) (n cap : Nat) (L : List Vl) (hm : ∀ v ∈ L, v.may) (k0 n0 : Int) (hv : allV addD 0 L = (k0, n0)) (w : World) (hz : ValsR w A n L) :
    Calls Tryz.prog 47 #[.slice A n cap] w (ValIs k0 n0 ⟨#[]⟩ w) := by
  have HR : Hid (∀ w1, ValsR w1 A n L → Calls Tryz.prog 69 #[.slice A n cap, .int .i64 0, .func (.func 70) #[] #[]] w1 (ValIs k0 n0 ⟨#[]⟩ w1)) := Lib.hid (fun w1 hz => reckoned_c A n cap L hm addD 0 (by omega) 70 #[] (enters (fn := Tryz.f70) (by kernel_rfl) (by kernel_rfl) rfl) (fun _ => True) (fun _ _ _ _ => trivial) step_add k0 n0 hv w1 hz trivial)
  have hb0 := below1 w (.cells #[.int .i64 0, .int .i64 0, .string ⟨#[]⟩] 26)
  have HZ := Lib.hid (hz.on hb0)
  have hr := CellsAt.new w [.int .i64 0, .int .i64 0, .string ⟨#[]⟩] 26
  clear hz hv
  go_enter Tryz.func47, Tryz.ntmps47
  go_wp2_with fail
  generalize w.alloc (.cells #[.int .i64 0, .int .i64 0, .string ⟨#[]⟩] 26) = W at *
  refine (HR.out _ HZ.out).mono ?_
  rintro e w4 ⟨rfl, hb4⟩
  replace hb0 := on hb0 hb4
  replace hr := hr.on hb4
  have hl2 := hr.1
  obtain ⟨p0, p1, p2, f0, f1, f2⟩ := hr.three
  obtain ⟨z0, z1, z2⟩ := three_set (u := .int .i64 k0) (v := .int .i64 n0) (r := .string ⟨#[]⟩) p0 p1 p2
  have hb5 := set3 hb0 (Nat.le_refl _) (.int .i64 k0) (.int .i64 n0) (.string ⟨#[]⟩)
  clear hb4 hb0 hr HR HZ
  go_wp2_with fail
  exact bodyPost_ret (v := .agg #[.int .i64 k0, .int .i64 n0, .string ⟨#[]⟩]) (by simp [results, Tryz.results47, go_sem, z0, z1, z2]) rfl ⟨rfl, hb5⟩
end Go.Proofs.YtbjomidkeignjaaGreatDoor.Fld

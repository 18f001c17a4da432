/- A list with a fault: what the program's Numbers answers; the reference's Numbers; and whether all values of a list may be: the reference's Right.
   What is reckoned of a list's numbers one behind the other: the program's reckoned, for any step that answers; its Sum, Product, Squares, Least and Most. -/
import Derived.Test.YtebjedbppiphgaaGreatDoorKtu24
import Derived.Test.YtebjedbppiphgaaGreatDoorKtu25
import Derived.Test.YtebjedbppiphgaaGreatDoorKtu11
import Derived.Test.YtebjedbppiphgaaGreatDoorKtu17
import Derived.Test.YtebjedbppiphgaaGreatDoorKtu07
namespace Go.Proofs.YtebjedbppiphgaaGreatDoor.Fld
open Go.RowKit Kit Reg Dec Dig Val Txt
theorem drewB (w : World) : Below w.heap.size w w.drew := ⟨rfl, rfl, rfl, Nat.le_refl _, fun _ _ => rfl⟩
set_option maxRecDepth 100000 in
set_option maxHeartbeats 2000000 in
theorem numbers_yes (A : Option Addr) (n cap : Nat) (L : List Vl) (p : Nat) (x : Vl) (hf : FirstF L p x) (w : World) (hz : ValsR w A n L) :
    Calls Tryz.prog 128 #[.slice A n cap] w fun e w' => e = .returned (.tuple #[.slice none 0 0, .agg #[.int .i64 x.k, .int .i64 x.n, .string x.t]]) ∧ Below w.heap.size w w' := by
  obtain ⟨i0, hi, hz0, hz1, hz2⟩ := info_parts infoI
  have HZ := Lib.hid hz
  have HF := Lib.hid hf
  have hn9 := hz.2.1
  have hp := hf.lt
  rw [hz.1] at hp
  have hb0 := below1 w (.cells #[.int .i64 0, .int .i64 0, .string ⟨#[]⟩] 23)
  have hr := CellsAt.new w [.int .i64 0, .int .i64 0, .string ⟨#[]⟩] 23
  have hrow := World.ownsRow_lit (base := w.heap.size + 1) (e := 2) (size := 1) (w.alloc (.cells #[.int .i64 0, .int .i64 0, .string ⟨#[]⟩] 23)) #[] 0 (by simp) (by simp [maxLen]) rfl
  rw [show (w.alloc (.cells #[.int .i64 0, .int .i64 0, .string ⟨#[]⟩] 23)).heap.size = w.heap.size + 1 by simp] at hrow
  replace hb0 := on_alloc hb0 (.cells #[] 2)
  replace hr := hr.on_alloc (.cells #[] 2)
  clear hz hf
  go_enter Tryz.func128, Tryz.ntmps128
  go_wp2_with fail
  generalize (w.alloc (.cells #[.int .i64 0, .int .i64 0, .string ⟨#[]⟩] 23)).alloc (.cells #[] 2) = W at *
  go_loopw [4, 10] (fun o i wr => ∃ k : Nat, k ≤ p ∧ i = .int .i64 k ∧ OwnI (w.heap.size + 1) o (numsF (L.take k)) wr ∧ Below w.heap.size w wr ∧ CellsAt wr w.heap.size [.int .i64 0, .int .i64 0, .string ⟨#[]⟩]) (fun _ i _ => n - (intOf i).toNat)
  case atStart => exact ⟨0, Nat.zero_le _, rfl, hrow, hb0, hr⟩
  case round =>
    clear hb0 hr hrow
    obtain ⟨k, hk, rfl, hrow, hb0, hr⟩ := hrel
    have hlen : (numsF (L.take k)).length ≤ k := Nat.le_trans (numsF_len _) (by rw [List.length_take]; omega)
    have hlt : k < n := by omega
    obtain ⟨v, hv⟩ := HZ.out.get hlt
    obtain ⟨b, o, rfl, hb, c0, c1, c2⟩ := (HZ.out.on hb0).at hv
    have HV := Lib.hid hv
    have h4 : Hid (k < p → ¬ v.k = 4) := Lib.hid fun h => HF.out.2.2 k v h hv
    have hxv : Hid (k = p → v = x) := Lib.hid fun h => by
      subst h
      exact Option.some.inj (hv.symm.trans HF.out.1)
    have hx4 := Lib.hid HF.out.2.1
    obtain ⟨vk, vn, vt⟩ := v
    dsimp only at c0 c1 c2 h4
    have hls : (wr.alloc (.cells #[.int .i64 vk, .int .i64 vn, .string vt] 23)).heap.size = wr.heap.size + 1 := by simp
    have hbx := below1 wr (.cells #[.int .i64 vk, .int .i64 vn, .string vt] 23)
    replace hb0 := on_alloc hb0 (.cells #[.int .i64 vk, .int .i64 vn, .string vt] 23)
    replace hr := hr.on_alloc (.cells #[.int .i64 vk, .int .i64 vn, .string vt] 23)
    replace hrow := hrow.on hbx
    have hx := CellsAt.new wr [.int .i64 vk, .int .i64 vn, .string vt] 23
    obtain ⟨x0, x1, x2, _⟩ := hx.three
    have hs0 := hb0.size
    clear hv hbx
    by_cases hkp : k < p
    · replace h4 := h4.out hkp
      have q4 : (vk == 4) = false := by simpa using h4
      by_cases h1 : vk = 1
      · have HN : Hid (numsF (L.take (k + 1)) = numsF (L.take k) ++ [vn]) := Lib.hid (numsF_hit HV.out h1)
        subst h1
        clear HV hx4 hxv h4
        generalize numsF (L.take k) = xs at *
        unfold OwnI at hrow
        go_wp2_with (at_builtin; refine wpList_append_own _ rfl _ _ 85 rfl (w.heap.size + 1) 2 i0 (.int .i64 0) 1 8 Tryz.underlying85 hi hz0 hz1 hz2 rfl (by decide) _ _ _ rfl (hrow.alloc _) ⟨_, 0, none⟩ 1 1 [.int .i64 vn] rfl rfl (one_new (by simp) _ _) (one_cells _ rfl) (by unfold maxLen; omega) (by omega) (by simp; omega) ?_)
        intro v1 w2 hown1 hg1 _
        have hb3 := own_below hrow hb0 (by omega) hg1
        have hrow1 := OwnI.snoc vn hown1
        replace hr := cells_grown (hr.on_alloc _) hg1 (own_far hrow (by omega))
        clear hown1 hg1 hrow hb0 c0 c1 c2 x0 x1 x2
        go_wp2
        go_roundw
        case rel => exact ⟨k + 1, by omega, by go_num, by rw [HN.out]; exact hrow1, hb3, hr⟩
        case measure => simp [intOf]; omega
      · have HN : Hid (numsF (L.take (k + 1)) = numsF (L.take k)) := Lib.hid (numsF_miss HV.out h1)
        have q1 : (vk == 1) = false := by simpa using h1
        clear HV hx4 hxv h4
        go_wp2_with fail
        go_roundw
        case rel => exact ⟨k + 1, by omega, by go_num, by rw [HN.out]; exact hrow, hb0, hr⟩
        case measure => simp [intOf]; omega
    · obtain rfl : k = p := by omega
      obtain rfl := hxv.out rfl
      obtain rfl : vk = 4 := hx4.out
      obtain ⟨p0, p1, p2, f0, f1, f2⟩ := hr.three
      have l0 := hr.1
      have l1 := hx.1
      clear hrow hx4 hxv HV h4
      go_wp2_with fail
      generalize wr.alloc (.cells #[.int .i64 4, .int .i64 vn, .string vt] 23) = X at *
      clear c0 c1 c2
      go_region
      all_goals (try go_wp2)
      obtain ⟨z0, z1, z2⟩ := three_set (u := .int .i64 4) (v := .int .i64 vn) (r := .string vt) p0 p1 p2
      have hb3 := set3 hb0 (Nat.le_refl _) (.int .i64 4) (.int .i64 vn) (.string vt)
      exact bodyPost_ret (v := .tuple #[.slice none 0 0, .agg #[.int .i64 4, .int .i64 vn, .string vt]]) (by simp [results, Tryz.results128, go_sem, z0, z1, z2]) rfl ⟨rfl, on hb3 (drewB _)⟩
end Go.Proofs.YtebjedbppiphgaaGreatDoor.Fld
namespace Go.Proofs.YtebjedbppiphgaaGreatDoor.Fld
open Go.RowKit Kit Reg Dec Dig Val Txt
/-- a function that is called where it stands in the program -/
theorem enters {f : FuncId} {fn : Func} {c : Code} (hf : Tryz.prog.funcs[f]? = some fn) (hname : (fn.name == "runtime.NumGoroutine") = false) (hb : fn.body = some c) (args : Array Value) (w : World) : (callFunc f args).run Tryz.prog w = .ok (.enter f args) w := by
  have h1 : fn.name ≠ "runtime.NumGoroutine" := by simpa using hname
  simp [callFunc, hf, h1, hb]
/-- a step of the program's: what it answers, where it is called with what it has captured -/
def StepC (step : Int → Int → Int × Bool) (F : Nat) (caps : Array Value) (P : World → Prop) : Prop := ∀ (so x n : Int) (k : Bool), so ≤ 9223372036854775807 → x ≤ 9223372036854775807 → step so x = (n, k) → n ≤ 9223372036854775807 ∧
  ∀ w : World, P w → Calls Tryz.prog F (#[.int .i64 so, .int .i64 x] ++ caps) w fun e w' => e = .returned (.tuple #[.int .i64 n, .bool k]) ∧ Below w.heap.size w w'
set_option maxRecDepth 100000 in
set_option maxHeartbeats 2000000 in
theorem reckoned_no (A : Option Addr) (n cap : Nat) (L : List Vl) (hf : NoF L) (step : Int → Int → Int × Bool) (start : Int) (hs : start ≤ 9223372036854775807) (F : Nat) (caps : Array Value) (hE : ∀ (args : Array Value) (w : World), (callFunc F args).run Tryz.prog w = .ok (.enter F args) w) (P : World → Prop) (hP : ∀ w w', P w → Below w.heap.size w w' → P w') (HC : StepC step F caps P)
    (hfit : ∀ x ∈ numsF L, x ≤ 9223372036854775807) (k0 n0 : Int) (hv : allD step start (numsF L) = (k0, n0)) (w : World) (hz : ValsR w A n L) (hPw : P w) :
    Calls Tryz.prog 226 #[.slice A n cap, .int .i64 start, .func (.func F) #[] caps] w (ValIs k0 n0 ⟨#[]⟩ w) := by
  have HN := Lib.hid (fun w1 hz => numbers_no A n cap L hf w1 hz)
  have HZ := Lib.hid (hz.on (below1 w (.cells #[.int .i64 0, .int .i64 0, .string ⟨#[]⟩] 23)))
  have HP := Lib.hid hP
  have HE := Lib.hid hE
  have HPw := Lib.hid (hP _ _ hPw (below1 w (.cells #[.int .i64 0, .int .i64 0, .string ⟨#[]⟩] 23)))
  have HS := Lib.hid HC
  have HV := Lib.hid hv
  have HFit : Hid (∀ (k : Nat) (x : Int), (numsF L)[k]? = some x → x ≤ 9223372036854775807) := Lib.hid fun k x hx => hfit x (List.mem_of_getElem? hx)
  have HG := Lib.hid (fun x b k n h w1 => got_c x b k n h w1)
  have HZero : Hid (∀ w1, Calls Tryz.prog 23 #[.int .i64 0] w1 (ValIs 1 0 ⟨#[]⟩ w1)) := Lib.hid (fun w1 => num_c 0 1 0 (num_in (by decide)) w1)
  have hb0 := below1 w (.cells #[.int .i64 0, .int .i64 0, .string ⟨#[]⟩] 23)
  have hr := CellsAt.new w [.int .i64 0, .int .i64 0, .string ⟨#[]⟩] 23
  have hlen := Nat.le_trans (numsF_len L) (show L.length ≤ 1000 by rw [hz.1]; exact hz.2.1)
  clear hz hf hP HC hv hPw hfit hE
  go_enter Tryz.func226, Tryz.ntmps226
  go_wp2_with fail
  generalize w.alloc (.cells #[.int .i64 0, .int .i64 0, .string ⟨#[]⟩] 23) = W at *
  refine (HN.out _ HZ.out).mono ?_
  rintro e w1 ⟨A2, c2, rfl, hread, hb1⟩
  replace HPw := Lib.hid (HP.out _ _ HPw.out hb1)
  replace hb0 := on hb0 hb1
  replace hr := hr.on hb1
  have hl := hr.1
  clear hb1 HN HZ
  generalize numsF L = xs at *
  generalize hm : xs.length = m at *
  have HM := Lib.hid hm
  have hbx := below1 w1 (.cells #[.int .i64 0, .int .i64 0, .string ⟨#[]⟩] 23)
  replace hb0 := on_alloc hb0 (.cells #[.int .i64 0, .int .i64 0, .string ⟨#[]⟩] 23)
  replace hr := hr.on_alloc (.cells #[.int .i64 0, .int .i64 0, .string ⟨#[]⟩] 23)
  replace hread := Lib.hid (hread.on hbx)
  replace HPw := Lib.hid (HP.out _ _ HPw.out hbx)
  have hx := CellsAt.new w1 [.int .i64 0, .int .i64 0, .string ⟨#[]⟩] 23
  obtain ⟨x0, x1, x2, _⟩ := hx.three
  by_cases h0 : m = 0
  · obtain rfl : xs = [] := List.eq_nil_of_length_eq_zero (by rw [HM.out, h0])
    obtain ⟨rfl, rfl⟩ := Prod.mk.inj (show ((1 : Int), (0 : Int)) = (k0, n0) from HV.out)
    subst h0
    clear HM HV hm HFit HG HP HPw HS hread
    go_wp2_with fail
    refine (HZero.out _).mono ?_
    rintro e w2 ⟨rfl, hb2⟩
    replace hb0 := on hb0 hb2
    replace hr := hr.on hb2
    have hl2 := hr.1
    obtain ⟨p0, p1, p2, f0, f1, f2⟩ := hr.three
    obtain ⟨z0, z1, z2⟩ := three_set (u := .int .i64 1) (v := .int .i64 0) (r := .string ⟨#[]⟩) p0 p1 p2
    have hb3 := set3 hb0 (Nat.le_refl _) (.int .i64 1) (.int .i64 0) (.string ⟨#[]⟩)
    clear hb2 hb0 hr hx x0 x1 x2 HZero
    go_wp2_with fail
    exact bodyPost_ret (v := .agg #[.int .i64 1, .int .i64 0, .string ⟨#[]⟩]) (by simp [results, Tryz.results226, go_sem, z0, z1, z2]) rfl ⟨rfl, hb3⟩
  · have q0 : (m == 0) = false := by simpa using h0
    have q1 : ((m : Int) == 0) = false := by simpa using h0
    have hne : ¬ xs = [] := fun e => h0 (by rw [← HM.out, e]; rfl)
    have HV2 : Hid (gotV (totalD step start (xs.drop 0)).1 (totalD step start (xs.drop 0)).2 = (k0, n0)) := Lib.hid (by
      have h := HV.out
      unfold allD at h
      rw [if_neg hne] at h
      exact h)
    clear HV hm HZero hne hl
    go_wp2_with fail
    generalize w1.alloc (.cells #[.int .i64 0, .int .i64 0, .string ⟨#[]⟩] 23) = W1 at *
    go_loopw [9, 10, 29] (fun so ok i wr => ∃ (k : Nat) (s : Int), k ≤ m ∧ i = .int .i64 k ∧ so = .int .i64 s ∧ ok = .bool true ∧ s ≤ 9223372036854775807 ∧ Hid (gotV (totalD step s (xs.drop k)).1 (totalD step s (xs.drop k)).2 = (k0, n0)) ∧ Below w.heap.size w wr ∧ Below W1.heap.size W1 wr ∧ CellsAt wr w.heap.size [.int .i64 0, .int .i64 0, .string ⟨#[]⟩] ∧ P wr) (fun _ _ i _ => m - (intOf i).toNat)
    case atStart => exact ⟨0, start, Nat.zero_le _, rfl, rfl, rfl, hs, HV2, hb0, Below.refl _ _, hr, HPw.out⟩
    case round =>
      clear hb0 hr HPw HV2 hx x0 x1 x2
      obtain ⟨k, s, hk, rfl, rfl, rfl, hs2, HV2, hb0, hbW, hr, hPr⟩ := hrel
      replace hPr := Lib.hid hPr
      have hl := hr.1
      by_cases hlt : k < m
      · obtain ⟨x, hx⟩ : ∃ x, xs[k]? = some x := ⟨_, List.getElem?_eq_getElem (by rw [HM.out]; exact hlt)⟩
        obtain ⟨g, of, rfl, hg, hc⟩ := (hread.out.on hbW).at hx
        have hx9 := HFit.out k x hx
        obtain ⟨⟨t, b⟩, ht⟩ : ∃ r, step s x = r := ⟨_, rfl⟩
        obtain ⟨ht9, HC⟩ := HS.out s x t b hs2 hx9 ht
        replace HC := Lib.hid HC
        cases b
        · have HV3 : Hid (gotV t false = (k0, n0)) := Lib.hid (by have h := HV2.out; rw [total_no hx ht] at h; exact h)
          have HG2 := Lib.hid (HG.out t false k0 n0 HV3.out)
          clear HV2 HV3 HS ht hx
          go_wp2_with fail
          rw [HE.out, Oper.upon_enter]
          refine (HC.out _ hPr.out).mono ?_
          rintro e w3 ⟨rfl, hb3⟩
          replace hb0 := on hb0 hb3
          replace hr := hr.on hb3
          clear hb3 hbW hPr hc
          go_wp2_with fail
          refine (HG2.out _).mono ?_
          rintro e w4 ⟨rfl, hb4⟩
          replace hb0 := on hb0 hb4
          replace hr := hr.on hb4
          have hl2 := hr.1
          obtain ⟨p0, p1, p2, f0, f1, f2⟩ := hr.three
          obtain ⟨z0, z1, z2⟩ := three_set (u := .int .i64 k0) (v := .int .i64 n0) (r := .string ⟨#[]⟩) p0 p1 p2
          have hb5 := set3 hb0 (Nat.le_refl _) (.int .i64 k0) (.int .i64 n0) (.string ⟨#[]⟩)
          clear hb4 hb0 hr
          go_wp2_with fail
          exact bodyPost_ret (v := .agg #[.int .i64 k0, .int .i64 n0, .string ⟨#[]⟩]) (by simp [results, Tryz.results226, go_sem, z0, z1, z2]) rfl ⟨rfl, hb5⟩
        · have HV3 : Hid (gotV (totalD step t (xs.drop (k + 1))).1 (totalD step t (xs.drop (k + 1))).2 = (k0, n0)) := Lib.hid (by have h := HV2.out; rw [total_yes hx ht] at h; exact h)
          clear HV2 HS ht hx
          go_wp2_with fail
          rw [HE.out, Oper.upon_enter]
          refine (HC.out _ hPr.out).mono ?_
          rintro e w3 ⟨rfl, hb3⟩
          replace hb0 := on hb0 hb3
          replace hr := hr.on hb3
          replace hbW := on hbW hb3
          replace hPr := HP.out _ _ hPr.out hb3
          clear hb3 hc
          go_wp2_with fail
          go_roundw
          case rel => exact ⟨k + 1, t, by omega, by go_num, rfl, rfl, ht9, HV3, hb0, hbW, hr, hPr⟩
          case measure => simp [intOf]; omega
      · obtain rfl : k = m := by omega
        have HV3 : Hid (gotV s true = (k0, n0)) := Lib.hid (by have h := HV2.out; rw [← HM.out, total_end] at h; exact h)
        have HG2 := Lib.hid (HG.out s true k0 n0 HV3.out)
        clear HV2 HV3 HS hbW hPr
        go_wp2_with fail
        refine (HG2.out _).mono ?_
        rintro e w4 ⟨rfl, hb4⟩
        replace hb0 := on hb0 hb4
        replace hr := hr.on hb4
        have hl2 := hr.1
        obtain ⟨p0, p1, p2, f0, f1, f2⟩ := hr.three
        obtain ⟨z0, z1, z2⟩ := three_set (u := .int .i64 k0) (v := .int .i64 n0) (r := .string ⟨#[]⟩) p0 p1 p2
        have hb5 := set3 hb0 (Nat.le_refl _) (.int .i64 k0) (.int .i64 n0) (.string ⟨#[]⟩)
        clear hb4 hb0 hr
        go_wp2_with fail
        exact bodyPost_ret (v := .agg #[.int .i64 k0, .int .i64 n0, .string ⟨#[]⟩]) (by simp [results, Tryz.results226, go_sem, z0, z1, z2]) rfl ⟨rfl, hb5⟩
set_option maxRecDepth 100000 in
set_option maxHeartbeats 1000000 in
theorem reckoned_yes (A : Option Addr) (n cap : Nat) (L : List Vl) (p : Nat) (x : Vl) (hf : FirstF L p x) (hx : x.may) (start : Int) (fv : Value) (w : World) (hz : ValsR w A n L) :
    Calls Tryz.prog 226 #[.slice A n cap, .int .i64 start, fv] w (ValIs 4 x.n ⟨#[]⟩ w) := by
  have HN := Lib.hid (fun w1 hz => numbers_yes A n cap L p x hf w1 hz)
  have HZ := Lib.hid (hz.on (below1 w (.cells #[.int .i64 0, .int .i64 0, .string ⟨#[]⟩] 23)))
  have hb0 := below1 w (.cells #[.int .i64 0, .int .i64 0, .string ⟨#[]⟩] 23)
  have hr := CellsAt.new w [.int .i64 0, .int .i64 0, .string ⟨#[]⟩] 23
  have e4 := may_fault hx hf.2.1
  obtain ⟨vk, vn, vt⟩ := x
  simp only [Vl.mk.injEq] at e4
  obtain ⟨rfl, _, rfl⟩ := e4
  dsimp only at HN
  clear hz hf hx
  go_enter Tryz.func226, Tryz.ntmps226
  go_wp2_with fail
  generalize w.alloc (.cells #[.int .i64 0, .int .i64 0, .string ⟨#[]⟩] 23) = W at *
  refine (HN.out _ HZ.out).mono ?_
  rintro e w1 ⟨rfl, hb1⟩
  replace hb0 := on hb0 hb1
  replace hr := hr.on hb1
  have hl := hr.1
  clear hb1 HN HZ
  have hx := CellsAt.new w1 [.int .i64 4, .int .i64 vn, .string ⟨#[]⟩] 23
  obtain ⟨x0, x1, x2, _⟩ := hx.three
  obtain ⟨p0, p1, p2, f0, f1, f2⟩ := hr.three
  obtain ⟨z0, z1, z2⟩ := three_set (u := .int .i64 4) (v := .int .i64 vn) (r := .string ⟨#[]⟩) p0 p1 p2
  replace z0 := kept_alloc (.cells #[.int .i64 4, .int .i64 vn, .string ⟨#[]⟩] 23) z0
  replace z1 := kept_alloc (.cells #[.int .i64 4, .int .i64 vn, .string ⟨#[]⟩] 23) z1
  replace z2 := kept_alloc (.cells #[.int .i64 4, .int .i64 vn, .string ⟨#[]⟩] 23) z2
  have hb5 := on_alloc (set3 hb0 (Nat.le_refl _) (.int .i64 4) (.int .i64 vn) (.string ⟨#[]⟩)) (.cells #[.int .i64 4, .int .i64 vn, .string ⟨#[]⟩] 23)
  go_wp2_with fail
  exact bodyPost_ret (v := .agg #[.int .i64 4, .int .i64 vn, .string ⟨#[]⟩]) (by simp [results, Tryz.results226, go_sem, z0, z1, z2]) rfl ⟨rfl, hb5⟩
/-- whatever the list -/
theorem reckoned_c (A : Option Addr) (n cap : Nat) (L : List Vl) (hm : ∀ v ∈ L, v.may) (step : Int → Int → Int × Bool) (start : Int) (hs : start ≤ 9223372036854775807) (F : Nat) (caps : Array Value)
    (hE : ∀ (args : Array Value) (w : World), (callFunc F args).run Tryz.prog w = .ok (.enter F args) w) (P : World → Prop) (hP : ∀ w w', P w → Below w.heap.size w w' → P w') (HC : StepC step F caps P)
    (k0 n0 : Int) (hv : allV step start L = (k0, n0)) (w : World) (hz : ValsR w A n L) (hPw : P w) :
    Calls Tryz.prog 226 #[.slice A n cap, .int .i64 start, .func (.func F) #[] caps] w (ValIs k0 n0 ⟨#[]⟩ w) := by
  rcases fault_ways L with h | ⟨p, x, h⟩
  · rw [allV_no h] at hv
    exact reckoned_no A n cap L h step start hs F caps hE P hP HC (fun x hx => (numsF_room hm hz.2.2.1 hx).2) k0 n0 hv w hz hPw
  · rw [allV_yes h] at hv
    obtain ⟨rfl, rfl⟩ := Prod.mk.inj hv
    exact reckoned_yes A n cap L p x h (hm x (List.mem_of_getElem? h.1)) start _ w hz
end Go.Proofs.YtebjedbppiphgaaGreatDoor.Fld

/- The law FoldSums, walked: the numbers of a list, their sum, their product and the sum of their squares, or the first fault. -/
import Derived.Test.YtcampdedhfhkbaaDoorFldLawB
namespace Go.Proofs.YtcampdedhfhkbaaDoor.Fld
open Go.RowKit Kit Reg Dec Dig Val Txt

set_option maxRecDepth 100000 in
set_option maxHeartbeats 1000000 in
theorem sums_out (A : Option Addr) (n cap : Nat) (w : World) (hR : Calls Tryd.prog 7 #[.slice A n cap, .int .i64 200] w fun e w' => e = .returned (.bool false) ∧ Below w.heap.size w w') (hL : Dig.Libs w) :
    Calls Tryd.prog 3 #[.slice A n cap] w (LawEnd w) := by
  have HR := Lib.hid hR
  have HA := Lib.hid (fun w1 hL => alive_c w1 hL)
  have HL := Lib.hid hL
  clear hR hL
  go_enter Tryd.func3, Tryd.ntmps3
  go_wp2_with fail
  refine HR.out.mono ?_
  rintro e w1 ⟨rfl, hb1⟩
  go_wp2_with fail
  refine (HA.out _ (HL.out.grown hb1)).mono ?_
  rintro e w2 ⟨rfl, hb2⟩
  have hb3 := on hb1 hb2
  go_wp2
  go_ret
  exact ⟨rfl, hb3⟩
set_option maxRecDepth 100000 in
set_option maxHeartbeats 4000000 in
theorem sums_no (A : Option Addr) (n cap : Nat) (L : List Vl) (hm : ∀ v ∈ L, v.may) (hf : NoF L) (w : World) (hz : ValsR w A n L) (hR : Calls Tryd.prog 7 #[.slice A n cap, .int .i64 200] w fun e w' => e = .returned (.bool true) ∧ Below w.heap.size w w') (hL : Dig.Libs w) :
    Calls Tryd.prog 3 #[.slice A n cap] w (LawEnd w) := by
  obtain ⟨⟨k1, n1⟩, e1⟩ : ∃ r, allV addD 0 L = r := ⟨_, rfl⟩
  obtain ⟨⟨k2, n2⟩, e2⟩ : ∃ r, allV mulD 10000 L = r := ⟨_, rfl⟩
  obtain ⟨⟨k3, n3⟩, e3⟩ : ∃ r, allV sqD 0 L = r := ⟨_, rfl⟩
  have H1 := Lib.hid (fun w1 hz => sum_c A n cap L hm k1 n1 e1 w1 hz)
  have H2 := Lib.hid (fun w1 hz => rsum_c A n cap L hm k1 n1 e1 w1 hz)
  have H3 := Lib.hid (fun w1 hz => product_c A n cap L hm k2 n2 e2 w1 hz)
  have H4 := Lib.hid (fun w1 hz => rproduct_c A n cap L hm k2 n2 e2 w1 hz)
  have H5 := Lib.hid (fun w1 hz => squares_c A n cap L hm k3 n3 e3 w1 hz)
  have H6 := Lib.hid (fun w1 hz => rsquares_c A n cap L hm k3 n3 e3 w1 hz)
  have HA := Lib.hid (fun w1 hL => alive_c w1 hL)
  have HR := Lib.hid hR
  have HL := Lib.hid hL
  have HZ := Lib.hid hz
  have hb0 := Below.refl w.heap.size w
  have HN := Lib.hid (fun w1 hz => numbers_no A n cap L hf w1 hz)
  have HM := Lib.hid (fun w1 hz => rnumbers_no A n cap L hf w1 hz)
  have HF := Lib.hid (fun w1 hz => rfault_no A n cap L hf w1 hz)
  have hlen := Nat.le_trans (numsF_len L) (show L.length ≤ 1000 by rw [hz.1]; exact hz.2.1)
  clear hR hL hz hm e1 e2 e3 hf
  generalize numsF L = xs at *
  go_enter Tryd.func3, Tryd.ntmps3
  go_wp2_with fail
  refine HR.out.mono ?_
  rintro e w1 ⟨rfl, hb⟩
  replace hb0 := on hb0 hb
  replace HZ := Lib.hid (HZ.out.on hb)
  clear hb HR
  go_wp2_with fail
  refine (HN.out _ HZ.out).mono ?_
  rintro e w2 ⟨A2, c2, rfl, hr1, hb⟩
  replace hb0 := on_alloc (on hb0 hb) (.cells #[.int .i64 0, .int .i64 0, .string ⟨#[]⟩] 27)
  have hbx := below1 w2 (.cells #[.int .i64 0, .int .i64 0, .string ⟨#[]⟩] 27)
  replace HZ := Lib.hid ((HZ.out.on hb).on hbx)
  replace hr1 := hr1.on hbx
  have hx := CellsAt.new w2 [.int .i64 0, .int .i64 0, .string ⟨#[]⟩] 27
  clear hb HN hbx
  generalize hmx : xs.length = m at *
  replace hmx := Lib.hid hmx
  have q0 : ((m : Int) != (m : Int)) = false := bne_self_eq_false _
  have q1 : ((m : Int) == (m : Int)) = true := beq_self_eq_true _
  go_wp2_with fail
  generalize w2.alloc (.cells #[.int .i64 0, .int .i64 0, .string ⟨#[]⟩] 27) = W at *
  refine (HM.out _ HZ.out).mono ?_
  rintro e w3 ⟨A3, c3, rfl, hr2, hb⟩
  replace hb0 := on hb0 hb
  replace HZ := Lib.hid (HZ.out.on hb)
  replace hr1 := hr1.on hb
  replace hx := hx.on hb
  clear hb HM
  go_wp2_with fail
  refine (HF.out _ HZ.out).mono ?_
  rintro e w4 ⟨rfl, rfl⟩
  clear HF
  go_wp2_with fail
  obtain ⟨x0, x1, x2, _⟩ := hx.three
  have C0 := fun d os => cell_regrown x0 d os
  have C1 := fun d os => cell_regrown x1 d os
  have C2 := fun d os => cell_regrown x2 d os
  clear x0 x1 x2
  refine wp_region_mem 26 (fun _ => none) (by kernel_rfl) (by kernel_rfl) ?_
  simp only [List.take_succ_cons, List.take_zero, List.drop_succ_cons, List.drop_zero]
  repeat (first | ((with_reducible refine wpM_calm ?_ ?_ ?_ ?_); exact rfl; exact rfl; exact rfl; intro K hK; go_big_quiet_op; go_big_quiet_on) | ((with_reducible refine wpM_skip ?_ ?_); exact rfl; simp only [Act.put, List.setIfInBounds_toArray, List.set_cons_succ, List.set_cons_zero]))
  refine wpM_nil ?_
  intro w9 hb _
  replace hb0 := on hb0 hb
  replace HZ := Lib.hid (HZ.out.on hb)
  replace hr1 := Lib.hid (hr1.on hb)
  replace hr2 := Lib.hid (hr2.on hb)
  clear hb C0 C1 C2 hx
  go_wp2_with fail
  go_loopw [50] (fun i wr => ∃ j : Nat, j ≤ m ∧ i = .int .i64 j ∧ w9 = wr) (fun i _ => m - (intOf i).toNat)
  case atStart => exact ⟨0, Nat.zero_le _, rfl, rfl⟩
  case round =>
    obtain ⟨j, hj, rfl, rfl⟩ := hrel
    by_cases hlt : j < m
    · obtain ⟨x, hx⟩ : ∃ x, xs[j]? = some x := ⟨_, List.getElem?_eq_getElem (by rw [hmx.out]; exact hlt)⟩
      obtain ⟨g, of, rfl, hg, c0⟩ := hr1.out.at hx
      obtain ⟨g2, of2, rfl, hg2, d0⟩ := hr2.out.at hx
      clear hx
      go_wp2_with fail
      go_roundw
      case rel => exact ⟨j + 1, by omega, by go_num, by first | rfl | trivial⟩
      case measure => simp [intOf]; omega
    · obtain rfl : j = m := by omega
      clear hr1 hr2
      go_wp2_with fail
      refine (H1.out _ HZ.out).mono ?_
      rintro e w10 ⟨rfl, hb⟩
      replace hb0 := on hb0 hb
      replace HZ := Lib.hid (HZ.out.on hb)
      clear hb H1
      go_wp2_with fail
      refine (H2.out _ HZ.out).mono ?_
      rintro e w11 ⟨rfl, hb⟩
      replace hb0 := on hb0 hb
      replace HZ := Lib.hid (HZ.out.on hb)
      clear hb H2
      go_wp2_with fail
      refine (H3.out _ HZ.out).mono ?_
      rintro e w12 ⟨rfl, hb⟩
      replace hb0 := on hb0 hb
      replace HZ := Lib.hid (HZ.out.on hb)
      clear hb H3
      go_wp2_with fail
      refine (H4.out _ HZ.out).mono ?_
      rintro e w13 ⟨rfl, hb⟩
      replace hb0 := on hb0 hb
      replace HZ := Lib.hid (HZ.out.on hb)
      clear hb H4
      go_wp2_with fail
      refine (H5.out _ HZ.out).mono ?_
      rintro e w14 ⟨rfl, hb⟩
      replace hb0 := on hb0 hb
      replace HZ := Lib.hid (HZ.out.on hb)
      clear hb H5
      go_wp2_with fail
      refine (H6.out _ HZ.out).mono ?_
      rintro e w15 ⟨rfl, hb⟩
      replace hb0 := on hb0 hb
      replace HZ := Lib.hid (HZ.out.on hb)
      clear hb H6
      go_wp2_with fail
      refine (HA.out _ (HL.out.grown hb0)).mono ?_
      rintro e w16 ⟨rfl, hb⟩
      replace hb0 := on hb0 hb
      replace HZ := Lib.hid (HZ.out.on hb)
      clear hb HA
      go_wp2
      go_ret
      exact ⟨rfl, hb0⟩
set_option maxRecDepth 100000 in
set_option maxHeartbeats 4000000 in
theorem sums_yes (A : Option Addr) (n cap : Nat) (L : List Vl) (hm : ∀ v ∈ L, v.may) (p : Nat) (x : Vl) (hf : FirstF L p x) (w : World) (hz : ValsR w A n L) (hR : Calls Tryd.prog 7 #[.slice A n cap, .int .i64 200] w fun e w' => e = .returned (.bool true) ∧ Below w.heap.size w w') (hL : Dig.Libs w) :
    Calls Tryd.prog 3 #[.slice A n cap] w (LawEnd w) := by
  obtain ⟨⟨k1, n1⟩, e1⟩ : ∃ r, allV addD 0 L = r := ⟨_, rfl⟩
  obtain ⟨⟨k2, n2⟩, e2⟩ : ∃ r, allV mulD 10000 L = r := ⟨_, rfl⟩
  obtain ⟨⟨k3, n3⟩, e3⟩ : ∃ r, allV sqD 0 L = r := ⟨_, rfl⟩
  have H1 := Lib.hid (fun w1 hz => sum_c A n cap L hm k1 n1 e1 w1 hz)
  have H2 := Lib.hid (fun w1 hz => rsum_c A n cap L hm k1 n1 e1 w1 hz)
  have H3 := Lib.hid (fun w1 hz => product_c A n cap L hm k2 n2 e2 w1 hz)
  have H4 := Lib.hid (fun w1 hz => rproduct_c A n cap L hm k2 n2 e2 w1 hz)
  have H5 := Lib.hid (fun w1 hz => squares_c A n cap L hm k3 n3 e3 w1 hz)
  have H6 := Lib.hid (fun w1 hz => rsquares_c A n cap L hm k3 n3 e3 w1 hz)
  have HA := Lib.hid (fun w1 hL => alive_c w1 hL)
  have HR := Lib.hid hR
  have HL := Lib.hid hL
  have HZ := Lib.hid hz
  have hb0 := Below.refl w.heap.size w
  have HN := Lib.hid (fun w1 hz => numbers_yes A n cap L p x hf w1 hz)
  have HM := Lib.hid (fun w1 hz => rnumbers_yes A n cap L p x hf w1 hz)
  have HF := Lib.hid (fun w1 hz => rfault_yes A n cap L p x hf w1 hz)
  have hp := hf.lt
  rw [hz.1] at hp
  have hn9 := hz.2.1
  have HP := Lib.hid hf.1
  have hx4 := may_fault (hm x (List.mem_of_getElem? hf.1)) hf.2.1
  obtain ⟨vk, vn, vt⟩ := x
  simp only [Vl.mk.injEq] at hx4
  obtain ⟨rfl, _, rfl⟩ := hx4
  dsimp only at HN
  have d1 : decide ((p : Int) < 0) = false := decide_eq_false (by omega)
  have d2 : decide ((0 : Int) ≤ (p : Int)) = true := decide_eq_true (by omega)
  clear hR hL hz hm e1 e2 e3 hf
  go_enter Tryd.func3, Tryd.ntmps3
  go_wp2_with fail
  refine HR.out.mono ?_
  rintro e w1 ⟨rfl, hb⟩
  replace hb0 := on hb0 hb
  replace HZ := Lib.hid (HZ.out.on hb)
  clear hb HR
  go_wp2_with fail
  refine (HN.out _ HZ.out).mono ?_
  rintro e w2 ⟨rfl, hb⟩
  replace hb0 := on_alloc (on hb0 hb) (.cells #[.int .i64 4, .int .i64 vn, .string ⟨#[]⟩] 27)
  have hbx := below1 w2 (.cells #[.int .i64 4, .int .i64 vn, .string ⟨#[]⟩] 27)
  replace HZ := Lib.hid ((HZ.out.on hb).on hbx)
  have hx := CellsAt.new w2 [.int .i64 4, .int .i64 vn, .string ⟨#[]⟩] 27
  clear hb HN hbx
  go_wp2_with fail
  generalize w2.alloc (.cells #[.int .i64 4, .int .i64 vn, .string ⟨#[]⟩] 27) = W at *
  refine (HM.out _ HZ.out).mono ?_
  rintro e w3 ⟨rfl, hb⟩
  replace hb0 := on hb0 hb
  replace HZ := Lib.hid (HZ.out.on hb)
  replace hx := hx.on hb
  clear hb HM
  go_wp2_with fail
  refine (HF.out _ HZ.out).mono ?_
  rintro e w4 ⟨rfl, rfl⟩
  clear HF
  go_wp2_with fail
  obtain ⟨x0, x1, x2, _⟩ := hx.three
  obtain ⟨b, o, rfl, hb9, c0, c1, c2⟩ := HZ.out.at HP.out
  dsimp only at c0 c1 c2
  have C0 := fun d os => cell_regrown x0 d os
  have C1 := fun d os => cell_regrown x1 d os
  have C2 := fun d os => cell_regrown x2 d os
  have D0 := fun d os => cell_regrown c0 d os
  have D1 := fun d os => cell_regrown c1 d os
  have D2 := fun d os => cell_regrown c2 d os
  clear x0 x1 x2 c0 c1 c2
  refine wp_region_mem 26 (fun _ => none) (by kernel_rfl) (by kernel_rfl) ?_
  simp only [List.take_succ_cons, List.take_zero, List.drop_succ_cons, List.drop_zero]
  repeat (first | ((with_reducible refine wpM_calm ?_ ?_ ?_ ?_); exact rfl; exact rfl; exact rfl; intro K hK; go_big_quiet_op; go_big_quiet_on) | ((with_reducible refine wpM_skip ?_ ?_); exact rfl; simp only [Act.put, List.setIfInBounds_toArray, List.set_cons_succ, List.set_cons_zero]))
  refine wpM_nil ?_
  intro w9 hb _
  replace hb0 := on hb0 hb
  replace HZ := Lib.hid (HZ.out.on hb)
  clear hb C0 C1 C2 D0 D1 D2 hx HP
  go_wp2_with fail
  go_loopw [50] (fun i wr => i = .int .i64 0 ∧ w9 = wr) (fun _ _ => 0)
  case atStart => exact ⟨rfl, rfl⟩
  case round =>
    obtain ⟨rfl, rfl⟩ := hrel
    go_wp2_with fail
    refine (H1.out _ HZ.out).mono ?_
    rintro e w10 ⟨rfl, hb⟩
    replace hb0 := on hb0 hb
    replace HZ := Lib.hid (HZ.out.on hb)
    clear hb H1
    go_wp2_with fail
    refine (H2.out _ HZ.out).mono ?_
    rintro e w11 ⟨rfl, hb⟩
    replace hb0 := on hb0 hb
    replace HZ := Lib.hid (HZ.out.on hb)
    clear hb H2
    go_wp2_with fail
    refine (H3.out _ HZ.out).mono ?_
    rintro e w12 ⟨rfl, hb⟩
    replace hb0 := on hb0 hb
    replace HZ := Lib.hid (HZ.out.on hb)
    clear hb H3
    go_wp2_with fail
    refine (H4.out _ HZ.out).mono ?_
    rintro e w13 ⟨rfl, hb⟩
    replace hb0 := on hb0 hb
    replace HZ := Lib.hid (HZ.out.on hb)
    clear hb H4
    go_wp2_with fail
    refine (H5.out _ HZ.out).mono ?_
    rintro e w14 ⟨rfl, hb⟩
    replace hb0 := on hb0 hb
    replace HZ := Lib.hid (HZ.out.on hb)
    clear hb H5
    go_wp2_with fail
    refine (H6.out _ HZ.out).mono ?_
    rintro e w15 ⟨rfl, hb⟩
    replace hb0 := on hb0 hb
    replace HZ := Lib.hid (HZ.out.on hb)
    clear hb H6
    go_wp2_with fail
    refine (HA.out _ (HL.out.grown hb0)).mono ?_
    rintro e w16 ⟨rfl, hb⟩
    replace hb0 := on hb0 hb
    replace HZ := Lib.hid (HZ.out.on hb)
    clear hb HA
    go_wp2
    go_ret
    exact ⟨rfl, hb0⟩
theorem sums_law (A : Option Addr) (n cap : Nat) (L : List Vl) (w : World) (h : n ≤ 200 → ValsR w A n L) (hL : Val.PLibs w) : Calls Tryd.prog 3 #[.slice A n cap] w (LawEnd w) := by
  rcases right_or A n cap L w h with ⟨_, hz, hm, hR⟩ | hR
  · rcases fault_ways L with hf | ⟨p, x, hf⟩
    · exact sums_no A n cap L hm hf w hz hR hL.1
    · exact sums_yes A n cap L hm p x hf w hz hR hL.1
  · exact sums_out A n cap w hR hL.1
end Go.Proofs.YtcampdedhfhkbaaDoor.Fld

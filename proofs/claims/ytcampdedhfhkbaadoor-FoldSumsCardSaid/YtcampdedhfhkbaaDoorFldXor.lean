/- Values as truths, and what Xor answers: the program's and the reference's. -/
import Derived.Test.YtcampdedhfhkbaaDoorFldRows
import Derived.Test.YtcampdedhfhkbaaDoorValGo
import Derived.Test.YtcampdedhfhkbaaDoorValRGo
namespace Go.Proofs.YtcampdedhfhkbaaDoor.Fld
open Go.RowKit Kit Reg Dec Dig Val Txt

theorem truth_c (v : Vl) (hm : v.may) (k n : Int) (h : truthF v = (k, n)) (w : World) : Calls Tryd.prog 52 #[.agg #[.int .i64 v.k, .int .i64 v.n, .string v.t]] w (ValIs k n ⟨#[]⟩ w) := by
  rcases may_ways hm with rfl | ⟨x, rfl, _⟩ | ⟨t, rfl, _⟩ | rfl | rfl | ⟨x, rfl, _⟩
  · obtain ⟨rfl, rfl⟩ := Prod.mk.inj h
    exact astruth_e w
  · by_cases h0 : x = 0
    · subst h0
      obtain ⟨rfl, rfl⟩ := Prod.mk.inj h
      exact astruth_n0 w
    · obtain ⟨rfl, rfl⟩ := Prod.mk.inj (show ((3 : Int), (1 : Int)) = (k, n) by rw [← h]; simp [truthF, h0])
      exact astruth_n1 x h0 w
  · by_cases h1 : t = yesT
    · subst h1
      obtain ⟨rfl, rfl⟩ := Prod.mk.inj (show ((3 : Int), (1 : Int)) = (k, n) by rw [← h]; simp [truthF])
      exact astruth_tyes w
    · by_cases h2 : t = noT
      · subst h2
        obtain ⟨rfl, rfl⟩ := Prod.mk.inj (show ((3 : Int), (0 : Int)) = (k, n) from h)
        exact astruth_tno w
      · obtain ⟨rfl, rfl⟩ := Prod.mk.inj (show ((4 : Int), (2 : Int)) = (k, n) by rw [← h]; simp [truthF, h1, h2])
        exact astruth_telse t h1 h2 w
  · obtain ⟨rfl, rfl⟩ := Prod.mk.inj h
    exact astruth_b 0 w
  · obtain ⟨rfl, rfl⟩ := Prod.mk.inj h
    exact astruth_b 1 w
  · obtain ⟨rfl, rfl⟩ := Prod.mk.inj h
    exact astruth_f x w
theorem rtruth_c (v : Vl) (hm : v.may) (k n : Int) (h : truthF v = (k, n)) (w : World) : Calls Tryd.prog 53 #[.agg #[.int .i64 v.k, .int .i64 v.n, .string v.t]] w (ValIs k n ⟨#[]⟩ w) := by
  rcases may_ways hm with rfl | ⟨x, rfl, _⟩ | ⟨t, rfl, _⟩ | rfl | rfl | ⟨x, rfl, _⟩
  · obtain ⟨rfl, rfl⟩ := Prod.mk.inj h
    exact rastruth_e w
  · by_cases h0 : x = 0
    · subst h0
      obtain ⟨rfl, rfl⟩ := Prod.mk.inj h
      exact rastruth_n0 w
    · obtain ⟨rfl, rfl⟩ := Prod.mk.inj (show ((3 : Int), (1 : Int)) = (k, n) by rw [← h]; simp [truthF, h0])
      exact rastruth_n1 x h0 w
  · by_cases h1 : t = yesT
    · subst h1
      obtain ⟨rfl, rfl⟩ := Prod.mk.inj (show ((3 : Int), (1 : Int)) = (k, n) by rw [← h]; simp [truthF])
      exact rastruth_tyes w
    · by_cases h2 : t = noT
      · subst h2
        obtain ⟨rfl, rfl⟩ := Prod.mk.inj (show ((3 : Int), (0 : Int)) = (k, n) from h)
        exact rastruth_tno w
      · obtain ⟨rfl, rfl⟩ := Prod.mk.inj (show ((4 : Int), (2 : Int)) = (k, n) by rw [← h]; simp [truthF, h1, h2])
        exact rastruth_telse t h1 h2 w
  · obtain ⟨rfl, rfl⟩ := Prod.mk.inj h
    exact rastruth_b 0 w
  · obtain ⟨rfl, rfl⟩ := Prod.mk.inj h
    exact rastruth_b 1 w
  · obtain ⟨rfl, rfl⟩ := Prod.mk.inj h
    exact rastruth_f x w
set_option maxRecDepth 100000 in
set_option maxHeartbeats 4000000 in
theorem xor_c (A : Option Addr) (n cap : Nat) (L : List Vl) (hm : ∀ v ∈ L, v.may) (k0 n0 : Int) (hv : xorV false L = (k0, n0)) (w : World) (hz : ValsR w A n L) : Calls Tryd.prog 25 #[.slice A n cap] w (ValIs k0 n0 ⟨#[]⟩ w) := by
  have HM : Hid (∀ (k : Nat) (v : Vl), L[k]? = some v → v.may) := Lib.hid fun k v hv => hm v (List.mem_of_getElem? hv)
  have HV : Hid (xorV false (L.drop 0) = (k0, n0)) := Lib.hid hv
  have HT := Lib.hid (fun v hm k n h w1 => truth_c v hm k n h w1)
  have HTrue : Hid (∀ w1, Calls Tryd.prog 30 #[.bool true] w1 (ValIs 3 1 ⟨#[]⟩ w1)) := Lib.hid (fun w1 => bool_c true w1)
  have HBool := Lib.hid (fun b w1 => bool_c b w1)
  have hn9 := hz.2.1
  have HL := Lib.hid hz.1
  have hb0 := below1 w (.cells #[.int .i64 0, .int .i64 0, .string ⟨#[]⟩] 27)
  have HZ := Lib.hid (hz.on hb0)
  have hr := CellsAt.new w [.int .i64 0, .int .i64 0, .string ⟨#[]⟩] 27
  clear hz hm hv
  go_enter Tryd.func25, Tryd.ntmps25
  go_wp2_with fail
  generalize w.alloc (.cells #[.int .i64 0, .int .i64 0, .string ⟨#[]⟩] 27) = W at *
  go_loopw [3, 9] (fun o i wr => ∃ (k : Nat) (odd : Bool), k ≤ n ∧ i = .int .i64 k ∧ o = .bool odd ∧ Hid (xorV odd (L.drop k) = (k0, n0)) ∧ Below w.heap.size w wr ∧ Below W.heap.size W wr ∧ CellsAt wr w.heap.size [.int .i64 0, .int .i64 0, .string ⟨#[]⟩]) (fun _ i _ => n - (intOf i).toNat)
  case atStart => exact ⟨0, false, Nat.zero_le _, rfl, rfl, HV, hb0, Below.refl _ _, hr⟩
  case round =>
    clear hb0 hr HV
    obtain ⟨k, odd, hk, rfl, rfl, HV, hb0, hbW, hr⟩ := hrel
    by_cases hlt : k < n
    · obtain ⟨v, hv⟩ := HZ.out.get hlt
      obtain ⟨b, o, rfl, hb, c0, c1, c2⟩ := (HZ.out.on hbW).at hv
      have hmv := HM.out k v hv
      have hways : (∃ c, truthF v = (4, c) ∧ k0 = 4 ∧ n0 = c) ∨ (truthF v = (3, 0) ∧ xorV odd (L.drop (k + 1)) = (k0, n0)) ∨ (truthF v = (3, 1) ∧ xorV (!odd) (L.drop (k + 1)) = (k0, n0)) := by
        rcases truth_ways hmv with h | h | ⟨c, h⟩
        · exact .inr (.inl ⟨h, by rw [← xor_zero hv h]; exact HV.out⟩)
        · exact .inr (.inr ⟨h, by rw [← xor_one hv h]; exact HV.out⟩)
        · refine .inl ⟨c, h, ?_⟩
          have h2 := HV.out
          rw [xor_bad hv h] at h2
          obtain ⟨rfl, rfl⟩ := Prod.mk.inj h2
          exact ⟨rfl, rfl⟩
      have HT2 := Lib.hid (fun k n h w1 => HT.out v hmv k n h w1)
      obtain ⟨vk, vn, vt⟩ := v
      dsimp only at c0 c1 c2 HT2
      have hx := CellsAt.new wr [.int .i64 vk, .int .i64 vn, .string vt] 27
      obtain ⟨x0, x1, x2, _⟩ := hx.three
      have hbx := below1 wr (.cells #[.int .i64 vk, .int .i64 vn, .string vt] 27)
      replace hb0 := on_alloc hb0 (.cells #[.int .i64 vk, .int .i64 vn, .string vt] 27)
      replace hbW := on_alloc hbW (.cells #[.int .i64 vk, .int .i64 vn, .string vt] 27)
      replace hr := hr.on hbx
      clear hv HV HT hbx hmv
      rcases hways with ⟨c, ht, rfl, rfl⟩ | ⟨ht, HN⟩ | ⟨ht, HN⟩
      · have HT3 := Lib.hid (HT2.out 4 n0 ht)
        clear ht HT2
        go_wp2_with fail
        generalize wr.alloc (.cells #[.int .i64 vk, .int .i64 vn, .string vt] 27) = X at *
        refine (HT3.out _).mono ?_
        rintro e w1 ⟨rfl, hb1⟩
        replace hb0 := on hb0 hb1
        replace hr := hr.on hb1
        clear hb1 hbW HT3 hx x0 x1 x2
        have hx := CellsAt.new w1 [.int .i64 4, .int .i64 n0, .string ⟨#[]⟩] 27
        obtain ⟨x0, x1, x2, _⟩ := hx.three
        have hl := hr.1
        obtain ⟨p0, p1, p2, f0, f1, f2⟩ := hr.three
        obtain ⟨z0, z1, z2⟩ := three_set (u := .int .i64 4) (v := .int .i64 n0) (r := .string ⟨#[]⟩) p0 p1 p2
        replace z0 := kept_alloc (.cells #[.int .i64 4, .int .i64 n0, .string ⟨#[]⟩] 27) z0
        replace z1 := kept_alloc (.cells #[.int .i64 4, .int .i64 n0, .string ⟨#[]⟩] 27) z1
        replace z2 := kept_alloc (.cells #[.int .i64 4, .int .i64 n0, .string ⟨#[]⟩] 27) z2
        have hb5 := on_alloc (set3 hb0 (Nat.le_refl _) (.int .i64 4) (.int .i64 n0) (.string ⟨#[]⟩)) (.cells #[.int .i64 4, .int .i64 n0, .string ⟨#[]⟩] 27)
        clear hb0 hr
        go_wp2_with fail
        exact bodyPost_ret (v := .agg #[.int .i64 4, .int .i64 n0, .string ⟨#[]⟩]) (by simp [results, Tryd.results25, go_sem, z0, z1, z2]) rfl ⟨rfl, hb5⟩
      · have HT3 := Lib.hid (HT2.out 3 0 ht)
        replace HN := Lib.hid HN
        clear ht HT2
        go_wp2_with fail
        generalize wr.alloc (.cells #[.int .i64 vk, .int .i64 vn, .string vt] 27) = X at *
        refine (HT3.out _).mono ?_
        rintro e w1 ⟨rfl, hb1⟩
        replace hb0 := on_alloc (on hb0 hb1) (.cells #[.int .i64 3, .int .i64 0, .string ⟨#[]⟩] 27)
        replace hbW := on_alloc (on hbW hb1) (.cells #[.int .i64 3, .int .i64 0, .string ⟨#[]⟩] 27)
        replace hr := (hr.on hb1).on_alloc (.cells #[.int .i64 3, .int .i64 0, .string ⟨#[]⟩] 27)
        clear hb1 HT3 hx x0 x1 x2 c0 c1 c2
        have hx := CellsAt.new w1 [.int .i64 3, .int .i64 0, .string ⟨#[]⟩] 27
        obtain ⟨x0, x1, x2, _⟩ := hx.three
        go_wp2_with fail
        generalize w1.alloc (.cells #[.int .i64 3, .int .i64 0, .string ⟨#[]⟩] 27) = X1 at *
        have C0 := fun d os => cell_regrown x0 d os
        have C1 := fun d os => cell_regrown x1 d os
        have C2 := fun d os => cell_regrown x2 d os
        clear x0 x1 x2
        refine wp_region_mem 3 (fun d => match d with
          | 20 => some (Is (.agg #[.int .i64 3, .int .i64 1, .string ⟨#[]⟩]))
          | _ => none) (by kernel_rfl) (by kernel_rfl) ?_
        simp only [List.take_succ_cons, List.take_zero, List.drop_succ_cons, List.drop_zero]
        repeat (first | (refine wpM_calm rfl rfl rfl ?_; intro K hK; go_big_quiet_op; go_big_quiet_on) | (refine wpM_skip rfl ?_; simp only [Act.put, List.setIfInBounds_toArray, List.set_cons_succ, List.set_cons_zero]))
        refine wpM_exact rfl rfl rfl Tryd.func30 (by kernel_rfl) (by kernel_rfl) (fun w1 _ _ => HTrue.out w1) rfl (by simp only [Act.put, List.setIfInBounds_toArray, List.set_cons_succ, List.set_cons_zero]; rfl) ?_
        repeat (first | (refine wpM_calm rfl rfl rfl ?_; intro K hK; go_big_quiet_op; go_big_quiet_on) | (refine wpM_skip rfl ?_; simp only [Act.put, List.setIfInBounds_toArray, List.set_cons_succ, List.set_cons_zero]))
        refine wpM_nil ?_
        intro w4 hb4 _
        replace hb0 := on hb0 hb4
        replace hbW := on hbW hb4
        replace hr := hr.on hb4
        clear hb4 C0 C1 C2 hx
        go_wp2
        go_roundw
        case rel => exact ⟨k + 1, odd, by omega, by go_num, rfl, HN, hb0, hbW, hr⟩
        case measure => simp [intOf]; omega
      · have HT3 := Lib.hid (HT2.out 3 1 ht)
        replace HN := Lib.hid HN
        clear ht HT2
        go_wp2_with fail
        generalize wr.alloc (.cells #[.int .i64 vk, .int .i64 vn, .string vt] 27) = X at *
        refine (HT3.out _).mono ?_
        rintro e w1 ⟨rfl, hb1⟩
        replace hb0 := on_alloc (on hb0 hb1) (.cells #[.int .i64 3, .int .i64 1, .string ⟨#[]⟩] 27)
        replace hbW := on_alloc (on hbW hb1) (.cells #[.int .i64 3, .int .i64 1, .string ⟨#[]⟩] 27)
        replace hr := (hr.on hb1).on_alloc (.cells #[.int .i64 3, .int .i64 1, .string ⟨#[]⟩] 27)
        clear hb1 HT3 hx x0 x1 x2 c0 c1 c2
        have hx := CellsAt.new w1 [.int .i64 3, .int .i64 1, .string ⟨#[]⟩] 27
        obtain ⟨x0, x1, x2, _⟩ := hx.three
        go_wp2_with fail
        generalize w1.alloc (.cells #[.int .i64 3, .int .i64 1, .string ⟨#[]⟩] 27) = X1 at *
        have C0 := fun d os => cell_regrown x0 d os
        have C1 := fun d os => cell_regrown x1 d os
        have C2 := fun d os => cell_regrown x2 d os
        clear x0 x1 x2
        refine wp_region_mem 3 (fun d => match d with
          | 20 => some (Is (.agg #[.int .i64 3, .int .i64 1, .string ⟨#[]⟩]))
          | _ => none) (by kernel_rfl) (by kernel_rfl) ?_
        simp only [List.take_succ_cons, List.take_zero, List.drop_succ_cons, List.drop_zero]
        repeat (first | (refine wpM_calm rfl rfl rfl ?_; intro K hK; go_big_quiet_op; go_big_quiet_on) | (refine wpM_skip rfl ?_; simp only [Act.put, List.setIfInBounds_toArray, List.set_cons_succ, List.set_cons_zero]))
        refine wpM_exact rfl rfl rfl Tryd.func30 (by kernel_rfl) (by kernel_rfl) (fun w1 _ _ => HTrue.out w1) rfl (by simp only [Act.put, List.setIfInBounds_toArray, List.set_cons_succ, List.set_cons_zero]; rfl) ?_
        repeat (first | (refine wpM_calm rfl rfl rfl ?_; intro K hK; go_big_quiet_op; go_big_quiet_on) | (refine wpM_skip rfl ?_; simp only [Act.put, List.setIfInBounds_toArray, List.set_cons_succ, List.set_cons_zero]))
        refine wpM_nil ?_
        intro w4 hb4 _
        replace hb0 := on hb0 hb4
        replace hbW := on hbW hb4
        replace hr := hr.on hb4
        clear hb4 C0 C1 C2 hx
        go_wp2
        go_roundw
        case rel => exact ⟨k + 1, !odd, by omega, by go_num, rfl, HN, hb0, hbW, hr⟩
        case measure => simp [intOf]; omega
    · obtain rfl : k = n := by omega
      have h := HV.out
      rw [← HL.out, xor_end] at h
      cases odd
      · obtain ⟨rfl, rfl⟩ := Prod.mk.inj (show ((3 : Int), (0 : Int)) = (k0, n0) from h)
        have HB2 : Hid (∀ w1, Calls Tryd.prog 30 #[.bool false] w1 (ValIs 3 0 ⟨#[]⟩ w1)) := Lib.hid (HBool.out false)
        clear HV hbW HBool HTrue HT h
        go_wp2_with fail
        refine (HB2.out _).mono ?_
        rintro e w4 ⟨rfl, hb4⟩
        replace hb0 := on hb0 hb4
        replace hr := hr.on hb4
        clear hb4 HB2
        have hl9 := hr.1
        obtain ⟨p0, p1, p2, f0, f1, f2⟩ := hr.three
        obtain ⟨z0, z1, z2⟩ := three_set (u := .int .i64 3) (v := .int .i64 0) (r := .string ⟨#[]⟩) p0 p1 p2
        have hb5 := set3 hb0 (Nat.le_refl _) (.int .i64 3) (.int .i64 0) (.string ⟨#[]⟩)
        clear hb0 hr
        go_wp2_with fail
        exact bodyPost_ret (v := .agg #[.int .i64 3, .int .i64 0, .string ⟨#[]⟩]) (by simp [results, Tryd.results25, go_sem, z0, z1, z2]) rfl ⟨rfl, hb5⟩
      · obtain ⟨rfl, rfl⟩ := Prod.mk.inj (show ((3 : Int), (1 : Int)) = (k0, n0) from h)
        have HB2 : Hid (∀ w1, Calls Tryd.prog 30 #[.bool true] w1 (ValIs 3 1 ⟨#[]⟩ w1)) := Lib.hid (HBool.out true)
        clear HV hbW HBool HTrue HT h
        go_wp2_with fail
        refine (HB2.out _).mono ?_
        rintro e w4 ⟨rfl, hb4⟩
        replace hb0 := on hb0 hb4
        replace hr := hr.on hb4
        clear hb4 HB2
        have hl9 := hr.1
        obtain ⟨p0, p1, p2, f0, f1, f2⟩ := hr.three
        obtain ⟨z0, z1, z2⟩ := three_set (u := .int .i64 3) (v := .int .i64 1) (r := .string ⟨#[]⟩) p0 p1 p2
        have hb5 := set3 hb0 (Nat.le_refl _) (.int .i64 3) (.int .i64 1) (.string ⟨#[]⟩)
        clear hb0 hr
        go_wp2_with fail
        exact bodyPost_ret (v := .agg #[.int .i64 3, .int .i64 1, .string ⟨#[]⟩]) (by simp [results, Tryd.results25, go_sem, z0, z1, z2]) rfl ⟨rfl, hb5⟩
theorem odd_next (j : Nat) : decide ((j + 1) % 2 = 1) = !decide (j % 2 = 1) := by
  rcases Nat.mod_two_eq_zero_or_one j with h | h
  · rw [decide_eq_false (show ¬ j % 2 = 1 by omega), decide_eq_true (by omega)]; rfl
  · rw [decide_eq_true h, decide_eq_false (by omega)]; rfl
set_option maxRecDepth 100000 in
set_option maxHeartbeats 4000000 in
theorem rxor_c (A : Option Addr) (n cap : Nat) (L : List Vl) (hm : ∀ v ∈ L, v.may) (k0 n0 : Int) (hv : xorV false L = (k0, n0)) (w : World) (hz : ValsR w A n L) : Calls Tryd.prog 26 #[.slice A n cap] w (ValIs k0 n0 ⟨#[]⟩ w) := by
  have HM : Hid (∀ (k : Nat) (v : Vl), L[k]? = some v → v.may) := Lib.hid fun k v hv => hm v (List.mem_of_getElem? hv)
  have HV : Hid (xorV (decide (0 % 2 = 1)) (L.drop 0) = (k0, n0)) := Lib.hid hv
  have HT := Lib.hid (fun v hm k n h w1 => rtruth_c v hm k n h w1)
  have HBool := Lib.hid (fun b w1 => rbool_c b w1)
  have hn9 := hz.2.1
  have HL := Lib.hid hz.1
  have hb0 := below1 w (.cells #[.int .i64 0, .int .i64 0, .string ⟨#[]⟩] 27)
  have HZ := Lib.hid (hz.on hb0)
  have hr := CellsAt.new w [.int .i64 0, .int .i64 0, .string ⟨#[]⟩] 27
  clear hz hm hv
  go_enter Tryd.func26, Tryd.ntmps26
  go_wp2_with fail
  generalize w.alloc (.cells #[.int .i64 0, .int .i64 0, .string ⟨#[]⟩] 27) = W at *
  go_loopw [3, 4] (fun o i wr => ∃ (k j : Nat), k ≤ n ∧ i = .int .i64 k ∧ o = .int .i64 j ∧ j ≤ k ∧ Hid (xorV (decide (j % 2 = 1)) (L.drop k) = (k0, n0)) ∧ Below w.heap.size w wr ∧ Below W.heap.size W wr ∧ CellsAt wr w.heap.size [.int .i64 0, .int .i64 0, .string ⟨#[]⟩]) (fun _ i _ => n - (intOf i).toNat)
  case atStart => exact ⟨0, 0, Nat.zero_le _, rfl, rfl, Nat.le_refl _, HV, hb0, Below.refl _ _, hr⟩
  case round =>
    clear hb0 hr HV
    obtain ⟨k, j, hk, rfl, rfl, hj, HV, hb0, hbW, hr⟩ := hrel
    by_cases hlt : k < n
    · obtain ⟨v, hv⟩ := HZ.out.get hlt
      obtain ⟨b, o, rfl, hb, c0, c1, c2⟩ := (HZ.out.on hbW).at hv
      have hmv := HM.out k v hv
      have hways : (∃ c, truthF v = (4, c) ∧ k0 = 4 ∧ n0 = c) ∨ (truthF v = (3, 0) ∧ xorV (decide (j % 2 = 1)) (L.drop (k + 1)) = (k0, n0)) ∨ (truthF v = (3, 1) ∧ xorV (decide ((j + 1) % 2 = 1)) (L.drop (k + 1)) = (k0, n0)) := by
        rcases truth_ways hmv with h | h | ⟨c, h⟩
        · exact .inr (.inl ⟨h, by rw [← xor_zero hv h]; exact HV.out⟩)
        · exact .inr (.inr ⟨h, by rw [odd_next, ← xor_one hv h]; exact HV.out⟩)
        · refine .inl ⟨c, h, ?_⟩
          have h2 := HV.out
          rw [xor_bad hv h] at h2
          obtain ⟨rfl, rfl⟩ := Prod.mk.inj h2
          exact ⟨rfl, rfl⟩
      have HT2 := Lib.hid (fun k n h w1 => HT.out v hmv k n h w1)
      obtain ⟨vk, vn, vt⟩ := v
      dsimp only at c0 c1 c2 HT2
      clear hv HV HT hmv
      rcases hways with ⟨c, ht, rfl, rfl⟩ | ⟨ht, HN⟩ | ⟨ht, HN⟩
      · have HT3 := Lib.hid (HT2.out 4 n0 ht)
        clear ht HT2
        go_wp2_with fail
        refine (HT3.out _).mono ?_
        rintro e w1 ⟨rfl, hb1⟩
        replace hb0 := on hb0 hb1
        replace hr := hr.on hb1
        clear hb1 hbW HT3
        have hx := CellsAt.new w1 [.int .i64 4, .int .i64 n0, .string ⟨#[]⟩] 27
        obtain ⟨x0, x1, x2, _⟩ := hx.three
        have hl := hr.1
        obtain ⟨p0, p1, p2, f0, f1, f2⟩ := hr.three
        obtain ⟨z0, z1, z2⟩ := three_set (u := .int .i64 4) (v := .int .i64 n0) (r := .string ⟨#[]⟩) p0 p1 p2
        replace z0 := kept_alloc (.cells #[.int .i64 4, .int .i64 n0, .string ⟨#[]⟩] 27) z0
        replace z1 := kept_alloc (.cells #[.int .i64 4, .int .i64 n0, .string ⟨#[]⟩] 27) z1
        replace z2 := kept_alloc (.cells #[.int .i64 4, .int .i64 n0, .string ⟨#[]⟩] 27) z2
        have hb5 := on_alloc (set3 hb0 (Nat.le_refl _) (.int .i64 4) (.int .i64 n0) (.string ⟨#[]⟩)) (.cells #[.int .i64 4, .int .i64 n0, .string ⟨#[]⟩] 27)
        clear hb0 hr
        go_wp2_with fail
        exact bodyPost_ret (v := .agg #[.int .i64 4, .int .i64 n0, .string ⟨#[]⟩]) (by simp [results, Tryd.results26, go_sem, z0, z1, z2]) rfl ⟨rfl, hb5⟩
      · have HT3 := Lib.hid (HT2.out 3 0 ht)
        replace HN := Lib.hid HN
        clear ht HT2
        go_wp2_with fail
        refine (HT3.out _).mono ?_
        rintro e w1 ⟨rfl, hb1⟩
        replace hb0 := on_alloc (on hb0 hb1) (.cells #[.int .i64 3, .int .i64 0, .string ⟨#[]⟩] 27)
        replace hbW := on_alloc (on hbW hb1) (.cells #[.int .i64 3, .int .i64 0, .string ⟨#[]⟩] 27)
        replace hr := (hr.on hb1).on_alloc (.cells #[.int .i64 3, .int .i64 0, .string ⟨#[]⟩] 27)
        clear hb1 HT3 c0 c1 c2
        have hx := CellsAt.new w1 [.int .i64 3, .int .i64 0, .string ⟨#[]⟩] 27
        obtain ⟨x0, x1, x2, _⟩ := hx.three
        go_wp2_with fail
        go_roundw
        case rel => exact ⟨k + 1, j, by omega, by go_num, by first | rfl | go_num, by omega, HN, hb0, hbW, hr⟩
        case measure => simp [intOf]; omega
      · have HT3 := Lib.hid (HT2.out 3 1 ht)
        replace HN := Lib.hid HN
        clear ht HT2
        go_wp2_with fail
        refine (HT3.out _).mono ?_
        rintro e w1 ⟨rfl, hb1⟩
        replace hb0 := on_alloc (on hb0 hb1) (.cells #[.int .i64 3, .int .i64 1, .string ⟨#[]⟩] 27)
        replace hbW := on_alloc (on hbW hb1) (.cells #[.int .i64 3, .int .i64 1, .string ⟨#[]⟩] 27)
        replace hr := (hr.on hb1).on_alloc (.cells #[.int .i64 3, .int .i64 1, .string ⟨#[]⟩] 27)
        clear hb1 HT3 c0 c1 c2
        have hx := CellsAt.new w1 [.int .i64 3, .int .i64 1, .string ⟨#[]⟩] 27
        obtain ⟨x0, x1, x2, _⟩ := hx.three
        go_wp2_with fail
        go_roundw
        case rel => exact ⟨k + 1, j + 1, by omega, by go_num, by first | rfl | go_num, by omega, HN, hb0, hbW, hr⟩
        case measure => simp [intOf]; omega
    · obtain rfl : k = n := by omega
      have h := HV.out
      rw [← HL.out, xor_end] at h
      rcases Nat.mod_two_eq_zero_or_one j with hj2 | hj2
      · rw [decide_eq_false (show ¬ j % 2 = 1 by omega)] at h
        obtain ⟨rfl, rfl⟩ := Prod.mk.inj (show ((3 : Int), (0 : Int)) = (k0, n0) from h)
        have HB2 : Hid (∀ w1, Calls Tryd.prog 54 #[.bool false] w1 (ValIs 3 0 ⟨#[]⟩ w1)) := Lib.hid (HBool.out false)
        have e1 : (j : Int).tmod 2 = 0 := by rw [Int.tmod_eq_emod_of_nonneg (by omega)]; omega
        have e2 : (j : Int) % 2 = 0 := by omega
        clear HV hbW HBool HT h
        go_wp2_with fail
        refine (HB2.out _).mono ?_
        rintro e w4 ⟨rfl, hb4⟩
        replace hb0 := on hb0 hb4
        replace hr := hr.on hb4
        clear hb4 HB2
        have hl9 := hr.1
        obtain ⟨p0, p1, p2, f0, f1, f2⟩ := hr.three
        obtain ⟨z0, z1, z2⟩ := three_set (u := .int .i64 3) (v := .int .i64 0) (r := .string ⟨#[]⟩) p0 p1 p2
        have hb5 := set3 hb0 (Nat.le_refl _) (.int .i64 3) (.int .i64 0) (.string ⟨#[]⟩)
        clear hb0 hr
        go_wp2_with fail
        exact bodyPost_ret (v := .agg #[.int .i64 3, .int .i64 0, .string ⟨#[]⟩]) (by simp [results, Tryd.results26, go_sem, z0, z1, z2]) rfl ⟨rfl, hb5⟩
      · rw [decide_eq_true hj2] at h
        obtain ⟨rfl, rfl⟩ := Prod.mk.inj (show ((3 : Int), (1 : Int)) = (k0, n0) from h)
        have HB2 : Hid (∀ w1, Calls Tryd.prog 54 #[.bool true] w1 (ValIs 3 1 ⟨#[]⟩ w1)) := Lib.hid (HBool.out true)
        have e1 : (j : Int).tmod 2 = 1 := by rw [Int.tmod_eq_emod_of_nonneg (by omega)]; omega
        have e2 : (j : Int) % 2 = 1 := by omega
        clear HV hbW HBool HT h
        go_wp2_with fail
        refine (HB2.out _).mono ?_
        rintro e w4 ⟨rfl, hb4⟩
        replace hb0 := on hb0 hb4
        replace hr := hr.on hb4
        clear hb4 HB2
        have hl9 := hr.1
        obtain ⟨p0, p1, p2, f0, f1, f2⟩ := hr.three
        obtain ⟨z0, z1, z2⟩ := three_set (u := .int .i64 3) (v := .int .i64 1) (r := .string ⟨#[]⟩) p0 p1 p2
        have hb5 := set3 hb0 (Nat.le_refl _) (.int .i64 3) (.int .i64 1) (.string ⟨#[]⟩)
        clear hb0 hr
        go_wp2_with fail
        exact bodyPost_ret (v := .agg #[.int .i64 3, .int .i64 1, .string ⟨#[]⟩]) (by simp [results, Tryd.results26, go_sem, z0, z1, z2]) rfl ⟨rfl, hb5⟩
end Go.Proofs.YtcampdedhfhkbaaDoor.Fld

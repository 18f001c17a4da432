/- How many values are of a kind: the program's Count and the reference's.
   What Mean answers, the program's and the reference's.
   What the reference's Mean answers. -/
import Derived.Test.YtbjomidkeignjaaGreatDoorG13
import Derived.Test.YtbjomidkeignjaaGreatDoorG8
import Derived.Test.YtbjomidkeignjaaGreatDoorG9
import Derived.Test.YtbjomidkeignjaaGreatDoorGc
namespace Go.Proofs.YtbjomidkeignjaaGreatDoor.Fld
open Go.RowKit Kit Reg Dec Dig Val Txt

/-- which of the kinds is asked, in the program's tests -/
theorem kind_ways (k : Int) : k = 1 ∨ k = 0 ∨ ((k == 1) = false ∧ (k == 0) = false ∧ (k != 0) = true ∧ (k != 1) = true ∧ ¬ k = 1 ∧ ¬ k = 0) := by
  by_cases h1 : k = 1
  · exact .inl h1
  · by_cases h0 : k = 0
    · exact .inr (.inl h0)
    · have e1 : (k == 1) = false := by simpa using h1
      have e0 : (k == 0) = false := by simpa using h0
      exact .inr (.inr ⟨e1, e0, by rw [bne, e0]; rfl, by rw [bne, e1]; rfl, h1, h0⟩)
set_option maxRecDepth 100000 in
set_option maxHeartbeats 2000000 in
theorem counts_c (v : Vl) (hm : v.may) (kind : Int) (b : Bool) (hb : isK kind v = b) (w : World) : Calls Tryz.prog 93 #[.agg #[.int .i64 v.k, .int .i64 v.n, .string v.t], .int .i64 kind] w fun e w' => e = .returned (.bool b) ∧ Below w.heap.size w w' := by
  have HStr : Hid (∀ w1, Calls Tryz.prog 27 #[.string ⟨#[]⟩] w1 (ValIs 2 0 ⟨#[]⟩ w1)) := Lib.hid (fun w1 => str_c ⟨#[]⟩ 2 0 ⟨#[]⟩ (str_in (by decide)) w1)
  have HM := may_ways hm
  obtain ⟨vk, vn, vt⟩ := v
  dsimp only
  have hb0 := below1 w (.cells #[.int .i64 vk, .int .i64 vn, .string vt] 26)
  have hr := CellsAt.new w [.int .i64 vk, .int .i64 vn, .string vt] 26
  rcases kind_ways kind with rfl | rfl | ⟨q1, q2, q3, q4, n1, n2⟩
  · have hb2 : (vk == 1) = b := by
      rw [← hb]
      unfold isK
      rw [if_pos rfl]
      by_cases h : vk = 1 <;> simp [h]
    clear hb hm HM
    go_enter Tryz.func93, Tryz.ntmps93
    go_wp2_with fail
    go_ret
    exact ⟨ret_bool rfl, hb0⟩
  · have hwy : (vk = 0 ∧ b = true) ∨ ((vk == 0) = false ∧ vk = 2 ∧ vn = 0 ∧ vt = ⟨#[]⟩ ∧ b = true) ∨ ((vk == 0) = false ∧ vk = 2 ∧ vn = 0 ∧ ¬ vt.toList = [] ∧ (vt.toList == []) = false ∧ b = false) ∨ ((vk == 0) = false ∧ (vk == 2) = false ∧ b = false) := by
      have hb2 : (decide (vk = 0) || (decide (vk = 2) && decide (vt = ⟨#[]⟩))) = b := by
        rw [← hb]
        rfl
      subst hb2
      rcases HM with h | ⟨n, h, _⟩ | ⟨t, h, _⟩ | h | h | ⟨n, h, _⟩
      all_goals
        obtain ⟨rfl, rfl, rfl⟩ := Vl.mk.inj h
      · exact .inl ⟨rfl, rfl⟩
      · exact .inr (.inr (.inr ⟨rfl, rfl, rfl⟩))
      · rcases empty_or vt with rfl | ⟨h1, h2⟩
        · exact .inr (.inl ⟨rfl, rfl, rfl, rfl, rfl⟩)
        · refine .inr (.inr (.inl ⟨rfl, rfl, rfl, h1, by rw [beq_eq_false_iff_ne]; exact h1, ?_⟩))
          have h3 : ¬ vt = ⟨#[]⟩ := fun e => h1 (by rw [e, Lib.toList_data])
          simp [h3]
      · exact .inr (.inr (.inr ⟨rfl, rfl, rfl⟩))
      · exact .inr (.inr (.inr ⟨rfl, rfl, rfl⟩))
      · exact .inr (.inr (.inr ⟨rfl, rfl, rfl⟩))
    clear hb hm HM
    rcases hwy with ⟨rfl, rfl⟩ | ⟨q1, rfl, rfl, rfl, rfl⟩ | ⟨q1, rfl, rfl, h1, q2, rfl⟩ | ⟨q1, q2, rfl⟩
    all_goals
      go_enter Tryz.func93, Tryz.ntmps93
      go_wp2_with fail
      generalize hW : World.alloc w _ = W at *
      obtain ⟨x0, x1, x2, _⟩ := hr.three
      have C0 := fun d os => cell_regrown x0 d os
      have C1 := fun d os => cell_regrown x1 d os
      have C2 := fun d os => cell_regrown x2 d os
      clear x0 x1 x2 hW
      refine wp_region_mem 9 (fun d => match d with
        | 18 => some (Is (.agg #[.int .i64 2, .int .i64 0, .string ⟨#[]⟩]))
        | _ => none) (by kernel_rfl) (by kernel_rfl) ?_
      simp only [List.take_succ_cons, List.take_zero, List.drop_succ_cons, List.drop_zero]
      repeat (first | (refine wpM_calm rfl rfl rfl ?_; intro K hK; go_big_quiet_op; go_big_quiet_on) | (refine wpM_skip rfl ?_; simp only [Act.put, List.setIfInBounds_toArray, List.set_cons_succ, List.set_cons_zero]))
      try refine wpM_exact rfl rfl rfl Tryz.func27 (by kernel_rfl) (by kernel_rfl) (fun w1 _ _ => HStr.out w1) rfl (by simp only [Act.put, List.setIfInBounds_toArray, List.set_cons_succ, List.set_cons_zero]; rfl) ?_
      repeat (first | (refine wpM_calm rfl rfl rfl ?_; intro K hK; go_big_quiet_op; go_big_quiet_on) | (refine wpM_skip rfl ?_; simp only [Act.put, List.setIfInBounds_toArray, List.set_cons_succ, List.set_cons_zero]))
      refine wpM_nil ?_
      intro w4 hb4 _
      have hb5 := on hb0 hb4
      clear hb4 C0 C1 C2
      go_wp2
      go_ret
      exact ⟨ret_bool rfl, hb5⟩
  · have hb2 : (vk != 0) = b := by
      rw [← hb]
      unfold isK
      rw [if_neg n1, if_neg n2]
      by_cases h : vk = 0 <;> simp [h]
    clear hb hm HM n1 n2
    go_enter Tryz.func93, Tryz.ntmps93
    go_wp2_with fail
    go_ret
    exact ⟨ret_bool rfl, hb0⟩
set_option maxRecDepth 100000 in
set_option maxHeartbeats 2000000 in
theorem count_c (kind : Int) (A : Option Addr) (n cap : Nat) (L : List Vl) (hm : ∀ v ∈ L, v.may) (c : Nat) (hc : countF kind L = c) (w : World) (hz : ValsR w A n L) : Calls Tryz.prog 73 #[.slice A n cap, .int .i64 kind] w fun e w' => e = .returned (.int .i64 (c : Int)) ∧ Below w.heap.size w w' := by
  have HZ := Lib.hid hz
  have HM : Hid (∀ (k : Nat) (v : Vl), L[k]? = some v → v.may) := Lib.hid fun k v hv => hm v (List.mem_of_getElem? hv)
  have HC := Lib.hid hc
  have hn9 := hz.2.1
  have HP := Lib.hid (fun v hm b hb w1 => counts_c v hm kind b hb w1)
  clear hz hm hc
  go_enter Tryz.func73, Tryz.ntmps73
  go_wp2_with fail
  go_loopw [5, 10] (fun o i wr => ∃ (k j : Nat), k ≤ n ∧ i = .int .i64 k ∧ o = .int .i64 j ∧ j ≤ k ∧ Hid (countF kind (L.take k) = j) ∧ Below w.heap.size w wr) (fun _ i _ => n - (intOf i).toNat)
  case atStart => exact ⟨0, 0, Nat.zero_le _, rfl, rfl, Nat.le_refl _, Lib.hid rfl, Below.refl _ _⟩
  case round =>
    obtain ⟨k, j, hk, rfl, rfl, hj, HJ, hb0⟩ := hrel
    by_cases hlt : k < n
    · obtain ⟨v, hv⟩ := HZ.out.get hlt
      obtain ⟨b, o, rfl, hb, c0, c1, c2⟩ := (HZ.out.on hb0).at hv
      obtain ⟨q, hq⟩ : ∃ q, isK kind v = q := ⟨_, rfl⟩
      have HP2 := Lib.hid (HP.out v (HM.out k v hv) q hq)
      have HN : Hid (countF kind (L.take (k + 1)) = if q = true then j + 1 else j) := Lib.hid (by
        cases q
        · rw [count_miss hv hq, HJ.out]; rfl
        · rw [count_hit hv hq, HJ.out]; rfl)
      obtain ⟨vk, vn, vt⟩ := v
      dsimp only at c0 c1 c2 HP2
      have hx := CellsAt.new wr [.int .i64 vk, .int .i64 vn, .string vt] 26
      obtain ⟨x0, x1, x2, _⟩ := hx.three
      replace hb0 := on_alloc hb0 (.cells #[.int .i64 vk, .int .i64 vn, .string vt] 26)
      clear hv hq HJ HP
      cases q
      · replace HN : Hid (countF kind (L.take (k + 1)) = j) := HN
        go_wp2_with fail
        refine (HP2.out _).mono ?_
        rintro e w1 ⟨rfl, hb1⟩
        replace hb0 := on hb0 hb1
        clear hb1 HP2 c0 c1 c2 hx x0 x1 x2
        go_wp2_with fail
        go_roundw
        case rel => exact ⟨k + 1, j, by omega, by go_num, rfl, by omega, HN, hb0⟩
        case measure => simp [intOf]; omega
      · replace HN : Hid (countF kind (L.take (k + 1)) = j + 1) := HN
        go_wp2_with fail
        refine (HP2.out _).mono ?_
        rintro e w1 ⟨rfl, hb1⟩
        replace hb0 := on hb0 hb1
        clear hb1 HP2 c0 c1 c2 hx x0 x1 x2
        go_wp2_with fail
        go_roundw
        case rel => exact ⟨k + 1, j + 1, by omega, by go_num, by go_num, by omega, HN, hb0⟩
        case measure => simp [intOf]; omega
    · obtain rfl : k = n := by omega
      obtain rfl : j = c := by
        have h := HJ.out
        rw [List.take_of_length_le (by rw [HZ.out.1]; omega), HC.out] at h
        exact h.symm
      clear HP HJ
      go_wp2_with fail
      go_ret
      exact ⟨rfl, hb0⟩
theorem rcount_ways (kind : Int) (v : Vl) (hm : v.may) (q : Bool) (hq : isK kind v = q) : (kind = 1 ∧ v.k = 1 ∧ q = true) ∨ (kind = 1 ∧ (v.k == 1) = false ∧ q = false) ∨ (kind = 0 ∧ v.k = 0 ∧ q = true) ∨ (kind = 0 ∧ (v.k == 0) = false ∧ v.k = 2 ∧ v.t = ⟨#[]⟩ ∧ q = true) ∨
    (kind = 0 ∧ (v.k == 0) = false ∧ v.k = 2 ∧ ¬ v.t.toList = [] ∧ (v.t.toList == []) = false ∧ q = false) ∨ (kind = 0 ∧ (v.k == 0) = false ∧ (v.k == 2) = false ∧ q = false) ∨
    ((kind == 1) = false ∧ (kind == 0) = false ∧ (kind != 0) = true ∧ (kind != 1) = true ∧ v.k = 0 ∧ q = false) ∨ ((kind == 1) = false ∧ (kind == 0) = false ∧ (kind != 0) = true ∧ (kind != 1) = true ∧ (v.k != 0) = true ∧ q = true) := by
  subst hq
  rcases kind_ways kind with rfl | rfl | ⟨q1, q2, q3, q4, n1, n2⟩
  · by_cases h : v.k = 1
    · exact .inl ⟨rfl, h, by simp [isK, h]⟩
    · exact .inr (.inl ⟨rfl, by simpa using h, by simp [isK, h]⟩)
  · refine .inr (.inr ?_)
    rcases may_ways hm with rfl | ⟨n, rfl, _⟩ | ⟨t, rfl, _⟩ | rfl | rfl | ⟨n, rfl, _⟩
    · exact .inl ⟨rfl, rfl, rfl⟩
    · exact .inr (.inr (.inr (.inl ⟨rfl, rfl, rfl, rfl⟩)))
    · rcases empty_or t with rfl | ⟨h1, h2⟩
      · exact .inr (.inl ⟨rfl, rfl, rfl, rfl, rfl⟩)
      · refine .inr (.inr (.inl ⟨rfl, rfl, rfl, h1, by rw [beq_eq_false_iff_ne]; exact h1, ?_⟩))
        have h3 : ¬ t = ⟨#[]⟩ := fun e => h1 (by rw [e, Lib.toList_data])
        simp [isK, h3]
    · exact .inr (.inr (.inr (.inl ⟨rfl, rfl, rfl, rfl⟩)))
    · exact .inr (.inr (.inr (.inl ⟨rfl, rfl, rfl, rfl⟩)))
    · exact .inr (.inr (.inr (.inl ⟨rfl, rfl, rfl, rfl⟩)))
  · refine .inr (.inr (.inr (.inr (.inr (.inr ?_)))))
    by_cases h : v.k = 0
    · exact .inl ⟨q1, q2, q3, q4, h, by unfold isK; rw [if_neg n1, if_neg n2, h]; rfl⟩
    · exact .inr ⟨q1, q2, q3, q4, by simpa using h, by unfold isK; rw [if_neg n1, if_neg n2, decide_eq_false h]; rfl⟩
end Go.Proofs.YtbjomidkeignjaaGreatDoor.Fld
namespace Go.Proofs.YtbjomidkeignjaaGreatDoor.Fld
open Go.RowKit Kit Reg Dec Dig Val Txt

theorem total_room : ∀ (xs : List Int) (s n : Int) (b : Bool), s ≤ 9223372036854775807 → totalD addD s xs = (n, b) → n ≤ 9223372036854775807
  | [], s, n, b, hs, h => by
    have := (Prod.mk.inj h).1
    omega
  | x :: r, s, n, b, hs, h => by
    rcases ha : addD s x with ⟨m, c⟩
    rw [totalD, ha] at h
    have hm := addD_room ha
    cases c
    · have := (Prod.mk.inj h).1
      omega
    · exact total_room r m n b hm h
theorem sum_room {L : List Vl} (h : NoF L) {x : Int} (hv : allV addD 0 L = (1, x)) : x ≤ 9223372036854775807 := by
  rw [allV_no h] at hv
  unfold allD at hv
  by_cases h0 : numsF L = []
  · rw [if_pos h0] at hv
    have := (Prod.mk.inj hv).2
    omega
  · rw [if_neg h0] at hv
    rcases e : totalD addD 0 (numsF L) with ⟨a, b⟩
    rw [e] at hv
    have ha := total_room _ _ _ _ (by omega) e
    rcases got_kind a b with ⟨g, _⟩ | g
    · rw [g] at hv
      have := (Prod.mk.inj hv).2
      omega
    · rw [g] at hv
      exact absurd (Prod.mk.inj hv).1 (by decide)
/-- the ways of the middle -/
theorem mean_ways {L : List Vl} {k0 n0 : Int} (hv : meanV L = (k0, n0)) : (∃ p x, FirstF L p x ∧ k0 = 4 ∧ n0 = x.n) ∨ (NoF L ∧ ¬ numsF L = [] ∧ allV addD 0 L = (4, 4) ∧ k0 = 4 ∧ n0 = 4) ∨ (NoF L ∧ numsF L = [] ∧ allV addD 0 L = (1, 0) ∧ k0 = 4 ∧ n0 = 1) ∨
    ∃ x t b, NoF L ∧ ¬ numsF L = [] ∧ x ≤ 9223372036854775807 ∧ allV addD 0 L = (1, x) ∧ scaledD x 1 ((numsF L).length : Int) = (t, b) ∧ gotV t b = (k0, n0) := by
  rcases fault_ways L with h | ⟨p, x, h⟩
  · right
    by_cases h0 : numsF L = []
    · right; left
      rw [meanV_none h h0] at hv
      obtain ⟨rfl, rfl⟩ := Prod.mk.inj hv
      refine ⟨h, h0, ?_, rfl, rfl⟩
      rw [allV_no h]
      exact if_pos h0
    · rcases allD_kind addD 0 (numsF L) with h1 | h1
      · right; right
        rcases e : allD addD 0 (numsF L) with ⟨k1, x⟩
        rw [e] at h1
        obtain rfl : k1 = 1 := h1
        rw [meanV_in h h0 e] at hv
        have e2 : allV addD 0 L = (1, x) := by rw [allV_no h]; exact e
        exact ⟨x, _, _, h, h0, sum_room h e2, e2, rfl, hv⟩
      · left
        rw [meanV_out h h0 h1] at hv
        obtain ⟨rfl, rfl⟩ := Prod.mk.inj hv
        exact ⟨h, h0, by rw [allV_no h]; exact h1, rfl, rfl⟩
  · left
    rw [meanV_yes h] at hv
    obtain ⟨rfl, rfl⟩ := Prod.mk.inj hv
    exact ⟨p, x, h, rfl, rfl⟩
set_option maxRecDepth 100000 in
set_option maxHeartbeats 1000000 in
theorem mean_bad (A : Option Addr) (n cap : Nat) (L : List Vl) (hm : ∀ v ∈ L, v.may) (n0 : Int) (hv : allV addD 0 L = (4, n0)) (w : World) (hz : ValsR w A n L) : Calls Tryz.prog 49 #[.slice A n cap] w (ValIs 4 n0 ⟨#[]⟩ w) := by
  have HS := Lib.hid (fun w1 hz => sum_c A n cap L hm 4 n0 hv w1 hz)
  have hb0 := below1 w (.cells #[.int .i64 0, .int .i64 0, .string ⟨#[]⟩] 26)
  have HZ := Lib.hid (hz.on hb0)
  have hr := CellsAt.new w [.int .i64 0, .int .i64 0, .string ⟨#[]⟩] 26
  clear hz hv hm
  go_enter Tryz.func49, Tryz.ntmps49
  go_wp2_with fail
  generalize w.alloc (.cells #[.int .i64 0, .int .i64 0, .string ⟨#[]⟩] 26) = W at *
  refine (HS.out _ HZ.out).mono ?_
  rintro e w1 ⟨rfl, hb1⟩
  replace hb0 := on hb0 hb1
  replace hr := hr.on hb1
  have hl := hr.1
  clear hb1 HS HZ
  have hx := CellsAt.new w1 [.int .i64 4, .int .i64 n0, .string ⟨#[]⟩] 26
  obtain ⟨x0, x1, x2, _⟩ := hx.three
  obtain ⟨p0, p1, p2, f0, f1, f2⟩ := hr.three
  obtain ⟨z0, z1, z2⟩ := three_set (u := .int .i64 4) (v := .int .i64 n0) (r := .string ⟨#[]⟩) p0 p1 p2
  replace z0 := kept_alloc (.cells #[.int .i64 4, .int .i64 n0, .string ⟨#[]⟩] 26) z0
  replace z1 := kept_alloc (.cells #[.int .i64 4, .int .i64 n0, .string ⟨#[]⟩] 26) z1
  replace z2 := kept_alloc (.cells #[.int .i64 4, .int .i64 n0, .string ⟨#[]⟩] 26) z2
  have hb5 := on_alloc (set3 hb0 (Nat.le_refl _) (.int .i64 4) (.int .i64 n0) (.string ⟨#[]⟩)) (.cells #[.int .i64 4, .int .i64 n0, .string ⟨#[]⟩] 26)
  go_wp2_with fail
  exact bodyPost_ret (v := .agg #[.int .i64 4, .int .i64 n0, .string ⟨#[]⟩]) (by simp [results, Tryz.results49, go_sem, z0, z1, z2]) rfl ⟨rfl, hb5⟩
set_option maxRecDepth 100000 in
set_option maxHeartbeats 1000000 in
theorem mean_none (A : Option Addr) (n cap : Nat) (L : List Vl) (hm : ∀ v ∈ L, v.may) (h0 : numsF L = []) (hv : allV addD 0 L = (1, 0)) (w : World) (hz : ValsR w A n L) : Calls Tryz.prog 49 #[.slice A n cap] w (ValIs 4 1 ⟨#[]⟩ w) := by
  have HS := Lib.hid (fun w1 hz => sum_c A n cap L hm 1 0 hv w1 hz)
  have HC := Lib.hid (fun w1 hz => count_c 1 A n cap L hm 0 (by rw [count_nums, h0]; rfl) w1 hz)
  have HB := Lib.hid (fun w1 => bad_c 1 w1)
  rw [bad_in (by omega) (by omega)] at HB
  have hb0 := below1 w (.cells #[.int .i64 0, .int .i64 0, .string ⟨#[]⟩] 26)
  have HZ := Lib.hid (hz.on hb0)
  have hr := CellsAt.new w [.int .i64 0, .int .i64 0, .string ⟨#[]⟩] 26
  clear hz hv hm h0
  go_enter Tryz.func49, Tryz.ntmps49
  go_wp2_with fail
  generalize w.alloc (.cells #[.int .i64 0, .int .i64 0, .string ⟨#[]⟩] 26) = W at *
  refine (HS.out _ HZ.out).mono ?_
  rintro e w1 ⟨rfl, hb1⟩
  replace HZ := Lib.hid ((HZ.out.on hb1).on (below1 w1 (.cells #[.int .i64 1, .int .i64 0, .string ⟨#[]⟩] 26)))
  replace hb0 := on_alloc (on hb0 hb1) (.cells #[.int .i64 1, .int .i64 0, .string ⟨#[]⟩] 26)
  replace hr := (hr.on hb1).on_alloc (.cells #[.int .i64 1, .int .i64 0, .string ⟨#[]⟩] 26)
  clear hb1 HS
  have hx := CellsAt.new w1 [.int .i64 1, .int .i64 0, .string ⟨#[]⟩] 26
  obtain ⟨x0, x1, x2, _⟩ := hx.three
  go_wp2_with fail
  generalize w1.alloc (.cells #[.int .i64 1, .int .i64 0, .string ⟨#[]⟩] 26) = W1 at *
  refine (HC.out _ HZ.out).mono ?_
  rintro e w2 ⟨rfl, hb2⟩
  replace hb0 := on hb0 hb2
  replace hr := hr.on hb2
  clear hb2 HC HZ hx x0 x1 x2
  go_wp2_with fail
  refine (HB.out _).mono ?_
  rintro e w4 ⟨rfl, hb4⟩
  replace hb0 := on hb0 hb4
  replace hr := hr.on hb4
  have hl2 := hr.1
  obtain ⟨p0, p1, p2, f0, f1, f2⟩ := hr.three
  obtain ⟨z0, z1, z2⟩ := three_set (u := .int .i64 4) (v := .int .i64 1) (r := .string ⟨#[]⟩) p0 p1 p2
  have hb5 := set3 hb0 (Nat.le_refl _) (.int .i64 4) (.int .i64 1) (.string ⟨#[]⟩)
  clear hb4 hb0 hr HB
  go_wp2_with fail
  exact bodyPost_ret (v := .agg #[.int .i64 4, .int .i64 1, .string ⟨#[]⟩]) (by simp [results, Tryz.results49, go_sem, z0, z1, z2]) rfl ⟨rfl, hb5⟩
set_option maxRecDepth 100000 in
set_option maxHeartbeats 1000000 in
theorem mean_in (A : Option Addr) (n cap : Nat) (L : List Vl) (hm : ∀ v ∈ L, v.may) (h0 : ¬ numsF L = []) (x t k0 n0 : Int) (b : Bool) (hx9 : x ≤ 9223372036854775807) (hv : allV addD 0 L = (1, x)) (ht : scaledD x 1 ((numsF L).length : Int) = (t, b)) (hg : gotV t b = (k0, n0))
    (w : World) (hz : ValsR w A n L) : Calls Tryz.prog 49 #[.slice A n cap] w (ValIs k0 n0 ⟨#[]⟩ w) := by
  obtain ⟨c, hc⟩ : ∃ c, (numsF L).length = c := ⟨_, rfl⟩
  have hc0 : ¬ c = 0 := fun e => h0 (List.eq_nil_of_length_eq_zero (by rw [hc, e]))
  have hc9 : c ≤ 1000 := by rw [← hc]; exact Nat.le_trans (numsF_len L) (by rw [hz.1]; exact hz.2.1)
  rw [hc] at ht
  have q1 : ((c : Int) == 0) = false := by simpa using hc0
  have q2 : (c == 0) = false := by simpa using hc0
  have HS := Lib.hid (fun w1 hz => sum_c A n cap L hm 1 x hv w1 hz)
  have HC := Lib.hid (fun w1 hz => count_c 1 A n cap L hm c (by rw [count_nums]; exact hc) w1 hz)
  have HD := Lib.hid (fun w1 => scaled_c x 1 (c : Int) hx9 (by omega) (by omega) t b ht w1)
  have HG := Lib.hid (fun w1 => got_c t b k0 n0 hg w1)
  have hb0 := below1 w (.cells #[.int .i64 0, .int .i64 0, .string ⟨#[]⟩] 26)
  have HZ := Lib.hid (hz.on hb0)
  have hr := CellsAt.new w [.int .i64 0, .int .i64 0, .string ⟨#[]⟩] 26
  clear hz hv hm h0 ht hg hc
  go_enter Tryz.func49, Tryz.ntmps49
  go_wp2_with fail
  generalize w.alloc (.cells #[.int .i64 0, .int .i64 0, .string ⟨#[]⟩] 26) = W at *
  refine (HS.out _ HZ.out).mono ?_
  rintro e w1 ⟨rfl, hb1⟩
  replace HZ := Lib.hid ((HZ.out.on hb1).on (below1 w1 (.cells #[.int .i64 1, .int .i64 x, .string ⟨#[]⟩] 26)))
  replace hb0 := on_alloc (on hb0 hb1) (.cells #[.int .i64 1, .int .i64 x, .string ⟨#[]⟩] 26)
  replace hr := (hr.on hb1).on_alloc (.cells #[.int .i64 1, .int .i64 x, .string ⟨#[]⟩] 26)
  clear hb1 HS
  have hx := CellsAt.new w1 [.int .i64 1, .int .i64 x, .string ⟨#[]⟩] 26
  obtain ⟨x0, x1, x2, _⟩ := hx.three
  go_wp2_with fail
  generalize w1.alloc (.cells #[.int .i64 1, .int .i64 x, .string ⟨#[]⟩] 26) = W1 at *
  refine (HC.out _ HZ.out).mono ?_
  rintro e w2 ⟨rfl, hb2⟩
  replace hb0 := on hb0 hb2
  replace hr := hr.on hb2
  have hx2 := hx.on hb2
  clear x0 x1 x2 hx
  obtain ⟨x0, x1, x2, _⟩ := hx2.three
  clear hb2 HC HZ
  go_wp2_with fail
  refine (HD.out _).mono ?_
  rintro e w3 ⟨rfl, hb3⟩
  replace hb3 := drawn_below hb3
  replace hb0 := on hb0 hb3
  replace hr := hr.on hb3
  clear hb3 HD hx2 x0 x1 x2
  go_wp2_with fail
  refine (HG.out _).mono ?_
  rintro e w4 ⟨rfl, hb4⟩
  replace hb0 := on hb0 hb4
  replace hr := hr.on hb4
  have hl2 := hr.1
  obtain ⟨p0, p1, p2, f0, f1, f2⟩ := hr.three
  obtain ⟨z0, z1, z2⟩ := three_set (u := .int .i64 k0) (v := .int .i64 n0) (r := .string ⟨#[]⟩) p0 p1 p2
  have hb5 := set3 hb0 (Nat.le_refl _) (.int .i64 k0) (.int .i64 n0) (.string ⟨#[]⟩)
  clear hb4 hb0 hr HG
  go_wp2_with fail
  exact bodyPost_ret (v := .agg #[.int .i64 k0, .int .i64 n0, .string ⟨#[]⟩]) (by simp [results, Tryz.results49, go_sem, z0, z1, z2]) rfl ⟨rfl, hb5⟩
theorem mean_c (A : Option Addr) (n cap : Nat) (L : List Vl) (hm : ∀ v ∈ L, v.may) (k0 n0 : Int) (hv : meanV L = (k0, n0)) (w : World) (hz : ValsR w A n L) : Calls Tryz.prog 49 #[.slice A n cap] w (ValIs k0 n0 ⟨#[]⟩ w) := by
  rcases mean_ways hv with ⟨p, x, h, rfl, rfl⟩ | ⟨h, h0, h1, rfl, rfl⟩ | ⟨h, h0, h1, rfl, rfl⟩ | ⟨x, t, b, h, h0, hx9, h1, h2, h3⟩
  · exact mean_bad A n cap L hm x.n (allV_yes h) w hz
  · exact mean_bad A n cap L hm 4 h1 w hz
  · exact mean_none A n cap L hm h0 h1 w hz
  · exact mean_in A n cap L hm h0 x t k0 n0 b hx9 h1 h2 h3 w hz
end Go.Proofs.YtbjomidkeignjaaGreatDoor.Fld
namespace Go.Proofs.YtbjomidkeignjaaGreatDoor.Fld
open Go.RowKit Kit Reg Dec Dig Val Txt

set_option maxRecDepth 100000 in
set_option maxHeartbeats 2000000 in
theorem rmean_fault (A : Option Addr) (n cap : Nat) (L : List Vl) (hm : ∀ v ∈ L, v.may) (p : Nat) (x : Vl) (h : FirstF L p x) (w : World) (hz : ValsR w A n L) : Calls Tryz.prog 50 #[.slice A n cap] w (ValIs 4 x.n ⟨#[]⟩ w) := by
  have HN := Lib.hid (fun w1 hz => rnumbers_yes A n cap L p x h w1 hz)
  have HS := Lib.hid (fun w1 hz => rsum_c A n cap L hm 4 x.n (allV_yes h) w1 hz)
  have HF := Lib.hid (fun w1 hz => rfault_yes A n cap L p x h w1 hz)
  have d1 : decide ((p : Int) < 0) = false := decide_eq_false (by omega)
  have hb0 := below1 w (.cells #[.int .i64 0, .int .i64 0, .string ⟨#[]⟩] 26)
  have HZ := Lib.hid (hz.on hb0)
  have hr := CellsAt.new w [.int .i64 0, .int .i64 0, .string ⟨#[]⟩] 26
  clear hz h hm
  generalize x.n = n0 at *
  go_enter Tryz.func50, Tryz.ntmps50
  go_wp2_with fail
  generalize w.alloc (.cells #[.int .i64 0, .int .i64 0, .string ⟨#[]⟩] 26) = W at *
  refine (HN.out _ HZ.out).mono ?_
  rintro e w1 ⟨rfl, hb1⟩
  replace HZ := Lib.hid (HZ.out.on hb1)
  replace hb0 := on hb0 hb1
  replace hr := hr.on hb1
  clear hb1 HN
  go_wp2_with fail
  refine (HS.out _ HZ.out).mono ?_
  rintro e w2 ⟨rfl, hb2⟩
  replace HZ := Lib.hid ((HZ.out.on hb2).on (below1 w2 (.cells #[.int .i64 4, .int .i64 n0, .string ⟨#[]⟩] 26)))
  replace hb0 := on_alloc (on hb0 hb2) (.cells #[.int .i64 4, .int .i64 n0, .string ⟨#[]⟩] 26)
  replace hr := (hr.on hb2).on_alloc (.cells #[.int .i64 4, .int .i64 n0, .string ⟨#[]⟩] 26)
  clear hb2 HS
  have hx := CellsAt.new w2 [.int .i64 4, .int .i64 n0, .string ⟨#[]⟩] 26
  obtain ⟨x0, x1, x2, _⟩ := hx.three
  go_wp2_with fail
  generalize w2.alloc (.cells #[.int .i64 4, .int .i64 n0, .string ⟨#[]⟩] 26) = W2 at *
  refine (HF.out _ HZ.out).mono ?_
  rintro e w3 ⟨rfl, rfl⟩
  clear HF
  have hl9 := hr.1
  obtain ⟨p0, p1, p2, f0, f1, f2⟩ := hr.three
  obtain ⟨z0, z1, z2⟩ := three_set (u := .int .i64 4) (v := .int .i64 n0) (r := .string ⟨#[]⟩) p0 p1 p2
  have hb5 := set3 hb0 (Nat.le_refl _) (.int .i64 4) (.int .i64 n0) (.string ⟨#[]⟩)
  clear hb0 hr
  go_wp2_with fail
  exact bodyPost_ret (v := .agg #[.int .i64 4, .int .i64 n0, .string ⟨#[]⟩]) (by simp [results, Tryz.results50, go_sem, z0, z1, z2]) rfl ⟨rfl, hb5⟩
set_option maxRecDepth 100000 in
set_option maxHeartbeats 2000000 in
theorem rmean_bad (A : Option Addr) (n cap : Nat) (L : List Vl) (hm : ∀ v ∈ L, v.may) (h : NoF L) (h0 : ¬ numsF L = []) (hv : allV addD 0 L = (4, 4)) (w : World) (hz : ValsR w A n L) : Calls Tryz.prog 50 #[.slice A n cap] w (ValIs 4 4 ⟨#[]⟩ w) := by
  have hc0 : ¬ (numsF L).length = 0 := fun e => h0 (List.eq_nil_of_length_eq_zero e)
  have q1 : (((numsF L).length : Int) == 0) = false := by simpa using h0
  have q2 : ((numsF L).length == 0) = false := by simpa using h0
  have HN := Lib.hid (fun w1 hz => rnumbers_no A n cap L h w1 hz)
  have HS := Lib.hid (fun w1 hz => rsum_c A n cap L hm 4 4 hv w1 hz)
  have HF := Lib.hid (fun w1 hz => rfault_no A n cap L h w1 hz)
  have hb0 := below1 w (.cells #[.int .i64 0, .int .i64 0, .string ⟨#[]⟩] 26)
  have HZ := Lib.hid (hz.on hb0)
  have hr := CellsAt.new w [.int .i64 0, .int .i64 0, .string ⟨#[]⟩] 26
  clear hz h hm hv h0
  generalize hc : (numsF L).length = c at *
  go_enter Tryz.func50, Tryz.ntmps50
  go_wp2_with fail
  generalize w.alloc (.cells #[.int .i64 0, .int .i64 0, .string ⟨#[]⟩] 26) = W at *
  refine (HN.out _ HZ.out).mono ?_
  rintro e w1 ⟨A2, c2, rfl, _, hb1⟩
  replace HZ := Lib.hid (HZ.out.on hb1)
  replace hb0 := on hb0 hb1
  replace hr := hr.on hb1
  clear hb1 HN
  go_wp2_with fail
  refine (HS.out _ HZ.out).mono ?_
  rintro e w2 ⟨rfl, hb2⟩
  replace HZ := Lib.hid ((HZ.out.on hb2).on (below1 w2 (.cells #[.int .i64 4, .int .i64 4, .string ⟨#[]⟩] 26)))
  replace hb0 := on_alloc (on hb0 hb2) (.cells #[.int .i64 4, .int .i64 4, .string ⟨#[]⟩] 26)
  replace hr := (hr.on hb2).on_alloc (.cells #[.int .i64 4, .int .i64 4, .string ⟨#[]⟩] 26)
  clear hb2 HS
  have hx := CellsAt.new w2 [.int .i64 4, .int .i64 4, .string ⟨#[]⟩] 26
  obtain ⟨x0, x1, x2, _⟩ := hx.three
  go_wp2_with fail
  generalize w2.alloc (.cells #[.int .i64 4, .int .i64 4, .string ⟨#[]⟩] 26) = W2 at *
  refine (HF.out _ HZ.out).mono ?_
  rintro e w3 ⟨rfl, rfl⟩
  clear HF
  have hl9 := hr.1
  obtain ⟨p0, p1, p2, f0, f1, f2⟩ := hr.three
  obtain ⟨z0, z1, z2⟩ := three_set (u := .int .i64 4) (v := .int .i64 4) (r := .string ⟨#[]⟩) p0 p1 p2
  have hb5 := set3 hb0 (Nat.le_refl _) (.int .i64 4) (.int .i64 4) (.string ⟨#[]⟩)
  clear hb0 hr
  go_wp2_with fail
  exact bodyPost_ret (v := .agg #[.int .i64 4, .int .i64 4, .string ⟨#[]⟩]) (by simp [results, Tryz.results50, go_sem, z0, z1, z2]) rfl ⟨rfl, hb5⟩
set_option maxRecDepth 100000 in
set_option maxHeartbeats 2000000 in
theorem rmean_none (A : Option Addr) (n cap : Nat) (L : List Vl) (hm : ∀ v ∈ L, v.may) (h : NoF L) (h0 : numsF L = []) (hv : allV addD 0 L = (1, 0)) (w : World) (hz : ValsR w A n L) : Calls Tryz.prog 50 #[.slice A n cap] w (ValIs 4 1 ⟨#[]⟩ w) := by
  have q1 : (((numsF L).length : Int) == 0) = true := by rw [h0]; rfl
  have q2 : ((numsF L).length == 0) = true := by rw [h0]; rfl
  have HN := Lib.hid (fun w1 hz => rnumbers_no A n cap L h w1 hz)
  have HS := Lib.hid (fun w1 hz => rsum_c A n cap L hm 1 0 hv w1 hz)
  have HF := Lib.hid (fun w1 hz => rfault_no A n cap L h w1 hz)
  have HB := Lib.hid (fun w1 => rbad_c 1 w1)
  rw [bad_in (by omega) (by omega)] at HB
  have hb0 := below1 w (.cells #[.int .i64 0, .int .i64 0, .string ⟨#[]⟩] 26)
  have HZ := Lib.hid (hz.on hb0)
  have hr := CellsAt.new w [.int .i64 0, .int .i64 0, .string ⟨#[]⟩] 26
  clear hz h hm hv h0
  generalize hc : (numsF L).length = c at *
  go_enter Tryz.func50, Tryz.ntmps50
  go_wp2_with fail
  generalize w.alloc (.cells #[.int .i64 0, .int .i64 0, .string ⟨#[]⟩] 26) = W at *
  refine (HN.out _ HZ.out).mono ?_
  rintro e w1 ⟨A2, c2, rfl, _, hb1⟩
  replace HZ := Lib.hid (HZ.out.on hb1)
  replace hb0 := on hb0 hb1
  replace hr := hr.on hb1
  clear hb1 HN
  go_wp2_with fail
  refine (HS.out _ HZ.out).mono ?_
  rintro e w2 ⟨rfl, hb2⟩
  replace HZ := Lib.hid ((HZ.out.on hb2).on (below1 w2 (.cells #[.int .i64 1, .int .i64 0, .string ⟨#[]⟩] 26)))
  replace hb0 := on_alloc (on hb0 hb2) (.cells #[.int .i64 1, .int .i64 0, .string ⟨#[]⟩] 26)
  replace hr := (hr.on hb2).on_alloc (.cells #[.int .i64 1, .int .i64 0, .string ⟨#[]⟩] 26)
  clear hb2 HS
  have hx := CellsAt.new w2 [.int .i64 1, .int .i64 0, .string ⟨#[]⟩] 26
  obtain ⟨x0, x1, x2, _⟩ := hx.three
  go_wp2_with fail
  generalize w2.alloc (.cells #[.int .i64 1, .int .i64 0, .string ⟨#[]⟩] 26) = W2 at *
  refine (HF.out _ HZ.out).mono ?_
  rintro e w3 ⟨rfl, rfl⟩
  clear HF
  clear HZ hx x0 x1 x2
  go_wp2_with fail
  refine (HB.out _).mono ?_
  rintro e w4 ⟨rfl, hb4⟩
  replace hb0 := on hb0 hb4
  replace hr := hr.on hb4
  clear hb4 HB
  have hl9 := hr.1
  obtain ⟨p0, p1, p2, f0, f1, f2⟩ := hr.three
  obtain ⟨z0, z1, z2⟩ := three_set (u := .int .i64 4) (v := .int .i64 1) (r := .string ⟨#[]⟩) p0 p1 p2
  have hb5 := set3 hb0 (Nat.le_refl _) (.int .i64 4) (.int .i64 1) (.string ⟨#[]⟩)
  clear hb0 hr
  go_wp2_with fail
  exact bodyPost_ret (v := .agg #[.int .i64 4, .int .i64 1, .string ⟨#[]⟩]) (by simp [results, Tryz.results50, go_sem, z0, z1, z2]) rfl ⟨rfl, hb5⟩
set_option maxRecDepth 100000 in
set_option maxHeartbeats 2000000 in
theorem rmean_in (A : Option Addr) (n cap : Nat) (L : List Vl) (hm : ∀ v ∈ L, v.may) (h : NoF L) (h0 : ¬ numsF L = []) (x t k0 n0 : Int) (b : Bool) (hx9 : x ≤ 9223372036854775807) (hv : allV addD 0 L = (1, x)) (ht : scaledD x 1 ((numsF L).length : Int) = (t, b)) (hg : gotV t b = (k0, n0))
    (w : World) (hz : ValsR w A n L) : Calls Tryz.prog 50 #[.slice A n cap] w (ValIs k0 n0 ⟨#[]⟩ w) := by
  have q1 : (((numsF L).length : Int) == 0) = false := by simpa using h0
  have q2 : ((numsF L).length == 0) = false := by simpa using h0
  have hc9 : (numsF L).length ≤ 1000 := Nat.le_trans (numsF_len L) (by rw [hz.1]; exact hz.2.1)
  have HN := Lib.hid (fun w1 hz => rnumbers_no A n cap L h w1 hz)
  have HS := Lib.hid (fun w1 hz => rsum_c A n cap L hm 1 x hv w1 hz)
  have HF := Lib.hid (fun w1 hz => rfault_no A n cap L h w1 hz)
  have HD := Lib.hid (fun w1 => rscaled_c x 1 ((numsF L).length : Int) hx9 (by omega) (by omega) t b ht w1)
  have HG := Lib.hid (fun w1 => rof_c t b k0 n0 hg w1)
  have hb0 := below1 w (.cells #[.int .i64 0, .int .i64 0, .string ⟨#[]⟩] 26)
  have HZ := Lib.hid (hz.on hb0)
  have hr := CellsAt.new w [.int .i64 0, .int .i64 0, .string ⟨#[]⟩] 26
  clear hz h hm hv h0 ht hg
  generalize hc : (numsF L).length = c at *
  go_enter Tryz.func50, Tryz.ntmps50
  go_wp2_with fail
  generalize w.alloc (.cells #[.int .i64 0, .int .i64 0, .string ⟨#[]⟩] 26) = W at *
  refine (HN.out _ HZ.out).mono ?_
  rintro e w1 ⟨A2, c2, rfl, _, hb1⟩
  replace HZ := Lib.hid (HZ.out.on hb1)
  replace hb0 := on hb0 hb1
  replace hr := hr.on hb1
  clear hb1 HN
  go_wp2_with fail
  refine (HS.out _ HZ.out).mono ?_
  rintro e w2 ⟨rfl, hb2⟩
  replace HZ := Lib.hid ((HZ.out.on hb2).on (below1 w2 (.cells #[.int .i64 1, .int .i64 x, .string ⟨#[]⟩] 26)))
  replace hb0 := on_alloc (on hb0 hb2) (.cells #[.int .i64 1, .int .i64 x, .string ⟨#[]⟩] 26)
  replace hr := (hr.on hb2).on_alloc (.cells #[.int .i64 1, .int .i64 x, .string ⟨#[]⟩] 26)
  clear hb2 HS
  have hx := CellsAt.new w2 [.int .i64 1, .int .i64 x, .string ⟨#[]⟩] 26
  obtain ⟨x0, x1, x2, _⟩ := hx.three
  go_wp2_with fail
  generalize w2.alloc (.cells #[.int .i64 1, .int .i64 x, .string ⟨#[]⟩] 26) = W2 at *
  refine (HF.out _ HZ.out).mono ?_
  rintro e w3 ⟨rfl, rfl⟩
  clear HF
  clear HZ
  go_wp2_with fail
  refine (HD.out _).mono ?_
  rintro e w4 ⟨rfl, hb4⟩
  replace hb0 := on hb0 hb4
  replace hr := hr.on hb4
  clear hb4 HD hx x0 x1 x2
  go_wp2_with fail
  refine (HG.out _).mono ?_
  rintro e w5 ⟨rfl, hb6⟩
  replace hb0 := on hb0 hb6
  replace hr := hr.on hb6
  clear hb6 HG
  have hl9 := hr.1
  obtain ⟨p0, p1, p2, f0, f1, f2⟩ := hr.three
  obtain ⟨z0, z1, z2⟩ := three_set (u := .int .i64 k0) (v := .int .i64 n0) (r := .string ⟨#[]⟩) p0 p1 p2
  have hb5 := set3 hb0 (Nat.le_refl _) (.int .i64 k0) (.int .i64 n0) (.string ⟨#[]⟩)
  clear hb0 hr
  go_wp2_with fail
  exact bodyPost_ret (v := .agg #[.int .i64 k0, .int .i64 n0, .string ⟨#[]⟩]) (by simp [results, Tryz.results50, go_sem, z0, z1, z2]) rfl ⟨rfl, hb5⟩
theorem rmean_c (A : Option Addr) (n cap : Nat) (L : List Vl) (hm : ∀ v ∈ L, v.may) (k0 n0 : Int) (hv : meanV L = (k0, n0)) (w : World) (hz : ValsR w A n L) : Calls Tryz.prog 50 #[.slice A n cap] w (ValIs k0 n0 ⟨#[]⟩ w) := by
  rcases mean_ways hv with ⟨p, x, h, rfl, rfl⟩ | ⟨h, h0, h1, rfl, rfl⟩ | ⟨h, h0, h1, rfl, rfl⟩ | ⟨x, t, b, h, h0, hx9, h1, h2, h3⟩
  · exact rmean_fault A n cap L hm p x h w hz
  · exact rmean_bad A n cap L hm h h0 h1 w hz
  · exact rmean_none A n cap L hm h h0 h1 w hz
  · exact rmean_in A n cap L hm h h0 x t k0 n0 b hx9 h1 h2 h3 w hz
end Go.Proofs.YtbjomidkeignjaaGreatDoor.Fld

/- The reference's steps, what comes of all numbers, and what All answers.
   How many values are of a kind: the program's Count and the reference's.
   What Mean answers, the program's and the reference's.
   Slices of numbers: what they read as, rows of one's own, appends; the library's Index and Contains. -/
import Derived.Test.YtebjedbppiphgaaGreatDoorKfa26
import Derived.Test.YtebjedbppiphgaaGreatDoorKfa21
import Derived.Test.YtebjedbppiphgaaGreatDoorKfa08
import Derived.Test.YtebjedbppiphgaaGreatDoorKfa09
import Derived.Test.YtebjedbppiphgaaGreatDoorKfa19
import Derived.Laws.OwnMore
import Derived.Laws.AppendOwnNone
import Derived.Maps.AppendAt
namespace Go.Proofs.YtebjedbppiphgaaGreatDoor.Fld
open Go.RowKit Kit Reg Dec Dig Val Txt
/-- the memory of Total: the result's block, and what came so far -/
def TotMem (w wr : World) (q : Int) (b : Bool) : Prop := Below w.heap.size w wr ∧ CellsAt wr w.heap.size [.int .i64 0, .bool false] ∧ CellsAt wr (w.heap.size + 1) [.int .i64 q, .bool b]
theorem TotMem.start (w : World) (n : Int) (b : Bool) : TotMem w ((w.alloc (.cells #[.int .i64 0, .bool false] 55)).alloc (.cells #[.int .i64 n, .bool b] 55)) n b := by
  refine ⟨below2 _ _ _, (CellsAt.new w [.int .i64 0, .bool false] _).on_alloc _, ?_⟩
  have h := CellsAt.new (w.alloc (.cells #[.int .i64 0, .bool false] 55)) [.int .i64 n, .bool b] 55
  rw [show (w.alloc (.cells #[.int .i64 0, .bool false] 55)).heap.size = w.heap.size + 1 by simp] at h
  exact h
theorem TotMem.on {w wr wr' : World} {q : Int} {b : Bool} (h : TotMem w wr q b) (hb : Below wr.heap.size wr wr') : TotMem w wr' q b :=
  ⟨Kit.on h.1 hb, h.2.1.on hb, h.2.2.on hb⟩
theorem TotMem.put {w wr : World} {q : Int} {b : Bool} (h : TotMem w wr q b) (n : Int) (k : Bool) : TotMem w (put2 wr (w.heap.size + 1) (.int .i64 n) (.bool k)) n k :=
  ⟨set2 h.1 (by omega) _ _, h.2.1.put2_far (by omega) _ _, h.2.2.put2 _ _⟩
end Go.Proofs.YtebjedbppiphgaaGreatDoor.Fld
namespace Go.Proofs.YtebjedbppiphgaaGreatDoor.Fld
open Go.RowKit Kit Reg Dec Dig Val Txt
/-- which of the kinds is asked, in the program's tests -/
theorem kind_ways (k : Int) : k = 1 ∨ k = 0 ∨ ((k == 1) = false ∧ (k == 0) = false ∧ (k != 0) = true ∧ (k != 1) = true ∧ ¬ k = 1 ∧ ¬ k = 0) := by
  by_cases h1 : k = 1
  · exact .inl h1
  · by_cases h0 : k = 0
    · exact .inr (.inl h0)
    · have e1 : (k == 1) = false := by simpa using h1
      have e0 : (k == 0) = false := by simpa using h0
      exact .inr (.inr ⟨e1, e0, by rw [bne, e0]; rfl, by rw [bne, e1]; rfl, h1, h0⟩)
set_option maxRecDepth 100000 in
set_option maxHeartbeats 2000000 in
theorem counts_c (v : Vl) (hm : v.may) (kind : Int) (b : Bool) (hb : isK kind v = b) (w : World) : Calls Tryz.prog 231 #[.agg #[.int .i64 v.k, .int .i64 v.n, .string v.t], .int .i64 kind] w fun e w' => e = .returned (.bool b) ∧ Below w.heap.size w w' := by
  have HStr : Hid (∀ w1, Calls Tryz.prog 24 #[.string ⟨#[]⟩] w1 (ValIs 2 0 ⟨#[]⟩ w1)) := Lib.hid (fun w1 => str_c ⟨#[]⟩ 2 0 ⟨#[]⟩ (str_in (by decide)) w1)
  have HM := may_ways hm
  obtain ⟨vk, vn, vt⟩ := v
  dsimp only
  have hb0 := below1 w (.cells #[.int .i64 vk, .int .i64 vn, .string vt] 23)
  have hr := CellsAt.new w [.int .i64 vk, .int .i64 vn, .string vt] 23
  rcases kind_ways kind with rfl | rfl | ⟨q1, q2, q3, q4, n1, n2⟩
  · have hb2 : (vk == 1) = b := by
      rw [← hb]
      unfold isK
      rw [if_pos rfl]
      by_cases h : vk = 1 <;> simp [h]
    clear hb hm HM
    go_enter Tryz.func231, Tryz.ntmps231
    go_wp2_with fail
    go_ret
    exact ⟨ret_bool rfl, hb0⟩
  · have hwy : (vk = 0 ∧ b = true) ∨ ((vk == 0) = false ∧ vk = 2 ∧ vn = 0 ∧ vt = ⟨#[]⟩ ∧ b = true) ∨ ((vk == 0) = false ∧ vk = 2 ∧ vn = 0 ∧ ¬ vt.toList = [] ∧ (vt.toList == []) = false ∧ b = false) ∨ ((vk == 0) = false ∧ (vk == 2) = false ∧ b = false) := by
      have hb2 : (decide (vk = 0) || (decide (vk = 2) && decide (vt = ⟨#[]⟩))) = b := by
        rw [← hb]
        rfl
      subst hb2
      rcases HM with h | ⟨n, h, _⟩ | ⟨t, h, _⟩ | h | h | ⟨n, h, _⟩
      all_goals
        obtain ⟨rfl, rfl, rfl⟩ := Vl.mk.inj h
      · exact .inl ⟨rfl, rfl⟩
      · exact .inr (.inr (.inr ⟨rfl, rfl, rfl⟩))
      · rcases empty_or vt with rfl | ⟨h1, h2⟩
        · exact .inr (.inl ⟨rfl, rfl, rfl, rfl, rfl⟩)
        · refine .inr (.inr (.inl ⟨rfl, rfl, rfl, h1, by rw [beq_eq_false_iff_ne]; exact h1, ?_⟩))
          have h3 : ¬ vt = ⟨#[]⟩ := fun e => h1 (by rw [e, Lib.toList_data])
          simp [h3]
      · exact .inr (.inr (.inr ⟨rfl, rfl, rfl⟩))
      · exact .inr (.inr (.inr ⟨rfl, rfl, rfl⟩))
      · exact .inr (.inr (.inr ⟨rfl, rfl, rfl⟩))
    clear hb hm HM
    rcases hwy with ⟨rfl, rfl⟩ | ⟨q1, rfl, rfl, rfl, rfl⟩ | ⟨q1, rfl, rfl, h1, q2, rfl⟩ | ⟨q1, q2, rfl⟩
    all_goals
      go_enter Tryz.func231, Tryz.ntmps231
      go_wp2_with fail
      generalize hW : World.alloc w _ = W at *
      obtain ⟨x0, x1, x2, _⟩ := hr.three
      have C0 := fun d os => cell_regrown x0 d os
      have C1 := fun d os => cell_regrown x1 d os
      have C2 := fun d os => cell_regrown x2 d os
      clear x0 x1 x2 hW
      refine wp_region_mem 9 (fun d => match d with
        | 18 => some (Is (.agg #[.int .i64 2, .int .i64 0, .string ⟨#[]⟩]))
        | _ => none) (by kernel_rfl) (by kernel_rfl) ?_
      simp only [List.take_succ_cons, List.take_zero, List.drop_succ_cons, List.drop_zero]
      repeat (first | (refine wpM_calm rfl rfl rfl ?_; intro K hK; go_big_quiet_op; go_big_quiet_on) | (refine wpM_skip rfl ?_; simp only [Act.put, List.setIfInBounds_toArray, List.set_cons_succ, List.set_cons_zero]))
      try refine wpM_exact rfl rfl rfl Tryz.func24 (by kernel_rfl) (by kernel_rfl) (fun w1 _ _ => HStr.out w1) rfl (by simp only [Act.put, List.setIfInBounds_toArray, List.set_cons_succ, List.set_cons_zero]; rfl) ?_
      repeat (first | (refine wpM_calm rfl rfl rfl ?_; intro K hK; go_big_quiet_op; go_big_quiet_on) | (refine wpM_skip rfl ?_; simp only [Act.put, List.setIfInBounds_toArray, List.set_cons_succ, List.set_cons_zero]))
      refine wpM_nil ?_
      intro w4 hb4 _
      have hb5 := on hb0 hb4
      clear hb4 C0 C1 C2
      go_wp2
      go_ret
      exact ⟨ret_bool rfl, hb5⟩
  · have hb2 : (vk != 0) = b := by
      rw [← hb]
      unfold isK
      rw [if_neg n1, if_neg n2]
      by_cases h : vk = 0 <;> simp [h]
    clear hb hm HM n1 n2
    go_enter Tryz.func231, Tryz.ntmps231
    go_wp2_with fail
    go_ret
    exact ⟨ret_bool rfl, hb0⟩
set_option maxRecDepth 100000 in
set_option maxHeartbeats 2000000 in
theorem count_c (kind : Int) (A : Option Addr) (n cap : Nat) (L : List Vl) (hm : ∀ v ∈ L, v.may) (c : Nat) (hc : countF kind L = c) (w : World) (hz : ValsR w A n L) : Calls Tryz.prog 125 #[.slice A n cap, .int .i64 kind] w fun e w' => e = .returned (.int .i64 (c : Int)) ∧ Below w.heap.size w w' := by
  have HZ := Lib.hid hz
  have HM : Hid (∀ (k : Nat) (v : Vl), L[k]? = some v → v.may) := Lib.hid fun k v hv => hm v (List.mem_of_getElem? hv)
  have HC := Lib.hid hc
  have hn9 := hz.2.1
  have HP := Lib.hid (fun v hm b hb w1 => counts_c v hm kind b hb w1)
  clear hz hm hc
  go_enter Tryz.func125, Tryz.ntmps125
  go_wp2_with fail
  go_loopw [5, 10] (fun o i wr => ∃ (k j : Nat), k ≤ n ∧ i = .int .i64 k ∧ o = .int .i64 j ∧ j ≤ k ∧ Hid (countF kind (L.take k) = j) ∧ Below w.heap.size w wr) (fun _ i _ => n - (intOf i).toNat)
  case atStart => exact ⟨0, 0, Nat.zero_le _, rfl, rfl, Nat.le_refl _, Lib.hid rfl, Below.refl _ _⟩
  case round =>
    obtain ⟨k, j, hk, rfl, rfl, hj, HJ, hb0⟩ := hrel
    by_cases hlt : k < n
    · obtain ⟨v, hv⟩ := HZ.out.get hlt
      obtain ⟨b, o, rfl, hb, c0, c1, c2⟩ := (HZ.out.on hb0).at hv
      obtain ⟨q, hq⟩ : ∃ q, isK kind v = q := ⟨_, rfl⟩
      have HP2 := Lib.hid (HP.out v (HM.out k v hv) q hq)
      have HN : Hid (countF kind (L.take (k + 1)) = if q = true then j + 1 else j) := Lib.hid (by
        cases q
        · rw [count_miss hv hq, HJ.out]; rfl
        · rw [count_hit hv hq, HJ.out]; rfl)
      obtain ⟨vk, vn, vt⟩ := v
      dsimp only at c0 c1 c2 HP2
      have hx := CellsAt.new wr [.int .i64 vk, .int .i64 vn, .string vt] 23
      obtain ⟨x0, x1, x2, _⟩ := hx.three
      replace hb0 := on_alloc hb0 (.cells #[.int .i64 vk, .int .i64 vn, .string vt] 23)
      clear hv hq HJ HP
      cases q
      · replace HN : Hid (countF kind (L.take (k + 1)) = j) := HN
        go_wp2_with fail
        refine (HP2.out _).mono ?_
        rintro e w1 ⟨rfl, hb1⟩
        replace hb0 := on hb0 hb1
        clear hb1 HP2 c0 c1 c2 hx x0 x1 x2
        go_wp2_with fail
        go_roundw
        case rel => exact ⟨k + 1, j, by omega, by go_num, rfl, by omega, HN, hb0⟩
        case measure => simp [intOf]; omega
      · replace HN : Hid (countF kind (L.take (k + 1)) = j + 1) := HN
        go_wp2_with fail
        refine (HP2.out _).mono ?_
        rintro e w1 ⟨rfl, hb1⟩
        replace hb0 := on hb0 hb1
        clear hb1 HP2 c0 c1 c2 hx x0 x1 x2
        go_wp2_with fail
        go_roundw
        case rel => exact ⟨k + 1, j + 1, by omega, by go_num, by go_num, by omega, HN, hb0⟩
        case measure => simp [intOf]; omega
    · obtain rfl : k = n := by omega
      obtain rfl : j = c := by
        have h := HJ.out
        rw [List.take_of_length_le (by rw [HZ.out.1]; omega), HC.out] at h
        exact h.symm
      clear HP HJ
      go_wp2_with fail
      go_ret
      exact ⟨rfl, hb0⟩
end Go.Proofs.YtebjedbppiphgaaGreatDoor.Fld
namespace Go.Proofs.YtebjedbppiphgaaGreatDoor.Fld
open Go.RowKit Kit Reg Dec Dig Val Txt
theorem total_room : ∀ (xs : List Int) (s n : Int) (b : Bool), s ≤ 9223372036854775807 → totalD addD s xs = (n, b) → n ≤ 9223372036854775807
  | [], s, n, b, hs, h => by
    have := (Prod.mk.inj h).1
    omega
  | x :: r, s, n, b, hs, h => by
    rcases ha : addD s x with ⟨m, c⟩
    rw [totalD, ha] at h
    have hm := addD_room ha
    cases c
    · have := (Prod.mk.inj h).1
      omega
    · exact total_room r m n b hm h
theorem sum_room {L : List Vl} (h : NoF L) {x : Int} (hv : allV addD 0 L = (1, x)) : x ≤ 9223372036854775807 := by
  rw [allV_no h] at hv
  unfold allD at hv
  by_cases h0 : numsF L = []
  · rw [if_pos h0] at hv
    have := (Prod.mk.inj hv).2
    omega
  · rw [if_neg h0] at hv
    rcases e : totalD addD 0 (numsF L) with ⟨a, b⟩
    rw [e] at hv
    have ha := total_room _ _ _ _ (by omega) e
    rcases got_kind a b with ⟨g, _⟩ | g
    · rw [g] at hv
      have := (Prod.mk.inj hv).2
      omega
    · rw [g] at hv
      exact absurd (Prod.mk.inj hv).1 (by decide)
/-- the ways of the middle -/
theorem mean_ways {L : List Vl} {k0 n0 : Int} (hv : meanV L = (k0, n0)) : (∃ p x, FirstF L p x ∧ k0 = 4 ∧ n0 = x.n) ∨ (NoF L ∧ ¬ numsF L = [] ∧ allV addD 0 L = (4, 4) ∧ k0 = 4 ∧ n0 = 4) ∨ (NoF L ∧ numsF L = [] ∧ allV addD 0 L = (1, 0) ∧ k0 = 4 ∧ n0 = 1) ∨
    ∃ x t b, NoF L ∧ ¬ numsF L = [] ∧ x ≤ 9223372036854775807 ∧ allV addD 0 L = (1, x) ∧ scaledD x 1 ((numsF L).length : Int) = (t, b) ∧ gotV t b = (k0, n0) := by
  rcases fault_ways L with h | ⟨p, x, h⟩
  · right
    by_cases h0 : numsF L = []
    · right; left
      rw [meanV_none h h0] at hv
      obtain ⟨rfl, rfl⟩ := Prod.mk.inj hv
      refine ⟨h, h0, ?_, rfl, rfl⟩
      rw [allV_no h]
      exact if_pos h0
    · rcases allD_kind addD 0 (numsF L) with h1 | h1
      · right; right
        rcases e : allD addD 0 (numsF L) with ⟨k1, x⟩
        rw [e] at h1
        obtain rfl : k1 = 1 := h1
        rw [meanV_in h h0 e] at hv
        have e2 : allV addD 0 L = (1, x) := by rw [allV_no h]; exact e
        exact ⟨x, _, _, h, h0, sum_room h e2, e2, rfl, hv⟩
      · left
        rw [meanV_out h h0 h1] at hv
        obtain ⟨rfl, rfl⟩ := Prod.mk.inj hv
        exact ⟨h, h0, by rw [allV_no h]; exact h1, rfl, rfl⟩
  · left
    rw [meanV_yes h] at hv
    obtain ⟨rfl, rfl⟩ := Prod.mk.inj hv
    exact ⟨p, x, h, rfl, rfl⟩
set_option maxRecDepth 100000 in
set_option maxHeartbeats 1000000 in
theorem mean_bad (A : Option Addr) (n cap : Nat) (L : List Vl) (hm : ∀ v ∈ L, v.may) (n0 : Int) (hv : allV addD 0 L = (4, n0)) (w : World) (hz : ValsR w A n L) : Calls Tryz.prog 124 #[.slice A n cap] w (ValIs 4 n0 ⟨#[]⟩ w) := by
  have HS := Lib.hid (fun w1 hz => sum_c A n cap L hm 4 n0 hv w1 hz)
  have hb0 := below1 w (.cells #[.int .i64 0, .int .i64 0, .string ⟨#[]⟩] 23)
  have HZ := Lib.hid (hz.on hb0)
  have hr := CellsAt.new w [.int .i64 0, .int .i64 0, .string ⟨#[]⟩] 23
  clear hz hv hm
  go_enter Tryz.func124, Tryz.ntmps124
  go_wp2_with fail
  generalize w.alloc (.cells #[.int .i64 0, .int .i64 0, .string ⟨#[]⟩] 23) = W at *
  refine (HS.out _ HZ.out).mono ?_
  rintro e w1 ⟨rfl, hb1⟩
  replace hb0 := on hb0 hb1
  replace hr := hr.on hb1
  have hl := hr.1
  clear hb1 HS HZ
  have hx := CellsAt.new w1 [.int .i64 4, .int .i64 n0, .string ⟨#[]⟩] 23
  obtain ⟨x0, x1, x2, _⟩ := hx.three
  obtain ⟨p0, p1, p2, f0, f1, f2⟩ := hr.three
  obtain ⟨z0, z1, z2⟩ := three_set (u := .int .i64 4) (v := .int .i64 n0) (r := .string ⟨#[]⟩) p0 p1 p2
  replace z0 := kept_alloc (.cells #[.int .i64 4, .int .i64 n0, .string ⟨#[]⟩] 23) z0
  replace z1 := kept_alloc (.cells #[.int .i64 4, .int .i64 n0, .string ⟨#[]⟩] 23) z1
  replace z2 := kept_alloc (.cells #[.int .i64 4, .int .i64 n0, .string ⟨#[]⟩] 23) z2
  have hb5 := on_alloc (set3 hb0 (Nat.le_refl _) (.int .i64 4) (.int .i64 n0) (.string ⟨#[]⟩)) (.cells #[.int .i64 4, .int .i64 n0, .string ⟨#[]⟩] 23)
  go_wp2_with fail
  exact bodyPost_ret (v := .agg #[.int .i64 4, .int .i64 n0, .string ⟨#[]⟩]) (by simp [results, Tryz.results124, go_sem, z0, z1, z2]) rfl ⟨rfl, hb5⟩
set_option maxRecDepth 100000 in
set_option maxHeartbeats 1000000 in
theorem mean_none (A : Option Addr) (n cap : Nat) (L : List Vl) (hm : ∀ v ∈ L, v.may) (h0 : numsF L = []) (hv : allV addD 0 L = (1, 0)) (w : World) (hz : ValsR w A n L) : Calls Tryz.prog 124 #[.slice A n cap] w (ValIs 4 1 ⟨#[]⟩ w) := by
  have HS := Lib.hid (fun w1 hz => sum_c A n cap L hm 1 0 hv w1 hz)
  have HC := Lib.hid (fun w1 hz => count_c 1 A n cap L hm 0 (by rw [count_nums, h0]; rfl) w1 hz)
  have HB := Lib.hid (fun w1 => bad_c 1 w1)
  rw [bad_in (by omega) (by omega)] at HB
  have hb0 := below1 w (.cells #[.int .i64 0, .int .i64 0, .string ⟨#[]⟩] 23)
  have HZ := Lib.hid (hz.on hb0)
  have hr := CellsAt.new w [.int .i64 0, .int .i64 0, .string ⟨#[]⟩] 23
  clear hz hv hm h0
  go_enter Tryz.func124, Tryz.ntmps124
  go_wp2_with fail
  generalize w.alloc (.cells #[.int .i64 0, .int .i64 0, .string ⟨#[]⟩] 23) = W at *
  refine (HS.out _ HZ.out).mono ?_
  rintro e w1 ⟨rfl, hb1⟩
  replace HZ := Lib.hid ((HZ.out.on hb1).on (below1 w1 (.cells #[.int .i64 1, .int .i64 0, .string ⟨#[]⟩] 23)))
  replace hb0 := on_alloc (on hb0 hb1) (.cells #[.int .i64 1, .int .i64 0, .string ⟨#[]⟩] 23)
  replace hr := (hr.on hb1).on_alloc (.cells #[.int .i64 1, .int .i64 0, .string ⟨#[]⟩] 23)
  clear hb1 HS
  have hx := CellsAt.new w1 [.int .i64 1, .int .i64 0, .string ⟨#[]⟩] 23
  obtain ⟨x0, x1, x2, _⟩ := hx.three
  go_wp2_with fail
  generalize w1.alloc (.cells #[.int .i64 1, .int .i64 0, .string ⟨#[]⟩] 23) = W1 at *
  refine (HC.out _ HZ.out).mono ?_
  rintro e w2 ⟨rfl, hb2⟩
  replace hb0 := on hb0 hb2
  replace hr := hr.on hb2
  clear hb2 HC HZ hx x0 x1 x2
  go_wp2_with fail
  refine (HB.out _).mono ?_
  rintro e w4 ⟨rfl, hb4⟩
  replace hb0 := on hb0 hb4
  replace hr := hr.on hb4
  have hl2 := hr.1
  obtain ⟨p0, p1, p2, f0, f1, f2⟩ := hr.three
  obtain ⟨z0, z1, z2⟩ := three_set (u := .int .i64 4) (v := .int .i64 1) (r := .string ⟨#[]⟩) p0 p1 p2
  have hb5 := set3 hb0 (Nat.le_refl _) (.int .i64 4) (.int .i64 1) (.string ⟨#[]⟩)
  clear hb4 hb0 hr HB
  go_wp2_with fail
  exact bodyPost_ret (v := .agg #[.int .i64 4, .int .i64 1, .string ⟨#[]⟩]) (by simp [results, Tryz.results124, go_sem, z0, z1, z2]) rfl ⟨rfl, hb5⟩
set_option maxRecDepth 100000 in
set_option maxHeartbeats 1000000 in
theorem mean_in (A : Option Addr) (n cap : Nat) (L : List Vl) (hm : ∀ v ∈ L, v.may) (h0 : ¬ numsF L = []) (x t k0 n0 : Int) (b : Bool) (hx9 : x ≤ 9223372036854775807) (hv : allV addD 0 L = (1, x)) (ht : scaledD x 1 ((numsF L).length : Int) = (t, b)) (hg : gotV t b = (k0, n0))
    (w : World) (hz : ValsR w A n L) : Calls Tryz.prog 124 #[.slice A n cap] w (ValIs k0 n0 ⟨#[]⟩ w) := by
  obtain ⟨c, hc⟩ : ∃ c, (numsF L).length = c := ⟨_, rfl⟩
  have hc0 : ¬ c = 0 := fun e => h0 (List.eq_nil_of_length_eq_zero (by rw [hc, e]))
  have hc9 : c ≤ 1000 := by rw [← hc]; exact Nat.le_trans (numsF_len L) (by rw [hz.1]; exact hz.2.1)
  rw [hc] at ht
  have q1 : ((c : Int) == 0) = false := by simpa using hc0
  have q2 : (c == 0) = false := by simpa using hc0
  have HS := Lib.hid (fun w1 hz => sum_c A n cap L hm 1 x hv w1 hz)
  have HC := Lib.hid (fun w1 hz => count_c 1 A n cap L hm c (by rw [count_nums]; exact hc) w1 hz)
  have HD := Lib.hid (fun w1 => scaled_c x 1 (c : Int) hx9 (by omega) (by omega) t b ht w1)
  have HG := Lib.hid (fun w1 => got_c t b k0 n0 hg w1)
  have hb0 := below1 w (.cells #[.int .i64 0, .int .i64 0, .string ⟨#[]⟩] 23)
  have HZ := Lib.hid (hz.on hb0)
  have hr := CellsAt.new w [.int .i64 0, .int .i64 0, .string ⟨#[]⟩] 23
  clear hz hv hm h0 ht hg hc
  go_enter Tryz.func124, Tryz.ntmps124
  go_wp2_with fail
  generalize w.alloc (.cells #[.int .i64 0, .int .i64 0, .string ⟨#[]⟩] 23) = W at *
  refine (HS.out _ HZ.out).mono ?_
  rintro e w1 ⟨rfl, hb1⟩
  replace HZ := Lib.hid ((HZ.out.on hb1).on (below1 w1 (.cells #[.int .i64 1, .int .i64 x, .string ⟨#[]⟩] 23)))
  replace hb0 := on_alloc (on hb0 hb1) (.cells #[.int .i64 1, .int .i64 x, .string ⟨#[]⟩] 23)
  replace hr := (hr.on hb1).on_alloc (.cells #[.int .i64 1, .int .i64 x, .string ⟨#[]⟩] 23)
  clear hb1 HS
  have hx := CellsAt.new w1 [.int .i64 1, .int .i64 x, .string ⟨#[]⟩] 23
  obtain ⟨x0, x1, x2, _⟩ := hx.three
  go_wp2_with fail
  generalize w1.alloc (.cells #[.int .i64 1, .int .i64 x, .string ⟨#[]⟩] 23) = W1 at *
  refine (HC.out _ HZ.out).mono ?_
  rintro e w2 ⟨rfl, hb2⟩
  replace hb0 := on hb0 hb2
  replace hr := hr.on hb2
  have hx2 := hx.on hb2
  clear x0 x1 x2 hx
  obtain ⟨x0, x1, x2, _⟩ := hx2.three
  clear hb2 HC HZ
  go_wp2_with fail
  refine (HD.out _).mono ?_
  rintro e w3 ⟨rfl, hb3⟩
  replace hb3 := drawn_below hb3
  replace hb0 := on hb0 hb3
  replace hr := hr.on hb3
  clear hb3 HD hx2 x0 x1 x2
  go_wp2_with fail
  refine (HG.out _).mono ?_
  rintro e w4 ⟨rfl, hb4⟩
  replace hb0 := on hb0 hb4
  replace hr := hr.on hb4
  have hl2 := hr.1
  obtain ⟨p0, p1, p2, f0, f1, f2⟩ := hr.three
  obtain ⟨z0, z1, z2⟩ := three_set (u := .int .i64 k0) (v := .int .i64 n0) (r := .string ⟨#[]⟩) p0 p1 p2
  have hb5 := set3 hb0 (Nat.le_refl _) (.int .i64 k0) (.int .i64 n0) (.string ⟨#[]⟩)
  clear hb4 hb0 hr HG
  go_wp2_with fail
  exact bodyPost_ret (v := .agg #[.int .i64 k0, .int .i64 n0, .string ⟨#[]⟩]) (by simp [results, Tryz.results124, go_sem, z0, z1, z2]) rfl ⟨rfl, hb5⟩
theorem mean_c (A : Option Addr) (n cap : Nat) (L : List Vl) (hm : ∀ v ∈ L, v.may) (k0 n0 : Int) (hv : meanV L = (k0, n0)) (w : World) (hz : ValsR w A n L) : Calls Tryz.prog 124 #[.slice A n cap] w (ValIs k0 n0 ⟨#[]⟩ w) := by
  rcases mean_ways hv with ⟨p, x, h, rfl, rfl⟩ | ⟨h, h0, h1, rfl, rfl⟩ | ⟨h, h0, h1, rfl, rfl⟩ | ⟨x, t, b, h, h0, hx9, h1, h2, h3⟩
  · exact mean_bad A n cap L hm x.n (allV_yes h) w hz
  · exact mean_bad A n cap L hm 4 h1 w hz
  · exact mean_none A n cap L hm h0 h1 w hz
  · exact mean_in A n cap L hm h0 x t k0 n0 b hx9 h1 h2 h3 w hz
end Go.Proofs.YtebjedbppiphgaaGreatDoor.Fld
namespace Go.Proofs.YtebjedbppiphgaaGreatDoor.Odr
open Go.RowKit Kit Reg Dec
/-- a slice that reads as numbers -/
def IntsR (w : World) (A : Option Addr) (xs : List Int) : Prop := xs = [] ∨ ∃ g o, A = some ⟨g, o, none⟩ ∧ g < w.heap.size ∧ ∀ i n, xs[i]? = some n → w.cell? ⟨g, o + i, none⟩ = some (.int .i64 n)
theorem IntsR.on {w w' : World} {A : Option Addr} {xs : List Int} (h : IntsR w A xs) (hb : Below w.heap.size w w') : IntsR w' A xs := by
  rcases h with h | ⟨g, o, hA, hg, h⟩
  · exact .inl h
  · exact .inr ⟨g, o, hA, Nat.lt_of_lt_of_le hg hb.size, fun i c hc => (hb.cell (p := ⟨g, o + i, none⟩) hg).trans (h i c hc)⟩
theorem IntsR.at {w : World} {A : Option Addr} {xs : List Int} (h : IntsR w A xs) {k : Nat} {x : Int} (hk : xs[k]? = some x) : ∃ g o, A = some ⟨g, o, none⟩ ∧ g < w.heap.size ∧ w.cell? ⟨g, o + k, none⟩ = some (.int .i64 x) := by
  rcases h with h | ⟨g, o, hA, hg, h⟩
  · rw [h] at hk; simp at hk
  · exact ⟨g, o, hA, hg, h k x hk⟩
/-- .. of 64 bits, so many, and none where there is no memory -/
structure NumsR (w : World) (A : Option Addr) (n c : Nat) (xs : List Int) : Prop where
  len : xs.length = n
  none_ : A = none → n = 0 ∧ c = 0
  fits : ∀ x ∈ xs, -9223372036854775808 ≤ x ∧ x ≤ 9223372036854775807
  reads : IntsR w A xs
theorem NumsR.on {w w' : World} {A : Option Addr} {n c : Nat} {xs : List Int} (h : NumsR w A n c xs) (hb : Below w.heap.size w w') : NumsR w' A n c xs := ⟨h.len, h.none_, h.fits, h.reads.on hb⟩
theorem NumsR.get {w : World} {A : Option Addr} {n c : Nat} {xs : List Int} (h : NumsR w A n c xs) {k : Nat} (hk : k < n) : ∃ x, xs[k]? = some x := ⟨_, List.getElem?_eq_getElem (by rw [h.len]; exact hk)⟩
theorem NumsR.at {w : World} {A : Option Addr} {n c : Nat} {xs : List Int} (h : NumsR w A n c xs) {k : Nat} {x : Int} (hk : xs[k]? = some x) : ∃ g o, A = some ⟨g, o, none⟩ ∧ g < w.heap.size ∧ w.cell? ⟨g, o + k, none⟩ = some (.int .i64 x) := h.reads.at hk
theorem NumsR.fit {w : World} {A : Option Addr} {n c : Nat} {xs : List Int} (h : NumsR w A n c xs) {k : Nat} {x : Int} (hk : xs[k]? = some x) : -9223372036854775808 ≤ x ∧ x ≤ 9223372036854775807 := h.fits x (List.mem_iff_getElem?.2 ⟨k, hk⟩)
/-- a row of one's own -/
def OwnI (B : Nat) (v : Value) (xs : List Int) (w : World) : Prop := w.ownsRow B 2 1 v xs.length (xs.map (Value.int .i64))
theorem OwnI.on {B : Nat} {w w' : World} {v : Value} {xs : List Int} (h : OwnI B v xs w) (hb : Below w.heap.size w w') : OwnI B v xs w' := own_on h hb
theorem OwnI.reads {B : Nat} {v : Value} {xs : List Int} {w : World} (h : OwnI B v xs w) : ∃ A cap, v = .slice A xs.length cap ∧ IntsR w A xs ∧ (A = none → xs.length = 0 ∧ cap = 0) ∧ xs.length ≤ cap := by
  have h0 := h
  rcases h.2 with ⟨rfl, h1⟩ | ⟨g, cap, cur, rfl, hb, hg, hc1, hrest⟩
  · exact ⟨none, 0, by rw [h1], .inl (List.eq_nil_of_length_eq_zero h1), fun _ => ⟨h1, rfl⟩, by omega⟩
  · refine ⟨_, cap, rfl, .inr ⟨g, 0, rfl, (Array.getElem?_eq_some_iff.1 hg).1, fun i n hi => ?_⟩, (fun h => by cases h), hc1⟩
    have hl := (List.getElem?_eq_some_iff.1 hi).1
    have e := World.ownsRow.cellAt h0 i (by omega)
    rw [Nat.zero_add, e, List.getElem?_map, hi]
    rfl
theorem OwnI.snoc {B : Nat} {w : World} {v : Value} {xs : List Int} (x : Int) (h : w.ownsRow B 2 1 v (xs.length + 1) (xs.map (Value.int .i64) ++ [.int .i64 x])) : OwnI B v (xs ++ [x]) w := by
  unfold OwnI
  rw [List.map_append, List.length_append]
  exact h
theorem OwnI.add {B n : Nat} {w : World} {v : Value} {xs ys : List Int} (hn : ys.length = n) (h : w.ownsRow B 2 1 v (xs.length + n) (xs.map (Value.int .i64) ++ ys.map (Value.int .i64))) : OwnI B v (xs ++ ys) w := by
  unfold OwnI
  rw [List.map_append, List.length_append, hn]
  exact h
theorem infoI : (Tryz.prog.info? 2).map (fun i => (i.zero, i.size, i.bytes)) = some (some (.int .i64 0), 1, 8) := by kernel_rfl
theorem one_new {w : World} {g : Nat} (hg : g = w.heap.size) (x : Value) (ty : TypeId) : ∀ j u, [x][j]? = some u → (w.alloc (.cells #[x] ty)).cell? ((⟨g, 0, none⟩ : Addr).add j) = some u := by
  intro j u hj
  rw [show ((⟨g, 0, none⟩ : Addr).add j) = ⟨g, j, none⟩ by unfold Addr.add; split <;> simp_all, hg]
  exact ((CellsAt.new w [x] ty).2 j u hj).1
theorem one_cells (x : Value) (h : x.oneCell' = true) : ∀ u ∈ [x], u.oneCell' = true := fun u hu => by
  simp only [List.mem_singleton] at hu
  subst hu
  exact h
theorem ints_cells (xs : List Int) : ∀ u ∈ xs.map (Value.int .i64), u.oneCell' = true := fun u hu => by
  obtain ⟨x, _, rfl⟩ := List.mem_map.1 hu
  rfl
/-- the cells of a slice that reads as numbers, as append's law asks them; also of a piece of it -/
theorem IntsR.cells {w : World} {A : Option Addr} {xs : List Int} (h : IntsR w A xs) : ∀ ad, A = some ad → ∀ j u, (xs.map (Value.int .i64))[j]? = some u → w.cell? (ad.add j) = some u := by
  intro ad hA j u hj
  rw [List.getElem?_map] at hj
  obtain ⟨x, hx, rfl⟩ := Option.map_eq_some_iff.1 hj
  obtain ⟨g, o, e, _, hc⟩ := h.at hx
  obtain rfl := Option.some.inj (hA.symm.trans e)
  rw [show ((⟨g, o, none⟩ : Addr).add j) = ⟨g, o + j, none⟩ by unfold Addr.add; split <;> simp_all]
  exact hc
/-- what stays behind an append to a row of one's own -/
theorem own_below0 {B : Nat} {e : TypeId} {size : Nat} {w0 w w' : World} {v : Value} {n : Nat} {xs : List Value} (h : w.ownsRow B e size v n xs) (hb : Below w0.heap.size w0 w) (hB : w0.heap.size ≤ B) (hg : w.grownBy w' v.ownBlock) : Below w0.heap.size w0 w' :=
  hb.grown hg (by have := hb.size; omega) (fun b e => Nat.le_trans hB (World.ownsRow.lt h b e).1)
theorem own_below {B : Nat} {e : TypeId} {size : Nat} {w0 w w' : World} {v : Value} {n : Nat} {xs : List Value} {o : Obj} (h : w.ownsRow B e size v n xs) (hb : Below w0.heap.size w0 w) (hB : w0.heap.size ≤ B) (hg : (w.alloc o).grownBy w' v.ownBlock) : Below w0.heap.size w0 w' :=
  (on_alloc hb _).grown hg (by have := hb.size; simp; omega) (fun b e => Nat.le_trans hB (World.ownsRow.lt h b e).1)
/-- 'append(s, x..)' where s is one's own, and x any slice that came in, nil too -/
theorem wpList_append_any {w : World} {ops : Array Oper} {rest : List Oper} {o : Oper} {a : Act} {Q : Exit → Act → World → Prop} (hgd : o.guard = none) (s x : Operand) (t : TypeId)
    (ho : o.op = .call { callee := .builtin .append, args := #[s, x], argTypes := #[t, t] })
    (base : Nat) (e : TypeId) (i : TypeInfo) (z : Value) (size bytes : Nat) (ht : Tryz.prog.underlying t = some (.slice e)) (hi : Tryz.prog.info? e = some i) (hz : i.zero = some z)
    (hsize : i.size = size) (hby : i.bytes = bytes) (hzs : z.cells.size = size) (hsz : 0 < size)
    (v : Value) (n : Nat) (xs : List Value) (hs : a.eval s = v) (hown : w.ownsRow base e size v n xs)
    (A : Option Addr) (m c : Nat) (news : List Value) (hx : a.eval x = .slice A m c) (hnil : A = none → m = 0 ∧ c = 0) (hl : news.length = m * size) (hnews : ∀ ad, A = some ad → ∀ j u, news[j]? = some u → w.cell? (ad.add j) = some u) (h1 : ∀ u ∈ news, u.oneCell' = true)
    (h63 : n + m ≤ maxLen) (hbytes : (n + m) * bytes ≤ 140737488355328) (hbase : base ≤ w.heap.size)
    (h : ∀ v' w', w'.ownsRow base e size v' (n + m) (xs ++ news) → w.grownBy w' v.ownBlock → wpList Tryz.prog ops Q rest (a.put o.dst v') w') :
    wpList Tryz.prog ops Q (o :: rest) a w := by
  cases A with
  | none =>
    obtain ⟨rfl, rfl⟩ := hnil rfl
    obtain rfl : news = [] := List.eq_nil_of_length_eq_zero (by rw [hl, Nat.zero_mul])
    refine wpList_append_own_none hgd s x t ho base e i size ht hi v n xs hs hown hx ?_
    refine h v w ?_ ⟨rfl, rfl, rfl, Nat.le_refl _, fun _ _ _ => rfl⟩
    rw [List.append_nil]
    exact hown
  | some ad => exact wpList_append_own _ hgd s x t ho base e i z size bytes ht hi hz hsize hby hzs hsz v n xs hs hown ad m c news hx hl (hnews ad rfl) h1 h63 hbytes hbase fun v' w' h2 h3 _ => h v' w' h2 h3

end Go.Proofs.YtebjedbppiphgaaGreatDoor.Odr

/- The reference's steps, what comes of all numbers, and what All answers.
   How many values are of a kind: the program's Count and the reference's. -/
import Derived.Test.YtebjedbppiphgaaGreatDoorKtu27
import Derived.Test.YtebjedbppiphgaaGreatDoorKtu23
import Derived.Test.YtebjedbppiphgaaGreatDoorKtu10
import Derived.Test.YtebjedbppiphgaaGreatDoorKtu11
import Derived.Test.YtebjedbppiphgaaGreatDoorKtu22
namespace Go.Proofs.YtebjedbppiphgaaGreatDoor.Fld
open Go.RowKit Kit Reg Dec Dig Val Txt
/-- the memory of Total: the result's block, and what came so far -/
def TotMem (w wr : World) (q : Int) (b : Bool) : Prop := Below w.heap.size w wr ∧ CellsAt wr w.heap.size [.int .i64 0, .bool false] ∧ CellsAt wr (w.heap.size + 1) [.int .i64 q, .bool b]
theorem TotMem.start (w : World) (n : Int) (b : Bool) : TotMem w ((w.alloc (.cells #[.int .i64 0, .bool false] 55)).alloc (.cells #[.int .i64 n, .bool b] 55)) n b := by
  refine ⟨below2 _ _ _, (CellsAt.new w [.int .i64 0, .bool false] _).on_alloc _, ?_⟩
  have h := CellsAt.new (w.alloc (.cells #[.int .i64 0, .bool false] 55)) [.int .i64 n, .bool b] 55
  rw [show (w.alloc (.cells #[.int .i64 0, .bool false] 55)).heap.size = w.heap.size + 1 by simp] at h
  exact h
theorem TotMem.on {w wr wr' : World} {q : Int} {b : Bool} (h : TotMem w wr q b) (hb : Below wr.heap.size wr wr') : TotMem w wr' q b :=
  ⟨Kit.on h.1 hb, h.2.1.on hb, h.2.2.on hb⟩
theorem TotMem.put {w wr : World} {q : Int} {b : Bool} (h : TotMem w wr q b) (n : Int) (k : Bool) : TotMem w (put2 wr (w.heap.size + 1) (.int .i64 n) (.bool k)) n k :=
  ⟨set2 h.1 (by omega) _ _, h.2.1.put2_far (by omega) _ _, h.2.2.put2 _ _⟩
end Go.Proofs.YtebjedbppiphgaaGreatDoor.Fld
namespace Go.Proofs.YtebjedbppiphgaaGreatDoor.Fld
open Go.RowKit Kit Reg Dec Dig Val Txt
/-- which of the kinds is asked, in the program's tests -/
theorem kind_ways (k : Int) : k = 1 ∨ k = 0 ∨ ((k == 1) = false ∧ (k == 0) = false ∧ (k != 0) = true ∧ (k != 1) = true ∧ ¬ k = 1 ∧ ¬ k = 0) := by
  by_cases h1 : k = 1
  · exact .inl h1
  · by_cases h0 : k = 0
    · exact .inr (.inl h0)
    · have e1 : (k == 1) = false := by simpa using h1
      have e0 : (k == 0) = false := by simpa using h0
      exact .inr (.inr ⟨e1, e0, by rw [bne, e0]; rfl, by rw [bne, e1]; rfl, h1, h0⟩)
set_option maxRecDepth 100000 in
set_option maxHeartbeats 2000000 in
theorem counts_c (v : Vl) (hm : v.may) (kind : Int) (b : Bool) (hb : isK kind v = b) (w : World) : Calls Tryz.prog 231 #[.agg #[.int .i64 v.k, .int .i64 v.n, .string v.t], .int .i64 kind] w fun e w' => e = .returned (.bool b) ∧ Below w.heap.size w w' := by
  have HStr : Hid (∀ w1, Calls Tryz.prog 24 #[.string ⟨#[]⟩] w1 (ValIs 2 0 ⟨#[]⟩ w1)) := Lib.hid (fun w1 => str_c ⟨#[]⟩ 2 0 ⟨#[]⟩ (str_in (by decide)) w1)
  have HM := may_ways hm
  obtain ⟨vk, vn, vt⟩ := v
  dsimp only
  have hb0 := below1 w (.cells #[.int .i64 vk, .int .i64 vn, .string vt] 23)
  have hr := CellsAt.new w [.int .i64 vk, .int .i64 vn, .string vt] 23
  rcases kind_ways kind with rfl | rfl | ⟨q1, q2, q3, q4, n1, n2⟩
  · have hb2 : (vk == 1) = b := by
      rw [← hb]
      unfold isK
      rw [if_pos rfl]
      by_cases h : vk = 1 <;> simp [h]
    clear hb hm HM
    go_enter Tryz.func231, Tryz.ntmps231
    go_wp2_with fail
    go_ret
    exact ⟨ret_bool rfl, hb0⟩
  · have hwy : (vk = 0 ∧ b = true) ∨ ((vk == 0) = false ∧ vk = 2 ∧ vn = 0 ∧ vt = ⟨#[]⟩ ∧ b = true) ∨ ((vk == 0) = false ∧ vk = 2 ∧ vn = 0 ∧ ¬ vt.toList = [] ∧ (vt.toList == []) = false ∧ b = false) ∨ ((vk == 0) = false ∧ (vk == 2) = false ∧ b = false) := by
      have hb2 : (decide (vk = 0) || (decide (vk = 2) && decide (vt = ⟨#[]⟩))) = b := by
        rw [← hb]
        rfl
      subst hb2
      rcases HM with h | ⟨n, h, _⟩ | ⟨t, h, _⟩ | h | h | ⟨n, h, _⟩
      all_goals
        obtain ⟨rfl, rfl, rfl⟩ := Vl.mk.inj h
      · exact .inl ⟨rfl, rfl⟩
      · exact .inr (.inr (.inr ⟨rfl, rfl, rfl⟩))
      · rcases empty_or vt with rfl | ⟨h1, h2⟩
        · exact .inr (.inl ⟨rfl, rfl, rfl, rfl, rfl⟩)
        · refine .inr (.inr (.inl ⟨rfl, rfl, rfl, h1, by rw [beq_eq_false_iff_ne]; exact h1, ?_⟩))
          have h3 : ¬ vt = ⟨#[]⟩ := fun e => h1 (by rw [e, Lib.toList_data])
          simp [h3]
      · exact .inr (.inr (.inr ⟨rfl, rfl, rfl⟩))
      · exact .inr (.inr (.inr ⟨rfl, rfl, rfl⟩))
      · exact .inr (.inr (.inr ⟨rfl, rfl, rfl⟩))
    clear hb hm HM
    rcases hwy with ⟨rfl, rfl⟩ | ⟨q1, rfl, rfl, rfl, rfl⟩ | ⟨q1, rfl, rfl, h1, q2, rfl⟩ | ⟨q1, q2, rfl⟩
    all_goals
      go_enter Tryz.func231, Tryz.ntmps231
      go_wp2_with fail
      generalize hW : World.alloc w _ = W at *
      obtain ⟨x0, x1, x2, _⟩ := hr.three
      have C0 := fun d os => cell_regrown x0 d os
      have C1 := fun d os => cell_regrown x1 d os
      have C2 := fun d os => cell_regrown x2 d os
      clear x0 x1 x2 hW
      refine wp_region_mem 9 (fun d => match d with
        | 18 => some (Is (.agg #[.int .i64 2, .int .i64 0, .string ⟨#[]⟩]))
        | _ => none) (by kernel_rfl) (by kernel_rfl) ?_
      simp only [List.take_succ_cons, List.take_zero, List.drop_succ_cons, List.drop_zero]
      repeat (first | (refine wpM_calm rfl rfl rfl ?_; intro K hK; go_big_quiet_op; go_big_quiet_on) | (refine wpM_skip rfl ?_; simp only [Act.put, List.setIfInBounds_toArray, List.set_cons_succ, List.set_cons_zero]))
      try refine wpM_exact rfl rfl rfl Tryz.func24 (by kernel_rfl) (by kernel_rfl) (fun w1 _ _ => HStr.out w1) rfl (by simp only [Act.put, List.setIfInBounds_toArray, List.set_cons_succ, List.set_cons_zero]; rfl) ?_
      repeat (first | (refine wpM_calm rfl rfl rfl ?_; intro K hK; go_big_quiet_op; go_big_quiet_on) | (refine wpM_skip rfl ?_; simp only [Act.put, List.setIfInBounds_toArray, List.set_cons_succ, List.set_cons_zero]))
      refine wpM_nil ?_
      intro w4 hb4 _
      have hb5 := on hb0 hb4
      clear hb4 C0 C1 C2
      go_wp2
      go_ret
      exact ⟨ret_bool rfl, hb5⟩
  · have hb2 : (vk != 0) = b := by
      rw [← hb]
      unfold isK
      rw [if_neg n1, if_neg n2]
      by_cases h : vk = 0 <;> simp [h]
    clear hb hm HM n1 n2
    go_enter Tryz.func231, Tryz.ntmps231
    go_wp2_with fail
    go_ret
    exact ⟨ret_bool rfl, hb0⟩
set_option maxRecDepth 100000 in
set_option maxHeartbeats 2000000 in
theorem count_c (kind : Int) (A : Option Addr) (n cap : Nat) (L : List Vl) (hm : ∀ v ∈ L, v.may) (c : Nat) (hc : countF kind L = c) (w : World) (hz : ValsR w A n L) : Calls Tryz.prog 125 #[.slice A n cap, .int .i64 kind] w fun e w' => e = .returned (.int .i64 (c : Int)) ∧ Below w.heap.size w w' := by
  have HZ := Lib.hid hz
  have HM : Hid (∀ (k : Nat) (v : Vl), L[k]? = some v → v.may) := Lib.hid fun k v hv => hm v (List.mem_of_getElem? hv)
  have HC := Lib.hid hc
  have hn9 := hz.2.1
  have HP := Lib.hid (fun v hm b hb w1 => counts_c v hm kind b hb w1)
  clear hz hm hc
  go_enter Tryz.func125, Tryz.ntmps125
  go_wp2_with fail
  go_loopw [5, 10] (fun o i wr => ∃ (k j : Nat), k ≤ n ∧ i = .int .i64 k ∧ o = .int .i64 j ∧ j ≤ k ∧ Hid (countF kind (L.take k) = j) ∧ Below w.heap.size w wr) (fun _ i _ => n - (intOf i).toNat)
  case atStart => exact ⟨0, 0, Nat.zero_le _, rfl, rfl, Nat.le_refl _, Lib.hid rfl, Below.refl _ _⟩
  case round =>
    obtain ⟨k, j, hk, rfl, rfl, hj, HJ, hb0⟩ := hrel
    by_cases hlt : k < n
    · obtain ⟨v, hv⟩ := HZ.out.get hlt
      obtain ⟨b, o, rfl, hb, c0, c1, c2⟩ := (HZ.out.on hb0).at hv
      obtain ⟨q, hq⟩ : ∃ q, isK kind v = q := ⟨_, rfl⟩
      have HP2 := Lib.hid (HP.out v (HM.out k v hv) q hq)
      have HN : Hid (countF kind (L.take (k + 1)) = if q = true then j + 1 else j) := Lib.hid (by
        cases q
        · rw [count_miss hv hq, HJ.out]; rfl
        · rw [count_hit hv hq, HJ.out]; rfl)
      obtain ⟨vk, vn, vt⟩ := v
      dsimp only at c0 c1 c2 HP2
      have hx := CellsAt.new wr [.int .i64 vk, .int .i64 vn, .string vt] 23
      obtain ⟨x0, x1, x2, _⟩ := hx.three
      replace hb0 := on_alloc hb0 (.cells #[.int .i64 vk, .int .i64 vn, .string vt] 23)
      clear hv hq HJ HP
      cases q
      · replace HN : Hid (countF kind (L.take (k + 1)) = j) := HN
        go_wp2_with fail
        refine (HP2.out _).mono ?_
        rintro e w1 ⟨rfl, hb1⟩
        replace hb0 := on hb0 hb1
        clear hb1 HP2 c0 c1 c2 hx x0 x1 x2
        go_wp2_with fail
        go_roundw
        case rel => exact ⟨k + 1, j, by omega, by go_num, rfl, by omega, HN, hb0⟩
        case measure => simp [intOf]; omega
      · replace HN : Hid (countF kind (L.take (k + 1)) = j + 1) := HN
        go_wp2_with fail
        refine (HP2.out _).mono ?_
        rintro e w1 ⟨rfl, hb1⟩
        replace hb0 := on hb0 hb1
        clear hb1 HP2 c0 c1 c2 hx x0 x1 x2
        go_wp2_with fail
        go_roundw
        case rel => exact ⟨k + 1, j + 1, by omega, by go_num, by go_num, by omega, HN, hb0⟩
        case measure => simp [intOf]; omega
    · obtain rfl : k = n := by omega
      obtain rfl : j = c := by
        have h := HJ.out
        rw [List.take_of_length_le (by rw [HZ.out.1]; omega), HC.out] at h
        exact h.symm
      clear HP HJ
      go_wp2_with fail
      go_ret
      exact ⟨rfl, hb0⟩
end Go.Proofs.YtebjedbppiphgaaGreatDoor.Fld

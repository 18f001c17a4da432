/- What the program's Users answers (over the landed text of package right, e6de85d); all that the laws ask. -/
import Derived.Test.YteolenhgaekihaaRightGoG
import Derived.Test.YteolenhgaekihaaRightGoH
namespace Go.Proofs.Yteolenhgaekihaa.Right
open Go.RowKit Kit Reg Go.Proofs.Yteolenhgaekihaa.Lab
open Go.Proofs.Yteolenhgaekihaa.Cats (U U_or U_zero)

set_option maxRecDepth 100000 in
set_option maxHeartbeats 4000000 in
theorem users_says : UsersSays := by
  intro A n cap us w hcap hz
  obtain ⟨p, e, hpe⟩ : ∃ p e, wrongU us 0 us = (p, e) := ⟨_, _, rfl⟩
  rw [hpe]
  obtain ⟨hlen, hmax, _, _⟩ := id hz
  have HZ := Lib.hid hz
  have HL := Lib.hid hlen
  have HC := Lib.hid hpe
  clear hz hlen hpe
  go_enter Try.func12, Try.ntmps12
  go_wp2
  go_loopw [9] (fun i wr => ∃ k : Nat, k ≤ n ∧ i = .int .i64 k ∧ Hid (wrongU us k (us.drop k) = (p, e)) ∧ Below w.heap.size w wr) (fun i _ => n - (intOf i).toNat)
  case atStart => exact ⟨0, Nat.zero_le _, rfl, HC, Below.refl _ _⟩
  case round =>
    obtain ⟨k, hk, rfl, HK, hb0⟩ := hrel
    by_cases hlt : k < n
    · obtain ⟨u, huk⟩ : ∃ u, us[k]? = some u := ⟨_, List.getElem?_eq_getElem (by rw [HL.out]; exact hlt)⟩
      obtain ⟨_, _, _, h4⟩ := HZ.out.on hb0
      obtain ⟨b, o, rfl, hblt, hcell⟩ := h4 (by omega)
      obtain ⟨c0, c1, c2⟩ := user_cells (hcell k u huk)
      have HZk := Lib.hid huk
      have kv := CellsAt.new wr u.cells 31
      change CellsAt (wr.alloc (.cells #[.string u.name, .int .i64 u.l, .int .u64 u.s] 31)) wr.heap.size [.string u.name, .int .i64 u.l, .int .u64 u.s] at kv
      replace hb0 := on_alloc hb0 (.cells #[.string u.name, .int .i64 u.l, .int .u64 u.s] 31)
      have HT := Lib.hid ((HZ.out.on hb0).take (k := k) (by omega))
      obtain ⟨y, hy⟩ : ∃ y, whyU k u (findI us u.name 0) = y := ⟨_, rfl⟩
      have HW : Hid (∀ w1 cp, UsersR w1 (some ⟨b, o, none⟩) k (us.take k) → Calls Try.prog 31 #[.slice (some ⟨b, o, none⟩) k cp, .agg #[.string u.name, .int .i64 u.l, .int .u64 u.s]] w1 fun e' w' => e' = .returned (.int .i64 y) ∧ Below w1.heap.size w1 w') := Lib.hid (fun w1 cp h => by
        have := whyU_c k cp (by omega) us u HZk.out (some ⟨b, o, none⟩) w1 h
        rwa [hy] at this)
      clear h4 hcell huk
      go_wp2_with fail
      generalize wr.alloc (.cells #[.string u.name, .int .i64 u.l, .int .u64 u.s] 31) = X at *
      obtain ⟨v0, v1, v2, _⟩ := kv.three
      have V0 := fun d os => cell_regrown v0 d os
      have V1 := fun d os => cell_regrown v1 d os
      have V2 := fun d os => cell_regrown v2 d os
      have hkc : k ≤ cap := by omega
      clear v0 v1 v2 c0 c1 c2
      refine wp_region_mem 6 (fun d => match d with
        | 18 => some (Is (.int .i64 y))
        | _ => none) (by kernel_rfl) (by kernel_rfl) ?_
      simp only [List.take_succ_cons, List.take_zero, List.drop_succ_cons, List.drop_zero]
      repeat (first | ((with_reducible refine wpM_calm ?_ ?_ ?_ ?_); exact rfl; exact rfl; exact rfl; intro K hK; go_big_quiet_op; go_big_quiet_on) | ((with_reducible refine wpM_skip ?_ ?_); exact rfl; simp only [Act.put, List.setIfInBounds_toArray, List.set_cons_succ, List.set_cons_zero]))
      refine wpM_exact rfl rfl rfl Try.func31 (by kernel_rfl) (by kernel_rfl) (fun w1 hw1 _ => HW.out w1 _ (HT.out.on hw1)) rfl (by simp only [Act.put, List.setIfInBounds_toArray, List.set_cons_succ, List.set_cons_zero]; rfl) ?_
      repeat (first | ((with_reducible refine wpM_calm ?_ ?_ ?_ ?_); exact rfl; exact rfl; exact rfl; intro K hK; go_big_quiet_op; go_big_quiet_on) | ((with_reducible refine wpM_skip ?_ ?_); exact rfl; simp only [Act.put, List.setIfInBounds_toArray, List.set_cons_succ, List.set_cons_zero]))
      refine wpM_nil ?_
      intro w1 hw1 _
      replace hb0 := on hb0 hw1
      clear hw1 V0 V1 V2
      by_cases hh : y = 0
      · have HN : Hid (wrongU us (k + 1) (us.drop (k + 1)) = (p, e)) := by rw [← wrongU_miss HZk.out (hy.trans hh)]; exact HK
        subst hh
        clear hy
        go_wp2
        go_roundw
        case rel => exact ⟨k + 1, by omega, by go_num, HN, hb0⟩
        case measure => simp [intOf]; omega
      · have HN : ((k : Int), y) = (p, e) := by rw [← hy, ← wrongU_hit HZk.out (by rw [hy]; exact hh)]; exact HK.out
        simp only [Prod.mk.injEq] at HN
        obtain ⟨rfl, rfl⟩ := HN
        have hne : (y == 0) = false := by simpa using hh
        clear hh hy
        go_wp2
        exact bodyPost_ret (v := .tuple #[.int .i64 k, .int .i64 y]) (by simp [results, Try.results12, go_sem]) rfl ⟨rfl, hb0⟩
    · obtain rfl : k = n := by omega
      have HE := HK.out
      rw [← HL.out, wrongU_end] at HE
      simp only [Prod.mk.injEq] at HE
      obtain ⟨rfl, rfl⟩ := HE
      go_wp2
      exact bodyPost_ret (v := .tuple #[.int .i64 0, .int .i64 0]) (by simp [results, Try.results12, go_sem]) rfl ⟨rfl, hb0⟩
/-- the whole of what the laws ask -/
theorem says : Says := ⟨name_says, find_says, acts_says, lowers_says, leaks_says, holders_says, users_says, grants_says⟩
end Go.Proofs.Yteolenhgaekihaa.Right

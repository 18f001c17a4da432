/- What the reference's Acts answers: for every slice that reads as users. -/
import Derived.Test.YteolenhgaekihaaRightRef
namespace Go.Proofs.Yteolenhgaekihaa.Right
open Go.RowKit Kit Reg Go.Proofs.Yteolenhgaekihaa.Lab
open Go.Proofs.Yteolenhgaekihaa.Cats (U U_or U_zero)

set_option maxRecDepth 100000 in
set_option maxHeartbeats 4000000 in
theorem racts_c (A : Option Addr) (n cap : Nat) (us : List Us) (t : ByteArray) (l : Int) (s : Nat) (hs : U s) (e0 : Int) (he : actsI us t l s = e0) (w : World) (hz : UsersR w A n us) :
    Calls Try.prog 15 #[.slice A n cap, .string t, .agg #[.int .i64 l, .int .u64 s]] w fun e w' => e = .returned (.int .i64 e0) ∧ Below w.heap.size w w' := by
  subst he
  have HZ := Lib.hid hz
  have hlen := hz.1
  obtain ⟨p, hp⟩ : ∃ p, findI us t 0 = p := ⟨_, rfl⟩
  have HF := Lib.hid (fun w1 h => rfind_c A n cap us t p hp w1 h)
  have hb0 := below1 w (.cells #[.int .i64 l, .int .u64 s] 25)
  have kl := CellsAt.new w [.int .i64 l, .int .u64 s] 25
  rcases findI_or us t 0 with h | ⟨i, u, hu, hn, h⟩
  · rw [hp] at h
    subst h
    rw [show actsI us t l s = 11 by unfold actsI; rw [hp]; rfl]
    clear hp hz
    go_enter Try.func15, Try.ntmps15
    go_wp2_with fail
    refine (HF.out _ (HZ.out.on hb0)).mono ?_
    rintro e w1 ⟨rfl, hb1⟩
    replace hb0 := on hb0 hb1
    go_wp2
    go_ret
    exact ⟨rfl, hb0⟩
  · rw [Nat.zero_add] at h
    obtain rfl : p = (i : Int) := hp.symm.trans h
    have hi : i < n := by rw [← hlen]; exact (List.getElem?_eq_some_iff.1 hu).1
    have hmax := hz.2.1
    obtain ⟨m, hm⟩ : ∃ m, mayL l = m := ⟨_, rfl⟩
    obtain ⟨b, hb⟩ : ∃ b, belowL l s u.l u.s = b := ⟨_, rfl⟩
    have hA : actsI us t l s = bif m && b then 0 else 12 := by
      unfold actsI
      rw [hp, if_neg (by omega), Int.toNat_natCast, hu]
      simp only [hm, hb]
      cases m <;> cases b <;> rfl
    rw [hA]
    have hus : U u.s := hz.2.2.1 u (List.mem_of_getElem? hu)
    have HM := Lib.hid (fun w1 => rmay_c l s m hm w1)
    have HB := Lib.hid (fun w1 => rbelow_c l u.l s u.s b hs hus hb w1)
    have hneg : decide ((i : Int) < 0) = false := by simp
    obtain ⟨_, _, _, h4⟩ := hz
    obtain ⟨g, o, rfl, hgl, hcell⟩ := h4 (by omega)
    obtain ⟨c0, c1, c2⟩ := user_cells (hcell i u hu)
    clear h4 hcell hu hn hp h hm hb hA hus
    go_enter Try.func15, Try.ntmps15
    go_wp2_with fail
    replace c1 := kept hb0 c1
    replace c2 := kept hb0 c2
    refine (HF.out _ (HZ.out.on hb0)).mono ?_
    rintro e w1 ⟨rfl, hb1⟩
    replace hb0 := on hb0 hb1
    replace kl := kl.on hb1
    replace c1 := kept hb1 c1
    replace c2 := kept hb1 c2
    clear hb1 c0 HF HZ
    obtain ⟨l0, l1, _⟩ := kl.two
    go_wp2_with fail
    have L0 := fun d os => cell_regrown l0 d os
    have L1 := fun d os => cell_regrown l1 d os
    have C1 := fun d os => cell_regrown c1 d os
    have C2 := fun d os => cell_regrown c2 d os
    clear l0 l1 c1 c2
    cases m with
    | false =>
      refine wp_region_mem 13 (fun d => match d with
        | 14 => some (Is (.bool false))
        | 23 => some (Is (.bool b))
        | _ => none) (by kernel_rfl) (by kernel_rfl) ?_
      simp only [List.take_succ_cons, List.take_zero, List.drop_succ_cons, List.drop_zero]
      repeat (first | ((with_reducible refine wpM_calm ?_ ?_ ?_ ?_); exact rfl; exact rfl; exact rfl; intro K hK; go_big_quiet_op; go_big_quiet_on) | ((with_reducible refine wpM_skip ?_ ?_); exact rfl; simp only [Act.put, List.setIfInBounds_toArray, List.set_cons_succ, List.set_cons_zero]))
      refine wpM_exact rfl rfl rfl Try.func32 (by kernel_rfl) (by kernel_rfl) (fun w1 _ _ => HM.out w1) rfl (by simp only [Act.put, List.setIfInBounds_toArray, List.set_cons_succ, List.set_cons_zero]; rfl) ?_
      repeat (first | ((with_reducible refine wpM_calm ?_ ?_ ?_ ?_); exact rfl; exact rfl; exact rfl; intro K hK; go_big_quiet_op; go_big_quiet_on) | ((with_reducible refine wpM_skip ?_ ?_); exact rfl; simp only [Act.put, List.setIfInBounds_toArray, List.set_cons_succ, List.set_cons_zero]))
      refine wpM_nil ?_
      intro w2 hb2 _
      replace hb0 := on hb0 hb2
      go_wp2
      go_ret
      exact ⟨rfl, hb0⟩
    | true =>
      cases b with
      | false =>
        refine wp_region_mem 13 (fun d => match d with
          | 14 => some (Is (.bool true))
          | 23 => some (Is (.bool false))
          | _ => none) (by kernel_rfl) (by kernel_rfl) ?_
        simp only [List.take_succ_cons, List.take_zero, List.drop_succ_cons, List.drop_zero]
        repeat (first | ((with_reducible refine wpM_calm ?_ ?_ ?_ ?_); exact rfl; exact rfl; exact rfl; intro K hK; go_big_quiet_op; go_big_quiet_on) | ((with_reducible refine wpM_skip ?_ ?_); exact rfl; simp only [Act.put, List.setIfInBounds_toArray, List.set_cons_succ, List.set_cons_zero]))
        refine wpM_exact rfl rfl rfl Try.func32 (by kernel_rfl) (by kernel_rfl) (fun w1 _ _ => HM.out w1) rfl (by simp only [Act.put, List.setIfInBounds_toArray, List.set_cons_succ, List.set_cons_zero]; rfl) ?_
        repeat (first | ((with_reducible refine wpM_calm ?_ ?_ ?_ ?_); exact rfl; exact rfl; exact rfl; intro K hK; go_big_quiet_op; go_big_quiet_on) | ((with_reducible refine wpM_skip ?_ ?_); exact rfl; simp only [Act.put, List.setIfInBounds_toArray, List.set_cons_succ, List.set_cons_zero]))
        refine wpM_exact rfl rfl rfl Try.func34 (by kernel_rfl) (by kernel_rfl) (fun w1 _ _ => HB.out w1) rfl (by simp only [Act.put, List.setIfInBounds_toArray, List.set_cons_succ, List.set_cons_zero]; rfl) ?_
        repeat (first | ((with_reducible refine wpM_calm ?_ ?_ ?_ ?_); exact rfl; exact rfl; exact rfl; intro K hK; go_big_quiet_op; go_big_quiet_on) | ((with_reducible refine wpM_skip ?_ ?_); exact rfl; simp only [Act.put, List.setIfInBounds_toArray, List.set_cons_succ, List.set_cons_zero]))
        refine wpM_nil ?_
        intro w2 hb2 _
        replace hb0 := on hb0 hb2
        go_wp2
        go_ret
        exact ⟨rfl, hb0⟩
      | true =>
        refine wp_region_mem 13 (fun d => match d with
          | 14 => some (Is (.bool true))
          | 23 => some (Is (.bool true))
          | _ => none) (by kernel_rfl) (by kernel_rfl) ?_
        simp only [List.take_succ_cons, List.take_zero, List.drop_succ_cons, List.drop_zero]
        repeat (first | ((with_reducible refine wpM_calm ?_ ?_ ?_ ?_); exact rfl; exact rfl; exact rfl; intro K hK; go_big_quiet_op; go_big_quiet_on) | ((with_reducible refine wpM_skip ?_ ?_); exact rfl; simp only [Act.put, List.setIfInBounds_toArray, List.set_cons_succ, List.set_cons_zero]))
        refine wpM_exact rfl rfl rfl Try.func32 (by kernel_rfl) (by kernel_rfl) (fun w1 _ _ => HM.out w1) rfl (by simp only [Act.put, List.setIfInBounds_toArray, List.set_cons_succ, List.set_cons_zero]; rfl) ?_
        repeat (first | ((with_reducible refine wpM_calm ?_ ?_ ?_ ?_); exact rfl; exact rfl; exact rfl; intro K hK; go_big_quiet_op; go_big_quiet_on) | ((with_reducible refine wpM_skip ?_ ?_); exact rfl; simp only [Act.put, List.setIfInBounds_toArray, List.set_cons_succ, List.set_cons_zero]))
        refine wpM_exact rfl rfl rfl Try.func34 (by kernel_rfl) (by kernel_rfl) (fun w1 _ _ => HB.out w1) rfl (by simp only [Act.put, List.setIfInBounds_toArray, List.set_cons_succ, List.set_cons_zero]; rfl) ?_
        repeat (first | ((with_reducible refine wpM_calm ?_ ?_ ?_ ?_); exact rfl; exact rfl; exact rfl; intro K hK; go_big_quiet_op; go_big_quiet_on) | ((with_reducible refine wpM_skip ?_ ?_); exact rfl; simp only [Act.put, List.setIfInBounds_toArray, List.set_cons_succ, List.set_cons_zero]))
        refine wpM_nil ?_
        intro w2 hb2 _
        replace hb0 := on hb0 hb2
        go_wp2
        go_ret
        exact ⟨rfl, hb0⟩
end Go.Proofs.Yteolenhgaekihaa.Right

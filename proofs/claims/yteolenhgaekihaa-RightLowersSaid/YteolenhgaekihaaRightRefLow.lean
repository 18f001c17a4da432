/- What the reference's Lowers answers: for every slice that reads as grants. -/
import Derived.Test.YteolenhgaekihaaRightRef
namespace Go.Proofs.Yteolenhgaekihaa.Right
open Go.RowKit Kit Reg Go.Proofs.Yteolenhgaekihaa.Lab
open Go.Proofs.Yteolenhgaekihaa.Cats (U U_or U_zero)

theorem lowersB_snoc {gs : List Gr} {k : Nat} {g : Gr} (h : gs[k]? = some g) (t : ByteArray) (l : Int) (s : Nat) (j : Int) (r : Nat) : lowersB (gs.take (k + 1)) t l s j r = (lowersB (gs.take k) t l s j r || g.lets t l s j r) := by
  rw [List.take_add_one, h]
  simp [lowersB, List.any_append]
set_option maxRecDepth 100000 in
set_option maxHeartbeats 4000000 in
theorem rlowers_c (A : Option Addr) (n cap : Nat) (gs : List Gr) (t : ByteArray) (l : Int) (s : Nat) (j : Int) (r : Nat) (hs : U s) (hr : U r) (w : World) (hz : GrantsR w A n gs) :
    Calls Try.prog 17 #[.slice A n cap, .string t, .agg #[.int .i64 l, .int .u64 s], .agg #[.int .i64 j, .int .u64 r]] w fun e w' => e = .returned (.bool (lowersB gs t l s j r)) ∧ Below w.heap.size w w' := by
  have HZ := Lib.hid hz
  have hlen := hz.1
  have hmax := hz.2.1
  have HU := Lib.hid hz.2.2.1
  have HS := Lib.hid hs
  have HR := Lib.hid hr
  clear hz hs hr
  have hb0 := below2 w (.cells #[.int .i64 l, .int .u64 s] 25) (.cells #[.int .i64 j, .int .u64 r] 25)
  have kl := (CellsAt.new w [.int .i64 l, .int .u64 s] 25).on_alloc (.cells #[.int .i64 j, .int .u64 r] 25)
  have kj := CellsAt.new (w.alloc (.cells #[.int .i64 l, .int .u64 s] 25)) [.int .i64 j, .int .u64 r] 25
  rw [show (w.alloc (.cells #[.int .i64 l, .int .u64 s] 25)).heap.size = w.heap.size + 1 by simp] at kj
  go_enter Try.func17, Try.ntmps17
  go_wp2
  go_loopw [9, 10] (fun c i wr => ∃ k : Nat, k ≤ n ∧ i = .int .i64 k ∧ c = .bool (lowersB (gs.take k) t l s j r) ∧ Below w.heap.size w wr ∧ CellsAt wr w.heap.size [.int .i64 l, .int .u64 s] ∧ CellsAt wr (w.heap.size + 1) [.int .i64 j, .int .u64 r]) (fun _ i _ => n - (intOf i).toNat)
  case atStart => exact ⟨0, Nat.zero_le _, rfl, rfl, hb0, kl, kj⟩
  case round =>
    clear hb0 kl kj
    obtain ⟨k, hk, rfl, rfl, hb0, kl, kj⟩ := hrel
    by_cases hlt : k < n
    · obtain ⟨g, hgk⟩ : ∃ g, gs[k]? = some g := ⟨_, List.getElem?_eq_getElem (by rw [hlen]; exact hlt)⟩
      have HN := Lib.hid (lowersB_snoc hgk t l s j r)
      obtain ⟨hg1, hg2⟩ := HU.out g (List.mem_of_getElem? hgk)
      obtain ⟨_, _, _, h4⟩ := HZ.out.on hb0
      obtain ⟨b, o, rfl, hblt, hcell⟩ := h4 (by omega)
      obtain ⟨c0, c1, c2, c3, c4⟩ := grant_cells (hcell k g hgk)
      obtain ⟨l0, l1, _⟩ := kl.two
      obtain ⟨j0, j1, _⟩ := kj.two
      have C0 := fun d os => cell_regrown c0 d os
      have C1 := fun d os => cell_regrown c1 d os
      have C2 := fun d os => cell_regrown c2 d os
      have C3 := fun d os => cell_regrown c3 d os
      have C4 := fun d os => cell_regrown c4 d os
      have L0 := fun d os => cell_regrown l0 d os
      have L1 := fun d os => cell_regrown l1 d os
      have J0 := fun d os => cell_regrown j0 d os
      have J1 := fun d os => cell_regrown j1 d os
      have H1 := Lib.hid (fun b (hb : belowL l s g.l g.s = b) w1 => rbelow_c l g.l s g.s b HS.out hg1 hb w1)
      have H2 := Lib.hid (fun b (hb : belowL g.k g.r j r = b) w1 => rbelow_c g.k j g.r r b hg2 HR.out hb w1)
      clear h4 hcell hgk c0 c1 c2 c3 c4 l0 l1 j0 j1
      cases hcv : lowersB (gs.take k) t l s j r with
      | true =>
        rw [hcv, Bool.true_or] at HN
        clear hcv
        go_wp2_with fail
        refine wp_region_mem 29 (fun d => match d with
          | 33 => some (Is (.bool true))
          | 42 => some (Is (.bool true))
          | _ => none) (by kernel_rfl) (by kernel_rfl) ?_
        simp only [List.take_succ_cons, List.take_zero, List.drop_succ_cons, List.drop_zero]
        repeat (first | ((with_reducible refine wpM_calm ?_ ?_ ?_ ?_); exact rfl; exact rfl; exact rfl; intro K hK; go_big_quiet_op; go_big_quiet_on) | ((with_reducible refine wpM_skip ?_ ?_); exact rfl; simp only [Act.put, List.setIfInBounds_toArray, List.set_cons_succ, List.set_cons_zero]))
        refine wpM_nil ?_
        intro w2 hb2 _
        replace hb0 := on hb0 hb2
        replace kl := kl.on hb2
        replace kj := kj.on hb2
        go_wp2
        go_roundw
        case rel => exact ⟨k + 1, by omega, by go_num, by rw [HN.out], hb0, kl, kj⟩
        case measure => simp [intOf]; omega
      | false =>
        rw [hcv, Bool.false_or] at HN
        clear hcv
        cases hn : (g.name.toList == t.toList) with
        | false =>
          have HN2 : Hid (lowersB (gs.take (k + 1)) t l s j r = false) := by rw [HN.out]; exact Lib.hid (by unfold Gr.lets; rw [hn]; rfl)
          clear HN
          go_wp2_with fail
          refine wp_region_mem 29 (fun d => match d with
            | 33 => some (Is (.bool true))
            | 42 => some (Is (.bool true))
            | _ => none) (by kernel_rfl) (by kernel_rfl) ?_
          simp only [List.take_succ_cons, List.take_zero, List.drop_succ_cons, List.drop_zero]
          repeat (first | ((with_reducible refine wpM_calm ?_ ?_ ?_ ?_); exact rfl; exact rfl; exact rfl; intro K hK; go_big_quiet_op; go_big_quiet_on) | ((with_reducible refine wpM_skip ?_ ?_); exact rfl; simp only [Act.put, List.setIfInBounds_toArray, List.set_cons_succ, List.set_cons_zero]))
          refine wpM_nil ?_
          intro w2 hb2 _
          replace hb0 := on hb0 hb2
          replace kl := kl.on hb2
          replace kj := kj.on hb2
          go_wp2
          go_roundw
          case rel => exact ⟨k + 1, by omega, by go_num, by rw [HN2.out], hb0, kl, kj⟩
          case measure => simp [intOf]; omega
        | true =>
          cases h1 : belowL l s g.l g.s with
          | false =>
            have HN2 : Hid (lowersB (gs.take (k + 1)) t l s j r = false) := by rw [HN.out]; exact Lib.hid (by unfold Gr.lets; rw [hn, h1]; rfl)
            have H1b := Lib.hid (fun w1 => H1.out _ h1 w1)
            clear HN h1
            go_wp2_with fail
            refine wp_region_mem 29 (fun d => match d with
              | 33 => some (Is (.bool false))
              | 42 => some (Is (.bool true))
              | _ => none) (by kernel_rfl) (by kernel_rfl) ?_
            simp only [List.take_succ_cons, List.take_zero, List.drop_succ_cons, List.drop_zero]
            repeat (first | ((with_reducible refine wpM_calm ?_ ?_ ?_ ?_); exact rfl; exact rfl; exact rfl; intro K hK; go_big_quiet_op; go_big_quiet_on) | ((with_reducible refine wpM_skip ?_ ?_); exact rfl; simp only [Act.put, List.setIfInBounds_toArray, List.set_cons_succ, List.set_cons_zero]))
            refine wpM_exact rfl rfl rfl Try.func34 (by kernel_rfl) (by kernel_rfl) (fun w1 _ _ => H1b.out w1) rfl (by simp only [Act.put, List.setIfInBounds_toArray, List.set_cons_succ, List.set_cons_zero]; rfl) ?_
            repeat (first | ((with_reducible refine wpM_calm ?_ ?_ ?_ ?_); exact rfl; exact rfl; exact rfl; intro K hK; go_big_quiet_op; go_big_quiet_on) | ((with_reducible refine wpM_skip ?_ ?_); exact rfl; simp only [Act.put, List.setIfInBounds_toArray, List.set_cons_succ, List.set_cons_zero]))
            refine wpM_nil ?_
            intro w2 hb2 _
            replace hb0 := on hb0 hb2
            replace kl := kl.on hb2
            replace kj := kj.on hb2
            go_wp2
            go_roundw
            case rel => exact ⟨k + 1, by omega, by go_num, by rw [HN2.out], hb0, kl, kj⟩
            case measure => simp [intOf]; omega
          | true =>
            obtain ⟨q, h2⟩ : ∃ q, belowL g.k g.r j r = q := ⟨_, rfl⟩
            have HN2 : Hid (lowersB (gs.take (k + 1)) t l s j r = q) := by rw [HN.out]; exact Lib.hid (by unfold Gr.lets; rw [hn, h1, h2]; rfl)
            have H1b := Lib.hid (fun w1 => H1.out _ h1 w1)
            have H2b := Lib.hid (fun w1 => H2.out _ h2 w1)
            clear HN h1 h2
            go_wp2_with fail
            refine wp_region_mem 29 (fun d => match d with
              | 33 => some (Is (.bool true))
              | 42 => some (Is (.bool q))
              | _ => none) (by kernel_rfl) (by kernel_rfl) ?_
            simp only [List.take_succ_cons, List.take_zero, List.drop_succ_cons, List.drop_zero]
            repeat (first | ((with_reducible refine wpM_calm ?_ ?_ ?_ ?_); exact rfl; exact rfl; exact rfl; intro K hK; go_big_quiet_op; go_big_quiet_on) | ((with_reducible refine wpM_skip ?_ ?_); exact rfl; simp only [Act.put, List.setIfInBounds_toArray, List.set_cons_succ, List.set_cons_zero]))
            refine wpM_exact rfl rfl rfl Try.func34 (by kernel_rfl) (by kernel_rfl) (fun w1 _ _ => H1b.out w1) rfl (by simp only [Act.put, List.setIfInBounds_toArray, List.set_cons_succ, List.set_cons_zero]; rfl) ?_
            repeat (first | ((with_reducible refine wpM_calm ?_ ?_ ?_ ?_); exact rfl; exact rfl; exact rfl; intro K hK; go_big_quiet_op; go_big_quiet_on) | ((with_reducible refine wpM_skip ?_ ?_); exact rfl; simp only [Act.put, List.setIfInBounds_toArray, List.set_cons_succ, List.set_cons_zero]))
            refine wpM_exact rfl rfl rfl Try.func34 (by kernel_rfl) (by kernel_rfl) (fun w1 _ _ => H2b.out w1) rfl (by simp only [Act.put, List.setIfInBounds_toArray, List.set_cons_succ, List.set_cons_zero]; rfl) ?_
            repeat (first | ((with_reducible refine wpM_calm ?_ ?_ ?_ ?_); exact rfl; exact rfl; exact rfl; intro K hK; go_big_quiet_op; go_big_quiet_on) | ((with_reducible refine wpM_skip ?_ ?_); exact rfl; simp only [Act.put, List.setIfInBounds_toArray, List.set_cons_succ, List.set_cons_zero]))
            refine wpM_nil ?_
            intro w2 hb2 _
            replace hb0 := on hb0 hb2
            replace kl := kl.on hb2
            replace kj := kj.on hb2
            go_wp2
            go_roundw
            case rel => exact ⟨k + 1, by omega, by go_num, by rw [HN2.out], hb0, kl, kj⟩
            case measure => simp [intOf]; omega
    · obtain rfl : k = n := by omega
      rw [List.take_of_length_le (by omega)]
      go_wp2
      go_ret
      exact ⟨rfl, hb0⟩
end Go.Proofs.Yteolenhgaekihaa.Right

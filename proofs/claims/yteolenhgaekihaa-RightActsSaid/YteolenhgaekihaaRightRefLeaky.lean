/- The grants that leak to a label: what the reference's Leaky answers. -/
import Derived.Test.YteolenhgaekihaaRightRef
import Derived.Test.YteolenhgaekihaaRightRows
namespace Go.Proofs.Yteolenhgaekihaa.Right
open Go.RowKit Kit Reg Go.Proofs.Yteolenhgaekihaa.Lab
open Go.Proofs.Yteolenhgaekihaa.Cats (U U_or U_zero)

set_option maxRecDepth 100000 in
set_option maxHeartbeats 4000000 in
theorem rleaky_c (A : Option Addr) (n cap : Nat) (hn9 : n ≤ 1000) (gs : List Gr) (l : Int) (s : Nat) (hs : U s) (w : World) (hz : GrantsR w A n gs) :
    Calls Try.prog 19 #[.slice A n cap, .agg #[.int .i64 l, .int .u64 s]] w fun e w' => ∃ v, e = .returned v ∧ OwnG w.heap.size v (leakyF gs l s) w' ∧ Below w.heap.size w w' := by
  obtain ⟨i0, hin, hz0, hz1, hz2⟩ := info_parts infoG
  have HZ := Lib.hid hz
  have hlen := hz.1
  have HU := Lib.hid hz.2.2.1
  have HS := Lib.hid hs
  clear hz hs
  have hb0 := below1 w (.cells #[.int .i64 l, .int .u64 s] 25)
  have kl := CellsAt.new w [.int .i64 l, .int .u64 s] 25
  go_enter Try.func19, Try.ntmps19
  go_wp2
  go_loopw [5, 6] (fun o i wr => ∃ k : Nat, k ≤ n ∧ i = .int .i64 k ∧ OwnG (w.heap.size + 1) o (leakyF (gs.take k) l s) wr ∧ Below w.heap.size w wr ∧ CellsAt wr w.heap.size [.int .i64 l, .int .u64 s]) (fun _ i _ => n - (intOf i).toNat)
  case atStart => exact ⟨0, Nat.zero_le _, rfl, World.ownsRow_nil _ _ _ _, hb0, kl⟩
  case round =>
    clear hb0 kl
    obtain ⟨k, hk, rfl, hrow, hb0, kl⟩ := hrel
    by_cases hlt : k < n
    · obtain ⟨g, hgk⟩ : ∃ g, gs[k]? = some g := ⟨_, List.getElem?_eq_getElem (by rw [hlen]; exact hlt)⟩
      have HN : Hid (leakyF (gs.take (k + 1)) l s = leakyF (gs.take k) l s ++ (if g.leaks l s = true then [g] else [])) := by
        rw [List.take_add_one, hgk]; exact Lib.hid (leakyF_snoc _ _ _ _)
      have hsl : (leakyF (gs.take k) l s).length ≤ k := Nat.le_trans (List.length_filter_le _ _) (by rw [List.length_take]; omega)
      obtain ⟨hg1, hg2⟩ := HU.out g (List.mem_of_getElem? hgk)
      obtain ⟨_, _, _, h4⟩ := HZ.out.on hb0
      obtain ⟨b, o, rfl, hblt, hcell⟩ := h4 (by omega)
      have HCl := Lib.hid (hcell k g hgk)
      obtain ⟨c0, c1, c2, c3, c4⟩ := grant_cells (hcell k g hgk)
      obtain ⟨l0, l1, _⟩ := kl.two
      have C0 := fun d os => cell_regrown c0 d os
      have C1 := fun d os => cell_regrown c1 d os
      have C2 := fun d os => cell_regrown c2 d os
      have C3 := fun d os => cell_regrown c3 d os
      have C4 := fun d os => cell_regrown c4 d os
      have L0 := fun d os => cell_regrown l0 d os
      have L1 := fun d os => cell_regrown l1 d os
      have H1 := Lib.hid (fun b (hb : belowL g.k g.r l s = b) w1 => rbelow_c g.k l g.r s b hg2 HS.out hb w1)
      have H2 := Lib.hid (fun b (hb : belowL g.l g.s l s = b) w1 => rbelow_c g.l l g.s s b hg1 HS.out hb w1)
      clear h4 hcell hgk c0 c1 c2 c3 c4 l0 l1
      generalize leakyF (gs.take k) l s = F at *
      cases h1 : belowL g.k g.r l s with
      | false =>
        rw [show g.leaks l s = false by unfold Gr.leaks; rw [h1]; rfl] at HN
        have H1b := Lib.hid (fun w1 => H1.out _ h1 w1)
        clear h1
        go_wp2_with fail
        refine wp_region_mem 17 (fun d => match d with
          | 19 => some (Is (.bool false))
          | 27 => some (Is (.bool true))
          | _ => none) (by kernel_rfl) (by kernel_rfl) ?_
        simp only [List.take_succ_cons, List.take_zero, List.drop_succ_cons, List.drop_zero]
        repeat (first | ((with_reducible refine wpM_calm ?_ ?_ ?_ ?_); exact rfl; exact rfl; exact rfl; intro K hK; go_big_quiet_op; go_big_quiet_on) | ((with_reducible refine wpM_skip ?_ ?_); exact rfl; simp only [Act.put, List.setIfInBounds_toArray, List.set_cons_succ, List.set_cons_zero]))
        refine wpM_exact rfl rfl rfl Try.func34 (by kernel_rfl) (by kernel_rfl) (fun w1 _ _ => H1b.out w1) rfl (by simp only [Act.put, List.setIfInBounds_toArray, List.set_cons_succ, List.set_cons_zero]; rfl) ?_
        repeat (first | ((with_reducible refine wpM_calm ?_ ?_ ?_ ?_); exact rfl; exact rfl; exact rfl; intro K hK; go_big_quiet_op; go_big_quiet_on) | ((with_reducible refine wpM_skip ?_ ?_); exact rfl; simp only [Act.put, List.setIfInBounds_toArray, List.set_cons_succ, List.set_cons_zero]))
        refine wpM_nil ?_
        intro w4 hb4 _
        replace hb0 := on hb0 hb4
        replace kl := kl.on hb4
        replace hrow := hrow.on hb4
        clear L0 L1 C0 C1 C2 C3 C4
        rw [if_neg (by simp), List.append_nil] at HN
        go_wp2
        go_roundw
        case rel => exact ⟨k + 1, by omega, by go_num, by rw [HN.out]; exact hrow, hb0, kl⟩
        case measure => simp [intOf]; omega
      | true =>
        have H1b := Lib.hid (fun w1 => H1.out _ h1 w1)
        cases h2 : belowL g.l g.s l s with
        | true =>
          rw [show g.leaks l s = false by unfold Gr.leaks; rw [h1, h2]; rfl] at HN
          have H2b := Lib.hid (fun w1 => H2.out _ h2 w1)
          clear h1 h2
          go_wp2_with fail
          refine wp_region_mem 17 (fun d => match d with
            | 19 => some (Is (.bool true))
            | 27 => some (Is (.bool true))
            | _ => none) (by kernel_rfl) (by kernel_rfl) ?_
          simp only [List.take_succ_cons, List.take_zero, List.drop_succ_cons, List.drop_zero]
          repeat (first | ((with_reducible refine wpM_calm ?_ ?_ ?_ ?_); exact rfl; exact rfl; exact rfl; intro K hK; go_big_quiet_op; go_big_quiet_on) | ((with_reducible refine wpM_skip ?_ ?_); exact rfl; simp only [Act.put, List.setIfInBounds_toArray, List.set_cons_succ, List.set_cons_zero]))
          refine wpM_exact rfl rfl rfl Try.func34 (by kernel_rfl) (by kernel_rfl) (fun w1 _ _ => H1b.out w1) rfl (by simp only [Act.put, List.setIfInBounds_toArray, List.set_cons_succ, List.set_cons_zero]; rfl) ?_
          repeat (first | ((with_reducible refine wpM_calm ?_ ?_ ?_ ?_); exact rfl; exact rfl; exact rfl; intro K hK; go_big_quiet_op; go_big_quiet_on) | ((with_reducible refine wpM_skip ?_ ?_); exact rfl; simp only [Act.put, List.setIfInBounds_toArray, List.set_cons_succ, List.set_cons_zero]))
          refine wpM_exact rfl rfl rfl Try.func34 (by kernel_rfl) (by kernel_rfl) (fun w1 _ _ => H2b.out w1) rfl (by simp only [Act.put, List.setIfInBounds_toArray, List.set_cons_succ, List.set_cons_zero]; rfl) ?_
          repeat (first | ((with_reducible refine wpM_calm ?_ ?_ ?_ ?_); exact rfl; exact rfl; exact rfl; intro K hK; go_big_quiet_op; go_big_quiet_on) | ((with_reducible refine wpM_skip ?_ ?_); exact rfl; simp only [Act.put, List.setIfInBounds_toArray, List.set_cons_succ, List.set_cons_zero]))
          refine wpM_nil ?_
          intro w4 hb4 _
          replace hb0 := on hb0 hb4
          replace kl := kl.on hb4
          replace hrow := hrow.on hb4
          clear L0 L1 C0 C1 C2 C3 C4
          rw [if_neg (by simp), List.append_nil] at HN
          go_wp2
          go_roundw
          case rel => exact ⟨k + 1, by omega, by go_num, by rw [HN.out]; exact hrow, hb0, kl⟩
          case measure => simp [intOf]; omega
        | false =>
          rw [show g.leaks l s = true by unfold Gr.leaks; rw [h1, h2]; rfl] at HN
          have H2b := Lib.hid (fun w1 => H2.out _ h2 w1)
          clear h1 h2
          go_wp2_with fail
          refine wp_region_mem 17 (fun d => match d with
            | 19 => some (Is (.bool true))
            | 27 => some (Is (.bool false))
            | _ => none) (by kernel_rfl) (by kernel_rfl) ?_
          simp only [List.take_succ_cons, List.take_zero, List.drop_succ_cons, List.drop_zero]
          repeat (first | ((with_reducible refine wpM_calm ?_ ?_ ?_ ?_); exact rfl; exact rfl; exact rfl; intro K hK; go_big_quiet_op; go_big_quiet_on) | ((with_reducible refine wpM_skip ?_ ?_); exact rfl; simp only [Act.put, List.setIfInBounds_toArray, List.set_cons_succ, List.set_cons_zero]))
          refine wpM_exact rfl rfl rfl Try.func34 (by kernel_rfl) (by kernel_rfl) (fun w1 _ _ => H1b.out w1) rfl (by simp only [Act.put, List.setIfInBounds_toArray, List.set_cons_succ, List.set_cons_zero]; rfl) ?_
          repeat (first | ((with_reducible refine wpM_calm ?_ ?_ ?_ ?_); exact rfl; exact rfl; exact rfl; intro K hK; go_big_quiet_op; go_big_quiet_on) | ((with_reducible refine wpM_skip ?_ ?_); exact rfl; simp only [Act.put, List.setIfInBounds_toArray, List.set_cons_succ, List.set_cons_zero]))
          refine wpM_exact rfl rfl rfl Try.func34 (by kernel_rfl) (by kernel_rfl) (fun w1 _ _ => H2b.out w1) rfl (by simp only [Act.put, List.setIfInBounds_toArray, List.set_cons_succ, List.set_cons_zero]; rfl) ?_
          repeat (first | ((with_reducible refine wpM_calm ?_ ?_ ?_ ?_); exact rfl; exact rfl; exact rfl; intro K hK; go_big_quiet_op; go_big_quiet_on) | ((with_reducible refine wpM_skip ?_ ?_); exact rfl; simp only [Act.put, List.setIfInBounds_toArray, List.set_cons_succ, List.set_cons_zero]))
          refine wpM_nil ?_
          intro w4 hb4 _
          replace hb0 := on hb0 hb4
          replace kl := kl.on hb4
          replace hrow := hrow.on hb4
          clear L0 L1 C0 C1 C2 C3 C4
          first | rw [if_pos trivial] at HN | rw [if_pos rfl] at HN
          have HC4 : Hid (∀ j v, g.cells[j]? = some v → w4.cell? ⟨b, o + k * 5 + j, none⟩ = some v) := Lib.hid fun j v hj => kept hb4 (HCl.out j v hj)
          obtain ⟨c0, c1, c2, c3, c4⟩ := grant_cells HC4.out
          have hnew := grant_new w4 g
          have hone : ∀ u ∈ g.cells, u.oneCell' = true := fun u hu => by
            simp only [Gr.cells, List.mem_cons, List.not_mem_nil, or_false] at hu
            rcases hu with rfl | rfl | rfl | rfl | rfl <;> rfl
          unfold OwnG at hrow
          generalize hFl : F.length = m at *
          have HFl := Lib.hid hFl
          have hblt4 : b < w4.heap.size := Nat.lt_of_lt_of_le hblt hb4.size
          have hs0 := hb0.size
          clear hFl hb4
          go_wp2_with (at_builtin; refine wpList_append_own_at _ rfl _ _ 42 rfl (w.heap.size + 1) 59 i0 _ 5 48 Try.underlying42 hin hz0 hz1 hz2 rfl (by decide) _ m (flatG F) rfl (hrow.alloc _) ⟨w4.heap.size, 0, none⟩ 1 1 g.cells rfl rfl hnew hone (by unfold maxLen; omega) (by omega) (by have := kl.1; simp; omega) ?_; intro v' w5 hown' hgrow hnil hloc)
          go_roundw
          case rel =>
            refine ⟨k + 1, by omega, by go_num, ?_, ?_, ?_⟩
            · rw [HN.out]
              unfold OwnG
              rw [flatG_snoc, List.length_append, HFl.out]
              exact hown'
            · exact (on_alloc hb0 _).grown hgrow (by have := hb0.size; simp; omega) (fun b e => by have := (World.ownsRow.lt hrow b e).1; omega)
            · exact cells_grown (kl.on_alloc _) hgrow (own_far hrow (by omega))
          case measure => simp [intOf]; omega
    · obtain rfl : k = n := by omega
      rw [List.take_of_length_le (by omega)] at hrow
      go_wp2
      go_ret
      exact ⟨_, rfl, World.ownsRow.mono hrow (by omega), hb0⟩
end Go.Proofs.Yteolenhgaekihaa.Right

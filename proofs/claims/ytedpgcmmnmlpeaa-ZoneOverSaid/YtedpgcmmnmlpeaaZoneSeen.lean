/- Those of a span's cells whose container is at or below a label: what the program's Seen answers, for any slice that reads as zones. -/
import Derived.Test.YtedpgcmmnmlpeaaZoneOver
import Derived.Laws.OwnMore
namespace Go.Proofs.Ytedpgcmmnmlpeaa.Zone
open Go.RowKit Kit Reg Go.Proofs.Ytedpgcmmnmlpeaa.Span Go.Proofs.Ytedpgcmmnmlpeaa.Lab
open Go.Proofs.Ytedpgcmmnmlpeaa.Cats (U U_or U_zero)

theorem RowG.grownBy {W W' : World} {g : Nat} {T : List (Int × Int)} {row : Option Nat} (h : RowG W g T) (hg : W.grownBy W' row) (hne : T ≠ [] → some g ≠ row) : RowG W' g T := by
  by_cases hT : T = []
  · subst hT
    intro i c hc
    simp at hc
  · exact fun i c hc => ⟨hg.cell (h i c hc).1 (hne hT), hg.cell (h i c hc).2 (hne hT)⟩
set_option maxRecDepth 100000 in
set_option maxHeartbeats 4000000 in
theorem seen_c (A : Option Addr) (n cap : Nat) (zs : List Zn) (a b c d l : Int) (s : Nat) (hs : U s) (T : List (Int × Int)) (hT : T.length ≤ 1000) (HC : ∀ w1, Calls Try.prog 17 #[.agg #[.int .i64 a, .int .i64 b, .int .i64 c, .int .i64 d]] w1 (CellsEnd T w1))
    (w : World) (hz : ZonesR w A n zs) :
    Calls Try.prog 13 #[.slice A n cap, .agg #[.int .i64 a, .int .i64 b, .int .i64 c, .int .i64 d], .agg #[.int .i64 l, .int .u64 s]] w (CellsEnd (seenF zs T l s) w) := by
  obtain ⟨i0, hin, hz0, hz1, hz2⟩ := info_parts infoC
  have HZ := Lib.hid hz
  have HCl := Lib.hid HC
  have HS := Lib.hid hs
  clear hz HC hs
  have hb0 := below2 w (.cells #[.int .i64 a, .int .i64 b, .int .i64 c, .int .i64 d] 26) (.cells #[.int .i64 l, .int .u64 s] 30)
  have hx := (CellsAt.new w [.int .i64 a, .int .i64 b, .int .i64 c, .int .i64 d] 26).on_alloc (.cells #[.int .i64 l, .int .u64 s] 30)
  have hr := CellsAt.new (w.alloc (.cells #[.int .i64 a, .int .i64 b, .int .i64 c, .int .i64 d] 26)) [.int .i64 l, .int .u64 s] 30
  have hrow := World.ownsRow_lit (base := w.heap.size + 2) (e := 24) (size := 2) ((w.alloc (.cells #[.int .i64 a, .int .i64 b, .int .i64 c, .int .i64 d] 26)).alloc (.cells #[.int .i64 l, .int .u64 s] 30)) #[] 0 (by simp) (by simp [maxLen]) rfl
  rw [show (w.alloc (.cells #[.int .i64 a, .int .i64 b, .int .i64 c, .int .i64 d] 26)).heap.size = w.heap.size + 1 by simp] at hr
  rw [show ((w.alloc (.cells #[.int .i64 a, .int .i64 b, .int .i64 c, .int .i64 d] 26)).alloc (.cells #[.int .i64 l, .int .u64 s] 30)).heap.size = w.heap.size + 2 by simp] at hrow
  replace hb0 := on_alloc hb0 (.cells #[] 24)
  replace hx := hx.on_alloc (.cells #[] 24)
  replace hr := hr.on_alloc (.cells #[] 24)
  have hW0 : w.heap.size + 3 = (((w.alloc (.cells #[.int .i64 a, .int .i64 b, .int .i64 c, .int .i64 d] 26)).alloc (.cells #[.int .i64 l, .int .u64 s] 30)).alloc (.cells #[] 24)).heap.size := by simp
  go_enter Try.func13, Try.ntmps13
  go_wp2_with fail
  generalize ((w.alloc (.cells #[.int .i64 a, .int .i64 b, .int .i64 c, .int .i64 d] 26)).alloc (.cells #[.int .i64 l, .int .u64 s] 30)).alloc (.cells #[] 24) = W at *
  have hs1 := hb0.size
  refine (HCl.out _).mono ?_
  rintro e w2 ⟨v, rfl, hv, hb2⟩
  replace hb0 := on hb0 hb2
  replace hr := hr.on hb2
  replace hrow : w2.ownsRow (w.heap.size + 2) 24 2 (.slice (some ⟨w.heap.size + 2, 0, none⟩) 0 0) 0 [] := World.ownsRow.kept hrow (grown_none hb2) (.inr (by simp [Value.ownBlock]))
  have hs2 := hb2.size
  have hvr := hv.row
  obtain ⟨V, vc, rfl, _⟩ := id hvr
  obtain ⟨g, hA, hG⟩ := hvr.block
  have HA : Hid (T ≠ [] → V = some ⟨g, 0, none⟩ ∧ g < w2.heap.size ∧ w.heap.size + 3 ≤ g) := Lib.hid fun h => ⟨(hA h).1, (hA h).2, by have := hv.new (hA h).1; omega⟩
  clear hb2 hx hv hvr hA
  go_wp2
  go_loopw [7, 14] (fun o i wr => ∃ k : Nat, k ≤ T.length ∧ i = .int .i64 k ∧ OwnRow (w.heap.size + 2) o (seenF zs (T.take k) l s) wr ∧ (T ≠ [] → some g ≠ o.ownBlock) ∧ Below w.heap.size w wr ∧ CellsAt wr (w.heap.size + 1) [.int .i64 l, .int .u64 s] ∧ RowG wr g T ∧ w2.heap.size ≤ wr.heap.size) (fun _ i _ => T.length - (intOf i).toNat)
  case atStart =>
    refine ⟨0, Nat.zero_le _, rfl, hrow, fun h => ?_, hb0, hr, hG, Nat.le_refl _⟩
    have := (HA.out h).2.2
    simp [Value.ownBlock]
    omega
  case round =>
    clear hb0 hr hG hrow
    obtain ⟨k, hk, rfl, hrow, hne, hb0, hr, hG, hsz⟩ := hrel
    have hs0 := hb0.size
    by_cases hlt : k < T.length
    · obtain ⟨c, hck⟩ : ∃ c, T[k]? = some c := ⟨_, List.getElem?_eq_getElem hlt⟩
      have hT0 : T ≠ [] := by intro e; rw [e] at hlt; simp at hlt
      obtain ⟨rfl, hg, hJg⟩ := HA.out hT0
      obtain ⟨g0, g1⟩ := hG k c hck
      have HN : Hid (seenF zs (T.take (k + 1)) l s = seenF zs (T.take k) l s ++ (if belowL (contF zs c.1 c.2).1 (contF zs c.1 c.2).2 l s = true then [c] else [])) := by
        rw [List.take_add_one, hck]; exact Lib.hid (seenF_snoc _ _ _ _ _)
      have hsl : (seenF zs (T.take k) l s).length ≤ k := Nat.le_trans (seenF_len _ _ _ _) (by rw [List.length_take]; omega)
      have hu2 := contF_U (x := c.1) (y := c.2) HZ.out.2.2.1
      have HZ2 := Lib.hid (HZ.out.on hb0)
      clear hck
      generalize hco : contF zs c.1 c.2 = q at *
      generalize seenF zs (T.take k) l s = F at *
      obtain ⟨c1, c2⟩ := c
      obtain ⟨q1, q2⟩ := q
      simp only at *
      obtain ⟨bl, hbl⟩ : ∃ bl, belowL q1 q2 l s = bl := ⟨_, rfl⟩
      have HO2 := Lib.hid (fun w1 (h : ZonesR w1 A n zs) => of_c A n cap zs c1 c2 q1 q2 hco w1 h)
      have HJ := Lib.hid (fun w1 => below_c q1 l q2 s bl hu2 HS.out hbl w1)
      rw [hbl] at HN
      clear hco hu2 hbl
      have lr := hr.1
      have hX := CellsAt.new wr [.int .i64 c1, .int .i64 c2] 24
      have hbx := below1 wr (.cells #[.int .i64 c1, .int .i64 c2] 24)
      replace hb0 := on_alloc hb0 (.cells #[.int .i64 c1, .int .i64 c2] 24)
      replace hr := hr.on_alloc (.cells #[.int .i64 c1, .int .i64 c2] 24)
      replace hG := hG.on hbx
      replace hrow := hrow.on hbx
      have HZ3 := Lib.hid (HZ2.out.on hbx)
      have hls : (wr.alloc (.cells #[.int .i64 c1, .int .i64 c2] 24)).heap.size = wr.heap.size + 1 := by simp
      clear HZ2 hbx
      go_wp2_with fail
      generalize wr.alloc (.cells #[.int .i64 c1, .int .i64 c2] 24) = X at *
      clear g0 g1
      obtain ⟨j0, j1, _⟩ := hr.two
      obtain ⟨x0, x1, _⟩ := hX.two
      have J0 := fun d os => cell_regrown j0 d os
      have J1 := fun d os => cell_regrown j1 d os
      have X0 := fun d os => cell_regrown x0 d os
      have X1 := fun d os => cell_regrown x1 d os
      clear j0 j1 x0 x1
      refine wp_region_mem 5 (fun d => match d with
        | 20 => some (Is (.agg #[.int .i64 q1, .int .u64 q2]))
        | 22 => some (Is (.bool bl))
        | _ => none) (by kernel_rfl) (by kernel_rfl) ?_
      simp only [List.take_succ_cons, List.take_zero, List.drop_succ_cons, List.drop_zero]
      repeat (first | (refine wpM_calm rfl rfl rfl ?_; intro K hK; go_big_quiet_op; go_big_quiet_on) | (refine wpM_skip rfl ?_; simp only [Act.put, List.setIfInBounds_toArray, List.set_cons_succ, List.set_cons_zero]))
      refine wpM_exact rfl rfl rfl Try.func11 (by kernel_rfl) (by kernel_rfl) (fun w1 hw1 _ => HO2.out w1 (HZ3.out.on hw1)) rfl (by simp only [Act.put, List.setIfInBounds_toArray, List.set_cons_succ, List.set_cons_zero]; rfl) ?_
      repeat (first | (refine wpM_calm rfl rfl rfl ?_; intro K hK; go_big_quiet_op; go_big_quiet_on) | (refine wpM_skip rfl ?_; simp only [Act.put, List.setIfInBounds_toArray, List.set_cons_succ, List.set_cons_zero]))
      refine wpM_exact rfl rfl rfl Try.func10 (by kernel_rfl) (by kernel_rfl) (fun w1 _ _ => HJ.out w1) rfl (by simp only [Act.put, List.setIfInBounds_toArray, List.set_cons_succ, List.set_cons_zero]; rfl) ?_
      repeat (first | (refine wpM_calm rfl rfl rfl ?_; intro K hK; go_big_quiet_op; go_big_quiet_on) | (refine wpM_skip rfl ?_; simp only [Act.put, List.setIfInBounds_toArray, List.set_cons_succ, List.set_cons_zero]))
      refine wpM_nil ?_
      intro w4 hb4 _
      replace hb0 := on hb0 hb4
      replace hr := hr.on hb4
      replace hG := hG.on hb4
      replace hrow := hrow.on hb4
      replace hX := hX.on hb4
      have hs4 := hb4.size
      clear hb4 J0 J1 X0 X1 HO2 HJ
      cases bl with
      | false =>
        rw [if_neg (by simp), List.append_nil] at HN
        go_wp2
        go_roundw
        case rel => exact ⟨k + 1, by omega, by go_num, by rw [HN.out]; exact hrow, hne, hb0, hr, hG, by omega⟩
        case measure => simp [intOf]; omega
      | true =>
        rw [if_pos rfl] at HN
        obtain ⟨x0, x1, _⟩ := hX.two
        have hnew := two_new w4 (c1, c2)
        unfold OwnRow at hrow
        generalize hFl : F.length = m at *
        have HFl := Lib.hid hFl
        clear hFl
        have hlx := hX.1
        go_wp2_with (at_builtin; refine wpList_append_own_at _ rfl _ _ 32 rfl (w.heap.size + 2) 24 i0 _ 2 16 Try.underlying32 hin hz0 hz1 hz2 rfl (by decide) _ m (flat F) rfl (hrow.alloc _) ⟨w4.heap.size, 0, none⟩ 1 1 [.int .i64 c1, .int .i64 c2] rfl rfl hnew (by simp [Value.oneCell']) (by unfold maxLen; omega) (by omega) (by simp; omega) ?_; intro v' w5 hown' hgrow hnil hloc)
        have hne' : ∀ b, b ≤ w.heap.size + 1 → some b ≠ Value.ownBlock _ := fun b hb e => by
          have := (World.ownsRow.lt hrow _ e.symm).1
          omega
        go_roundw
        case rel =>
          refine ⟨k + 1, by omega, by go_num, ?_, ?_, ?_, ?_, ?_, ?_⟩
          · rw [HN.out]
            unfold OwnRow
            rw [flat_snoc, List.length_append, HFl.out]
            exact hown'
          · intro _ e
            rcases hloc with h | h
            · rw [h] at e; exact hne hT0 e
            · rw [h] at e
              simp only [Option.some.injEq, World.size_alloc] at e
              omega
          · exact (on_alloc hb0 _).grown hgrow (by have := hb0.size; simp; omega) (fun b e => by have := (World.ownsRow.lt hrow b e).1; omega)
          · exact CellsAt.grownBy (hr.on_alloc _) hgrow (hne' _ (Nat.le_refl _))
          · exact RowG.grownBy (hG.on (below1 _ _)) hgrow hne
          · have := hgrow.size; simp at this; omega
        case measure => simp [intOf]; omega
    · obtain rfl : k = T.length := by omega
      rw [List.take_length] at hrow
      clear hG
      go_wp2
      go_ret
      exact ⟨_, rfl, World.ownsRow.mono hrow (by omega), hb0⟩
end Go.Proofs.Ytedpgcmmnmlpeaa.Zone

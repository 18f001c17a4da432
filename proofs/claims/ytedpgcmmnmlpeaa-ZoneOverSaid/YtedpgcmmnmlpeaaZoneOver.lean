/- The join over a span's cells: what the program's Over answers, for any slice that reads as zones. -/
import Derived.Test.YtedpgcmmnmlpeaaZoneOf
import Derived.Test.YtedpgcmmnmlpeaaSpanCellMath
namespace Go.Proofs.Ytedpgcmmnmlpeaa.Zone
open Go.RowKit Kit Reg Go.Proofs.Ytedpgcmmnmlpeaa.Span Go.Proofs.Ytedpgcmmnmlpeaa.Lab
open Go.Proofs.Ytedpgcmmnmlpeaa.Cats (U U_or U_zero)

set_option maxRecDepth 100000 in
set_option maxHeartbeats 4000000 in
theorem over_c (A : Option Addr) (n cap : Nat) (zs : List Zn) (a b c d l : Int) (s : Nat) (T : List (Int × Int)) (hT : T.length ≤ 1000) (HC : ∀ w1, Calls Try.prog 17 #[.agg #[.int .i64 a, .int .i64 b, .int .i64 c, .int .i64 d]] w1 (CellsEnd T w1))
    (ho : overF zs T = (l, s)) (w : World) (hz : ZonesR w A n zs) :
    Calls Try.prog 7 #[.slice A n cap, .agg #[.int .i64 a, .int .i64 b, .int .i64 c, .int .i64 d]] w fun e w' => e = .returned (.agg #[.int .i64 l, .int .u64 s]) ∧ Below w.heap.size w w' := by
  have HZ := Lib.hid hz
  have HO := Lib.hid ho
  have HCl := Lib.hid HC
  have HB := Lib.hid bottom_c
  clear hz ho HC
  have hb0 := below2 w (.cells #[.int .i64 a, .int .i64 b, .int .i64 c, .int .i64 d] 26) (.cells #[.int .i64 0, .int .u64 0] 30)
  have hx := (CellsAt.new w [.int .i64 a, .int .i64 b, .int .i64 c, .int .i64 d] 26).on_alloc (.cells #[.int .i64 0, .int .u64 0] 30)
  have hr := CellsAt.new (w.alloc (.cells #[.int .i64 a, .int .i64 b, .int .i64 c, .int .i64 d] 26)) [.int .i64 0, .int .u64 0] 30
  rw [show (w.alloc (.cells #[.int .i64 a, .int .i64 b, .int .i64 c, .int .i64 d] 26)).heap.size = w.heap.size + 1 by simp] at hr
  go_enter Try.func7, Try.ntmps7
  go_wp2_with fail
  refine (HB.out _).mono ?_
  rintro e w1 ⟨rfl, hb1⟩
  replace hb0 := on_alloc (on hb0 hb1) (.cells #[.int .i64 0, .int .u64 0] 30)
  replace hx := (hx.on hb1).on_alloc (.cells #[.int .i64 0, .int .u64 0] 30)
  replace hr := (hr.on hb1).on_alloc (.cells #[.int .i64 0, .int .u64 0] 30)
  have hj := CellsAt.new w1 [.int .i64 0, .int .u64 0] 30
  have hs1 := hb1.size
  simp only [World.size_alloc] at hs1
  clear hb1
  obtain ⟨x0, x1, x2, x3, _⟩ := hx.four
  have lx := hx.1
  go_wp2_with fail
  generalize hJ : w1.heap.size = J at *
  generalize w1.alloc (.cells #[.int .i64 0, .int .u64 0] 30) = W at *
  clear hJ x0 x1 x2 x3
  obtain ⟨x0, x1, x2, x3, _⟩ := hx.four
  have lj0 := hj.1
  refine (HCl.out _).mono ?_
  rintro e w2 ⟨v, rfl, hv, hb2⟩
  replace hb0 := on hb0 hb2
  replace hr := hr.on hb2
  replace hj := hj.on hb2
  have hrow := hv.row
  have hs2 := hb2.size
  obtain ⟨V, vc, rfl, _⟩ := id hrow
  obtain ⟨g, hA, hG⟩ := hrow.block
  have HA : Hid (T ≠ [] → V = some ⟨g, 0, none⟩ ∧ g < w2.heap.size ∧ J < g) := Lib.hid fun h => ⟨(hA h).1, (hA h).2, by have := hv.new (hA h).1; omega⟩
  clear lj0 hb2 hx x0 x1 x2 x3 lx hv hrow hA
  go_wp2
  go_loopw [12] (fun i wr => ∃ k : Nat, k ≤ T.length ∧ i = .int .i64 k ∧ Below w.heap.size w wr ∧ CellsAt wr (w.heap.size + 1) [.int .i64 0, .int .u64 0] ∧ CellsAt wr J [.int .i64 (overF zs (T.take k)).1, .int .u64 (overF zs (T.take k)).2] ∧ RowG wr g T ∧ w2.heap.size ≤ wr.heap.size) (fun i _ => T.length - (intOf i).toNat)
  case atStart => exact ⟨0, Nat.zero_le _, rfl, hb0, hr, hj, hG, Nat.le_refl _⟩
  case round =>
    clear hb0 hr hj hG
    obtain ⟨k, hk, rfl, hb0, hr, hj, hG, hsz⟩ := hrel
    have hs0 := hb0.size
    by_cases hlt : k < T.length
    · obtain ⟨c, hck⟩ : ∃ c, T[k]? = some c := ⟨_, List.getElem?_eq_getElem hlt⟩
      obtain ⟨rfl, hg, hJg⟩ := HA.out (by intro e; rw [e] at hlt; simp at hlt)
      obtain ⟨g0, g1⟩ := hG k c hck
      have hnext : overF zs (T.take (k + 1)) = (joinI (overF zs (T.take k)).1 (contF zs c.1 c.2).1, (overF zs (T.take k)).2 ||| (contF zs c.1 c.2).2) := by
        rw [List.take_add_one, hck]; exact overF_snoc _ _ _
      have HN := Lib.hid hnext
      have hu1 := overF_U HZ.out.2.2.1 (T.take k)
      have hu2 := contF_U (x := c.1) (y := c.2) HZ.out.2.2.1
      have HZ2 := Lib.hid (HZ.out.on hb0)
      clear hnext hck
      generalize hco : contF zs c.1 c.2 = q at *
      generalize overF zs (T.take k) = r at *
      obtain ⟨c1, c2⟩ := c
      obtain ⟨q1, q2⟩ := q
      obtain ⟨r1, r2⟩ := r
      simp only at *
      have HO2 := Lib.hid (fun w1 (h : ZonesR w1 A n zs) => of_c A n cap zs c1 c2 q1 q2 hco w1 h)
      have HJ := Lib.hid (fun w1 => join_c r1 q1 r2 q2 hu1 hu2 w1)
      clear hco hu1 hu2
      have lj := hj.1
      have hX := CellsAt.new wr [.int .i64 c1, .int .i64 c2] 24
      have hbx := below1 wr (.cells #[.int .i64 c1, .int .i64 c2] 24)
      replace hb0 := on_alloc hb0 (.cells #[.int .i64 c1, .int .i64 c2] 24)
      replace hr := hr.on_alloc (.cells #[.int .i64 c1, .int .i64 c2] 24)
      replace hj := hj.on_alloc (.cells #[.int .i64 c1, .int .i64 c2] 24)
      replace hG := hG.on hbx
      have HZ3 := Lib.hid (HZ2.out.on hbx)
      have hls : (wr.alloc (.cells #[.int .i64 c1, .int .i64 c2] 24)).heap.size = wr.heap.size + 1 := by simp
      clear HZ2 hbx
      go_wp2_with fail
      generalize wr.alloc (.cells #[.int .i64 c1, .int .i64 c2] 24) = X at *
      clear g0 g1
      obtain ⟨j0, j1, _⟩ := hj.two
      obtain ⟨x0, x1, _⟩ := hX.two
      have J0 := fun d os => cell_regrown j0 d os
      have J1 := fun d os => cell_regrown j1 d os
      have X0 := fun d os => cell_regrown x0 d os
      have X1 := fun d os => cell_regrown x1 d os
      clear j0 j1 x0 x1
      refine wp_region_mem 5 (fun d => match d with
        | 19 => some (Is (.agg #[.int .i64 q1, .int .u64 q2]))
        | 20 => some (Is (.agg #[.int .i64 (joinI r1 q1), .int .u64 ((r2 ||| q2 : Nat) : Int)]))
        | _ => none) (by kernel_rfl) (by kernel_rfl) ?_
      simp only [List.take_succ_cons, List.take_zero, List.drop_succ_cons, List.drop_zero]
      repeat (first | (refine wpM_calm rfl rfl rfl ?_; intro K hK; go_big_quiet_op; go_big_quiet_on) | (refine wpM_skip rfl ?_; simp only [Act.put, List.setIfInBounds_toArray, List.set_cons_succ, List.set_cons_zero]))
      refine wpM_exact rfl rfl rfl Try.func11 (by kernel_rfl) (by kernel_rfl) (fun w1 hw1 _ => HO2.out w1 (HZ3.out.on hw1)) rfl (by simp only [Act.put, List.setIfInBounds_toArray, List.set_cons_succ, List.set_cons_zero]; rfl) ?_
      repeat (first | (refine wpM_calm rfl rfl rfl ?_; intro K hK; go_big_quiet_op; go_big_quiet_on) | (refine wpM_skip rfl ?_; simp only [Act.put, List.setIfInBounds_toArray, List.set_cons_succ, List.set_cons_zero]))
      refine wpM_exact rfl rfl rfl Try.func18 (by kernel_rfl) (by kernel_rfl) (fun w1 _ _ => HJ.out w1) rfl (by simp only [Act.put, List.setIfInBounds_toArray, List.set_cons_succ, List.set_cons_zero]; rfl) ?_
      repeat (first | (refine wpM_calm rfl rfl rfl ?_; intro K hK; go_big_quiet_op; go_big_quiet_on) | (refine wpM_skip rfl ?_; simp only [Act.put, List.setIfInBounds_toArray, List.set_cons_succ, List.set_cons_zero]))
      refine wpM_nil ?_
      intro w4 hb4 _
      replace hb0 := on hb0 hb4
      replace hr := hr.on hb4
      replace hj := hj.on hb4
      replace hG := hG.on hb4
      have hs4 := hb4.size
      clear hb4 J0 J1 X0 X1 hX HO2 HJ
      obtain ⟨j0, j1, f0, f1⟩ := hj.two
      have hj' := hj.put2 (.int .i64 (joinI r1 q1)) (.int .u64 ((r2 ||| q2 : Nat) : Int))
      have hr' := hr.put2_far (c := J) (by omega) (.int .i64 (joinI r1 q1)) (.int .u64 ((r2 ||| q2 : Nat) : Int))
      have hG' := hG.put2 (b := J) (fun _ => by omega) (.int .i64 (joinI r1 q1)) (.int .u64 ((r2 ||| q2 : Nat) : Int))
      have hb' := set2 hb0 (b := J) (by omega) (.int .i64 (joinI r1 q1)) (.int .u64 ((r2 ||| q2 : Nat) : Int))
      clear hr hj hG hb0
      go_wp2
      go_roundw
      case rel => exact ⟨k + 1, by omega, by go_num, hb', hr', by rw [HN.out]; exact hj', hG', by simp; omega⟩
      case measure => simp [intOf]; omega
    · obtain rfl : k = T.length := by omega
      have HE : Hid (overF zs (T.take T.length) = (l, s)) := by rw [List.take_length]; exact HO
      rw [HE.out] at hj
      have lj := hj.1
      obtain ⟨j0, j1, _⟩ := hj.two
      obtain ⟨r0, r1, f0, f1⟩ := hr.two
      obtain ⟨e0, e1, _⟩ := (hr.put2 (.int .i64 l) (.int .u64 s)).two
      clear hG
      go_wp2
      exact bodyPost_ret (v := .agg #[.int .i64 l, .int .u64 s]) (by simp [results, Try.results7, go_sem, e0, e1]) rfl ⟨rfl, set2 hb0 (by omega) _ _⟩
end Go.Proofs.Ytedpgcmmnmlpeaa.Zone

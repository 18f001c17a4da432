/- ZoneBehind: the law's walk where a zone has the cell. -/
import Derived.Test.YtedpgcmmnmlpeaaZoneLawB0
namespace Go.Proofs.Ytedpgcmmnmlpeaa.Zone
open Go.RowKit Kit Reg Go.Proofs.Ytedpgcmmnmlpeaa.Span Go.Proofs.Ytedpgcmmnmlpeaa.Lab
open Go.Proofs.Ytedpgcmmnmlpeaa.Cats (U U_or U_zero)

set_option maxRecDepth 100000 in
set_option maxHeartbeats 8000000 in
theorem behind_cov (A : Option Addr) (n cap : Nat) (zs : List Zn) (z : Zn) (x y : Int) (hus : U z.s) (w : World) (hz : ZonesR w A n zs) (hcap : A = none → cap = 0) (hn : ¬ 60 < n) (hcov : covF zs x y = true) :
    Calls Try.prog 4 #[.slice A n cap, .agg #[.int .i64 z.a, .int .i64 z.b, .int .i64 z.c, .int .i64 z.d, .int .i64 z.l, .int .u64 z.s], .agg #[.int .i64 x, .int .i64 y]] w fun e w' => e = .returned (.bool true) ∧ Below w.heap.size w w' := by
  have HA := Lib.hid alive_c
  have hb0 := below2 w (.cells #[.int .i64 z.a, .int .i64 z.b, .int .i64 z.c, .int .i64 z.d, .int .i64 z.l, .int .u64 z.s] 41) (.cells #[.int .i64 x, .int .i64 y] 24)
  obtain ⟨hv, hh⟩ : ∃ hv, z.has x y = hv := ⟨_, rfl⟩
  obtain ⟨cl, cs, hcl⟩ : ∃ l s, contF zs x y = (l, s) := ⟨_, _, rfl⟩
  have hbl : contF (zs ++ [z]) x y = (cl, cs) := by rw [contF_behind, if_pos hcov, hcl]
  obtain ⟨al, as1, hal⟩ : ∃ l s, contF (z :: zs) x y = (l, s) := ⟨_, _, rfl⟩
  have hA2 := hal
  rw [contF_ahead, hh, hcl] at hA2
  have HH := Lib.hid (fun w1 => rhas_c z.a z.b z.c z.d x y hv hh w1)
  have H10 := Lib.hid (fun (A' : Option Addr) (c' : Nat) w1 (h : ZonesR w1 A' (n) (zs)) => of_c A' (n) c' (zs) x y cl cs hcl w1 h)
  have H20 := Lib.hid (fun (A' : Option Addr) (c' : Nat) w1 (h : ZonesR w1 A' (1 + n) (z :: zs)) => of_c A' (1 + n) c' (z :: zs) x y al as1 hal w1 h)
  have H40 := Lib.hid (fun (A' : Option Addr) (c' : Nat) w1 (h : ZonesR w1 A' (n + 1) (zs ++ [z])) => of_c A' (n + 1) c' (zs ++ [z]) x y cl cs hbl w1 h)
  clear hh hcl hbl hal
  have hd : decide (60 < (n : Int)) = false := by simp; omega
  obtain ⟨i0, hin, hz0, hz1, hz2⟩ := info_parts infoZ
  have HZ := Lib.hid hz
  have hlen := hz.1
  have hu := hz.2.2.1
  have HNil : Hid (A = none → n = 0 ∧ cap = 0) := Lib.hid fun h => by
    refine ⟨?_, hcap h⟩
    rcases Nat.eq_zero_or_pos n with h0 | h0
    · exact h0
    · obtain ⟨b, o, hA, _⟩ := hz.2.2.2 (by omega)
      rw [h] at hA
      cases hA
  have HNw : Hid (∀ w', ZonesR w' A n zs → ∀ ad, A = some ad → ∀ j u, (flatZ zs)[j]? = some u → w'.cell? (ad.add j) = some u) := Lib.hid fun w' h ad hA j u hj => by
    have hn0 : n ≠ 0 := by
      intro e
      have hl : j < zs.length * 6 := by have := (List.getElem?_eq_some_iff.1 hj).1; rwa [flatZ_length] at this
      omega
    obtain ⟨b, o, hA2, _, h4⟩ := h.news hn0
    rw [hA] at hA2
    simp only [Option.some.injEq] at hA2
    subst hA2
    exact h4 j u hj
  clear hz hcap
  have kz := (CellsAt.new w z.cells 41).on_alloc (.cells #[.int .i64 x, .int .i64 y] 24)
  have kx := CellsAt.new (w.alloc (.cells z.cells.toArray 41)) [.int .i64 x, .int .i64 y] 24
  rw [show (w.alloc (.cells z.cells.toArray 41)).heap.size = w.heap.size + 1 by simp] at kx
  have hs0 : ((w.alloc (.cells z.cells.toArray 41)).alloc (.cells #[.int .i64 x, .int .i64 y] 24)).heap.size = w.heap.size + 2 := by simp
  change CellsAt ((w.alloc (.cells #[.int .i64 z.a, .int .i64 z.b, .int .i64 z.c, .int .i64 z.d, .int .i64 z.l, .int .u64 z.s] 41)).alloc (.cells #[.int .i64 x, .int .i64 y] 24)) w.heap.size [.int .i64 z.a, .int .i64 z.b, .int .i64 z.c, .int .i64 z.d, .int .i64 z.l, .int .u64 z.s] at kz
  change CellsAt ((w.alloc (.cells #[.int .i64 z.a, .int .i64 z.b, .int .i64 z.c, .int .i64 z.d, .int .i64 z.l, .int .u64 z.s] 41)).alloc (.cells #[.int .i64 x, .int .i64 y] 24)) (w.heap.size + 1) [.int .i64 x, .int .i64 y] at kx
  change ((w.alloc (.cells #[.int .i64 z.a, .int .i64 z.b, .int .i64 z.c, .int .i64 z.d, .int .i64 z.l, .int .u64 z.s] 41)).alloc (.cells #[.int .i64 x, .int .i64 y] 24)).heap.size = w.heap.size + 2 at hs0
  replace HZ := Lib.hid (HZ.out.on hb0)
  have lz := kz.1
  obtain ⟨z0, z1, z2, z3, z4, z5⟩ := six kz
  have hone : ∀ u ∈ z.cells, u.oneCell' = true := fun u hu => one_flat [z] u (by simpa [flatZ] using hu)
  go_enter Try.func4, Try.ntmps4
  go_wp2_with (at_builtin; first
    | (refine wpList_append_any rfl _ _ 22 rfl (w.heap.size + 2) 41 i0 _ 6 48 Try.underlying22 hin hz0 hz1 hz2 rfl (by decide) (.slice none 0 0) 0 [] rfl (World.ownsRow_nil _ _ _ _) (some ⟨w.heap.size + 2, 0, none⟩) 1 1 z.cells rfl (by simp) rfl (by rintro ad h; cases h; rw [← hs0]; exact six_new _ z) hone (by unfold maxLen; omega) (by omega) (by simp) ?_
       intro v1 w1 hr1 hg1 hl1
       have hbA := Lib.hid ((below1 _ (.cells #[.int .i64 z.a, .int .i64 z.b, .int .i64 z.c, .int .i64 z.d, .int .i64 z.l, .int .u64 z.s] 41)).grown hg1 (by simp) (fun k e => by cases e))
       have hr1' : Hid (w1.ownsRow (w.heap.size + 2) 41 6 v1 1 z.cells) := hr1
       have HZ1 := Lib.hid (HZ.out.on hbA.out)
       have hsz1 : w.heap.size + 2 ≤ w1.heap.size := by have := hbA.out.size; rw [hs0] at this; exact this
       clear hr1 hg1 hl1)
    | (refine wpList_append_any rfl _ _ 22 rfl (w.heap.size + 2) 41 i0 _ 6 48 Try.underlying22 hin hz0 hz1 hz2 rfl (by decide) v1 1 z.cells rfl hr1'.out A n cap (flatZ zs) rfl HNil.out (by rw [flatZ_length, hlen]) (HNw.out _ HZ1.out) (one_flat zs) (by unfold maxLen; omega) (by omega) (by omega) ?_
       intro v2 w2 hr2 hg2 hl2
       have hbB := Lib.hid ((hbA.out).grown hg2 (by rw [hs0]; omega) (fun k e => by rw [hs0]; exact (hr1'.out.lt k e).1))
       have hr2' : Hid (w2.ownsRow (w.heap.size + 2) 41 6 v2 (1 + n) (z.cells ++ flatZ zs)) := hr2
       have HZ2 := Lib.hid (HZ.out.on hbB.out)
       have hsz2 : w.heap.size + 2 ≤ w2.heap.size := by have := hbB.out.size; rw [hs0] at this; exact this
       clear hr2 hg2 hl2 HZ1 hr1' hbA)
    | (refine wpList_append_any rfl _ _ 22 rfl (w.heap.size + 2) 41 i0 _ 6 48 Try.underlying22 hin hz0 hz1 hz2 rfl (by decide) (.slice none 0 0) 0 [] rfl (World.ownsRow_nil _ _ _ _) A n cap (flatZ zs) rfl HNil.out (by rw [flatZ_length, hlen]) (HNw.out _ HZ2.out) (one_flat zs) (by unfold maxLen; omega) (by omega) (by omega) ?_
       intro v3 w3 hr3 hg3 hl3
       have hbC := Lib.hid ((hbB.out).grown hg3 (by rw [hs0]; omega) (fun k e => by cases e))
       have hr3' : Hid (w3.ownsRow (w.heap.size + 2) 41 6 v3 (0 + n) (flatZ zs)) := hr3
       have hr2c : Hid (w3.ownsRow (w.heap.size + 2) 41 6 v2 (1 + n) (z.cells ++ flatZ zs)) := World.ownsRow.kept hr2'.out hg3 (Classical.em _)
       have hne3 : Hid (v2.ownBlock = none ∨ v2.ownBlock ≠ v3.ownBlock) := by
         rcases hv2 : v2.ownBlock with _ | k
         · exact .inl rfl
         · have := (World.ownsRow.lt hr2'.out k hv2).2
           refine .inr ?_
           rcases hl3 with e | e
           · rw [e]; simp [Value.ownBlock]
           · rw [e]; simp; omega
       have hsz3 : w.heap.size + 2 ≤ w3.heap.size := by have := hbC.out.size; rw [hs0] at this; exact this
       obtain ⟨q0, q1, q2, q3, q4, q5⟩ := six (kz.on hbC.out)
       have lz3 := (kz.on hbC.out).1
       clear hr3 hg3 hl3 HZ2 hr2' hbB)
    | (refine wpList_append_any rfl _ _ 22 rfl (w.heap.size + 2) 41 i0 _ 6 48 Try.underlying22 hin hz0 hz1 hz2 rfl (by decide) v3 (0 + n) (flatZ zs) rfl (World.ownsRow.alloc hr3'.out _) (some ⟨w3.heap.size, 0, none⟩) 1 1 z.cells rfl (by simp) rfl (by rintro ad h; cases h; exact six_new _ z) hone (by unfold maxLen; omega) (by omega) (by simp; omega) ?_
       intro v4 w4 hr4 hg4 hl4
       have hbD := Lib.hid ((on_alloc hbC.out _).grown hg4 (by rw [hs0]; simp; omega) (fun k e => by rw [hs0]; exact (hr3'.out.lt k e).1))
       have hr4' : Hid (w4.ownsRow (w.heap.size + 2) 41 6 v4 (0 + n + 1) (flatZ zs ++ z.cells)) := hr4
       have hr2d : Hid (w4.ownsRow (w.heap.size + 2) 41 6 v2 (1 + n) (z.cells ++ flatZ zs)) := World.ownsRow.kept (World.ownsRow.alloc hr2c.out _) hg4 hne3.out
       clear hr4 hg4 hl4 hr3' hr2c hne3 hbC))
  have HSt : ∃ A2 c2 A4 c4, v2 = .slice A2 (1 + n) c2 ∧ v4 = .slice A4 (n + 1) c4 ∧ Hid (St w A A2 A4 n zs z x y w4) := by
    have h2 : OwnZ (w.heap.size + 2) v2 (z :: zs) w4 := by
      unfold OwnZ
      rw [show (z :: zs).length = 1 + n by rw [List.length_cons, hlen]; omega]
      exact hr2d.out
    have h4 : OwnZ (w.heap.size + 2) v4 (zs ++ [z]) w4 := by
      unfold OwnZ
      rw [show (zs ++ [z]).length = 0 + n + 1 by rw [List.length_append, hlen]; simp, flatZ_append, show flatZ [z] = z.cells from List.append_nil _]
      exact hr4'.out
    obtain ⟨A2, c2, e2, Z2⟩ := h2.zones (n := 1 + n) (by rw [List.length_cons, hlen]; omega) (by omega) (fun u hu' => by rcases List.mem_cons.1 hu' with rfl | h; (· exact hus); exact hu u h)
    obtain ⟨A4, c4, e4, Z4⟩ := h4.zones (n := n + 1) (by rw [List.length_append, hlen]; simp) (by omega) (fun u hu' => by rcases List.mem_append.1 hu' with h | h; (· exact hu u h); rw [List.mem_singleton.1 h]; exact hus)
    exact ⟨A2, c2, A4, c4, e2, e4, HZ.out.on hbD.out, Z2, Z4, kz.on hbD.out, kx.on hbD.out, on hb0 hbD.out⟩
  obtain ⟨A2, c2, A4, c4, rfl, rfl, HSt⟩ := HSt
  clear hr2d hr4' hbD hsz1 hsz2 hsz3 q0 q1 q2 q3 q4 q5 lz3 z0 z1 z2 z3 z4 z5 lz kz kx hs0 hb0 HZ HNw HNil hone hin hz0 hz1 hz2
  go_loopw [9, 32] (fun c i wr => ∃ k : Nat, k ≤ n ∧ i = .int .i64 k ∧ c = .bool (covF (zs.take k) x y) ∧ Hid (St w A A2 A4 n zs z x y wr)) (fun _ i _ => n - (intOf i).toNat)
  case atStart => exact ⟨0, Nat.zero_le _, rfl, rfl, HSt⟩
  case round =>
    clear HSt
    obtain ⟨k, hk, rfl, rfl, HSt⟩ := hrel
    by_cases hlt : k < n
    · obtain ⟨u, huk⟩ : ∃ u, zs[k]? = some u := ⟨_, List.getElem?_eq_getElem (by rw [hlen]; exact hlt)⟩
      have HN := Lib.hid (covF_snoc huk x y)
      obtain ⟨_, _, _, h4⟩ := HSt.out.1
      obtain ⟨b, o, rfl, hblt, hcell⟩ := h4 (by omega)
      obtain ⟨g0, g1, g2, g3, _⟩ := zone_six (hcell k u huk)
      obtain ⟨x0, x1, _⟩ := HSt.out.2.2.2.2.1.two
      clear h4 hcell huk
      have G0 := fun d os => cell_regrown g0 d os
      have G1 := fun d os => cell_regrown g1 d os
      have G2 := fun d os => cell_regrown g2 d os
      have G3 := fun d os => cell_regrown g3 d os
      have X0 := fun d os => cell_regrown x0 d os
      have X1 := fun d os => cell_regrown x1 d os
      have HR := Lib.hid (fun hb hh w1 => rhas_c u.a u.b u.c u.d x y hb hh w1)
      clear g0 g1 g2 g3 x0 x1
      cases hcv : covF (zs.take k) x y with
      | true =>
        rw [hcv, Bool.true_or] at HN
        clear hcv
        go_wp2_with fail
        refine wp_region_quiet_below (by kernel_rfl) (by kernel_rfl) ?_
        repeat (go_big_quiet_step (first | fail))
        refine wpQuiet_nil ?_
        intro _ hw'
        obtain ⟨⟨dq, osq⟩, hw''⟩ := hw'
        subst hw''
        replace HSt := Lib.hid (HSt.out.on (below_regrown wr dq osq))
        go_wp2
        go_roundw
        case rel => exact ⟨k + 1, by omega, by go_num, by rw [HN.out], HSt⟩
        case measure => simp [intOf]; omega
      | false =>
        obtain ⟨hb, hh⟩ : ∃ hb, u.has x y = hb := ⟨_, rfl⟩
        rw [hcv, Bool.false_or, hh] at HN
        have HRh := Lib.hid (fun w1 => HR.out hb hh w1)
        clear hcv hh HR
        go_wp2_with fail
        refine wp_region_quiet_below (by kernel_rfl) (by kernel_rfl) ?_
        repeat (go_big_quiet_step (first | (go_at_call 9; with_reducible exact Calls.regrown_of (HRh.out _))))
        refine wpQuiet_nil ?_
        intro _ hw'
        obtain ⟨⟨dq, osq⟩, hw''⟩ := hw'
        subst hw''
        replace HSt := Lib.hid (HSt.out.on (below_regrown wr dq osq))
        go_wp2
        go_roundw
        case rel => exact ⟨k + 1, by omega, by go_num, by rw [HN.out], HSt⟩
        case measure => simp [intOf]; omega
    · obtain rfl : k = n := by omega
      rw [List.take_of_length_le (by omega), hcov]
      obtain ⟨z0, z1, z2, z3, _⟩ := six HSt.out.2.2.2.1
      obtain ⟨x0, x1, _⟩ := HSt.out.2.2.2.2.1.two
      have lz := HSt.out.2.2.2.1.1
      have lx := HSt.out.2.2.2.2.1.1
      go_wp2_with fail
      refine (HH.out _).mono ?_
      rintro e w5 ⟨rfl, hb5⟩
      replace HSt := Lib.hid (HSt.out.on hb5)
      clear hb5 z0 z1 z2 z3 x0 x1 lz lx
      have H1 := Lib.hid (fun w1 h => H10.out A cap w1 h)
      have H2 := Lib.hid (fun w1 h => H20.out A2 c2 w1 h)
      have H4 := Lib.hid (fun w1 h => H40.out A4 c4 w1 h)
      clear H10 H20 H40
      obtain ⟨x0, x1, _⟩ := HSt.out.2.2.2.2.1.two
      obtain ⟨_, _, _, _, z4, z5⟩ := six HSt.out.2.2.2.1
      have X0 := fun d os => cell_regrown x0 d os
      have X1 := fun d os => cell_regrown x1 d os
      have Z4 := fun d os => cell_regrown z4 d os
      have Z5 := fun d os => cell_regrown z5 d os
      clear x0 x1 z4 z5
      go_wp2_with fail
      refine wp_region_mem 29 (fun d => match d with
        | 52 => some (Is (.agg #[.int .i64 cl, .int .u64 cs]))
        | 55 => some (Is (.agg #[.int .i64 cl, .int .u64 cs]))
        | 73 => some (Is (.agg #[.int .i64 cl, .int .u64 cs]))
        | _ => none) (by kernel_rfl) (by kernel_rfl) ?_
      simp only [List.take_succ_cons, List.take_zero, List.drop_succ_cons, List.drop_zero]
      repeat (first | ((with_reducible refine wpM_calm ?_ ?_ ?_ ?_); exact rfl; exact rfl; exact rfl; intro K hK; go_big_quiet_op; go_big_quiet_on) | ((with_reducible refine wpM_skip ?_ ?_); exact rfl; simp only [Act.put, List.setIfInBounds_toArray, List.set_cons_succ, List.set_cons_zero]))
      refine wpM_exact rfl rfl rfl Try.func11 (by kernel_rfl) (by kernel_rfl) (fun w1 hw1 _ => H4.out w1 (HSt.out.on hw1).2.2.1) rfl (by simp only [Act.put, List.setIfInBounds_toArray, List.set_cons_succ, List.set_cons_zero]; rfl) ?_
      repeat (first | ((with_reducible refine wpM_calm ?_ ?_ ?_ ?_); exact rfl; exact rfl; exact rfl; intro K hK; go_big_quiet_op; go_big_quiet_on) | ((with_reducible refine wpM_skip ?_ ?_); exact rfl; simp only [Act.put, List.setIfInBounds_toArray, List.set_cons_succ, List.set_cons_zero]))
      refine wpM_exact rfl rfl rfl Try.func11 (by kernel_rfl) (by kernel_rfl) (fun w1 hw1 _ => H1.out w1 (HSt.out.on hw1).1) rfl (by simp only [Act.put, List.setIfInBounds_toArray, List.set_cons_succ, List.set_cons_zero]; rfl) ?_
      repeat (first | ((with_reducible refine wpM_calm ?_ ?_ ?_ ?_); exact rfl; exact rfl; exact rfl; intro K hK; go_big_quiet_op; go_big_quiet_on) | ((with_reducible refine wpM_skip ?_ ?_); exact rfl; simp only [Act.put, List.setIfInBounds_toArray, List.set_cons_succ, List.set_cons_zero]))
      refine wpM_nil ?_
      intro w5 hb5 _
      replace HSt := Lib.hid (HSt.out.on hb5)
      clear hb5 X0 X1 Z4 Z5
      cases hv with
      | true =>
        simp only [if_true, Prod.mk.injEq] at hA2
        obtain ⟨rfl, rfl⟩ := hA2
        obtain ⟨x0, x1, _⟩ := HSt.out.2.2.2.2.1.two
        obtain ⟨_, _, _, _, z4, z5⟩ := six HSt.out.2.2.2.1
        have X0 := fun d os => cell_regrown x0 d os
        have X1 := fun d os => cell_regrown x1 d os
        have Z4 := fun d os => cell_regrown z4 d os
        have Z5 := fun d os => cell_regrown z5 d os
        clear x0 x1 z4 z5
        go_wp2_with fail
        refine wp_region_mem 26 (fun d => match d with
          | 83 => some (Is (.agg #[.int .i64 z.l, .int .u64 z.s]))
          | 94 => some (Is (.agg #[.int .i64 z.l, .int .u64 z.s]))
          | 97 => some (Is (.agg #[.int .i64 cl, .int .u64 cs]))
          | 102 => some (Is (.bool true))
          | _ => none) (by kernel_rfl) (by kernel_rfl) ?_
        simp only [List.take_succ_cons, List.take_zero, List.drop_succ_cons, List.drop_zero]
        repeat (first | ((with_reducible refine wpM_calm ?_ ?_ ?_ ?_); exact rfl; exact rfl; exact rfl; intro K hK; go_big_quiet_op; go_big_quiet_on) | ((with_reducible refine wpM_skip ?_ ?_); exact rfl; simp only [Act.put, List.setIfInBounds_toArray, List.set_cons_succ, List.set_cons_zero]))
        refine wpM_exact rfl rfl rfl Try.func11 (by kernel_rfl) (by kernel_rfl) (fun w1 hw1 _ => H2.out w1 (HSt.out.on hw1).2.1) rfl (by simp only [Act.put, List.setIfInBounds_toArray, List.set_cons_succ, List.set_cons_zero]; rfl) ?_
        repeat (first | ((with_reducible refine wpM_calm ?_ ?_ ?_ ?_); exact rfl; exact rfl; exact rfl; intro K hK; go_big_quiet_op; go_big_quiet_on) | ((with_reducible refine wpM_skip ?_ ?_); exact rfl; simp only [Act.put, List.setIfInBounds_toArray, List.set_cons_succ, List.set_cons_zero]))
        refine wpM_exact rfl rfl rfl Try.func6 (by kernel_rfl) (by kernel_rfl) (fun w1 _ _ => HA.out w1) rfl (by simp only [Act.put, List.setIfInBounds_toArray, List.set_cons_succ, List.set_cons_zero]; rfl) ?_
        repeat (first | ((with_reducible refine wpM_calm ?_ ?_ ?_ ?_); exact rfl; exact rfl; exact rfl; intro K hK; go_big_quiet_op; go_big_quiet_on) | ((with_reducible refine wpM_skip ?_ ?_); exact rfl; simp only [Act.put, List.setIfInBounds_toArray, List.set_cons_succ, List.set_cons_zero]))
        refine wpM_nil ?_
        intro w5 hb5 _
        replace HSt := Lib.hid (HSt.out.on hb5)
        clear hb5 X0 X1 Z4 Z5
        go_wp2
        go_ret
        exact ⟨rfl, HSt.out.2.2.2.2.2⟩
      | false =>
        simp only [Bool.false_eq_true, if_false, Prod.mk.injEq] at hA2
        obtain ⟨rfl, rfl⟩ := hA2
        obtain ⟨x0, x1, _⟩ := HSt.out.2.2.2.2.1.two
        obtain ⟨_, _, _, _, z4, z5⟩ := six HSt.out.2.2.2.1
        have X0 := fun d os => cell_regrown x0 d os
        have X1 := fun d os => cell_regrown x1 d os
        have Z4 := fun d os => cell_regrown z4 d os
        have Z5 := fun d os => cell_regrown z5 d os
        clear x0 x1 z4 z5
        go_wp2_with fail
        refine wp_region_mem 26 (fun d => match d with
          | 83 => some (Is (.agg #[.int .i64 cl, .int .u64 cs]))
          | 94 => some (Is (.agg #[.int .i64 cl, .int .u64 cs]))
          | 97 => some (Is (.agg #[.int .i64 cl, .int .u64 cs]))
          | 102 => some (Is (.bool true))
          | _ => none) (by kernel_rfl) (by kernel_rfl) ?_
        simp only [List.take_succ_cons, List.take_zero, List.drop_succ_cons, List.drop_zero]
        repeat (first | ((with_reducible refine wpM_calm ?_ ?_ ?_ ?_); exact rfl; exact rfl; exact rfl; intro K hK; go_big_quiet_op; go_big_quiet_on) | ((with_reducible refine wpM_skip ?_ ?_); exact rfl; simp only [Act.put, List.setIfInBounds_toArray, List.set_cons_succ, List.set_cons_zero]))
        refine wpM_exact rfl rfl rfl Try.func11 (by kernel_rfl) (by kernel_rfl) (fun w1 hw1 _ => H2.out w1 (HSt.out.on hw1).2.1) rfl (by simp only [Act.put, List.setIfInBounds_toArray, List.set_cons_succ, List.set_cons_zero]; rfl) ?_
        repeat (first | ((with_reducible refine wpM_calm ?_ ?_ ?_ ?_); exact rfl; exact rfl; exact rfl; intro K hK; go_big_quiet_op; go_big_quiet_on) | ((with_reducible refine wpM_skip ?_ ?_); exact rfl; simp only [Act.put, List.setIfInBounds_toArray, List.set_cons_succ, List.set_cons_zero]))
        refine wpM_exact rfl rfl rfl Try.func11 (by kernel_rfl) (by kernel_rfl) (fun w1 hw1 _ => H1.out w1 (HSt.out.on hw1).1) rfl (by simp only [Act.put, List.setIfInBounds_toArray, List.set_cons_succ, List.set_cons_zero]; rfl) ?_
        repeat (first | ((with_reducible refine wpM_calm ?_ ?_ ?_ ?_); exact rfl; exact rfl; exact rfl; intro K hK; go_big_quiet_op; go_big_quiet_on) | ((with_reducible refine wpM_skip ?_ ?_); exact rfl; simp only [Act.put, List.setIfInBounds_toArray, List.set_cons_succ, List.set_cons_zero]))
        refine wpM_exact rfl rfl rfl Try.func6 (by kernel_rfl) (by kernel_rfl) (fun w1 _ _ => HA.out w1) rfl (by simp only [Act.put, List.setIfInBounds_toArray, List.set_cons_succ, List.set_cons_zero]; rfl) ?_
        repeat (first | ((with_reducible refine wpM_calm ?_ ?_ ?_ ?_); exact rfl; exact rfl; exact rfl; intro K hK; go_big_quiet_op; go_big_quiet_on) | ((with_reducible refine wpM_skip ?_ ?_); exact rfl; simp only [Act.put, List.setIfInBounds_toArray, List.set_cons_succ, List.set_cons_zero]))
        refine wpM_nil ?_
        intro w5 hb5 _
        replace HSt := Lib.hid (HSt.out.on hb5)
        clear hb5 X0 X1 Z4 Z5
        go_wp2
        go_ret
        exact ⟨rfl, HSt.out.2.2.2.2.2⟩

end Go.Proofs.Ytedpgcmmnmlpeaa.Zone

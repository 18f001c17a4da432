/- SpanCells: the law returns true for every span, and makes new memory alone. -/
import Derived.Test.YtkebapdbibdheaaDoorSpanCellMath
import Derived.Test.YtkebapdbibdheaaDoorRegionIn
namespace Go.Proofs.YtkebapdbibdheaaDoor.Span
open Go.RowKit Go.Shelf Kit Reg Go.Proofs.YtkebapdbibdheaaDoor.Addr Cats
attribute [local go_sem] Oper.semAt_some

theorem func_nil (x y z : Value) (w : World) : (binOp .eql 36 (.func (.func 37) #[] #[x, y, z]) .nilFunc).run Tryd.prog w = .ok (.bool false) w := by kernel_rfl
set_option maxRecDepth 100000 in
set_option maxHeartbeats 8000000 in
theorem spancells_c (a b c d : Int) (w : World) (hL : Libs w) : Calls Tryd.prog 4 #[.agg #[.int .i64 a, .int .i64 b, .int .i64 c, .int .i64 d]] w fun e w' => e = .returned (.bool true) ∧ Below w.heap.size w w' := by
  have HA := Lib.hid (fun w1 h => alive_c w1 h)
  have HL := Lib.hid hL
  clear hL
  obtain ⟨m, hm⟩ : ∃ m, mayS a b c d = m := ⟨_, rfl⟩
  obtain ⟨R, hR⟩ : ∃ R : Nat, ext m a c = R := ⟨(ext m a c).toNat, by have := (ext_rows hm).1; omega⟩
  obtain ⟨C, hC⟩ : ∃ C : Nat, ext m b d = C := ⟨(ext m b d).toNat, by have := (ext_cols hm).1; omega⟩
  obtain ⟨p, hp⟩ : ∃ p, lo m a c = p := ⟨_, rfl⟩
  obtain ⟨q, hq⟩ : ∃ q, lo m b d = q := ⟨_, rfl⟩
  obtain ⟨S, hS⟩ : ∃ S, R * C = S := ⟨_, rfl⟩
  have hSz : ext m a c * ext m b d = (S : Int) := by rw [hR, hC, ← hS]; simp
  have hS7 : S ≤ 701298 := by
    rw [← hS]
    have h1 := (ext_rows hm).2
    have h2 := (ext_cols hm).2
    exact Nat.mul_le_mul (show R ≤ 999 by omega) (show C ≤ 702 by omega)
  have H1 := Lib.hid (fun w1 => cells_c a b c d m R C S p q hm hR hC hp hq hS w1)
  have H2 := Lib.hid (fun w1 => rcells_c a b c d m R C S p q hm hR hC hp hq hS w1)
  have H3 := Lib.hid (fun w1 => all_c a b c d m hm R C p q hR hC hp hq w1)
  have H4 := Lib.hid (fun w1 => size_c a b c d m S hm hSz w1)
  have HIn := Lib.hid (fun (i : Nat) (hi : i < S) w1 => has_c a b c d (cellAt p q C i).1 (cellAt p q C i).2 true (cell_in hm hR hC hp hq (by rw [hS]; exact hi)) w1)
  have HLs := Lib.hid (fun (i : Nat) (hi : i < S) w1 => rless_c (cellAt p q C i).1 (cellAt p q C i).2 (cellAt p q C (i + 1)).1 (cellAt p q C (i + 1)).2 true (cell_less p q (by rcases Nat.eq_zero_or_pos C with h | h; (· subst h; simp at hS; omega); exact h)) w1)
  have hR9 : R ≤ 999 := by have := (ext_rows hm).2; omega
  have hC7 : C ≤ 702 := by have := (ext_cols hm).2; omega
  have hp9 : 0 ≤ p ∧ p ≤ 998 := by
    subst hp; cases m
    · rw [lo_false]; decide
    · exact (lo_range hm).1
  have hq7 : 0 ≤ q ∧ q ≤ 701 := by
    subst hq; cases m
    · rw [lo_false]; decide
    · exact (lo_range hm).2.1
  have HSt := Lib.hid (fun (x y z : Nat) (w1 : World) (hv : Vars w1 x y z R C p q) => iter_stops Fence.wide (3 - 1) trivial rfl (by decide) x y z R C p q hR9 hC7 hp9 hq7 w1 hv)
  rw [hS] at HSt
  clear hm hR hC hp hq hSz hR9 hC7 hp9 hq7 hS
  change Hid (∀ w1, Calls Tryd.prog 19 _ w1 (CellsEnd (told S (cellAt p q C)) w1)) at H1
  change Hid (∀ w1, Calls Tryd.prog 21 _ w1 (CellsEnd (told S (cellAt p q C)) w1)) at H2
  have hTl := told_length S (cellAt p q C)
  have HTg := Lib.hid (fun i h => told_get (S := S) (f := cellAt p q C) (i := i) h)
  have HSame := Lib.hid (fun v v' w1 => same_c v v' (told S (cellAt p q C)) w1 hTl.1)
  have hb0 := below1 w (.cells #[.int .i64 a, .int .i64 b, .int .i64 c, .int .i64 d] 25)
  have ka := CellsAt.new w [.int .i64 a, .int .i64 b, .int .i64 c, .int .i64 d] 25
  refine (callsIn_wide (n := 3)).1 ?_
  refine callsIn_of_wp_marks Tryd.func4 rfl trivial ?_ rfl
  simp only [Tryd.ntmps4, List.size_toArray, List.length_cons, List.length_nil, Nat.reduceAdd, Nat.reduceSub, Array.replicate_succ, Array.replicate_zero, List.push_toArray, List.append_toArray, List.nil_append, List.cons_append]
  gi_wp2_with fail
  refine ⟨trivial, (callsIn_wide.2 (H1.out _)).mono ?_⟩
  rintro e w1 ⟨v, rfl, hv, hb1⟩
  generalize told S (cellAt p q C) = T at *
  replace hb0 := on_alloc (on hb0 hb1) (.cells #[v] 31)
  replace ka := (ka.on hb1).on_alloc (.cells #[v] 31)
  have kv := CellsAt.new w1 [v] 31
  have hrow := hv.row.on (below1 w1 (.cells #[v] 31))
  obtain ⟨A, cap, rfl, hrow'⟩ := id hrow
  clear hb1 hv
  gi_wp2_with fail
  generalize w1.alloc (.cells #[.slice A T.length cap] 31) = W at *
  obtain ⟨c0, c1, c2, c3, _⟩ := ka.four
  obtain ⟨v0, _⟩ := kv.one
  replace c0 := fun d os => cell_regrown c0 d os
  replace c1 := fun d os => cell_regrown c1 d os
  replace c2 := fun d os => cell_regrown c2 d os
  replace c3 := fun d os => cell_regrown c3 d os
  replace v0 := fun d os => cell_regrown v0 d os
  have hRW := fun d os => hrow.on (below_regrown W d os)
  refine wpIn_wide.2 ?_
  have hT1 : decide (1000 < (T.length : Int)) = false := by simp; omega
  refine wp_region_mem 10 (fun d => match d with
    | 13 => some (fun v w => Row w v T)
    | 14 => some (Is (.bool true))
    | _ => none) (by kernel_rfl) (by kernel_rfl) ?_
  simp only [List.take_succ_cons, List.take_zero, List.drop_succ_cons, List.drop_zero]
  repeat (first | (refine wpM_calm rfl rfl rfl ?_; intro K hK; go_big_quiet_op; go_big_quiet_on) | (refine wpM_skip rfl ?_; simp only [Act.put, List.setIfInBounds_toArray, List.set_cons_succ, List.set_cons_zero]))
  refine wpM_call _ rfl rfl rfl Tryd.func21 (by kernel_rfl) (by kernel_rfl) (fun w2 _ _ => (H2.out w2).mono fun e w3 ⟨v, he, hv, hb⟩ => ⟨v, he, hb, hv.row⟩) rfl ?_
  rintro v13 - a' ha'
  simp only [Act.put, List.setIfInBounds_toArray, List.set_cons_succ, List.set_cons_zero] at ha'
  subst ha'
  refine wpM_exact rfl rfl rfl Tryd.func20 (by kernel_rfl) (by kernel_rfl) (fun w2 hw2 hl => HSame.out _ _ w2 (hrow.on hw2) (by
    obtain ⟨w3, h3, h4⟩ := Fct.put_at (looks_at (k := 2) (d := 13) hl (by kernel_rfl) (by kernel_rfl))
    exact h3.on h4)) rfl (by simp only [Act.put, List.setIfInBounds_toArray, List.set_cons_succ, List.set_cons_zero]; rfl) ?_
  repeat (first | (refine wpM_calm rfl rfl rfl ?_; intro K hK; go_big_quiet_op; go_big_quiet_on) | (refine wpM_skip rfl ?_; simp only [Act.put, List.setIfInBounds_toArray, List.set_cons_succ, List.set_cons_zero]))
  refine wpM_nil ?_
  intro w2 hb2 _
  replace hb0 := on hb0 hb2
  replace ka := ka.on hb2
  replace kv := kv.on hb2
  replace hrow := hrow.on hb2
  clear c0 c1 c2 c3 v0 hRW hrow' H1 H2 HSame hb2
  obtain ⟨v0, _⟩ := kv.one
  obtain ⟨g, hA, hG⟩ := hrow.block
  clear hrow
  go_wp2_with fail
  gi_wp2
  gi_loopw [23] (fun i wr => ∃ k : Nat, k ≤ T.length ∧ i = .int .i64 k ∧ Below w.heap.size w wr ∧ CellsAt wr w.heap.size [.int .i64 a, .int .i64 b, .int .i64 c, .int .i64 d] ∧ CellsAt wr w1.heap.size [.slice A T.length cap] ∧ RowG wr g T ∧ w2.heap.size ≤ wr.heap.size) (fun i _ => T.length - (intOf i).toNat)
  case atStart => exact ⟨0, Nat.zero_le _, rfl, hb0, ka, kv, hG, Nat.le_refl _⟩
  case round =>
    clear hb0 ka kv hG v0
    obtain ⟨k, hk, rfl, hb0, ka, kv, hG, hsz⟩ := hrel
    by_cases hlt : k < T.length
    · obtain ⟨hTk, hkS⟩ := HTg.out k hlt
      obtain ⟨hAg, hg⟩ := hA (by intro e; rw [e] at hlt; simp at hlt)
      have HI := Lib.hid (fun w1 => HIn.out k hkS w1)
      obtain ⟨g0, g1⟩ := hG k _ hTk
      have l1 := ka.1
      have l2 := kv.1
      obtain ⟨v0, _⟩ := kv.one
      have hnb : Hid (∀ wz, CellsAt (wr.alloc (.cells #[.int .i64 (cellAt p q C k).1, .int .i64 (cellAt p q C k).2] 23)) wz [] → True) := Lib.hid fun _ _ => trivial
      have hX := CellsAt.new wr [.int .i64 (cellAt p q C k).1, .int .i64 (cellAt p q C k).2] 23
      replace hb0 := on_alloc hb0 (.cells #[.int .i64 (cellAt p q C k).1, .int .i64 (cellAt p q C k).2] 23)
      replace ka := ka.on_alloc (.cells #[.int .i64 (cellAt p q C k).1, .int .i64 (cellAt p q C k).2] 23)
      replace kv := kv.on_alloc (.cells #[.int .i64 (cellAt p q C k).1, .int .i64 (cellAt p q C k).2] 23)
      replace hG := hG.on (below1 wr (.cells #[.int .i64 (cellAt p q C k).1, .int .i64 (cellAt p q C k).2] 23))
      have hsz2 : wr.heap.size ≤ (wr.alloc (.cells #[.int .i64 (cellAt p q C k).1, .int .i64 (cellAt p q C k).2] 23)).heap.size := by simp
      clear hnb
      subst hAg
      cases k with
      | zero =>
        generalize cellAt p q C 0 = F0 at *
        gi_wp2_with fail
        generalize wr.alloc (.cells #[.int .i64 F0.1, .int .i64 F0.2] 23) = V at *
        clear g0 g1 v0
        obtain ⟨c0, c1, c2, c3, _⟩ := ka.four
        obtain ⟨x0, x1, _⟩ := hX.two
        obtain ⟨v0, _⟩ := kv.one
        replace c0 := fun d os => cell_regrown c0 d os
        replace c1 := fun d os => cell_regrown c1 d os
        replace c2 := fun d os => cell_regrown c2 d os
        replace c3 := fun d os => cell_regrown c3 d os
        replace x0 := fun d os => cell_regrown x0 d os
        replace x1 := fun d os => cell_regrown x1 d os
        replace v0 := fun d os => cell_regrown v0 d os
        refine wpIn_wide.2 ?_
        refine wp_region_quiet_below (by kernel_rfl) (by kernel_rfl) ?_
        repeat (go_big_quiet_step (first | (go_at_call 13; with_reducible exact Calls.regrown_of (HI.out _))))
        refine wpQuiet_nil ?_
        intro _ hw'
        obtain ⟨⟨dq, osq⟩, hw''⟩ := hw'
        subst hw''
        have hbr := below_regrown V dq osq
        replace hb0 := on hb0 hbr
        replace ka := ka.on hbr
        replace kv := kv.on hbr
        replace hG := hG.on hbr
        have hsz3 := hbr.size
        go_wp2_with fail
        gi_wp2
        go_roundw
        case rel => exact ⟨0 + 1, by omega, by go_num, hb0, ka, kv, hG, by omega⟩
        case measure => simp [intOf]; omega
      | succ j =>
        obtain ⟨hTj, hjS⟩ := HTg.out j (by omega)
        have HLq := Lib.hid (fun w1 => HLs.out j hjS w1)
        obtain ⟨p0, p1⟩ := hG j _ hTj
        generalize cellAt p q C (j + 1) = F1 at *
        generalize cellAt p q C j = F0 at *
        gi_wp2_with fail
        generalize wr.alloc (.cells #[.int .i64 F1.1, .int .i64 F1.2] 23) = V at *
        clear g0 g1 v0
        obtain ⟨c0, c1, c2, c3, _⟩ := ka.four
        obtain ⟨x0, x1, _⟩ := hX.two
        obtain ⟨v0, _⟩ := kv.one
        replace c0 := fun d os => cell_regrown c0 d os
        replace c1 := fun d os => cell_regrown c1 d os
        replace c2 := fun d os => cell_regrown c2 d os
        replace c3 := fun d os => cell_regrown c3 d os
        replace x0 := fun d os => cell_regrown x0 d os
        replace x1 := fun d os => cell_regrown x1 d os
        replace v0 := fun d os => cell_regrown v0 d os
        replace p0 := fun d os => cell_regrown p0 d os
        replace p1 := fun d os => cell_regrown p1 d os
        refine wpIn_wide.2 ?_
        refine wp_region_quiet_below (by kernel_rfl) (by kernel_rfl) ?_
        repeat (go_big_quiet_step (first | (go_at_call 13; with_reducible exact Calls.regrown_of (HI.out _)) | (go_at_call 22; with_reducible exact Calls.regrown_of (HLq.out _))))
        refine wpQuiet_nil ?_
        intro _ hw'
        obtain ⟨⟨dq, osq⟩, hw''⟩ := hw'
        subst hw''
        have hbr := below_regrown V dq osq
        replace hb0 := on hb0 hbr
        replace ka := ka.on hbr
        replace kv := kv.on hbr
        replace hG := hG.on hbr
        have hsz3 := hbr.size
        go_wp2_with fail
        gi_wp2
        go_roundw
        case rel => exact ⟨(j + 1) + 1, by omega, by go_num, hb0, ka, kv, hG, by omega⟩
        case measure => simp [intOf]; omega
    · obtain rfl : k = T.length := by omega
      have hd : decide ((T.length : Int) < (T.length : Int)) = false := by simp
      obtain ⟨c0, c1, c2, c3, _⟩ := ka.four
      obtain ⟨v0, _⟩ := kv.one
      gi_wp2_with fail
      refine ⟨trivial, (callsIn_wide.2 (H3.out _)).mono ?_⟩
      rintro e w4 ⟨x, y, z, rfl, hvars, hb4, _, _, _⟩
      replace hb0 := on hb0 hb4
      replace ka := ka.on hb4
      replace kv := kv.on hb4
      replace hG := hG.on hb4
      have hsz4 := hb4.size
      have hSt := HSt.out x y z _ (hvars.on (below1 w4 (.cells #[.int .i64 0] 3)))
      clear hb4 c0 c1 c2 c3 v0 HSt H3 HIn HLs
      have hfn := func_nil
      gi_wp2_with fail
      clear hfn
      have hlv := hvars.on (below1 w4 (.cells #[.int .i64 0] 3))
      have hb5 := on_alloc hb0 (.cells #[.int .i64 0] 3)
      have lx := hvars.1.1
      have ly := hvars.2.1.1
      have lz := hvars.2.2.1
      have lka := ka.1
      have lkv := kv.1
      replace ka := ka.on_alloc (.cells #[.int .i64 0] 3)
      replace kv := kv.on_alloc (.cells #[.int .i64 0] 3)
      replace hG := hG.on (below1 w4 (.cells #[.int .i64 0] 3))
      have kn := CellsAt.new w4 [.int .i64 0] 3
      have hs0 := hb0.size
      have hs5 : (w4.alloc (.cells #[.int .i64 0] 3)).heap.size = w4.heap.size + 1 := by simp
      generalize w4.alloc (.cells #[.int .i64 0] 3) = W5 at *
      have hgn : T ≠ [] → w4.heap.size ≠ g := fun h => by have := (hA h).2; omega
      refine wpIn_rangeFunc_ownH rfl (by decide) (gf := 37) (lb := #[.pointer (some ⟨x, 0, none⟩), .pointer (some ⟨y, 0, none⟩), .pointer (some ⟨z, 0, none⟩)]) rfl trivial (enters_of Tryd.func37 (by kernel_rfl) rfl)
        hSt (fun h k => keepV_t h k) (keepV_b ⟨hlv.1.1, hlv.2.1.1, hlv.2.2.1⟩) (Below.refl _ _) (fun _ => rfl)
        (fun pre W => ((CellsAt W w4.heap.size [.int .i64 (pre.length : Nat)] ∧ pre.length ≤ 1001) ∧ CellsAt W w.heap.size [.int .i64 a, .int .i64 b, .int .i64 c, .int .i64 d] ∧ CellsAt W w1.heap.size [.slice A T.length cap] ∧ RowG W g T) ∧ Below w.heap.size w W)
        (fun e pre W => ((e = .exit 2 ∧ ∃ k : Nat, pre.length = k + 1 ∧ CellsAt W w4.heap.size [.int .i64 k] ∧ ((∃ u, T[k]? = some u ∧ pre[k]? ≠ some u) ∨ (T.length ≤ k ∧ k = 1001))) ∧ CellsAt W w.heap.size [.int .i64 a, .int .i64 b, .int .i64 c, .int .i64 d] ∧ CellsAt W w1.heap.size [.slice A T.length cap]) ∧ Below w.heap.size w W)
        (OwnFrom.and (Own.from (fun _ X Y row hs hg hr => ⟨⟨CellsAt.own (by simp) hs.1.1 hg hr, hs.1.2⟩, CellsAt.own (by simp) hs.2.1 hg hr, CellsAt.own (by simp) hs.2.2.1 hg hr, hs.2.2.2.own hg hr⟩) _) (ownFrom_below (Nat.le_refl _) (by omega)))
        (fun e => OwnFrom.and (Own.from (fun _ X Y row hs hg hr => by
          obtain ⟨⟨h1, k, h2, h3, h4⟩, h5, h6⟩ := hs
          exact ⟨⟨h1, k, h2, CellsAt.own (by simp) h3 hg hr, h4⟩, CellsAt.own (by simp) h5 hg hr, CellsAt.own (by simp) h6 hg hr⟩) _) (ownFrom_below (Nat.le_refl _) (by omega)))
        ⟨⟨⟨kn, by simp⟩, ka, kv, hG⟩, hb5⟩
        (fun u a' W => ∃ Bx, w4.heap.size < Bx ∧ CellsAt W Bx [.int .i64 u.1, .int .i64 u.2] ∧ a' = { tmps := #[.agg #[.int .i64 a, .int .i64 b, .int .i64 c, .int .i64 d], .pointer (some ⟨w.heap.size, 0, none⟩), u2, .pointer (some ⟨w1.heap.size, 0, none⟩), u4, u5, .func (.func 37) #[] #[.pointer (some ⟨x, 0, none⟩), .pointer (some ⟨y, 0, none⟩), .pointer (some ⟨z, 0, none⟩)], .pointer (some ⟨w4.heap.size, 0, none⟩), .pointer (some ⟨Bx, 0, none⟩), .agg #[.int .i64 a, .int .i64 b, .int .i64 c, .int .i64 d], .slice A T.length cap, .slice A T.length cap, .agg #[.int .i64 a, .int .i64 b, .int .i64 c, .int .i64 d], v13, .bool true, .bool false, .bool false, .slice A T.length cap, .int .i64 T.length, .bool false, .bool false, .slice A T.length cap, .int .i64 T.length, .int .i64 T.length, .bool false, u25, u26, u27, u28, u29, u30, u31, u32, u33, u34, u35, u36, u37, u38, u39, u40, u41, u42, u43, u44, u45, u46, .agg #[.int .i64 a, .int .i64 b, .int .i64 c, .int .i64 d], .func (.func 37) #[] #[.pointer (some ⟨x, 0, none⟩), .pointer (some ⟨y, 0, none⟩), .pointer (some ⟨z, 0, none⟩)], .func (.func 37) #[] #[.pointer (some ⟨x, 0, none⟩), .pointer (some ⟨y, 0, none⟩), .pointer (some ⟨z, 0, none⟩)], .bool false, .func (.func 37) #[] #[.pointer (some ⟨x, 0, none⟩), .pointer (some ⟨y, 0, none⟩), .pointer (some ⟨z, 0, none⟩)], .agg #[.int .i64 u.1, .int .i64 u.2], undef, undef, undef, undef, undef, undef, undef, undef, undef, undef, undef, undef, undef, undef, undef, undef, undef, undef, undef, undef, undef, undef, undef, undef, undef, undef, undef, undef, undef, undef, undef, undef, undef, undef, undef, undef, undef, undef, undef, undef, undef], defers := [] })
        (fun u a' _ X Y row hs hg hr => by obtain ⟨Bx, h1, h2, h3⟩ := hs; exact ⟨Bx, h1, CellsAt.own (by simp) h2 hg (fun r e => (hr r e).2), h3⟩)
        ?assign ?body ?done ?stop
      case assign =>
        rintro l pre u W K ⟨⟨⟨kn1, hn1⟩, ka1, kv1, hG1⟩, hB1⟩ hK
        simp only [encs]
        gi_wp2
        exact hK _ _ ((KeepsOthers.alloc _ _).from _) (fun hh => hh.on (below1 W _)) ⟨⟨⟨kn1.on_alloc _, hn1⟩, ka1.on_alloc _, kv1.on_alloc _, hG1.on (below1 W _)⟩, on_alloc hB1 _⟩ ⟨W.heap.size, kn1.1, CellsAt.new W [.int .i64 u.1, .int .i64 u.2] 23, rfl⟩
      case body =>
        rintro l pre u a' W hl ⟨r, hr⟩ ⟨⟨⟨kn1, hn1⟩, ka1, kv1, hG1⟩, hB1⟩ ⟨Bx, hBx, hX, rfl⟩ hlt
        obtain ⟨n0, f0⟩ := kn1.one
        obtain ⟨x0, x1, _⟩ := hX.two
        obtain ⟨v0, _⟩ := kv1.one
        by_cases hkT : pre.length < T.length
        · have hd : decide ((pre.length : Int) < (T.length : Int)) = true := by simp; omega
          have hd2 : ((pre.length : Int) == 1001) = false := by simp; omega
          obtain ⟨u', hTk⟩ : ∃ u', T[pre.length]? = some u' := ⟨T[pre.length]'hkT, List.getElem?_eq_getElem _⟩
          obtain ⟨hAg, _⟩ := hA (by intro e; rw [e] at hkT; simp at hkT)
          obtain ⟨g0, g1⟩ := hG1 _ _ hTk
          subst hAg
          obtain ⟨p1, p2⟩ := u'
          rcases two_ways u.1 u.2 p1 p2 with ⟨h1, h2⟩ | ⟨hne, hw⟩
          · have e1 : (u.1 == p1) = true := by simpa using h1
            have e2 : (u.2 == p2) = true := by simpa using h2
            clear h1 h2 hTk
            have kn2 := kn1
            replace n0 := fun d os => cell_regrown n0 d os
            replace x0 := fun d os => cell_regrown x0 d os
            replace x1 := fun d os => cell_regrown x1 d os
            replace v0 := fun d os => cell_regrown v0 d os
            replace g0 := fun d os => cell_regrown g0 d os
            replace g1 := fun d os => cell_regrown g1 d os
            gi_wp2
            refine wpIn_region_calm (by kernel_rfl) (by kernel_rfl) (by kernel_rfl) ?_
            repeat (go_big_quiet_step (first | fail))
            refine wpQuiet_nil ?_
            intro _ hw'
            obtain ⟨⟨dq, osq⟩, hw''⟩ := hw'
            subst hw''
            have hbr := below_regrown W dq osq
            have hkf : KeepsFrom W5.heap.size W (Sort.grow (redrawn W dq) osq) := ⟨hbr.size, fun i o _ hi _ => (hbr.block i (Array.getElem?_eq_some_iff.1 hi).1).trans hi⟩
            replace kn2 := kn2.on hbr
            replace ka1 := ka1.on hbr
            replace kv1 := kv1.on hbr
            replace hG1 := hG1.on hbr
            replace hB1 := on hB1 hbr
            have hkv : KeepV x y z R C p q W (Sort.grow (redrawn W dq) osq) := fun hh => hh.on hbr
            clear n0 x0 x1 v0 g0 g1
            generalize Sort.grow (redrawn W dq) osq = V at *
            obtain ⟨n0, f0⟩ := kn2.one
            gi_wp2
            exact ⟨hkf.trans ((KeepsOthers.setCell _ _ _).from _), fun hh => (hkv hh).far (by omega) (by omega) (by omega) _, ⟨⟨by rw [List.length_append]; simpa using one_set kn2 (.int .i64 ((pre.length : Int) + 1)), by rw [List.length_append]; simp; omega⟩, ka1.far (p := ⟨w4.heap.size, 0, none⟩) (by show w4.heap.size ≠ _; omega) _, kv1.far (p := ⟨w4.heap.size, 0, none⟩) (by show w4.heap.size ≠ _; omega) _, hG1.far' hgn _⟩, hB1.setCell (p := ⟨w4.heap.size, 0, none⟩) (by show w.heap.size ≤ w4.heap.size; omega) _⟩
          · have hwhy : (∃ u', T[pre.length]? = some u' ∧ (pre ++ [u])[pre.length]? ≠ some u') ∨ (T.length ≤ pre.length ∧ pre.length = 1001) := .inl ⟨_, hTk, by
              simp only [List.getElem?_concat_length, ne_eq, Option.some.injEq]
              intro e
              rw [e] at hne
              exact hne ⟨rfl, rfl⟩⟩
            clear hne hTk
            rcases hw with e1 | ⟨e1, e2⟩
            all_goals
              have kn2 := kn1
              replace n0 := fun d os => cell_regrown n0 d os
              replace x0 := fun d os => cell_regrown x0 d os
              replace x1 := fun d os => cell_regrown x1 d os
              replace v0 := fun d os => cell_regrown v0 d os
              replace g0 := fun d os => cell_regrown g0 d os
              replace g1 := fun d os => cell_regrown g1 d os
              gi_wp2
              refine wpIn_region_calm (by kernel_rfl) (by kernel_rfl) (by kernel_rfl) ?_
              repeat (go_big_quiet_step (first | fail))
              refine wpQuiet_nil ?_
              intro _ hw'
              obtain ⟨⟨dq, osq⟩, hw''⟩ := hw'
              subst hw''
              have hbr := below_regrown W dq osq
              have hkf : KeepsFrom W5.heap.size W (Sort.grow (redrawn W dq) osq) := ⟨hbr.size, fun i o _ hi _ => (hbr.block i (Array.getElem?_eq_some_iff.1 hi).1).trans hi⟩
              replace kn2 := kn2.on hbr
              replace ka1 := ka1.on hbr
              replace kv1 := kv1.on hbr
              replace hG1 := hG1.on hbr
              replace hB1 := on hB1 hbr
              have hkv : KeepV x y z R C p q W (Sort.grow (redrawn W dq) osq) := fun hh => hh.on hbr
              clear n0 x0 x1 v0 g0 g1
              generalize Sort.grow (redrawn W dq) osq = V at *
              obtain ⟨n0, f0⟩ := kn2.one
              gi_wp2
              exact ⟨hkf, ⟨⟨rfl, pre.length, by simp, kn2, hwhy⟩, ka1, kv1⟩, hB1⟩
        · have hd : decide ((pre.length : Int) < (T.length : Int)) = false := by simp; omega
          by_cases h1001 : pre.length = 1001
          · have hd2 : ((pre.length : Int) == 1001) = true := by simp; omega
            have hwhy : (∃ u', T[pre.length]? = some u' ∧ (pre ++ [u])[pre.length]? ≠ some u') ∨ (T.length ≤ pre.length ∧ pre.length = 1001) := .inr ⟨by omega, h1001⟩
            clear h1001
            have kn2 := kn1
            replace n0 := fun d os => cell_regrown n0 d os
            replace x0 := fun d os => cell_regrown x0 d os
            replace x1 := fun d os => cell_regrown x1 d os
            replace v0 := fun d os => cell_regrown v0 d os
            gi_wp2
            refine wpIn_region_calm (by kernel_rfl) (by kernel_rfl) (by kernel_rfl) ?_
            repeat (go_big_quiet_step (first | fail))
            refine wpQuiet_nil ?_
            intro _ hw'
            obtain ⟨⟨dq, osq⟩, hw''⟩ := hw'
            subst hw''
            have hbr := below_regrown W dq osq
            have hkf : KeepsFrom W5.heap.size W (Sort.grow (redrawn W dq) osq) := ⟨hbr.size, fun i o _ hi _ => (hbr.block i (Array.getElem?_eq_some_iff.1 hi).1).trans hi⟩
            replace kn2 := kn2.on hbr
            replace ka1 := ka1.on hbr
            replace kv1 := kv1.on hbr
            replace hG1 := hG1.on hbr
            replace hB1 := on hB1 hbr
            have hkv : KeepV x y z R C p q W (Sort.grow (redrawn W dq) osq) := fun hh => hh.on hbr
            clear n0 x0 x1 v0
            generalize Sort.grow (redrawn W dq) osq = V at *
            obtain ⟨n0, f0⟩ := kn2.one
            gi_wp2
            exact ⟨hkf, ⟨⟨rfl, pre.length, by simp, kn2, hwhy⟩, ka1, kv1⟩, hB1⟩
          · have hd2 : ((pre.length : Int) == 1001) = false := by simp; omega
            have kn2 := kn1
            replace n0 := fun d os => cell_regrown n0 d os
            replace x0 := fun d os => cell_regrown x0 d os
            replace x1 := fun d os => cell_regrown x1 d os
            replace v0 := fun d os => cell_regrown v0 d os
            gi_wp2
            refine wpIn_region_calm (by kernel_rfl) (by kernel_rfl) (by kernel_rfl) ?_
            repeat (go_big_quiet_step (first | fail))
            refine wpQuiet_nil ?_
            intro _ hw'
            obtain ⟨⟨dq, osq⟩, hw''⟩ := hw'
            subst hw''
            have hbr := below_regrown W dq osq
            have hkf : KeepsFrom W5.heap.size W (Sort.grow (redrawn W dq) osq) := ⟨hbr.size, fun i o _ hi _ => (hbr.block i (Array.getElem?_eq_some_iff.1 hi).1).trans hi⟩
            replace kn2 := kn2.on hbr
            replace ka1 := ka1.on hbr
            replace kv1 := kv1.on hbr
            replace hG1 := hG1.on hbr
            replace hB1 := on hB1 hbr
            have hkv : KeepV x y z R C p q W (Sort.grow (redrawn W dq) osq) := fun hh => hh.on hbr
            clear n0 x0 x1 v0
            generalize Sort.grow (redrawn W dq) osq = V at *
            obtain ⟨n0, f0⟩ := kn2.one
            gi_wp2
            exact ⟨hkf.trans ((KeepsOthers.setCell _ _ _).from _), fun hh => (hkv hh).far (by omega) (by omega) (by omega) _, ⟨⟨by rw [List.length_append]; simpa using one_set kn2 (.int .i64 ((pre.length : Int) + 1)), by rw [List.length_append]; simp; omega⟩, ka1.far (p := ⟨w4.heap.size, 0, none⟩) (by show w4.heap.size ≠ _; omega) _, kv1.far (p := ⟨w4.heap.size, 0, none⟩) (by show w4.heap.size ≠ _; omega) _, hG1.far' hgn _⟩, hB1.setCell (p := ⟨w4.heap.size, 0, none⟩) (by show w.heap.size ≤ w4.heap.size; omega) _⟩
      case done =>
        rintro D ys W hD rfl ⟨⟨⟨kn1, hn1⟩, ka1, kv1, _⟩, hB1⟩ hK
        rw [upto_length] at kn1 hn1
        have hfin : (((T.length : Int) == (S : Int)) = true ∧ ((S : Int) == (T.length : Int)) = true) ∨ (((T.length : Int) == (S : Int)) = false ∧ decide (1000 < (S : Int)) = true ∧ ((S : Int) == 1001) = true) := by
          by_cases h : S ≤ 1000
          · left; have := hTl.2.2.1 h; simp; omega
          · right; have := hTl.2.2.2 (by omega); simp; omega
        have HLV := Lib.hid (HL.out.grown hB1)
        obtain ⟨n0, _⟩ := kn1.one
        obtain ⟨c0, c1, c2, c3, _⟩ := ka1.four
        obtain ⟨v0, _⟩ := kv1.one
        replace n0 := fun d os => cell_regrown n0 d os
        replace c0 := fun d os => cell_regrown c0 d os
        replace c1 := fun d os => cell_regrown c1 d os
        replace c2 := fun d os => cell_regrown c2 d os
        replace c3 := fun d os => cell_regrown c3 d os
        replace v0 := fun d os => cell_regrown v0 d os
        rcases hfin with ⟨b1, b2⟩ | ⟨b1, b3, b4⟩
        all_goals
          gi_wp2_with fail
          refine wpIn_wide.2 ?_
          refine wp_region_quiet_below (by kernel_rfl) (by kernel_rfl) ?_
          repeat (go_big_quiet_step (first | (go_at_call 17; with_reducible exact Calls.regrown_of (H4.out _)) | (go_at_call 18; with_reducible exact Calls.regrown_of (HA.out _ (HLV.out.regrown _ _)))))
          refine wpQuiet_nil ?_
          intro _ hw'
          obtain ⟨⟨dq, osq⟩, hw''⟩ := hw'
          subst hw''
          have hbr := below_regrown W dq osq
          have hKV := (hbr.block D (Array.getElem?_eq_some_iff.1 hK).1).trans hK
          have hBV := on hB1 hbr
          go_wp2_with fail
          gi_wp2
          refine ⟨by simp, .inl ⟨_, _, rfl, run_takeDeferred hKV, ?_⟩⟩
          exact ⟨_, results_tmp rfl _ _ _, rfl, hBV.trans (belowK_b (w := w) (Nat.le_refl _) _ D _ _ (by omega) hKV rfl rfl)⟩
      case stop =>
        rintro D e pre W hD ⟨k0, hk0, rfl⟩ ⟨⟨⟨rfl, k, h2, kn1, h4⟩, ka1, kv1⟩, hB1⟩ hK
        rw [upto_length] at h2
        have hk1 : k = 1001 ∧ T.length ≤ k := by
          rcases h4 with ⟨u, h5, h6⟩ | ⟨h5, h6⟩
          · have h7 := (HTg.out k (List.getElem?_eq_some_iff.1 h5).1).1
            rw [h5] at h7
            rw [upto_get _ (by omega)] at h6
            exact absurd h7.symm h6
          · exact ⟨h6, h5⟩
        obtain ⟨rfl, hk2⟩ := hk1
        have hfin : (((T.length : Int) == (S : Int)) = true ∧ False) ∨ (((T.length : Int) == (S : Int)) = false ∧ decide (1000 < (S : Int)) = true ∧ (((1001 : Nat) : Int) == 1001) = true) := by
          right; have := hTl.2.2.2 (by omega); simp; omega
        rcases hfin with ⟨_, hf⟩ | hfin
        · exact hf.elim
        replace hfin : (((T.length : Int) == (S : Int)) = false ∧ decide (1000 < (S : Int)) = true ∧ (((1001 : Nat) : Int) == 1001) = true) ∨ (((T.length : Int) == (S : Int)) = false ∧ decide (1000 < (S : Int)) = true ∧ (((1001 : Nat) : Int) == 1001) = true) := .inl hfin
        have HLV := Lib.hid (HL.out.grown hB1)
        obtain ⟨n0, _⟩ := kn1.one
        obtain ⟨c0, c1, c2, c3, _⟩ := ka1.four
        obtain ⟨v0, _⟩ := kv1.one
        replace n0 := fun d os => cell_regrown n0 d os
        replace c0 := fun d os => cell_regrown c0 d os
        replace c1 := fun d os => cell_regrown c1 d os
        replace c2 := fun d os => cell_regrown c2 d os
        replace c3 := fun d os => cell_regrown c3 d os
        replace v0 := fun d os => cell_regrown v0 d os
        rcases hfin with ⟨b1, b3, b4⟩ | ⟨b1, b3, b4⟩
        all_goals
          gi_wp2_with fail
          refine wpIn_wide.2 ?_
          refine wp_region_quiet_below (by kernel_rfl) (by kernel_rfl) ?_
          repeat (go_big_quiet_step (first | (go_at_call 17; with_reducible exact Calls.regrown_of (H4.out _)) | (go_at_call 18; with_reducible exact Calls.regrown_of (HA.out _ (HLV.out.regrown _ _)))))
          refine wpQuiet_nil ?_
          intro _ hw'
          obtain ⟨⟨dq, osq⟩, hw''⟩ := hw'
          subst hw''
          have hbr := below_regrown W dq osq
          have hKV := (hbr.block D (Array.getElem?_eq_some_iff.1 hK).1).trans hK
          have hBV := on hB1 hbr
          go_wp2_with fail
          gi_wp2
          refine ⟨by simp, .inl ⟨_, _, rfl, run_takeDeferred hKV, ?_⟩⟩
          exact ⟨_, results_tmp rfl _ _ _, rfl, hBV.trans (belowK_b (w := w) (Nat.le_refl _) _ D _ _ (by omega) hKV rfl rfl)⟩
end Go.Proofs.YtkebapdbibdheaaDoor.Span

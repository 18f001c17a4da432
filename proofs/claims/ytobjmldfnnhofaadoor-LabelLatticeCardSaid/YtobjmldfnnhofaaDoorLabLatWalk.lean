/- LabelLattice: the law returns true for every three labels, whatever their levels, and makes new memory alone. -/
import Derived.Test.YtobjmldfnnhofaaDoorLabAlive
import Derived.Test.YtobjmldfnnhofaaDoorLabMath
namespace Go.Proofs.YtobjmldfnnhofaaDoor.Cats
open Go.RowKit

set_option maxRecDepth 100000 in
set_option maxHeartbeats 8000000 in
theorem lattice_core (la lb lc lj lm lJ lK lN lO : Int) (sa sb sc sj sm sJ sK sN sO : Nat) (x1 x2 y1 y2 q pa pb : Bool)
    (Jab : Hid (∀ w, Calls Tryd.prog 10 #[.agg #[.int .i64 la, .int .u64 sa], .agg #[.int .i64 lb, .int .u64 sb]] w fun e w' => e = .returned (.agg #[.int .i64 lj, .int .u64 sj]) ∧ Below w.heap.size w w'))
    (Mab : Hid (∀ w, Calls Tryd.prog 11 #[.agg #[.int .i64 la, .int .u64 sa], .agg #[.int .i64 lb, .int .u64 sb]] w fun e w' => e = .returned (.agg #[.int .i64 lm, .int .u64 sm]) ∧ Below w.heap.size w w'))
    (Baj : Hid (∀ w, Calls Tryd.prog 8 #[.agg #[.int .i64 la, .int .u64 sa], .agg #[.int .i64 lj, .int .u64 sj]] w fun e w' => e = .returned (.bool true) ∧ Below w.heap.size w w'))
    (Bbj : Hid (∀ w, Calls Tryd.prog 8 #[.agg #[.int .i64 lb, .int .u64 sb], .agg #[.int .i64 lj, .int .u64 sj]] w fun e w' => e = .returned (.bool true) ∧ Below w.heap.size w w'))
    (Bma : Hid (∀ w, Calls Tryd.prog 8 #[.agg #[.int .i64 lm, .int .u64 sm], .agg #[.int .i64 la, .int .u64 sa]] w fun e w' => e = .returned (.bool true) ∧ Below w.heap.size w w'))
    (Bmb : Hid (∀ w, Calls Tryd.prog 8 #[.agg #[.int .i64 lm, .int .u64 sm], .agg #[.int .i64 lb, .int .u64 sb]] w fun e w' => e = .returned (.bool true) ∧ Below w.heap.size w w'))
    (Bac : Hid (∀ w, Calls Tryd.prog 8 #[.agg #[.int .i64 la, .int .u64 sa], .agg #[.int .i64 lc, .int .u64 sc]] w fun e w' => e = .returned (.bool x1) ∧ Below w.heap.size w w'))
    (Bbc : Hid (∀ w, Calls Tryd.prog 8 #[.agg #[.int .i64 lb, .int .u64 sb], .agg #[.int .i64 lc, .int .u64 sc]] w fun e w' => e = .returned (.bool x2) ∧ Below w.heap.size w w'))
    (Bjc : Hid (x1 = true → ∀ w, Calls Tryd.prog 8 #[.agg #[.int .i64 lj, .int .u64 sj], .agg #[.int .i64 lc, .int .u64 sc]] w fun e w' => e = .returned (.bool x2) ∧ Below w.heap.size w w'))
    (Bca : Hid (∀ w, Calls Tryd.prog 8 #[.agg #[.int .i64 lc, .int .u64 sc], .agg #[.int .i64 la, .int .u64 sa]] w fun e w' => e = .returned (.bool y1) ∧ Below w.heap.size w w'))
    (Bcb : Hid (∀ w, Calls Tryd.prog 8 #[.agg #[.int .i64 lc, .int .u64 sc], .agg #[.int .i64 lb, .int .u64 sb]] w fun e w' => e = .returned (.bool y2) ∧ Below w.heap.size w w'))
    (Bcm : Hid (y1 = true → ∀ w, Calls Tryd.prog 8 #[.agg #[.int .i64 lc, .int .u64 sc], .agg #[.int .i64 lm, .int .u64 sm]] w fun e w' => e = .returned (.bool y2) ∧ Below w.heap.size w w'))
    (Jba : Hid (∀ w, Calls Tryd.prog 10 #[.agg #[.int .i64 lb, .int .u64 sb], .agg #[.int .i64 la, .int .u64 sa]] w fun e w' => e = .returned (.agg #[.int .i64 lj, .int .u64 sj]) ∧ Below w.heap.size w w'))
    (Mba : Hid (∀ w, Calls Tryd.prog 11 #[.agg #[.int .i64 lb, .int .u64 sb], .agg #[.int .i64 la, .int .u64 sa]] w fun e w' => e = .returned (.agg #[.int .i64 lm, .int .u64 sm]) ∧ Below w.heap.size w w'))
    (Jjc : Hid (∀ w, Calls Tryd.prog 10 #[.agg #[.int .i64 lj, .int .u64 sj], .agg #[.int .i64 lc, .int .u64 sc]] w fun e w' => e = .returned (.agg #[.int .i64 lJ, .int .u64 sJ]) ∧ Below w.heap.size w w'))
    (Jbc : Hid (∀ w, Calls Tryd.prog 10 #[.agg #[.int .i64 lb, .int .u64 sb], .agg #[.int .i64 lc, .int .u64 sc]] w fun e w' => e = .returned (.agg #[.int .i64 lK, .int .u64 sK]) ∧ Below w.heap.size w w'))
    (JaK : Hid (∀ w, Calls Tryd.prog 10 #[.agg #[.int .i64 la, .int .u64 sa], .agg #[.int .i64 lK, .int .u64 sK]] w fun e w' => e = .returned (.agg #[.int .i64 lJ, .int .u64 sJ]) ∧ Below w.heap.size w w'))
    (Mmc : Hid (∀ w, Calls Tryd.prog 11 #[.agg #[.int .i64 lm, .int .u64 sm], .agg #[.int .i64 lc, .int .u64 sc]] w fun e w' => e = .returned (.agg #[.int .i64 lN, .int .u64 sN]) ∧ Below w.heap.size w w'))
    (Mbc : Hid (∀ w, Calls Tryd.prog 11 #[.agg #[.int .i64 lb, .int .u64 sb], .agg #[.int .i64 lc, .int .u64 sc]] w fun e w' => e = .returned (.agg #[.int .i64 lO, .int .u64 sO]) ∧ Below w.heap.size w w'))
    (MaO : Hid (∀ w, Calls Tryd.prog 11 #[.agg #[.int .i64 la, .int .u64 sa], .agg #[.int .i64 lO, .int .u64 sO]] w fun e w' => e = .returned (.agg #[.int .i64 lN, .int .u64 sN]) ∧ Below w.heap.size w w'))
    (Jam : Hid (∀ w, Calls Tryd.prog 10 #[.agg #[.int .i64 la, .int .u64 sa], .agg #[.int .i64 lm, .int .u64 sm]] w fun e w' => e = .returned (.agg #[.int .i64 la, .int .u64 sa]) ∧ Below w.heap.size w w'))
    (Maj : Hid (∀ w, Calls Tryd.prog 11 #[.agg #[.int .i64 la, .int .u64 sa], .agg #[.int .i64 lj, .int .u64 sj]] w fun e w' => e = .returned (.agg #[.int .i64 la, .int .u64 sa]) ∧ Below w.heap.size w w'))
    (Bab : Hid (∀ w, Calls Tryd.prog 8 #[.agg #[.int .i64 la, .int .u64 sa], .agg #[.int .i64 lb, .int .u64 sb]] w fun e w' => e = .returned (.bool q) ∧ Below w.heap.size w w'))
    (Pa : Hid (∀ w, Calls Tryd.prog 7 #[.agg #[.int .i64 la, .int .u64 sa]] w fun e w' => e = .returned (.bool pa) ∧ Below w.heap.size w w'))
    (Pb : Hid (∀ w, Calls Tryd.prog 7 #[.agg #[.int .i64 lb, .int .u64 sb]] w fun e w' => e = .returned (.bool pb) ∧ Below w.heap.size w w'))
    (Pj : Hid (pa = true → pb = true → ∀ w, Calls Tryd.prog 7 #[.agg #[.int .i64 lj, .int .u64 sj]] w fun e w' => e = .returned (.bool true) ∧ Below w.heap.size w w'))
    (Pm : Hid (pa = true → pb = true → ∀ w, Calls Tryd.prog 7 #[.agg #[.int .i64 lm, .int .u64 sm]] w fun e w' => e = .returned (.bool true) ∧ Below w.heap.size w w'))
    (hq : q = ((lj == lb) && ((sj : Int) == (sb : Int)))) (Al : Hid (∀ w, Errs w → Calls Tryd.prog 17 #[] w fun e w' => e = .returned (.bool true) ∧ Below w.heap.size w w')) (w : World) (hE : Hid (Errs w)) :
    Calls Tryd.prog 4 #[.agg #[.int .i64 la, .int .u64 sa], .agg #[.int .i64 lb, .int .u64 sb], .agg #[.int .i64 lc, .int .u64 sc]] w fun e w' => e = .returned (.bool true) ∧ Below w.heap.size w w' := by
  go_enter Tryd.func4, Tryd.ntmps4
  go_wp2_with fail
  refine (Jab.out _).mono ?_
  rintro e w1 ⟨rfl, b1⟩
  have hs1 := b1.size
  simp at hs1
  obtain ⟨a0, a1, a2, a3, _, _⟩ := three_boxes b1
  have l0 : w.heap.size < w1.heap.size := by omega
  have l1 : w.heap.size + 1 < w1.heap.size := by omega
  have A0 : ∀ o, (w1.alloc o).cell? ⟨w.heap.size, 0, none⟩ = some (.int .i64 la) := fun o => (World.cell?_alloc_lt w1 o ⟨w.heap.size, 0, none⟩ l0).trans a0
  have A1 : ∀ o, (w1.alloc o).cell? ⟨w.heap.size, 1, none⟩ = some (.int .u64 sa) := fun o => (World.cell?_alloc_lt w1 o ⟨w.heap.size, 1, none⟩ l0).trans a1
  have A2 : ∀ o, (w1.alloc o).cell? ⟨w.heap.size + 1, 0, none⟩ = some (.int .i64 lb) := fun o => (World.cell?_alloc_lt w1 o ⟨w.heap.size + 1, 0, none⟩ l1).trans a2
  have A3 : ∀ o, (w1.alloc o).cell? ⟨w.heap.size + 1, 1, none⟩ = some (.int .u64 sb) := fun o => (World.cell?_alloc_lt w1 o ⟨w.heap.size + 1, 1, none⟩ l1).trans a3
  go_wp2_with fail
  refine (Mab.out _).mono ?_
  rintro e w2 ⟨rfl, b2⟩
  have hL := Labs.start (lm := lm) (sm := sm) b1 b2
  have hs2 := b2.size
  simp at hs2
  clear a0 a1 a2 a3 A0 A1 A2 A3
  obtain ⟨g0, g1, g2, g3, g4, g5, g6, g7⟩ := pre_boxes b1 b2
  go_wp2_with fail
  clear g0 g1 g2 g3 g4 g5 g6 g7
  have hJ : w1.heap.size < w2.heap.size + 1 := by omega
  have hC : w.heap.size + 1 + 1 < w2.heap.size + 1 := by omega
  have hM : w2.heap.size < w2.heap.size + 1 := by omega
  generalize w2.alloc (.cells #[.int .i64 lm, .int .u64 sm] 24) = W at *
  generalize w2.heap.size + 1 = NN at *
  generalize w2.heap.size = M at *
  generalize w1.heap.size = J at *
  clear b1 b2 hs1 hs2 l0 l1
  refine (Baj.out _).mono ?_
  rintro e v1 ⟨rfl, b1⟩
  replace hL := hL.keep (by omega) (by omega) hC hJ hM b1
  clear b1
  obtain ⟨h0, hN, f0, f1, f2, f3, f4, f5, f6, f7, f8, f9⟩ := id hL
  go_wp2_with fail
  refine (Bbj.out _).mono ?_
  rintro e v2 ⟨rfl, b2⟩
  replace hL := hL.keep (by omega) (by omega) hC hJ hM b2
  clear h0 hN f0 f1 f2 f3 f4 f5 f6 f7 f8 f9 b2
  obtain ⟨h0, hN, f0, f1, f2, f3, f4, f5, f6, f7, f8, f9⟩ := id hL
  go_wp2_with fail
  refine (Bma.out _).mono ?_
  rintro e v3 ⟨rfl, b3⟩
  replace hL := hL.keep (by omega) (by omega) hC hJ hM b3
  clear h0 hN f0 f1 f2 f3 f4 f5 f6 f7 f8 f9 b3
  obtain ⟨h0, hN, f0, f1, f2, f3, f4, f5, f6, f7, f8, f9⟩ := id hL
  go_wp2_with fail
  refine (Bmb.out _).mono ?_
  rintro e v4 ⟨rfl, b4⟩
  replace hL := hL.keep (by omega) (by omega) hC hJ hM b4
  clear h0 hN f0 f1 f2 f3 f4 f5 f6 f7 f8 f9 b4
  go_upto_region 5 with fail
  go_cut [62] (fun s wx => s = .bool false ∧ Labs NN w.heap.size (w.heap.size + 1) (w.heap.size + 1 + 1) J M la lb lc lj lm sa sb sc sj sm w wx)
  case first =>
    obtain ⟨h0, hN, f0, f1, f2, f3, f4, f5, f6, f7, f8, f9⟩ := id hL
    cases x1 <;> cases x2 <;> cases y1 <;> cases y2
    all_goals
      replace f0 := fun d os => cell_regrown f0 d os
      replace f1 := fun d os => cell_regrown f1 d os
      replace f2 := fun d os => cell_regrown f2 d os
      replace f3 := fun d os => cell_regrown f3 d os
      replace f4 := fun d os => cell_regrown f4 d os
      replace f5 := fun d os => cell_regrown f5 d os
      replace f6 := fun d os => cell_regrown f6 d os
      replace f7 := fun d os => cell_regrown f7 d os
      replace f8 := fun d os => cell_regrown f8 d os
      replace f9 := fun d os => cell_regrown f9 d os
      refine wp_region_quiet_below (by kernel_rfl) (by kernel_rfl) ?_
      repeat (go_big_quiet_step (first | (go_at_call 8; with_reducible exact Calls.regrown_of (Bac.out _)) | (go_at_call 8; with_reducible exact Calls.regrown_of (Bbc.out _)) | (go_at_call 8; with_reducible exact Calls.regrown_of (Bjc.out rfl _)) | (go_at_call 8; with_reducible exact Calls.regrown_of (Bca.out _)) | (go_at_call 8; with_reducible exact Calls.regrown_of (Bcb.out _)) | (go_at_call 8; with_reducible exact Calls.regrown_of (Bcm.out rfl _))))
      refine wpQuiet_nil ?_
      intro _ hw'
      obtain ⟨⟨dq, osq⟩, hw''⟩ := hw'
      subst hw''
      go_wp2_with fail
      go_meet
      exact ⟨rfl, hL.keep (by omega) (by omega) hC hJ hM (below_regrown _ _ _)⟩
  case rest =>
    obtain ⟨rfl, hL⟩ := hcut
    obtain ⟨h0, hN, f0, f1, f2, f3, f4, f5, f6, f7, f8, f9⟩ := id hL
    go_wp2_with fail
    replace f0 := fun d os => cell_regrown f0 d os
    replace f1 := fun d os => cell_regrown f1 d os
    replace f2 := fun d os => cell_regrown f2 d os
    replace f3 := fun d os => cell_regrown f3 d os
    replace f4 := fun d os => cell_regrown f4 d os
    replace f5 := fun d os => cell_regrown f5 d os
    replace f6 := fun d os => cell_regrown f6 d os
    replace f7 := fun d os => cell_regrown f7 d os
    replace f8 := fun d os => cell_regrown f8 d os
    replace f9 := fun d os => cell_regrown f9 d os
    refine wp_region_quiet_below (by kernel_rfl) (by kernel_rfl) ?_
    repeat (go_big_quiet_step (first | (go_at_call 10; with_reducible exact Calls.regrown_of (Jba.out _)) | (go_at_call 11; with_reducible exact Calls.regrown_of (Mba.out _)) | (go_at_call 10; with_reducible exact Calls.regrown_of (Jjc.out _)) | (go_at_call 10; with_reducible exact Calls.regrown_of (Jbc.out _)) | (go_at_call 10; with_reducible exact Calls.regrown_of (JaK.out _)) | (go_at_call 11; with_reducible exact Calls.regrown_of (Mmc.out _)) | (go_at_call 11; with_reducible exact Calls.regrown_of (Mbc.out _)) | (go_at_call 11; with_reducible exact Calls.regrown_of (MaO.out _))))
    refine wpQuiet_nil ?_
    intro _ hw'
    obtain ⟨⟨dq, osq⟩, hw''⟩ := hw'
    subst hw''
    replace hL := hL.keep (by omega) (by omega) hC hJ hM (below_regrown _ dq osq)
    clear h0 hN f0 f1 f2 f3 f4 f5 f6 f7 f8 f9
    generalize Go.Sort.grow (redrawn _ dq) osq = W2 at *
    have HE2 : Hid (∀ d os, Errs (Go.Sort.grow (redrawn W2 d) os)) := fun d os => (hE.out.grown hL.1).grown (below_regrown _ _ _)
    obtain ⟨h0, hN, f0, f1, f2, f3, f4, f5, f6, f7, f8, f9⟩ := id hL
    go_upto_region 9 with fail
    cases h1 : (lj == lb) <;> cases h2 : ((sj : Int) == (sb : Int))
    all_goals
      rw [h1, h2] at hq
      simp only [Bool.and_true, Bool.and_false] at hq
      subst hq
      cases pa <;> cases pb
    all_goals
      replace f0 := fun d os => cell_regrown f0 d os
      replace f1 := fun d os => cell_regrown f1 d os
      replace f2 := fun d os => cell_regrown f2 d os
      replace f3 := fun d os => cell_regrown f3 d os
      replace f4 := fun d os => cell_regrown f4 d os
      replace f5 := fun d os => cell_regrown f5 d os
      replace f6 := fun d os => cell_regrown f6 d os
      replace f7 := fun d os => cell_regrown f7 d os
      replace f8 := fun d os => cell_regrown f8 d os
      replace f9 := fun d os => cell_regrown f9 d os
      refine wp_region_quiet_below (by kernel_rfl) (by kernel_rfl) ?_
      repeat (go_big_quiet_step (first | (go_at_call 10; with_reducible exact Calls.regrown_of (Jam.out _)) | (go_at_call 11; with_reducible exact Calls.regrown_of (Maj.out _)) | (go_at_call 8; with_reducible exact Calls.regrown_of (Bab.out _)) | (go_at_call 7; with_reducible exact Calls.regrown_of (Pa.out _)) | (go_at_call 7; with_reducible exact Calls.regrown_of (Pb.out _)) | (go_at_call 7; with_reducible exact Calls.regrown_of (Pj.out rfl rfl _)) | (go_at_call 7; with_reducible exact Calls.regrown_of (Pm.out rfl rfl _)) | (go_at_call 17; with_reducible exact Calls.regrown_of (Al.out _ (HE2.out _ _)))))
      refine wpQuiet_nil ?_
      intro _ hw'
      obtain ⟨⟨dq, osq⟩, hw''⟩ := hw'
      subst hw''
      go_wp2
      go_ret
      exact ⟨rfl, (hL.keep (by omega) (by omega) hC hJ hM (below_regrown _ dq osq)).1⟩

theorem labelLattice (la lb lc : Int) (sa sb sc : Nat) (ha : U sa) (hb : U sb) (hc : U sc) (w : World) (hE : Errs w) :
    Calls Tryd.prog 4 #[.agg #[.int .i64 la, .int .u64 sa], .agg #[.int .i64 lb, .int .u64 sb], .agg #[.int .i64 lc, .int .u64 sc]] w fun e w' => e = .returned (.bool true) ∧ Below w.heap.size w w' := by
  have hj := U_or ha hb
  have hm := U_and sb ha
  have hbc := U_or hb hc
  have hbm := U_and sc hb
  refine lattice_core la lb lc (joinI la lb) (meetI la lb) (joinI (joinI la lb) lc) (joinI lb lc) (meetI (meetI la lb) lc) (meetI lb lc) sa sb sc (sa ||| sb) (sa &&& sb) ((sa ||| sb) ||| sc) (sb ||| sc) ((sa &&& sb) &&& sc) (sb &&& sc)
    (belowL la sa lc sc) (belowL lb sb lc sc) (belowL lc sc la sa) (belowL lc sc lb sb) (belowL la sa lb sb) (mayL la) (mayL lb)
    (fun w1 => ljoin_c la lb sa sb ha hb w1) (fun w1 => lmeet_c la lb sa sb ha hb w1)
    (fun w1 => lbelow_c _ _ _ _ _ ha hj (below_join_l ha hb) w1) (fun w1 => lbelow_c _ _ _ _ _ hb hj (below_join_r ha hb) w1)
    (fun w1 => lbelow_c _ _ _ _ _ hm ha (meet_below_l ha) w1) (fun w1 => lbelow_c _ _ _ _ _ hm hb (meet_below_r ha hb) w1)
    (fun w1 => lbelow_c _ _ _ _ _ ha hc rfl w1) (fun w1 => lbelow_c _ _ _ _ _ hb hc rfl w1)
    (fun h w1 => lbelow_c _ _ _ _ _ hj hc (join_least ha hb hc h) w1)
    (fun w1 => lbelow_c _ _ _ _ _ hc ha rfl w1) (fun w1 => lbelow_c _ _ _ _ _ hc hb rfl w1)
    (fun h w1 => lbelow_c _ _ _ _ _ hc hm (meet_greatest ha hb hc h) w1)
    (fun w1 => ?_) (fun w1 => ?_) (fun w1 => ljoin_c _ _ _ _ hj hc w1) (fun w1 => ljoin_c _ _ _ _ hb hc w1) (fun w1 => ?_)
    (fun w1 => lmeet_c _ _ _ _ hm hc w1) (fun w1 => lmeet_c _ _ _ _ hb hc w1) (fun w1 => ?_) (fun w1 => ?_) (fun w1 => ?_)
    (fun w1 => lbelow_c _ _ _ _ _ ha hb rfl w1) (fun w1 => lmay_c la sa _ rfl w1) (fun w1 => lmay_c lb sb _ rfl w1)
    (fun h k w1 => lmay_c _ _ _ (may_join h k).1 w1) (fun h k w1 => lmay_c _ _ _ (may_join h k).2 w1) (below_is_join ha hb) (fun w1 h => lalive_c w1 h) w hE
  · have h := ljoin_c lb la sb sa hb ha w1
    rwa [joinI_comm lb la, Nat.or_comm sb sa] at h
  · have h := lmeet_c lb la sb sa hb ha w1
    rwa [meetI_comm lb la, Nat.and_comm sb sa] at h
  · have h := ljoin_c la (joinI lb lc) sa (sb ||| sc) ha hbc w1
    rwa [← joinI_assoc, ← Nat.or_assoc] at h
  · have h := lmeet_c la (meetI lb lc) sa (sb &&& sc) ha hbm w1
    rwa [← meetI_assoc, ← Nat.and_assoc] at h
  · have h := ljoin_c la (meetI la lb) sa (sa &&& sb) ha hm w1
    rwa [joinI_meet, or_meet] at h
  · have h := lmeet_c la (joinI la lb) sa (sa ||| sb) ha hj w1
    rwa [meetI_join, and_join] at h
end Go.Proofs.YtobjmldfnnhofaaDoor.Cats

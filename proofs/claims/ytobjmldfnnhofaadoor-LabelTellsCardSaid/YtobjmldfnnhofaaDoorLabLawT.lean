/- LabelTells: the law returns true for every three labels, whatever their levels, and makes new memory alone. -/
import Derived.Test.YtobjmldfnnhofaaDoorLabAlive
import Derived.Test.YtobjmldfnnhofaaDoorRegion
import Derived.Test.YtobjmldfnnhofaaDoorLabLawB
namespace Go.Proofs.YtobjmldfnnhofaaDoor.Cats
open Go.RowKit Reg

/-- new memory with these cells -/
def NewCells (B : Nat) (cs : List Value) (v : Value) (w : World) : Prop := ∃ b, v = .pointer (some ⟨b, 0, none⟩) ∧ B ≤ b ∧ b < w.heap.size ∧ ∀ i x, cs[i]? = some x → w.cell? ⟨b, i, none⟩ = some x ∧ w.frozen? ⟨b, i, none⟩ = false
theorem NewCells.mk (w : World) {B : Nat} {cs : List Value} {ty : TypeId} (hB : B ≤ w.heap.size) : Below w.heap.size w (w.alloc (.cells cs.toArray ty)) ∧ NewCells B cs (.pointer (some ⟨w.heap.size, 0, none⟩)) (w.alloc (.cells cs.toArray ty)) := by
  refine ⟨below1 _ _, w.heap.size, rfl, hB, by simp, fun i x hx => ⟨?_, World.frozen?_alloc_at _ _ _ _ rfl⟩⟩
  rw [World.cell?_alloc_at _ _ _ _ rfl]
  simpa using hx
theorem NewCells.up {B : Nat} {cs : List Value} {v : Value} {w : World} (h : Up (NewCells B cs v) w) : NewCells B cs v w := by
  obtain ⟨w1, ⟨b, hv, hB, hlt, hc⟩, hb⟩ := h
  refine ⟨b, hv, hB, Nat.lt_of_lt_of_le hlt hb.size, fun i x hx => ?_⟩
  rw [hb.cell (p := ⟨b, i, none⟩) hlt, hb.frozen (p := ⟨b, i, none⟩) hlt]
  exact hc i x hx
/-- a new slice that reads as these labels -/
def NewLabs (ls : List (Int × Nat)) (v : Value) (w : World) : Prop := ∃ b, v = .slice (some ⟨b, 0, none⟩) ls.length ls.length ∧ LabsR w (some ⟨b, 0, none⟩) ls.length ls
theorem NewLabs.up {ls : List (Int × Nat)} {v : Value} {w : World} (h : Up (NewLabs ls v) w) : NewLabs ls v w := by
  obtain ⟨w1, ⟨b, hv, hl⟩, hb⟩ := h
  exact ⟨b, hv, hl.grown hb (Nat.le_refl _)⟩
set_option maxRecDepth 100000 in
set_option maxHeartbeats 4000000 in
theorem labelTells (la lb lc : Int) (sa sb sc : Nat) (ha : U sa) (hb : U sb) (hc : U sc) (w : World) (hE : Errs w) :
    Calls Tryd.prog 3 #[.agg #[.int .i64 la, .int .u64 sa], .agg #[.int .i64 lb, .int .u64 sb], .agg #[.int .i64 lc, .int .u64 sc]] w fun e w' => e = .returned (.bool true) ∧ Below w.heap.size w w' := by
  have hj := U_or ha hb
  have Hr1 := fun w1 => rjoin_c 0 la 0 sa U_zero ha w1
  rw [Nat.zero_or] at Hr1
  replace Hr1 := Lib.hid Hr1
  have Hr2 := Lib.hid (fun w1 => rjoin_c (joinI 0 la) lb sa sb ha hb w1)
  have Hr3 := Lib.hid (fun w1 => rjoin_c (joinI (joinI 0 la) lb) lc (sa ||| sb) sc hj hc w1)
  have HAll := fun (A : Option Addr) (w1 : World) (h : LabsR w1 A 3 [(la, sa), (lb, sb), (lc, sc)]) => lall_c A 3 3 [(la, sa), (lb, sb), (lc, sc)] w1 h
  simp only [allF, List.foldl_cons, List.foldl_nil, Nat.zero_or] at HAll
  replace HAll := Lib.hid HAll
  have HLabs : Hid (∀ (w1 : World) (ty : TypeId), Below w1.heap.size w1 (w1.alloc (.cells #[.int .i64 la, .int .u64 sa, .int .i64 lb, .int .u64 sb, .int .i64 lc, .int .u64 sc] ty)) ∧
      NewLabs [(la, sa), (lb, sb), (lc, sc)] (.slice (some ⟨w1.heap.size, 0, none⟩) 3 3) (w1.alloc (.cells #[.int .i64 la, .int .u64 sa, .int .i64 lb, .int .u64 sb, .int .i64 lc, .int .u64 sc] ty))) := fun w1 ty =>
    ⟨below1 _ _, w1.heap.size, rfl, rfl, by simp, by simp [ha, hb, hc], fun _ => ⟨_, 0, rfl, by simp, fun k x hx => by
      rw [World.cell?_alloc_at _ _ _ _ rfl, World.cell?_alloc_at _ _ _ _ rfl]
      match k, hx with
      | 0, hx => simp at hx; subst hx; exact ⟨rfl, rfl⟩
      | 1, hx => simp at hx; subst hx; exact ⟨rfl, rfl⟩
      | 2, hx => simp at hx; subst hx; exact ⟨rfl, rfl⟩⟩⟩
  have HJ := Lib.hid (fun w1 => ljoin_c la lb sa sb ha hb w1)
  have HRJ := Lib.hid (fun w1 => rjoin_c la lb sa sb ha hb w1)
  have HM := Lib.hid (fun w1 => lmeet_c la lb sa sb ha hb w1)
  have HRM := Lib.hid (fun w1 => rmeet_c la lb sa sb ha hb w1)
  have HB := Lib.hid (fun w1 => lbelow_c la lb sa sb _ ha hb rfl w1)
  have HRB := Lib.hid (fun w1 => rbelow_c la lb sa sb _ ha hb rfl w1)
  have HBot := Lib.hid (fun w1 => lbottom_c w1)
  have HTop := Lib.hid (fun w1 => ltop_c w1)
  have HRTop := Lib.hid (fun w1 => rtop_c w1)
  have HMay := Lib.hid (fun w1 => lmay_c la sa _ rfl w1)
  have HAl := Lib.hid (fun w1 h => lalive_c w1 h)
  generalize belowL la sa lb sb = q at *
  generalize allN = NN at *
  have HE := Lib.hid hE
  clear hE
  go_enter Tryd.func3, Tryd.ntmps3
  go_wp2_with fail
  have hb0 : Below w.heap.size w (((w.alloc (.cells #[.int .i64 la, .int .u64 sa] 24)).alloc (.cells #[.int .i64 lb, .int .u64 sb] 24)).alloc (.cells #[.int .i64 lc, .int .u64 sc] 24)) := below3 _ _ _ _
  obtain ⟨c0, c1, c2, c3, c4, c5⟩ := three_boxes (Below.refl _ (((w.alloc (.cells #[.int .i64 la, .int .u64 sa] 24)).alloc (.cells #[.int .i64 lb, .int .u64 sb] 24)).alloc (.cells #[.int .i64 lc, .int .u64 sc] 24)))
  generalize ((w.alloc (.cells #[.int .i64 la, .int .u64 sa] 24)).alloc (.cells #[.int .i64 lb, .int .u64 sb] 24)).alloc (.cells #[.int .i64 lc, .int .u64 sc] 24) = W at *
  have C0 := fun d os => cell_regrown c0 d os
  have C1 := fun d os => cell_regrown c1 d os
  have C2 := fun d os => cell_regrown c2 d os
  have C3 := fun d os => cell_regrown c3 d os
  have C4 := fun d os => cell_regrown c4 d os
  have C5 := fun d os => cell_regrown c5 d os
  have k0 := Lib.hid c0
  have k1 := Lib.hid c1
  have k2 := Lib.hid c2
  have k3 := Lib.hid c3
  have k4 := Lib.hid c4
  have k5 := Lib.hid c5
  clear c0 c1 c2 c3 c4 c5
  refine wp_region_mem 8 (fun d => match d with
    | 10 => some (Is (.agg #[.int .i64 (joinI 0 la), .int .u64 (sa : Nat)]))
    | 12 => some (Is (.agg #[.int .i64 (joinI (joinI 0 la) lb), .int .u64 (sa ||| sb : Nat)]))
    | 14 => some (Is (.agg #[.int .i64 (joinI (joinI (joinI 0 la) lb) lc), .int .u64 ((sa ||| sb) ||| sc : Nat)]))
    | 7 => some (NewCells W.heap.size [.int .i64 0, .int .u64 0])
    | _ => none) (by kernel_rfl) (by kernel_rfl) ?_
  simp only [List.take_succ_cons, List.take_zero, List.drop_succ_cons, List.drop_zero]
  repeat (first | (refine wpM_calm rfl rfl rfl ?_; intro K hK; go_big_quiet_op; go_big_quiet_on) | (refine wpM_skip rfl ?_; simp only [Act.put, List.setIfInBounds_toArray, List.set_cons_succ, List.set_cons_zero]))
  refine wpM_exact rfl rfl rfl Tryd.func6 (by kernel_rfl) (by kernel_rfl) (fun w1 _ _ => Hr1.out w1) rfl (by simp only [Act.put, List.setIfInBounds_toArray, List.set_cons_succ, List.set_cons_zero]; rfl) ?_
  repeat (first | (refine wpM_calm rfl rfl rfl ?_; intro K hK; go_big_quiet_op; go_big_quiet_on) | (refine wpM_skip rfl ?_; simp only [Act.put, List.setIfInBounds_toArray, List.set_cons_succ, List.set_cons_zero]))
  refine wpM_exact rfl rfl rfl Tryd.func6 (by kernel_rfl) (by kernel_rfl) (fun w1 _ _ => Hr2.out w1) rfl (by simp only [Act.put, List.setIfInBounds_toArray, List.set_cons_succ, List.set_cons_zero]; rfl) ?_
  repeat (first | (refine wpM_calm rfl rfl rfl ?_; intro K hK; go_big_quiet_op; go_big_quiet_on) | (refine wpM_skip rfl ?_; simp only [Act.put, List.setIfInBounds_toArray, List.set_cons_succ, List.set_cons_zero]))
  refine wpM_exact rfl rfl rfl Tryd.func6 (by kernel_rfl) (by kernel_rfl) (fun w1 _ _ => Hr3.out w1) rfl (by simp only [Act.put, List.setIfInBounds_toArray, List.set_cons_succ, List.set_cons_zero]; rfl) ?_
  repeat (first | (refine wpM_calm rfl rfl rfl ?_; intro K hK; go_big_quiet_op; go_big_quiet_on) | (refine wpM_skip rfl ?_; simp only [Act.put, List.setIfInBounds_toArray, List.set_cons_succ, List.set_cons_zero]))
  refine wpM_makes _ rfl rfl (fun w1 hw1 _ => ?_) ?_
  · simp [go_sem, variesUpon]
    exact NewCells.mk w1 hw1.size
  rintro v ⟨_, b, rfl, _, _⟩ a' ha'
  simp only [Act.put, List.setIfInBounds_toArray, List.set_cons_succ, List.set_cons_zero] at ha'
  subst ha'
  refine wpM_nil ?_
  intro w1 hw1 hF
  obtain ⟨b', e, hB, hlt, hcell⟩ := NewCells.up ((hF 7).2 rfl)
  obtain rfl : b = b' := by simpa using e
  clear e hF
  obtain ⟨n0, n1⟩ := hcell 0 _ rfl
  obtain ⟨n2, n3⟩ := hcell 1 _ rfl
  clear hcell
  have hb1 : Below w.heap.size w w1 := hb0.trans (hw1.mono hb0.size)
  obtain ⟨t0, t1⟩ := two_set (u := .int .i64 (joinI (joinI (joinI 0 la) lb) lc)) (v := .int .u64 ((sa ||| sb) ||| sc : Nat)) n0 n2
  have hs : ∀ (u v : Value), Below W.heap.size W ((w1.setCell ⟨b, 0, none⟩ u).setCell ⟨b, 1, none⟩ v) := fun u v => (hw1.setCell (p := ⟨b, 0, none⟩) hB u).setCell (p := ⟨b, 1, none⟩) hB v
  go_wp2_with fail
  replace hs := hs (.int .i64 (joinI (joinI (joinI 0 la) lb) lc)) (.int .u64 ((sa ||| sb) ||| sc : Nat))
  generalize (w1.setCell ⟨b, 0, none⟩ (.int .i64 (joinI (joinI (joinI 0 la) lb) lc))).setCell ⟨b, 1, none⟩ (.int .u64 ((sa ||| sb) ||| sc : Nat)) = W2 at *
  clear n0 n1 n2 n3 hw1 hlt hB hb1 C0 C1 C2 C3 C4 C5
  have hbW : Below w.heap.size w W2 := hb0.trans (hs.mono hb0.size)
  have C0 := fun d os => cell_regrown (kept hs k0.out) d os
  have C1 := fun d os => cell_regrown (kept hs k1.out) d os
  have C2 := fun d os => cell_regrown (kept hs k2.out) d os
  have C3 := fun d os => cell_regrown (kept hs k3.out) d os
  have C4 := fun d os => cell_regrown (kept hs k4.out) d os
  have C5 := fun d os => cell_regrown (kept hs k5.out) d os
  have C6 := fun d os => cell_regrown t0 d os
  have C7 := fun d os => cell_regrown t1 d os
  clear t0 t1 k0 k1 k2 k3 k4 k5
  have HE2 := Lib.hid (HE.out.grown hbW)
  have hcase : (0 ≤ la ∧ la ≤ 15 ∧ mayL la = true) ∨ (decide (0 ≤ la) = false ∧ mayL la = false) ∨ (0 ≤ la ∧ decide (la ≤ 15) = false ∧ mayL la = false) := by
    by_cases h0 : 0 ≤ la
    · by_cases h1 : la ≤ 15
      · exact .inl ⟨h0, h1, mayL_yes h0 h1⟩
      · exact .inr (.inr ⟨h0, by simpa using h1, mayL_big (by omega)⟩)
    · exact .inr (.inl ⟨by simpa using h0, mayL_neg (by omega)⟩)
  refine wp_region_mem 61 (fun d => match d with
    | 16 => some (Is (.bool (mayL la)))
    | 29 => some (Is (.bool q))
    | 32 => some (Is (.bool q))
    | 38 => some (Is (.agg #[.int .i64 (joinI la lb), .int .u64 (sa ||| sb : Nat)]))
    | 41 => some (Is (.agg #[.int .i64 (joinI la lb), .int .u64 (sa ||| sb : Nat)]))
    | 47 => some (Is (.agg #[.int .i64 (meetI la lb), .int .u64 (sa &&& sb : Nat)]))
    | 50 => some (Is (.agg #[.int .i64 (meetI la lb), .int .u64 (sa &&& sb : Nat)]))
    | 57 => some (NewLabs [(la, sa), (lb, sb), (lc, sc)])
    | 58 => some (Is (.agg #[.int .i64 (joinI (joinI (joinI 0 la) lb) lc), .int .u64 ((sa ||| sb) ||| sc : Nat)]))
    | 63 => some (Is (.agg #[.int .i64 0, .int .u64 0]))
    | 68 => some (Is (.agg #[.int .i64 15, .int .u64 NN]))
    | 69 => some (Is (.agg #[.int .i64 15, .int .u64 NN]))
    | 73 => some (Is (.bool true))
    | _ => none) (by kernel_rfl) (by kernel_rfl) ?_
  simp only [List.take_succ_cons, List.take_zero, List.drop_succ_cons, List.drop_zero]
  rcases hcase with ⟨h0, h1, hm⟩ | ⟨h0, hm⟩ | ⟨h0, h1, hm⟩
  all_goals
    rw [hm] at HMay ⊢
    repeat (first | (refine wpM_calm rfl rfl rfl ?_; intro K hK; go_big_quiet_op; go_big_quiet_on) | (refine wpM_skip rfl ?_; simp only [Act.put, List.setIfInBounds_toArray, List.set_cons_succ, List.set_cons_zero]))
    refine wpM_exact rfl rfl rfl Tryd.func7 (by kernel_rfl) (by kernel_rfl) (fun w1 hw1 _ => HMay.out w1) rfl (by simp only [Act.put, List.setIfInBounds_toArray, List.set_cons_succ, List.set_cons_zero]; rfl) ?_
    repeat (first | (refine wpM_calm rfl rfl rfl ?_; intro K hK; go_big_quiet_op; go_big_quiet_on) | (refine wpM_skip rfl ?_; simp only [Act.put, List.setIfInBounds_toArray, List.set_cons_succ, List.set_cons_zero]))
    refine wpM_exact rfl rfl rfl Tryd.func8 (by kernel_rfl) (by kernel_rfl) (fun w1 hw1 _ => HB.out w1) rfl (by simp only [Act.put, List.setIfInBounds_toArray, List.set_cons_succ, List.set_cons_zero]; rfl) ?_
    repeat (first | (refine wpM_calm rfl rfl rfl ?_; intro K hK; go_big_quiet_op; go_big_quiet_on) | (refine wpM_skip rfl ?_; simp only [Act.put, List.setIfInBounds_toArray, List.set_cons_succ, List.set_cons_zero]))
    refine wpM_exact rfl rfl rfl Tryd.func9 (by kernel_rfl) (by kernel_rfl) (fun w1 hw1 _ => HRB.out w1) rfl (by simp only [Act.put, List.setIfInBounds_toArray, List.set_cons_succ, List.set_cons_zero]; rfl) ?_
    repeat (first | (refine wpM_calm rfl rfl rfl ?_; intro K hK; go_big_quiet_op; go_big_quiet_on) | (refine wpM_skip rfl ?_; simp only [Act.put, List.setIfInBounds_toArray, List.set_cons_succ, List.set_cons_zero]))
    refine wpM_exact rfl rfl rfl Tryd.func10 (by kernel_rfl) (by kernel_rfl) (fun w1 hw1 _ => HJ.out w1) rfl (by simp only [Act.put, List.setIfInBounds_toArray, List.set_cons_succ, List.set_cons_zero]; rfl) ?_
    repeat (first | (refine wpM_calm rfl rfl rfl ?_; intro K hK; go_big_quiet_op; go_big_quiet_on) | (refine wpM_skip rfl ?_; simp only [Act.put, List.setIfInBounds_toArray, List.set_cons_succ, List.set_cons_zero]))
    refine wpM_exact rfl rfl rfl Tryd.func6 (by kernel_rfl) (by kernel_rfl) (fun w1 hw1 _ => HRJ.out w1) rfl (by simp only [Act.put, List.setIfInBounds_toArray, List.set_cons_succ, List.set_cons_zero]; rfl) ?_
    repeat (first | (refine wpM_calm rfl rfl rfl ?_; intro K hK; go_big_quiet_op; go_big_quiet_on) | (refine wpM_skip rfl ?_; simp only [Act.put, List.setIfInBounds_toArray, List.set_cons_succ, List.set_cons_zero]))
    refine wpM_exact rfl rfl rfl Tryd.func11 (by kernel_rfl) (by kernel_rfl) (fun w1 hw1 _ => HM.out w1) rfl (by simp only [Act.put, List.setIfInBounds_toArray, List.set_cons_succ, List.set_cons_zero]; rfl) ?_
    repeat (first | (refine wpM_calm rfl rfl rfl ?_; intro K hK; go_big_quiet_op; go_big_quiet_on) | (refine wpM_skip rfl ?_; simp only [Act.put, List.setIfInBounds_toArray, List.set_cons_succ, List.set_cons_zero]))
    refine wpM_exact rfl rfl rfl Tryd.func12 (by kernel_rfl) (by kernel_rfl) (fun w1 hw1 _ => HRM.out w1) rfl (by simp only [Act.put, List.setIfInBounds_toArray, List.set_cons_succ, List.set_cons_zero]; rfl) ?_
    repeat (first | (refine wpM_calm rfl rfl rfl ?_; intro K hK; go_big_quiet_op; go_big_quiet_on) | (refine wpM_skip rfl ?_; simp only [Act.put, List.setIfInBounds_toArray, List.set_cons_succ, List.set_cons_zero]))
    refine wpM_makes _ rfl rfl (fun w1 hw1 _ => ?_) ?_
    · simp [go_sem, variesUpon]
      exact HLabs.out w1 _
    rintro v ⟨_, b2, rfl, _⟩ a' ha'
    simp only [Act.put, List.setIfInBounds_toArray, List.set_cons_succ, List.set_cons_zero] at ha'
    subst ha'
    refine wpM_exact rfl rfl rfl Tryd.func13 (by kernel_rfl) (by kernel_rfl) ?_ rfl (by simp only [Act.put, List.setIfInBounds_toArray, List.set_cons_succ, List.set_cons_zero]; rfl) ?_
    · intro w1 _ hl
      obtain ⟨b3, e, hl3⟩ := NewLabs.up ((looks_at (k := 42) (d := 57) hl (by kernel_rfl) (by kernel_rfl)).2 rfl)
      obtain rfl : b2 = b3 := by simpa using e
      exact HAll.out _ w1 hl3
    repeat (first | (refine wpM_calm rfl rfl rfl ?_; intro K hK; go_big_quiet_op; go_big_quiet_on) | (refine wpM_skip rfl ?_; simp only [Act.put, List.setIfInBounds_toArray, List.set_cons_succ, List.set_cons_zero]))
    refine wpM_exact rfl rfl rfl Tryd.func14 (by kernel_rfl) (by kernel_rfl) (fun w1 hw1 _ => HBot.out w1) rfl (by simp only [Act.put, List.setIfInBounds_toArray, List.set_cons_succ, List.set_cons_zero]; rfl) ?_
    repeat (first | (refine wpM_calm rfl rfl rfl ?_; intro K hK; go_big_quiet_op; go_big_quiet_on) | (refine wpM_skip rfl ?_; simp only [Act.put, List.setIfInBounds_toArray, List.set_cons_succ, List.set_cons_zero]))
    refine wpM_exact rfl rfl rfl Tryd.func15 (by kernel_rfl) (by kernel_rfl) (fun w1 hw1 _ => HTop.out w1) rfl (by simp only [Act.put, List.setIfInBounds_toArray, List.set_cons_succ, List.set_cons_zero]; rfl) ?_
    repeat (first | (refine wpM_calm rfl rfl rfl ?_; intro K hK; go_big_quiet_op; go_big_quiet_on) | (refine wpM_skip rfl ?_; simp only [Act.put, List.setIfInBounds_toArray, List.set_cons_succ, List.set_cons_zero]))
    refine wpM_exact rfl rfl rfl Tryd.func16 (by kernel_rfl) (by kernel_rfl) (fun w1 hw1 _ => HRTop.out w1) rfl (by simp only [Act.put, List.setIfInBounds_toArray, List.set_cons_succ, List.set_cons_zero]; rfl) ?_
    repeat (first | (refine wpM_calm rfl rfl rfl ?_; intro K hK; go_big_quiet_op; go_big_quiet_on) | (refine wpM_skip rfl ?_; simp only [Act.put, List.setIfInBounds_toArray, List.set_cons_succ, List.set_cons_zero]))
    refine wpM_exact rfl rfl rfl Tryd.func17 (by kernel_rfl) (by kernel_rfl) (fun w1 hw1 _ => HAl.out w1 (HE2.out.grown hw1)) rfl (by simp only [Act.put, List.setIfInBounds_toArray, List.set_cons_succ, List.set_cons_zero]; rfl) ?_
    repeat (first | (refine wpM_calm rfl rfl rfl ?_; intro K hK; go_big_quiet_op; go_big_quiet_on) | (refine wpM_skip rfl ?_; simp only [Act.put, List.setIfInBounds_toArray, List.set_cons_succ, List.set_cons_zero]))
    refine wpM_nil ?_
    intro w1 hw1 _
    go_wp2
    go_ret
    exact ⟨rfl, hbW.trans (hw1.mono hbW.size)⟩
end Go.Proofs.YtobjmldfnnhofaaDoor.Cats

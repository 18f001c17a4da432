/- What the reference's line answers: a grant. -/
import Derived.Test.YtmlmanlcomfhbaaGreatDoorPolLineU
namespace Go.Proofs.YtmlmanlcomfhbaaGreatDoor.Pol
open Go.RowKit Kit Reg
open Go.Proofs.YtmlmanlcomfhbaaGreatDoor.Zone (Zn ZonesR)
open Go.Proofs.YtmlmanlcomfhbaaGreatDoor.Right (Us Gr UsersR GrantsR OwnS strs StrsR)
open Go.Proofs.YtmlmanlcomfhbaaGreatDoor.Cats (U U_zero LabIs)
open Go.Proofs.YtmlmanlcomfhbaaGreatDoor.Span (SpanIs mayS textI)
open Go.Proofs.YtmlmanlcomfhbaaGreatDoor.Addr (NumIs)

set_option maxRecDepth 100000 in
set_option maxHeartbeats 16000000 in
theorem rline_grant (B : Nat) (p : Pl) (t : ByteArray) (ht : t.size ≤ 100000) (A1 : Option Addr) (n1 c1 : Nat) (A2 : Option Addr) (n2 c2 : Nat) (A3 : Option Addr) (n3 c3 : Nat) (k : Nat) (hk : t.size = k + 1) (hq : (((t[k]'(by omega)).toNat : Int) == 10) = true)
    (x0 x1 x2 x3 : ByteArray) (hx : bs (wordsF (t.data.toList.take k)) = [x0, x1, x2, x3]) (h0 : (x0.toList == [103, 114, 97, 110, 116]) = true) (hgl0 : p.gs.length = n3) (hm3 : n3 ≤ 100000) (w : World) (hB : B ≤ w.heap.size) (ho : Own B p (.slice A1 n1 c1) (.slice A2 n2 c2) (.slice A3 n3 c3) w) :
    Calls Tryz.prog 36 #[.agg #[.int .i64 p.rows, .int .i64 p.cols, .slice A1 n1 c1, .slice A2 n2 c2, .slice A3 n3 c3], .string t] w (LineEnd B t.data.toList p (.slice A1 n1 c1) (.slice A2 n2 c2) (.slice A3 n3 c3) w) := by
  obtain ⟨hT, hE⟩ := feed_cut hk (by simpa using hq)
  obtain ⟨l, s, b, hN1⟩ := LabIs.some_one x2.data.toList
  obtain ⟨j, m, d, hN2⟩ := LabIs.some_one x3.data.toList
  have hws2 : x3.size ≤ 100000 := by
    have := word_size (t.extract 0 k) x3 (by rw [hE, hx]; simp)
    have e : (t.extract 0 k).size ≤ t.size := by simp; omega
    omega
  have hws : x2.size ≤ 100000 := by
    have := word_size (t.extract 0 k) x2 (by rw [hE, hx]; simp)
    have e : (t.extract 0 k).size ≤ t.size := by simp; omega
    omega
  have HLn : Hid (LnIs t.data.toList (if (b && d) = true then some (.grant ⟨x1, l, s, j, m⟩) else none)) := by
    rw [hT]
    refine Lib.hid (LnIs.of_words ?_)
    rw [bs_at hx]
    simp only [List.map_cons, List.map_nil, word_is h0]
    have hbl := words_blank (t.data.toList.take k) x1.data.toList (by rw [bs_at hx]; simp)
    exact WIs.grant hbl hN1 hN2
  have HW := Lib.hid (fun w1 => rwords_x (t.extract 0 k) (by first | (simp; done) | (simp; omega)) (xs := [x0, x1, x2, x3]) (by rw [hE]; exact hx) w1)
  have HN1 := Lib.hid (fun w1 => rlab_x x2 hws hN1 w1)
  have HN2 := Lib.hid (fun w1 => rlab_x x3 hws2 hN2 w1)
  have HU := Lib.hid (LabIs.u hN2)
  have HO0 := Lib.hid ho
  have hn1 : ((t.size : Int) == 0) = false := by rw [beq_eq_false_iff_ne]; omega
  have hn2 : ((k : Int) + 1 == 0) = false := by rw [beq_eq_false_iff_ne]; omega
  have hkb : k ≤ 99999 := by omega
  have hq2 : (((t[k]'(by omega)).toNat : Int) != 10) = false := by rw [bne, hq]; rfl
  clear hx hN1 hN2 hT hE ho
  generalize hTT : t.data.toList = T at *
  clear hTT
  obtain ⟨r, hr⟩ : ∃ r, p.rows = r := ⟨_, rfl⟩
  obtain ⟨q, hqq⟩ : ∃ q, p.cols = q := ⟨_, rfl⟩
  rw [hr, hqq]
  have hb0 := below2 w (.cells #[.int .i64 r, .int .i64 q, .slice A1 n1 c1, .slice A2 n2 c2, .slice A3 n3 c3] 26) (.cells #[.int .i64 0, .int .i64 0, .slice none 0 0, .slice none 0 0, .slice none 0 0] 26)
  have kp := (CellsAt.new w [.int .i64 r, .int .i64 q, .slice A1 n1 c1, .slice A2 n2 c2, .slice A3 n3 c3] 26).on_alloc (.cells #[.int .i64 0, .int .i64 0, .slice none 0 0, .slice none 0 0, .slice none 0 0] 26)
  have kr := CellsAt.new (w.alloc (.cells #[.int .i64 r, .int .i64 q, .slice A1 n1 c1, .slice A2 n2 c2, .slice A3 n3 c3] 26)) [.int .i64 0, .int .i64 0, .slice none 0 0, .slice none 0 0, .slice none 0 0] 26
  rw [show (w.alloc (.cells #[.int .i64 r, .int .i64 q, .slice A1 n1 c1, .slice A2 n2 c2, .slice A3 n3 c3] 26)).heap.size = w.heap.size + 1 by simp] at kr
  go_enter Tryz.func36, Tryz.ntmps36
  go_wp2_with fail
  generalize (w.alloc (.cells #[.int .i64 r, .int .i64 q, .slice A1 n1 c1, .slice A2 n2 c2, .slice A3 n3 c3] 26)).alloc (.cells #[.int .i64 0, .int .i64 0, .slice none 0 0, .slice none 0 0, .slice none 0 0] 26) = W at *
  refine (HW.out _).mono ?_
  rintro e w1 ⟨g, cap, rfl, hc, hg, hgB, hb1⟩
  have hsW := kr.1
  replace hb0 := on hb0 hb1
  replace kp := kp.on hb1
  replace kr := kr.on hb1
  have g0 := hc 0 x0 rfl
  have g1 := hc 1 x1 rfl
  have g2 := hc 2 x2 rfl
  have g3 := hc 3 x3 rfl
  have G0 := fun d os => cell_regrown g0 d os
  have G1 := fun d os => cell_regrown g1 d os
  have G2 := fun d os => cell_regrown g2 d os
  have G3 := fun d os => cell_regrown g3 d os
  clear hb1 hc HW
  go_wp2_with fail
  refine wp_region_new 10 (fun d' => match d' with
    | 137 => some (Is (.agg #[.int .i64 l, .int .u64 s, .bool b]))
    | 141 => some (Is (.agg #[.int .i64 j, .int .u64 m, .bool d]))
    | 12 => some (NewCells w1.heap.size [.int .i64 0, .int .u64 0, .bool false])
    | 13 => some (NewCells w1.heap.size [.int .i64 0, .int .u64 0, .bool false])
    | _ => none) (fun d' => d' == 12 || d' == 13) (by kernel_rfl) (by kernel_rfl) ?_
  simp only [List.take_succ_cons, List.take_zero, List.drop_succ_cons, List.drop_zero]
  repeat (first | ((with_reducible refine wpM_calm ?_ ?_ ?_ ?_); exact rfl; exact rfl; exact rfl; intro K hK; go_big_quiet_op; go_big_quiet_on) | ((with_reducible refine wpM_skip ?_ ?_); exact rfl; simp only [Act.put, List.setIfInBounds_toArray, List.set_cons_succ, List.set_cons_zero]))
  refine wpM_exact rfl rfl rfl Tryz.func60 (by kernel_rfl) (by kernel_rfl) (fun w1 _ _ => HN1.out w1) rfl (by simp only [Act.put, List.setIfInBounds_toArray, List.set_cons_succ, List.set_cons_zero]; rfl) ?_
  repeat (first | ((with_reducible refine wpM_calm ?_ ?_ ?_ ?_); exact rfl; exact rfl; exact rfl; intro K hK; go_big_quiet_op; go_big_quiet_on) | ((with_reducible refine wpM_skip ?_ ?_); exact rfl; simp only [Act.put, List.setIfInBounds_toArray, List.set_cons_succ, List.set_cons_zero]))
  refine wpM_exact rfl rfl rfl Tryz.func60 (by kernel_rfl) (by kernel_rfl) (fun w1 _ _ => HN2.out w1) rfl (by simp only [Act.put, List.setIfInBounds_toArray, List.set_cons_succ, List.set_cons_zero]; rfl) ?_
  refine wpM_alloc _ (.cells #[.int .i64 0, .int .u64 0, .bool false] 106) rfl rfl rfl (fun w1 => by simp [go_sem]) (fun w1 h1 => (NewCells.mk w1 _ _ h1.size).2) ?_ (by rintro v ⟨_, b, rfl, _⟩; exact ⟨b, rfl⟩)
  intro b6 a' ha'
  simp only [Act.put, List.setIfInBounds_toArray, List.set_cons_succ, List.set_cons_zero] at ha'
  subst ha'
  refine wpM_alloc _ (.cells #[.int .i64 0, .int .u64 0, .bool false] 106) rfl rfl rfl (fun w1 => by simp [go_sem]) (fun w1 h1 => (NewCells.mk w1 _ _ h1.size).2) ?_ (by rintro v ⟨_, b, rfl, _⟩; exact ⟨b, rfl⟩)
  intro b7 a' ha'
  simp only [Act.put, List.setIfInBounds_toArray, List.set_cons_succ, List.set_cons_zero] at ha'
  subst ha'
  refine wpM_nil ?_
  intro w4 hb4 hG
  have hne : b6 ≠ b7 := hG.2.1 8 b6 9 b7 (.inl (.inr ⟨rfl, rfl⟩)) (.inr ⟨rfl, rfl⟩) (by decide)
  obtain ⟨hB7, k7⟩ := NewCells.at (Fct.put_at (hG.2.2.1 9))
  obtain ⟨hB6, k6⟩ := NewCells.at (Fct.put_at (Fct.put_old (hG.2.2.1 8)))
  have hs1 := hb0.size
  clear hG G0 G1 G2 G3
  replace hb0 := on hb0 hb4
  obtain ⟨m0, m1, m2, f0, f1, f2⟩ := k6.three
  obtain ⟨j0, j1, j2, y0, y1, y2⟩ := (k7.put3_far hne (.int .i64 l) (.int .u64 s) (.bool b)).three
  have k6a := (k6.put3 (.int .i64 l) (.int .u64 s) (.bool b)).put3_far hne.symm (.int .i64 j) (.int .u64 m) (.bool d)
  have k7a := (k7.put3_far hne (.int .i64 l) (.int .u64 s) (.bool b)).put3 (.int .i64 j) (.int .u64 m) (.bool d)
  have kpa := ((kp.on hb4).put3_far (c := b6) (by omega) (.int .i64 l) (.int .u64 s) (.bool b)).put3_far (c := b7) (by omega) (.int .i64 j) (.int .u64 m) (.bool d)
  have kra := ((kr.on hb4).put3_far (c := b6) (by omega) (.int .i64 l) (.int .u64 s) (.bool b)).put3_far (c := b7) (by omega) (.int .i64 j) (.int .u64 m) (.bool d)
  replace hb0 : Below w.heap.size w (put3 (put3 w4 b6 (.int .i64 l) (.int .u64 s) (.bool b)) b7 (.int .i64 j) (.int .u64 m) (.bool d)) := set3 (set3 hb0 (by omega) _ _ _) (by omega) _ _ _
  have gX := kept hb4 g0
  replace gX := cell_far (q := ⟨b6, 2, none⟩) (cell_far (q := ⟨b6, 1, none⟩) (cell_far (q := ⟨b6, 0, none⟩) gX (by simp; omega) (.int .i64 l)) (by simp; omega) (.int .u64 s)) (by simp; omega) (.bool b)
  replace gX := cell_far (q := ⟨b7, 2, none⟩) (cell_far (q := ⟨b7, 1, none⟩) (cell_far (q := ⟨b7, 0, none⟩) gX (by simp; omega) (.int .i64 j)) (by simp; omega) (.int .u64 m)) (by simp; omega) (.bool d)
  have gX1 := kept hb4 g1
  replace gX1 := cell_far (q := ⟨b6, 2, none⟩) (cell_far (q := ⟨b6, 1, none⟩) (cell_far (q := ⟨b6, 0, none⟩) gX1 (by simp; omega) (.int .i64 l)) (by simp; omega) (.int .u64 s)) (by simp; omega) (.bool b)
  replace gX1 := cell_far (q := ⟨b7, 2, none⟩) (cell_far (q := ⟨b7, 1, none⟩) (cell_far (q := ⟨b7, 0, none⟩) gX1 (by simp; omega) (.int .i64 j)) (by simp; omega) (.int .u64 m)) (by simp; omega) (.bool d)
  clear kp kr k6 k7 hb4
  go_upto_region 22 with fail
  dsimp only [put3] at hb0 k6a k7a kpa kra
  generalize hX : ((((((w4.setCell ⟨b6, 0, none⟩ (.int .i64 l)).setCell ⟨b6, 1, none⟩ (.int .u64 s)).setCell ⟨b6, 2, none⟩ (.bool b)).setCell ⟨b7, 0, none⟩ (.int .i64 j)).setCell ⟨b7, 1, none⟩ (.int .u64 m)).setCell ⟨b7, 2, none⟩ (.bool d)) = X at *
  clear hX m0 m1 m2 f0 f1 f2 j0 j1 j2 y0 y1 y2
  have hOX := HO0.out.on hb0
  have hne2 : (Value.slice A3 n3 c3).ownBlock ≠ some w.heap.size := fun e => by have := (HO0.out.g.lt _ e).2; omega
  have hne3 : (Value.slice A3 n3 c3).ownBlock ≠ some (w.heap.size + 1) := fun e => by have := (HO0.out.g.lt _ e).2; omega
  have hneb : (Value.slice A3 n3 c3).ownBlock ≠ some b7 := fun e => by have := (HO0.out.g.lt _ e).2; omega
  have hneg : (Value.slice A3 n3 c3).ownBlock ≠ some g := fun e => by have := (HO0.out.g.lt _ e).2; omega
  have hsX := hb0.size
  have hrow := hOX.g
  rw [hgl0] at hrow
  have hone := gr_one ⟨x1, l, s, j, m⟩
  dsimp only [Gr.cells] at hone
  obtain ⟨s0, s1, s2, _⟩ := k6a.three
  obtain ⟨u0, u1, u2, _⟩ := k7a.three
  obtain ⟨p0, p1, p2, p3, p4, o0, o1, o2, o3, o4⟩ := kpa.five
  have l6 := k6a.1
  have l7 := k7a.1
  have lp := kpa.1
  have lg := World.block_lt_of_cell? _ _ gX
  obtain ⟨i0, hin, hz0, hz1, hz2⟩ := info_parts infoPG
  go_cut [153] (fun _ wx => ∃ (g' cap' : Nat) (w5 : World), w5.ownsRow B 78 5 (.slice (some ⟨g', 0, none⟩) (n3 + 1) cap') (n3 + 1) (flat Gr.cells p.gs ++ [.string x1, .int .i64 l, .int .u64 s, .int .i64 j, .int .u64 m]) ∧ (X.alloc (.cells #[.string x1, .int .i64 l, .int .u64 s, .int .i64 j, .int .u64 m] 78)).drew.grownBy w5 (Value.slice A3 n3 c3).ownBlock ∧ ((Value.slice A3 n3 c3).ownBlock = some g' ∨ g' = X.heap.size + 1) ∧ wx = w5.setCell ⟨w.heap.size, 4, none⟩ (.slice (some ⟨g', 0, none⟩) (n3 + 1) cap'))
  case first =>
    try clear HLn ; try clear HN1 ; try clear HN2 ; try clear HO0 ; try clear hn1 ; try clear hn2 ; try clear hq2 ; try clear kra ; try clear k6a ; try clear k7a ; try clear p0 ; try clear p1 ; try clear p2 ; try clear p3 ; try clear o0 ; try clear o1 ; try clear o2 ; try clear o3 ; try clear s2 ; try clear u2 ; try clear gX ; try clear h0 ; try clear hne ; try clear hne3 ; try clear hB6 ; try clear hB7 ; try clear hs1 ; try clear hgB ; try clear hsW ; try clear hX2 ; try clear hr ; try clear hqq ; try clear hE ; try clear hb0 ; try clear hOX ; try clear hqX ; try clear g0 ; try clear g1 ; try clear g2 ; try clear g3 ; try clear hg ; try clear hq ; try clear HU ; try clear hws ; try clear hws2
    have q53c := ((kpa.on_alloc (.cells #[.string x1, .int .i64 l, .int .u64 s, .int .i64 j, .int .u64 m] 78)).2 4 _ rfl).1
    go_region_law (refine step_append_lies _ (by rfl) _ _ _ (by rfl) B 78 i0 _ 5 48 Tryz.underlying24 hin hz0 hz1 hz2 rfl (by omega) _ n3 (flat Gr.cells p.gs) (by rfl) ((hrow.alloc _).drew)  ⟨_, 0, none⟩ 1 1 [.string x1, .int .i64 l, .int .u64 s, .int .i64 j, .int .u64 m] (by simp [Act.eval]) (by rfl) (World.news_of_block (cs := #[.string x1, .int .i64 l, .int .u64 s, .int .i64 j, .int .u64 m]) (t := 78) (fr := (0, 0)) (heap_alloc_new X _)) hone  (by omega) (by unfold maxLen; omega) (by omega) (by first | (simp; done) | (simp; omega)) (X.heap.size + 1) (by simp) ?_; intro g' cap' w5 hown' hgrow0 hloc0 hlt'; have q53 := (kpa.on_alloc (.cells #[.string x1, .int .i64 l, .int .u64 s, .int .i64 j, .int .u64 m] 78)).2 4 _ rfl; have h53 : w.heap.size < (X.alloc (.cells #[.string x1, .int .i64 l, .int .u64 s, .int .i64 j, .int .u64 m] 78)).drew.heap.size := by { have := hsX; simp; omega }; have o53 : w5.frozen? ⟨w.heap.size, 4, none⟩ = false := (hgrow0.frozen_far ⟨w.heap.size, 4, none⟩ h53 hne2.symm).trans (by simpa using q53.2); have p53 : w5.cell? ⟨w.heap.size, 4, none⟩ = some (.slice A3 n3 c3) := (hgrow0.cell_far ⟨w.heap.size, 4, none⟩ h53 hne2.symm).trans (by simpa using q53.1))
    all_goals go_wp2_with fail
    all_goals go_meet
    all_goals exact ⟨_, _, _, hown', hgrow0, hloc0, rfl⟩
  case rest =>
  obtain ⟨g', cap', w5, hown', hgrow, hloc, rfl⟩ := hcut
  have hXB : Below X.heap.size X (X.alloc (.cells #[.string x1, .int .i64 l, .int .u64 s, .int .i64 j, .int .u64 m] 78)).drew := on (below1 X _) (drew_below (n := 1) rfl)
  have kp5 := cells_grown (kpa.on hXB) hgrow hne2.symm
  have hb6r : some b6 ≠ (Value.slice A3 n3 c3).ownBlock := fun e => by have := (HO0.out.g.lt _ e.symm).2; omega
  have hb7r : some b7 ≠ (Value.slice A3 n3 c3).ownBlock := fun e => by have := (HO0.out.g.lt _ e.symm).2; omega
  have hgr : some g ≠ (Value.slice A3 n3 c3).ownBlock := fun e => by have := (HO0.out.g.lt _ e.symm).2; omega
  have hOw := Own.grant (hOX.on hXB) ⟨x1, l, s, j, m⟩ (by rw [hgl0]; exact hown') hgrow (by rcases hloc with e | e; exact .inl e.symm; exact .inr (by rw [e]; simp [Value.ownBlock]))
  have hg'2 : g' ≠ w.heap.size := by rcases hloc with e | e; exact fun e2 => hne2 (by rw [e, e2]); omega
  have hg'3 : g' ≠ w.heap.size + 1 := by rcases hloc with e | e; exact fun e2 => hne3 (by rw [e, e2]); omega
  have hz2 : (Value.slice A1 n1 c1).ownBlock ≠ some w.heap.size := fun e => by have := (HO0.out.z.lt _ e).2; omega
  have hz3 : (Value.slice A1 n1 c1).ownBlock ≠ some (w.heap.size + 1) := fun e => by have := (HO0.out.z.lt _ e).2; omega
  have hu2 : (Value.slice A2 n2 c2).ownBlock ≠ some w.heap.size := fun e => by have := (HO0.out.u.lt _ e).2; omega
  have hu3 : (Value.slice A2 n2 c2).ownBlock ≠ some (w.heap.size + 1) := fun e => by have := (HO0.out.u.lt _ e).2; omega
  have hOY := hOw.far (set_grown w5 ⟨w.heap.size, 4, none⟩ (.slice (some ⟨g', 0, none⟩) (n3 + 1) cap')) hz2 hu2 (by simpa [Value.ownBlock] using hg'2)
  have hGY := grown_set (below_grown (on hb0 hXB) hgrow) (p := ⟨w.heap.size, 4, none⟩) (Nat.le_refl _) (.slice (some ⟨g', 0, none⟩) (n3 + 1) cap')
  have kpb := kp5.set (i := 4) (by simp) (.slice (some ⟨g', 0, none⟩) (n3 + 1) cap')
  have k6b := (cells_grown (k6a.on hXB) hgrow hb6r).far (p := ⟨w.heap.size, 4, none⟩) (by simp; omega) (.slice (some ⟨g', 0, none⟩) (n3 + 1) cap')
  have k7b := (cells_grown (k7a.on hXB) hgrow hb7r).far (p := ⟨w.heap.size, 4, none⟩) (by simp; omega) (.slice (some ⟨g', 0, none⟩) (n3 + 1) cap')
  have krb := (cells_grown (kra.on hXB) hgrow hne3.symm).far (p := ⟨w.heap.size, 4, none⟩) (by simp) (.slice (some ⟨g', 0, none⟩) (n3 + 1) cap')
  have gY := cell_far (q := ⟨w.heap.size, 4, none⟩) (hgrow.cell (kept hXB gX) hgr) (by simp; omega) (.slice (some ⟨g', 0, none⟩) (n3 + 1) cap')
  generalize w5.setCell ⟨w.heap.size, 4, none⟩ (.slice (some ⟨g', 0, none⟩) (n3 + 1) cap') = Y at *
  clear kp5 k6a k7a kpa kra hown' hgrow hone hrow hOX l6 l7 lp lg p0 p1 p2 p3 p4 o0 o1 o2 o3 o4 s0 s1 s2 u0 u1 u2 gX1
  obtain ⟨s0, s1, s2, _⟩ := k6b.three
  obtain ⟨u0, u1, u2, _⟩ := k7b.three
  have l62 := k6b.1
  have l72 := k7b.1
  obtain ⟨p0, p1, p2, p3, p4, _⟩ := kpb.five
  obtain ⟨r0, r1, r2, r3, r4, f0, f1, f2, f3, f4⟩ := krb.five
  obtain ⟨e0, e1, e2, e3, e4, _⟩ := (krb.put5 (.int .i64 r) (.int .i64 q) (.slice A1 n1 c1) (.slice A2 n2 c2) (.slice (some ⟨g', 0, none⟩) (n3 + 1) cap')).five
  have hGx := grown_put5 hGY (b := w.heap.size + 1) (by omega) (.int .i64 r) (.int .i64 q) (.slice A1 n1 c1) (.slice A2 n2 c2) (.slice (some ⟨g', 0, none⟩) (n3 + 1) cap')
  have hOx := Lib.hid (hOY.far (put5_grown Y (w.heap.size + 1) (.int .i64 r) (.int .i64 q) (.slice A1 n1 c1) (.slice A2 n2 c2) (.slice (some ⟨g', 0, none⟩) (n3 + 1) cap')) hz3 hu3 (by simpa [Value.ownBlock] using hg'3))
  have hgl := World.block_lt_of_cell? _ _ gY
  have lp2 := kpb.1
  have lr2 := krb.1
  dsimp only [put5, put4] at e0 e1 e2 e3 e4 hGx hOx
  clear kpb krb hb0 hOw hOY hGY
  cases b <;> cases d
  case true.true =>
    have HL : Hid (LnIs T (some (.grant ⟨x1, l, s, j, m⟩))) := HLn
    go_wp2
    exact bodyPost_ret (v := .tuple #[.agg #[.int .i64 r, .int .i64 q, .slice A1 n1 c1, .slice A2 n2 c2, .slice (some ⟨g', 0, none⟩) (n3 + 1) cap'], .int .i64 4]) (by simp [results, Tryz.results36, go_sem, e0, e1, e2, e3, e4]) rfl
      (LineEnd.some_ HL.out hGx (.inr (.inr (.inr rfl))) rfl hr.symm hqq.symm hOx.out)
  all_goals
    have HL : Hid (LnIs T none) := HLn
    go_wp2
    exact bodyPost_ret (v := .tuple #[.agg #[.int .i64 r, .int .i64 q, .slice A1 n1 c1, .slice A2 n2 c2, .slice (some ⟨g', 0, none⟩) (n3 + 1) cap'], .int .i64 0]) (by simp [results, Tryz.results36, go_sem, e0, e1, e2, e3, e4]) rfl
      (LineEnd.none_ HL.out hGx (.inr (.inr (.inr rfl))))
end Go.Proofs.YtmlmanlcomfhbaaGreatDoor.Pol

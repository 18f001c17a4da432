/- What the reference's line answers: a zone. -/
import Derived.Test.YtmlmanlcomfhbaaGreatDoorGo
namespace Go.Proofs.YtmlmanlcomfhbaaGreatDoor.Pol
open Go.RowKit Kit Reg
open Go.Proofs.YtmlmanlcomfhbaaGreatDoor.Zone (Zn ZonesR)
open Go.Proofs.YtmlmanlcomfhbaaGreatDoor.Right (Us Gr UsersR GrantsR OwnS strs StrsR)
open Go.Proofs.YtmlmanlcomfhbaaGreatDoor.Cats (U U_zero LabIs)
open Go.Proofs.YtmlmanlcomfhbaaGreatDoor.Span (SpanIs mayS textI)
open Go.Proofs.YtmlmanlcomfhbaaGreatDoor.Addr (NumIs)

set_option maxRecDepth 100000 in
set_option maxHeartbeats 2000000 in
theorem rline_zone (B : Nat) (p : Pl) (t : ByteArray) (ht : t.size ≤ 100000) (A1 : Option Addr) (n1 c1 : Nat) (A2 : Option Addr) (n2 c2 : Nat) (A3 : Option Addr) (n3 c3 : Nat) (k : Nat) (hk : t.size = k + 1) (hq : (((t[k]'(by omega)).toNat : Int) == 10) = true)
    (x0 x1 x2 : ByteArray) (hx : bs (wordsF (t.data.toList.take k)) = [x0, x1, x2]) (h0 : (x0.toList == [122, 111, 110, 101]) = true) (hzl : p.zs.length = n1) (hm1 : n1 ≤ 100000) (w : World) (hB : B ≤ w.heap.size) (ho : Own B p (.slice A1 n1 c1) (.slice A2 n2 c2) (.slice A3 n3 c3) w) :
    Calls Tryz.prog 36 #[.agg #[.int .i64 p.rows, .int .i64 p.cols, .slice A1 n1 c1, .slice A2 n2 c2, .slice A3 n3 c3], .string t] w (LineEnd B t.data.toList p (.slice A1 n1 c1) (.slice A2 n2 c2) (.slice A3 n3 c3) w) := by
  obtain ⟨hT, hE⟩ := feed_cut hk (by simpa using hq)
  obtain ⟨i, j, m, n, b, hN1⟩ := SpanIs.some_one x1.data.toList
  obtain ⟨l, s, d, hN2⟩ := LabIs.some_one x2.data.toList
  have hws : x2.size ≤ 100000 := by
    have := word_size (t.extract 0 k) x2 (by rw [hE, hx]; simp)
    have e : (t.extract 0 k).size ≤ t.size := by simp; omega
    omega
  have HLn : Hid (LnIs t.data.toList (if (b && d) = true then some (.zone ⟨i, j, m, n, l, s⟩) else none)) := by
    rw [hT]
    refine Lib.hid (LnIs.of_words ?_)
    rw [bs_at hx]
    simp only [List.map_cons, List.map_nil, word_is h0]
    exact WIs.zone hN1 hN2
  have HW := Lib.hid (fun w1 => rwords_x (t.extract 0 k) (by first | (simp; done) | (simp; omega)) (xs := [x0, x1, x2]) (by rw [hE]; exact hx) w1)
  have HN1 := Lib.hid (fun w1 => rspan_x x1 hN1 w1)
  have HN2 := Lib.hid (fun w1 => rlab_x x2 hws hN2 w1)
  have HU := Lib.hid (LabIs.u hN2)
  have HO0 := Lib.hid ho
  have h0g : (x0.toList == [103, 114, 105, 100]) = false := by rw [beq_eq_false_iff_ne, Lib.toList_data, word_is h0]; decide
  have h0u : (x0.toList == [117, 115, 101, 114]) = false := by rw [beq_eq_false_iff_ne, Lib.toList_data, word_is h0]; decide
  have hn1 : ((t.size : Int) == 0) = false := by rw [beq_eq_false_iff_ne]; omega
  have hn2 : ((k : Int) + 1 == 0) = false := by rw [beq_eq_false_iff_ne]; omega
  have hkb : k ≤ 99999 := by omega
  have hq2 : (((t[k]'(by omega)).toNat : Int) != 10) = false := by rw [bne, hq]; rfl
  clear hx hN1 hN2 hT hE ho
  generalize hTT : t.data.toList = T at *
  clear hTT
  obtain ⟨r, hr⟩ : ∃ r, p.rows = r := ⟨_, rfl⟩
  obtain ⟨q, hqq⟩ : ∃ q, p.cols = q := ⟨_, rfl⟩
  rw [hr, hqq]
  have hb0 := below2 w (.cells #[.int .i64 r, .int .i64 q, .slice A1 n1 c1, .slice A2 n2 c2, .slice A3 n3 c3] 26) (.cells #[.int .i64 0, .int .i64 0, .slice none 0 0, .slice none 0 0, .slice none 0 0] 26)
  have kp := (CellsAt.new w [.int .i64 r, .int .i64 q, .slice A1 n1 c1, .slice A2 n2 c2, .slice A3 n3 c3] 26).on_alloc (.cells #[.int .i64 0, .int .i64 0, .slice none 0 0, .slice none 0 0, .slice none 0 0] 26)
  have kr := CellsAt.new (w.alloc (.cells #[.int .i64 r, .int .i64 q, .slice A1 n1 c1, .slice A2 n2 c2, .slice A3 n3 c3] 26)) [.int .i64 0, .int .i64 0, .slice none 0 0, .slice none 0 0, .slice none 0 0] 26
  rw [show (w.alloc (.cells #[.int .i64 r, .int .i64 q, .slice A1 n1 c1, .slice A2 n2 c2, .slice A3 n3 c3] 26)).heap.size = w.heap.size + 1 by simp] at kr
  go_enter Tryz.func36, Tryz.ntmps36
  go_wp2_with fail
  generalize (w.alloc (.cells #[.int .i64 r, .int .i64 q, .slice A1 n1 c1, .slice A2 n2 c2, .slice A3 n3 c3] 26)).alloc (.cells #[.int .i64 0, .int .i64 0, .slice none 0 0, .slice none 0 0, .slice none 0 0] 26) = W at *
  refine (HW.out _).mono ?_
  rintro e w1 ⟨g, cap, rfl, hc, hg, hgB, hb1⟩
  have hsW := kr.1
  replace hb0 := on hb0 hb1
  replace kp := kp.on hb1
  replace kr := kr.on hb1
  have g0 := hc 0 x0 rfl
  have g1 := hc 1 x1 rfl
  have g2 := hc 2 x2 rfl
  have G0 := fun d os => cell_regrown g0 d os
  have G1 := fun d os => cell_regrown g1 d os
  have G2 := fun d os => cell_regrown g2 d os
  clear hb1 hc HW
  go_wp2_with fail
  refine wp_region_new 10 (fun d' => match d' with
    | 76 => some (Is (.agg #[.int .i64 i, .int .i64 j, .int .i64 m, .int .i64 n, .bool b]))
    | 80 => some (Is (.agg #[.int .i64 l, .int .u64 s, .bool d]))
    | 9 => some (NewCells w1.heap.size [.int .i64 0, .int .i64 0, .int .i64 0, .int .i64 0, .bool false])
    | 10 => some (NewCells w1.heap.size [.int .i64 0, .int .u64 0, .bool false])
    | _ => none) (fun d' => d' == 9 || d' == 10) (by kernel_rfl) (by kernel_rfl) ?_
  simp only [List.take_succ_cons, List.take_zero, List.drop_succ_cons, List.drop_zero]
  repeat (first | ((with_reducible refine wpM_calm ?_ ?_ ?_ ?_); exact rfl; exact rfl; exact rfl; intro K hK; go_big_quiet_op; go_big_quiet_on) | ((with_reducible refine wpM_skip ?_ ?_); exact rfl; simp only [Act.put, List.setIfInBounds_toArray, List.set_cons_succ, List.set_cons_zero]))
  refine wpM_exact rfl rfl rfl Tryz.func59 (by kernel_rfl) (by kernel_rfl) (fun w1 _ _ => HN1.out w1) rfl (by simp only [Act.put, List.setIfInBounds_toArray, List.set_cons_succ, List.set_cons_zero]; rfl) ?_
  repeat (first | ((with_reducible refine wpM_calm ?_ ?_ ?_ ?_); exact rfl; exact rfl; exact rfl; intro K hK; go_big_quiet_op; go_big_quiet_on) | ((with_reducible refine wpM_skip ?_ ?_); exact rfl; simp only [Act.put, List.setIfInBounds_toArray, List.set_cons_succ, List.set_cons_zero]))
  refine wpM_exact rfl rfl rfl Tryz.func60 (by kernel_rfl) (by kernel_rfl) (fun w1 _ _ => HN2.out w1) rfl (by simp only [Act.put, List.setIfInBounds_toArray, List.set_cons_succ, List.set_cons_zero]; rfl) ?_
  refine wpM_alloc _ (.cells #[.int .i64 0, .int .i64 0, .int .i64 0, .int .i64 0, .bool false] 103) rfl rfl rfl (fun w1 => by simp [go_sem]) (fun w1 h1 => (NewCells.mk w1 _ _ h1.size).2) ?_ (by rintro v ⟨_, b, rfl, _⟩; exact ⟨b, rfl⟩)
  intro b6 a' ha'
  simp only [Act.put, List.setIfInBounds_toArray, List.set_cons_succ, List.set_cons_zero] at ha'
  subst ha'
  refine wpM_alloc _ (.cells #[.int .i64 0, .int .u64 0, .bool false] 106) rfl rfl rfl (fun w1 => by simp [go_sem]) (fun w1 h1 => (NewCells.mk w1 _ _ h1.size).2) ?_ (by rintro v ⟨_, b, rfl, _⟩; exact ⟨b, rfl⟩)
  intro b7 a' ha'
  simp only [Act.put, List.setIfInBounds_toArray, List.set_cons_succ, List.set_cons_zero] at ha'
  subst ha'
  refine wpM_nil ?_
  intro w4 hb4 hG
  have hne : b6 ≠ b7 := hG.2.1 8 b6 9 b7 (.inl (.inr ⟨rfl, rfl⟩)) (.inr ⟨rfl, rfl⟩) (by decide)
  obtain ⟨hB7, k7⟩ := NewCells.at (Fct.put_at (hG.2.2.1 9))
  obtain ⟨hB6, k6⟩ := NewCells.at (Fct.put_at (Fct.put_old (hG.2.2.1 8)))
  have hs1 := hb0.size
  clear hG G0 G1 G2
  replace hb0 := on hb0 hb4
  obtain ⟨m0, m1, m2, m3, m4, f0, f1, f2, f3, f4⟩ := k6.five
  obtain ⟨j0, j1, j2, y0, y1, y2⟩ := (CellsAt.put5_far k7 hne (.int .i64 i) (.int .i64 j) (.int .i64 m) (.int .i64 n) (.bool b)).three
  have k6a := (k6.put5 (.int .i64 i) (.int .i64 j) (.int .i64 m) (.int .i64 n) (.bool b)).put3_far hne.symm (.int .i64 l) (.int .u64 s) (.bool d)
  have k7a := (CellsAt.put5_far k7 hne (.int .i64 i) (.int .i64 j) (.int .i64 m) (.int .i64 n) (.bool b)).put3 (.int .i64 l) (.int .u64 s) (.bool d)
  have kpa := (CellsAt.put5_far (c := b6) (kp.on hb4) (by omega) (.int .i64 i) (.int .i64 j) (.int .i64 m) (.int .i64 n) (.bool b)).put3_far (c := b7) (by omega) (.int .i64 l) (.int .u64 s) (.bool d)
  have kra := (CellsAt.put5_far (c := b6) (kr.on hb4) (by omega) (.int .i64 i) (.int .i64 j) (.int .i64 m) (.int .i64 n) (.bool b)).put3_far (c := b7) (by omega) (.int .i64 l) (.int .u64 s) (.bool d)
  replace hb0 : Below w.heap.size w (put3 (put5 w4 b6 (.int .i64 i) (.int .i64 j) (.int .i64 m) (.int .i64 n) (.bool b)) b7 (.int .i64 l) (.int .u64 s) (.bool d)) := set3 (put5_below hb0 (by omega) _ _ _ _ _) (by omega) _ _ _
  have gX := kept hb4 g0
  replace gX := cell_far (q := ⟨b6, 4, none⟩) (cell_far (q := ⟨b6, 3, none⟩) (cell_far (q := ⟨b6, 2, none⟩) (cell_far (q := ⟨b6, 1, none⟩) (cell_far (q := ⟨b6, 0, none⟩) gX (by simp; omega) (.int .i64 i)) (by simp; omega) (.int .i64 j)) (by simp; omega) (.int .i64 m)) (by simp; omega) (.int .i64 n)) (by simp; omega) (.bool b)
  replace gX := cell_far (q := ⟨b7, 2, none⟩) (cell_far (q := ⟨b7, 1, none⟩) (cell_far (q := ⟨b7, 0, none⟩) gX (by simp; omega) (.int .i64 l)) (by simp; omega) (.int .u64 s)) (by simp; omega) (.bool d)
  clear kp kr k6 k7 hb4
  go_upto_region 12 with fail
  dsimp only [put5, put4, put3] at hb0 k6a k7a kpa kra
  generalize hX : ((((((((w4.setCell ⟨b6, 0, none⟩ (.int .i64 i)).setCell ⟨b6, 1, none⟩ (.int .i64 j)).setCell ⟨b6, 2, none⟩ (.int .i64 m)).setCell ⟨b6, 3, none⟩ (.int .i64 n)).setCell ⟨b6, 4, none⟩ (.bool b)).setCell ⟨b7, 0, none⟩ (.int .i64 l)).setCell ⟨b7, 1, none⟩ (.int .u64 s)).setCell ⟨b7, 2, none⟩ (.bool d)) = X at *
  clear hX m0 m1 m2 m3 m4 f0 f1 f2 f3 f4 j0 j1 j2 y0 y1 y2
  have hOX := HO0.out.on hb0
  have hne2 : (Value.slice A1 n1 c1).ownBlock ≠ some w.heap.size := fun e => by have := (HO0.out.z.lt _ e).2; omega
  have hne3 : (Value.slice A1 n1 c1).ownBlock ≠ some (w.heap.size + 1) := fun e => by have := (HO0.out.z.lt _ e).2; omega
  have hsX := hb0.size
  have hrow := hOX.z
  rw [hzl] at hrow
  have hnew := cells_new X (Zn.cells ⟨i, j, m, n, l, s⟩) 72
  have hone := zn_one ⟨i, j, m, n, l, s⟩
  dsimp only [Zn.cells] at hnew hone
  obtain ⟨s0, s1, s2, s3, s4, _⟩ := k6a.five
  obtain ⟨u0, u1, u2, _⟩ := k7a.three
  obtain ⟨p0, p1, p2, p3, p4, o0, o1, o2, o3, o4⟩ := kpa.five
  have l6 := k6a.1
  have l7 := k7a.1
  have lp := kpa.1
  obtain ⟨i0, hin, hz0, hz1, hz2⟩ := info_parts infoPZ
  go_upto_region 13 with (at_builtin; refine wpList_append_lies _ rfl _ _ 22 rfl B 72 i0 _ 6 48 Tryz.underlying22 hin hz0 hz1 hz2 rfl (by decide) _ n1 (flat Zn.cells p.zs) rfl (hrow.alloc _) ⟨X.heap.size, 0, none⟩ 1 1 [.int .i64 i, .int .i64 j, .int .i64 m, .int .i64 n, .int .i64 l, .int .u64 s] rfl rfl hnew hone (by decide) (by unfold maxLen; omega) (by omega) (by simp; omega) _ rfl ?_; intro g' cap' w5 hown' hgrow0 hloc0 hlt'; have hgrow : (X.alloc (.cells #[.int .i64 i, .int .i64 j, .int .i64 m, .int .i64 n, .int .i64 l, .int .u64 s] 72)).grownBy w5 (Value.slice A1 n1 c1).ownBlock := hgrow0; have hloc : (Value.slice A1 n1 c1).ownBlock = some g' ∨ g' = (X.alloc (.cells #[.int .i64 i, .int .i64 j, .int .i64 m, .int .i64 n, .int .i64 l, .int .u64 s] 72)).heap.size := hloc0; have kp5 := cells_grown (kpa.on_alloc (.cells #[.int .i64 i, .int .i64 j, .int .i64 m, .int .i64 n, .int .i64 l, .int .u64 s] 72)) hgrow hne2.symm; have o52 := (kp5.2 2 _ rfl).2; have p52 := (kp5.2 2 _ rfl).1; have lp5 := kp5.1; clear hgrow0 hloc0 s0 s1 s2 s3 s4 u0 u1 u2 p0 p1 p2 p3 p4 o0 o1 o2 o3 o4)
  have hgX : (X.alloc (.cells #[.int .i64 i, .int .i64 j, .int .i64 m, .int .i64 n, .int .i64 l, .int .u64 s] 72)).heap.size = X.heap.size + 1 := by simp
  have hb6r : some b6 ≠ (Value.slice A1 n1 c1).ownBlock := fun e => by have := (HO0.out.z.lt _ e.symm).2; omega
  have hb7r : some b7 ≠ (Value.slice A1 n1 c1).ownBlock := fun e => by have := (HO0.out.z.lt _ e.symm).2; omega
  have hgr : some g ≠ (Value.slice A1 n1 c1).ownBlock := fun e => by have := (HO0.out.z.lt _ e.symm).2; omega
  have hOw := Own.zone (hOX.on (below1 X (.cells #[.int .i64 i, .int .i64 j, .int .i64 m, .int .i64 n, .int .i64 l, .int .u64 s] 72))) ⟨i, j, m, n, l, s⟩ (by rw [hzl]; exact hown') hgrow (by rcases hloc with e | e; exact .inl e.symm; exact .inr (by rw [e]; rfl))
  have hg'2 : g' ≠ w.heap.size := by rcases hloc with e | e; exact fun e2 => hne2 (by rw [e, e2]); omega
  have hg'3 : g' ≠ w.heap.size + 1 := by rcases hloc with e | e; exact fun e2 => hne3 (by rw [e, e2]); omega
  have hu2 : (Value.slice A2 n2 c2).ownBlock ≠ some w.heap.size := fun e => by have := (HO0.out.u.lt _ e).2; omega
  have hu3 : (Value.slice A2 n2 c2).ownBlock ≠ some (w.heap.size + 1) := fun e => by have := (HO0.out.u.lt _ e).2; omega
  have hv2 : (Value.slice A3 n3 c3).ownBlock ≠ some w.heap.size := fun e => by have := (HO0.out.g.lt _ e).2; omega
  have hv3 : (Value.slice A3 n3 c3).ownBlock ≠ some (w.heap.size + 1) := fun e => by have := (HO0.out.g.lt _ e).2; omega
  have hOY := hOw.far (set_grown w5 ⟨w.heap.size, 2, none⟩ (.slice (some ⟨g', 0, none⟩) (n1 + 1) cap')) (by simpa [Value.ownBlock] using hg'2) hu2 hv2
  have hGY := grown_set (below_grown (on_alloc hb0 (.cells #[.int .i64 i, .int .i64 j, .int .i64 m, .int .i64 n, .int .i64 l, .int .u64 s] 72)) hgrow) (p := ⟨w.heap.size, 2, none⟩) (Nat.le_refl _) (.slice (some ⟨g', 0, none⟩) (n1 + 1) cap')
  have kpb := kp5.set (i := 2) (by simp) (.slice (some ⟨g', 0, none⟩) (n1 + 1) cap')
  have k6b := (cells_grown (k6a.on_alloc (.cells #[.int .i64 i, .int .i64 j, .int .i64 m, .int .i64 n, .int .i64 l, .int .u64 s] 72)) hgrow hb6r).far (p := ⟨w.heap.size, 2, none⟩) (by simp; omega) (.slice (some ⟨g', 0, none⟩) (n1 + 1) cap')
  have k7b := (cells_grown (k7a.on_alloc (.cells #[.int .i64 i, .int .i64 j, .int .i64 m, .int .i64 n, .int .i64 l, .int .u64 s] 72)) hgrow hb7r).far (p := ⟨w.heap.size, 2, none⟩) (by simp; omega) (.slice (some ⟨g', 0, none⟩) (n1 + 1) cap')
  have krb := (cells_grown (kra.on_alloc (.cells #[.int .i64 i, .int .i64 j, .int .i64 m, .int .i64 n, .int .i64 l, .int .u64 s] 72)) hgrow hne3.symm).far (p := ⟨w.heap.size, 2, none⟩) (by simp) (.slice (some ⟨g', 0, none⟩) (n1 + 1) cap')
  have gY := cell_far (q := ⟨w.heap.size, 2, none⟩) (hgrow.cell (kept_alloc (.cells #[.int .i64 i, .int .i64 j, .int .i64 m, .int .i64 n, .int .i64 l, .int .u64 s] 72) gX) hgr) (by simp; omega) (.slice (some ⟨g', 0, none⟩) (n1 + 1) cap')
  generalize w5.setCell ⟨w.heap.size, 2, none⟩ (.slice (some ⟨g', 0, none⟩) (n1 + 1) cap') = Y at *
  clear kp5 o52 p52 lp5 k6a k7a kpa kra hown' hgrow hnew hone hrow hOX l6 l7 lp
  obtain ⟨s0, s1, s2, s3, s4, _⟩ := k6b.five
  obtain ⟨u0, u1, u2, _⟩ := k7b.three
  obtain ⟨p0, p1, p2, p3, p4, _⟩ := kpb.five
  obtain ⟨r0, r1, r2, r3, r4, f0, f1, f2, f3, f4⟩ := krb.five
  obtain ⟨e0, e1, e2, e3, e4, _⟩ := (krb.put5 (.int .i64 r) (.int .i64 q) (.slice (some ⟨g', 0, none⟩) (n1 + 1) cap') (.slice A2 n2 c2) (.slice A3 n3 c3)).five
  have hGx := grown_put5 hGY (b := w.heap.size + 1) (by omega) (.int .i64 r) (.int .i64 q) (.slice (some ⟨g', 0, none⟩) (n1 + 1) cap') (.slice A2 n2 c2) (.slice A3 n3 c3)
  have hOx := Lib.hid (hOY.far (put5_grown Y (w.heap.size + 1) (.int .i64 r) (.int .i64 q) (.slice (some ⟨g', 0, none⟩) (n1 + 1) cap') (.slice A2 n2 c2) (.slice A3 n3 c3)) (by simpa [Value.ownBlock] using hg'3) hu3 hv3)
  have hgl := World.block_lt_of_cell? _ _ gY
  have lp2 := kpb.1
  have lr2 := krb.1
  have l62 := k6b.1
  have l72 := k7b.1
  dsimp only [put5, put4] at e0 e1 e2 e3 e4 hGx hOx
  clear k6b k7b kpb krb hb0 hOw hOY hGY
  cases b <;> cases d
  case true.true =>
    have HL : Hid (LnIs T (some (.zone ⟨i, j, m, n, l, s⟩))) := HLn
    go_wp2
    exact bodyPost_ret (v := .tuple #[.agg #[.int .i64 r, .int .i64 q, .slice (some ⟨g', 0, none⟩) (n1 + 1) cap', .slice A2 n2 c2, .slice A3 n3 c3], .int .i64 2]) (by simp [results, Tryz.results36, go_sem, e0, e1, e2, e3, e4]) rfl
      (LineEnd.some_ HL.out hGx (.inr (.inl rfl)) rfl hr.symm hqq.symm hOx.out)
  all_goals
    have HL : Hid (LnIs T none) := HLn
    go_wp2
    exact bodyPost_ret (v := .tuple #[.agg #[.int .i64 r, .int .i64 q, .slice (some ⟨g', 0, none⟩) (n1 + 1) cap', .slice A2 n2 c2, .slice A3 n3 c3], .int .i64 0]) (by simp [results, Tryz.results36, go_sem, e0, e1, e2, e3, e4]) rfl
      (LineEnd.none_ HL.out hGx (.inr (.inl rfl)))
end Go.Proofs.YtmlmanlcomfhbaaGreatDoor.Pol

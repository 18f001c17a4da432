/- What the reference's line answers: a user. -/
import Derived.Test.YtmlmanlcomfhbaaGreatDoorPolLineZ
namespace Go.Proofs.YtmlmanlcomfhbaaGreatDoor.Pol
open Go.RowKit Kit Reg
open Go.Proofs.YtmlmanlcomfhbaaGreatDoor.Zone (Zn ZonesR)
open Go.Proofs.YtmlmanlcomfhbaaGreatDoor.Right (Us Gr UsersR GrantsR OwnS strs StrsR)
open Go.Proofs.YtmlmanlcomfhbaaGreatDoor.Cats (U U_zero LabIs)
open Go.Proofs.YtmlmanlcomfhbaaGreatDoor.Span (SpanIs mayS textI)
open Go.Proofs.YtmlmanlcomfhbaaGreatDoor.Addr (NumIs)

set_option maxRecDepth 100000 in
set_option maxHeartbeats 2000000 in
theorem rline_user (B : Nat) (p : Pl) (t : ByteArray) (ht : t.size ≤ 100000) (A1 : Option Addr) (n1 c1 : Nat) (A2 : Option Addr) (n2 c2 : Nat) (A3 : Option Addr) (n3 c3 : Nat) (k : Nat) (hk : t.size = k + 1) (hq : (((t[k]'(by omega)).toNat : Int) == 10) = true)
    (x0 x1 x2 : ByteArray) (hx : bs (wordsF (t.data.toList.take k)) = [x0, x1, x2]) (h0 : (x0.toList == [117, 115, 101, 114]) = true) (hul : p.us.length = n2) (hm2 : n2 ≤ 100000) (w : World) (hB : B ≤ w.heap.size) (ho : Own B p (.slice A1 n1 c1) (.slice A2 n2 c2) (.slice A3 n3 c3) w) :
    Calls Tryz.prog 36 #[.agg #[.int .i64 p.rows, .int .i64 p.cols, .slice A1 n1 c1, .slice A2 n2 c2, .slice A3 n3 c3], .string t] w (LineEnd B t.data.toList p (.slice A1 n1 c1) (.slice A2 n2 c2) (.slice A3 n3 c3) w) := by
  obtain ⟨hT, hE⟩ := feed_cut hk (by simpa using hq)
  obtain ⟨l, s, d, hN2⟩ := LabIs.some_one x2.data.toList
  have hws : x2.size ≤ 100000 := by
    have := word_size (t.extract 0 k) x2 (by rw [hE, hx]; simp)
    have e : (t.extract 0 k).size ≤ t.size := by simp; omega
    omega
  have HLn : Hid (LnIs t.data.toList (if d = true then some (.user ⟨x1, l, s⟩) else none)) := by
    rw [hT]
    refine Lib.hid (LnIs.of_words ?_)
    rw [bs_at hx]
    simp only [List.map_cons, List.map_nil, word_is h0]
    have hbl := words_blank (t.data.toList.take k) x1.data.toList (by rw [bs_at hx]; simp)
    exact WIs.user hbl hN2
  have HW := Lib.hid (fun w1 => rwords_x (t.extract 0 k) (by first | (simp; done) | (simp; omega)) (xs := [x0, x1, x2]) (by rw [hE]; exact hx) w1)
  have HN2 := Lib.hid (fun w1 => rlab_x x2 hws hN2 w1)
  have HU := Lib.hid (LabIs.u hN2)
  have HO0 := Lib.hid ho
  have h0g : (x0.toList == [103, 114, 105, 100]) = false := by rw [beq_eq_false_iff_ne, Lib.toList_data, word_is h0]; decide
  have h0z : (x0.toList == [122, 111, 110, 101]) = false := by rw [beq_eq_false_iff_ne, Lib.toList_data, word_is h0]; decide
  have hn1 : ((t.size : Int) == 0) = false := by rw [beq_eq_false_iff_ne]; omega
  have hn2 : ((k : Int) + 1 == 0) = false := by rw [beq_eq_false_iff_ne]; omega
  have hkb : k ≤ 99999 := by omega
  have hq2 : (((t[k]'(by omega)).toNat : Int) != 10) = false := by rw [bne, hq]; rfl
  clear hx hN2 hT hE ho
  generalize hTT : t.data.toList = T at *
  clear hTT
  obtain ⟨r, hr⟩ : ∃ r, p.rows = r := ⟨_, rfl⟩
  obtain ⟨q, hqq⟩ : ∃ q, p.cols = q := ⟨_, rfl⟩
  rw [hr, hqq]
  have hb0 := below2 w (.cells #[.int .i64 r, .int .i64 q, .slice A1 n1 c1, .slice A2 n2 c2, .slice A3 n3 c3] 26) (.cells #[.int .i64 0, .int .i64 0, .slice none 0 0, .slice none 0 0, .slice none 0 0] 26)
  have kp := (CellsAt.new w [.int .i64 r, .int .i64 q, .slice A1 n1 c1, .slice A2 n2 c2, .slice A3 n3 c3] 26).on_alloc (.cells #[.int .i64 0, .int .i64 0, .slice none 0 0, .slice none 0 0, .slice none 0 0] 26)
  have kr := CellsAt.new (w.alloc (.cells #[.int .i64 r, .int .i64 q, .slice A1 n1 c1, .slice A2 n2 c2, .slice A3 n3 c3] 26)) [.int .i64 0, .int .i64 0, .slice none 0 0, .slice none 0 0, .slice none 0 0] 26
  rw [show (w.alloc (.cells #[.int .i64 r, .int .i64 q, .slice A1 n1 c1, .slice A2 n2 c2, .slice A3 n3 c3] 26)).heap.size = w.heap.size + 1 by simp] at kr
  go_enter Tryz.func36, Tryz.ntmps36
  go_wp2_with fail
  generalize (w.alloc (.cells #[.int .i64 r, .int .i64 q, .slice A1 n1 c1, .slice A2 n2 c2, .slice A3 n3 c3] 26)).alloc (.cells #[.int .i64 0, .int .i64 0, .slice none 0 0, .slice none 0 0, .slice none 0 0] 26) = W at *
  refine (HW.out _).mono ?_
  rintro e w1 ⟨g, cap, rfl, hc, hg, hgB, hb1⟩
  have hsW := kr.1
  replace hb0 := on hb0 hb1
  replace kp := kp.on hb1
  replace kr := kr.on hb1
  have g0 := hc 0 x0 rfl
  have g1 := hc 1 x1 rfl
  have g2 := hc 2 x2 rfl
  have G0 := fun d os => cell_regrown g0 d os
  have G1 := fun d os => cell_regrown g1 d os
  have G2 := fun d os => cell_regrown g2 d os
  clear hb1 hc HW
  go_wp2_with fail
  refine (HN2.out _).mono ?_
  rintro e w2 ⟨rfl, hb2⟩
  have k7a := CellsAt.new w2 [.int .i64 l, .int .u64 s, .bool d] 106
  change CellsAt (w2.alloc (.cells #[.int .i64 l, .int .u64 s, .bool d] 106)) w2.heap.size [.int .i64 l, .int .u64 s, .bool d] at k7a
  have hbx := below1 w2 (.cells #[.int .i64 l, .int .u64 s, .bool d] 106)
  have hs1 := hb0.size
  replace hb0 := on (on hb0 hb2) hbx
  have kpa := (kp.on hb2).on hbx
  have kra := (kr.on hb2).on hbx
  have gX := kept_alloc (.cells #[.int .i64 l, .int .u64 s, .bool d] 106) (kept hb2 g0)
  have gX1 := kept_alloc (.cells #[.int .i64 l, .int .u64 s, .bool d] 106) (kept hb2 g1)
  have hs2 := hb2.size
  clear kp kr hbx hb2 G0 G1 G2
  go_upto_region 17 with fail
  generalize hX : w2.alloc (.cells #[.int .i64 l, .int .u64 s, .bool d] 106) = X at *
  have hX2 : X.heap.size = w2.heap.size + 1 := by rw [← hX]; simp
  clear hX
  generalize w2.heap.size = b7 at *
  have hOX := HO0.out.on hb0
  have hne2 : (Value.slice A2 n2 c2).ownBlock ≠ some w.heap.size := fun e => by have := (HO0.out.u.lt _ e).2; omega
  have hne3 : (Value.slice A2 n2 c2).ownBlock ≠ some (w.heap.size + 1) := fun e => by have := (HO0.out.u.lt _ e).2; omega
  have hneb : (Value.slice A2 n2 c2).ownBlock ≠ some b7 := fun e => by have := (HO0.out.u.lt _ e).2; omega
  have hneg : (Value.slice A2 n2 c2).ownBlock ≠ some g := fun e => by have := (HO0.out.u.lt _ e).2; omega
  have hsX := hb0.size
  have hrow := hOX.u
  rw [hul] at hrow
  have hone := us_one ⟨x1, l, s⟩
  dsimp only [Us.cells] at hone
  obtain ⟨u0, u1, u2, _⟩ := k7a.three
  obtain ⟨p0, p1, p2, p3, p4, o0, o1, o2, o3, o4⟩ := kpa.five
  have l7 := k7a.1
  have lp := kpa.1
  have lg := World.block_lt_of_cell? _ _ gX
  obtain ⟨i0, hin, hz0, hz1, hz2⟩ := info_parts infoPU
  go_cut [120] (fun _ wx => ∃ (g' cap' : Nat) (w5 : World), w5.ownsRow B 76 3 (.slice (some ⟨g', 0, none⟩) (n2 + 1) cap') (n2 + 1) (flat Us.cells p.us ++ [.string x1, .int .i64 l, .int .u64 s]) ∧ (X.alloc (.cells #[.string x1, .int .i64 l, .int .u64 s] 76)).drew.grownBy w5 (Value.slice A2 n2 c2).ownBlock ∧ ((Value.slice A2 n2 c2).ownBlock = some g' ∨ g' = X.heap.size + 1) ∧ wx = w5.setCell ⟨w.heap.size, 3, none⟩ (.slice (some ⟨g', 0, none⟩) (n2 + 1) cap'))
  case first =>
    have q53c := ((kpa.on_alloc (.cells #[.string x1, .int .i64 l, .int .u64 s] 76)).2 3 _ rfl).1
    go_region_law (refine step_append_lies _ (by rfl) _ _ _ (by rfl) B 76 i0 _ 3 32 Tryz.underlying23 hin hz0 hz1 hz2 rfl (by omega) _ n2 (flat Us.cells p.us) (by rfl) ((hrow.alloc _).drew)  ⟨_, 0, none⟩ 1 1 [.string x1, .int .i64 l, .int .u64 s] (by simp [Act.eval]) (by rfl) (World.news_of_block (cs := #[.string x1, .int .i64 l, .int .u64 s]) (t := 76) (fr := (0, 0)) (heap_alloc_new X _)) hone  (by omega) (by unfold maxLen; omega) (by omega) (by first | (simp; done) | (simp; omega)) (X.heap.size + 1) (by simp) ?_; intro g' cap' w5 hown' hgrow0 hloc0 hlt'; have q53 := (kpa.on_alloc (.cells #[.string x1, .int .i64 l, .int .u64 s] 76)).2 3 _ rfl; have h53 : w.heap.size < (X.alloc (.cells #[.string x1, .int .i64 l, .int .u64 s] 76)).drew.heap.size := by { have := hsX; simp; omega }; have o53 : w5.frozen? ⟨w.heap.size, 3, none⟩ = false := (hgrow0.frozen_far ⟨w.heap.size, 3, none⟩ h53 hne2.symm).trans (by simpa using q53.2); have p53 : w5.cell? ⟨w.heap.size, 3, none⟩ = some (.slice A2 n2 c2) := (hgrow0.cell_far ⟨w.heap.size, 3, none⟩ h53 hne2.symm).trans (by simpa using q53.1))
    all_goals go_wp2_with fail
    all_goals go_meet
    all_goals exact ⟨_, _, _, hown', hgrow0, hloc0, rfl⟩
  case rest =>
  obtain ⟨g', cap', w5, hown', hgrow, hloc, rfl⟩ := hcut
  have hXB : Below X.heap.size X (X.alloc (.cells #[.string x1, .int .i64 l, .int .u64 s] 76)).drew := on (below1 X _) (drew_below (n := 1) rfl)
  have kp5 := cells_grown (kpa.on hXB) hgrow hne2.symm
  have hb7r : some b7 ≠ (Value.slice A2 n2 c2).ownBlock := fun e => by have := (HO0.out.u.lt _ e.symm).2; omega
  have hgr : some g ≠ (Value.slice A2 n2 c2).ownBlock := fun e => by have := (HO0.out.u.lt _ e.symm).2; omega
  have hOw := Own.user (hOX.on hXB) ⟨x1, l, s⟩ (by rw [hul]; exact hown') hgrow (by rcases hloc with e | e; exact .inl e.symm; exact .inr (by rw [e]; simp [Value.ownBlock]))
  have hg'2 : g' ≠ w.heap.size := by rcases hloc with e | e; exact fun e2 => hne2 (by rw [e, e2]); omega
  have hg'3 : g' ≠ w.heap.size + 1 := by rcases hloc with e | e; exact fun e2 => hne3 (by rw [e, e2]); omega
  have hz2 : (Value.slice A1 n1 c1).ownBlock ≠ some w.heap.size := fun e => by have := (HO0.out.z.lt _ e).2; omega
  have hz3 : (Value.slice A1 n1 c1).ownBlock ≠ some (w.heap.size + 1) := fun e => by have := (HO0.out.z.lt _ e).2; omega
  have hg2 : (Value.slice A3 n3 c3).ownBlock ≠ some w.heap.size := fun e => by have := (HO0.out.g.lt _ e).2; omega
  have hg3 : (Value.slice A3 n3 c3).ownBlock ≠ some (w.heap.size + 1) := fun e => by have := (HO0.out.g.lt _ e).2; omega
  have hOY := hOw.far (set_grown w5 ⟨w.heap.size, 3, none⟩ (.slice (some ⟨g', 0, none⟩) (n2 + 1) cap')) hz2 (by simpa [Value.ownBlock] using hg'2) hg2
  have hGY := grown_set (below_grown (on hb0 hXB) hgrow) (p := ⟨w.heap.size, 3, none⟩) (Nat.le_refl _) (.slice (some ⟨g', 0, none⟩) (n2 + 1) cap')
  have kpb := kp5.set (i := 3) (by simp) (.slice (some ⟨g', 0, none⟩) (n2 + 1) cap')
  have k7b := (cells_grown (k7a.on hXB) hgrow hb7r).far (p := ⟨w.heap.size, 3, none⟩) (by simp; omega) (.slice (some ⟨g', 0, none⟩) (n2 + 1) cap')
  have krb := (cells_grown (kra.on hXB) hgrow hne3.symm).far (p := ⟨w.heap.size, 3, none⟩) (by simp) (.slice (some ⟨g', 0, none⟩) (n2 + 1) cap')
  have gY := cell_far (q := ⟨w.heap.size, 3, none⟩) (hgrow.cell (kept hXB gX) hgr) (by simp; omega) (.slice (some ⟨g', 0, none⟩) (n2 + 1) cap')
  generalize w5.setCell ⟨w.heap.size, 3, none⟩ (.slice (some ⟨g', 0, none⟩) (n2 + 1) cap') = Y at *
  clear kp5 k7a kpa kra hown' hgrow hone hrow hOX l7 lp lg p0 p1 p2 p3 p4 o0 o1 o2 o3 o4 u0 u1 u2 gX1
  obtain ⟨u0, u1, u2, _⟩ := k7b.three
  have l72 := k7b.1
  obtain ⟨p0, p1, p2, p3, p4, _⟩ := kpb.five
  obtain ⟨r0, r1, r2, r3, r4, f0, f1, f2, f3, f4⟩ := krb.five
  obtain ⟨e0, e1, e2, e3, e4, _⟩ := (krb.put5 (.int .i64 r) (.int .i64 q) (.slice A1 n1 c1) (.slice (some ⟨g', 0, none⟩) (n2 + 1) cap') (.slice A3 n3 c3)).five
  have hGx := grown_put5 hGY (b := w.heap.size + 1) (by omega) (.int .i64 r) (.int .i64 q) (.slice A1 n1 c1) (.slice (some ⟨g', 0, none⟩) (n2 + 1) cap') (.slice A3 n3 c3)
  have hOx := Lib.hid (hOY.far (put5_grown Y (w.heap.size + 1) (.int .i64 r) (.int .i64 q) (.slice A1 n1 c1) (.slice (some ⟨g', 0, none⟩) (n2 + 1) cap') (.slice A3 n3 c3)) hz3 (by simpa [Value.ownBlock] using hg'3) hg3)
  have hgl := World.block_lt_of_cell? _ _ gY
  have lp2 := kpb.1
  have lr2 := krb.1
  dsimp only [put5, put4] at e0 e1 e2 e3 e4 hGx hOx
  clear kpb krb hb0 hOw hOY hGY
  cases d
  case true =>
    have HL : Hid (LnIs T (some (.user ⟨x1, l, s⟩))) := HLn
    go_wp2
    exact bodyPost_ret (v := .tuple #[.agg #[.int .i64 r, .int .i64 q, .slice A1 n1 c1, .slice (some ⟨g', 0, none⟩) (n2 + 1) cap', .slice A3 n3 c3], .int .i64 3]) (by simp [results, Tryz.results36, go_sem, e0, e1, e2, e3, e4]) rfl
      (LineEnd.some_ HL.out hGx (.inr (.inr (.inl rfl))) rfl hr.symm hqq.symm hOx.out)
  all_goals
    have HL : Hid (LnIs T none) := HLn
    go_wp2
    exact bodyPost_ret (v := .tuple #[.agg #[.int .i64 r, .int .i64 q, .slice A1 n1 c1, .slice (some ⟨g', 0, none⟩) (n2 + 1) cap', .slice A3 n3 c3], .int .i64 0]) (by simp [results, Tryz.results36, go_sem, e0, e1, e2, e3, e4]) rfl
      (LineEnd.none_ HL.out hGx (.inr (.inr (.inl rfl))))
end Go.Proofs.YtmlmanlcomfhbaaGreatDoor.Pol

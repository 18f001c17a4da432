/- The law FoldOrder, walked: in which order values are taken changes no least and no greatest number, and no sum; a fault never gets lost. -/
import Derived.Test.YtcampdedhfhkbaaDoorFldLawB
import Derived.Test.YtcampdedhfhkbaaDoorGa
namespace Go.Proofs.YtcampdedhfhkbaaDoor.Fld
open Go.RowKit Kit Reg Dec Dig Val Txt

theorem infoV : (Tryd.prog.info? 27).map (fun i => (i.zero, i.size, i.bytes)) = some (some (.agg #[.int .i64 0, .int .i64 0, .string ⟨#[]⟩]), 3, 32) := by kernel_rfl
theorem three_new {w : World} {g : Nat} (hg : g = w.heap.size) (x y z : Value) (ty : TypeId) : ∀ j u, [x, y, z][j]? = some u → (w.alloc (.cells #[x, y, z] ty)).cell? ((⟨g, 0, none⟩ : Addr).add j) = some u := by
  intro j u hj
  rw [show ((⟨g, 0, none⟩ : Addr).add j) = ⟨g, j, none⟩ by unfold Addr.add; split <;> simp_all, hg]
  exact ((CellsAt.new w [x, y, z] ty).2 j u hj).1
theorem OwnV.snoc {B : Nat} {w : World} {v : Value} {L : List Vl} (x : Vl) (h : w.ownsRow B 27 3 v (L.length + 1) (flatV L ++ x.cells)) : OwnV B v (L ++ [x]) w := by
  unfold OwnV
  rw [flatV_snoc, List.length_append]
  exact h
theorem rev_mem {L : List Vl} {P : Vl → Prop} (h : ∀ v ∈ L, P v) : ∀ v ∈ L.reverse, P v := fun v hv => h v (by simpa using hv)
set_option maxRecDepth 100000 in
set_option maxHeartbeats 1000000 in
theorem order_out (A : Option Addr) (n cap : Nat) (w : World) (hR : Calls Tryd.prog 7 #[.slice A n cap, .int .i64 200] w fun e w' => e = .returned (.bool false) ∧ Below w.heap.size w w') (hL : Dig.Libs w) :
    Calls Tryd.prog 6 #[.slice A n cap] w (LawEnd w) := by
  have HR := Lib.hid hR
  have HA := Lib.hid (fun w1 hL => alive_c w1 hL)
  have HL := Lib.hid hL
  clear hR hL
  go_enter Tryd.func6, Tryd.ntmps6
  go_wp2_with fail
  refine HR.out.mono ?_
  rintro e w1 ⟨rfl, hb1⟩
  go_wp2_with fail
  refine (HA.out _ (HL.out.grown hb1)).mono ?_
  rintro e w2 ⟨rfl, hb2⟩
  have hb3 := on hb1 hb2
  go_wp2
  go_ret
  exact ⟨rfl, hb3⟩
set_option maxRecDepth 100000 in
set_option maxHeartbeats 8000000 in
theorem order_yes (A : Option Addr) (n cap : Nat) (L : List Vl) (hm : ∀ v ∈ L, v.may) (hn2 : n ≤ 200) (p : Nat) (x : Vl) (hf : FirstF L p x) (q : Nat) (y : Vl) (hg : FirstF L.reverse q y) (w : World) (hz : ValsR w A n L) (hR : Calls Tryd.prog 7 #[.slice A n cap, .int .i64 200] w fun e w' => e = .returned (.bool true) ∧ Below w.heap.size w w') (hL : Dig.Libs w) :
    Calls Tryd.prog 6 #[.slice A n cap] w (LawEnd w) := by
  obtain ⟨i0, hi, hz0, hz1, hz2⟩ := info_parts infoV
  have HA := Lib.hid (fun w1 hL => alive_c w1 hL)
  have HR := Lib.hid hR
  have HL := Lib.hid hL
  have HZ := Lib.hid hz
  have HLn := Lib.hid hz.1
  have HFit : Hid (∀ v ∈ L.reverse, v.fits) := Lib.hid (rev_mem hz.2.2.1)
  have hb0 := Below.refl w.heap.size w
  have hm2 := rev_mem hm
  have HF := Lib.hid (fun w1 hz => rfault_yes A n cap L p x hf w1 hz)
  have HG := Lib.hid (fun A2 c2 w1 hz => rfault_yes A2 n c2 L.reverse q y hg w1 hz)
  have H1 := Lib.hid (fun A2 c2 w1 hz => sum_c A2 n c2 L.reverse hm2 4 y.n (allV_yes hg) w1 hz)
  have H2 := Lib.hid (fun A2 c2 w1 hz => least_c A2 n c2 L.reverse hm2 4 y.n (allV_yes hg) w1 hz)
  have H3 := Lib.hid (fun A2 c2 w1 hz => mean_c A2 n c2 L.reverse hm2 4 y.n (meanV_yes hg) w1 hz)
  have H4 : Hid (∀ (A2 : Option Addr) (c2 : Nat) (w1 : World), ValsR w1 A2 n L.reverse → Dig.Libs w1 → Calls Tryd.prog 23 #[.slice A2 n c2] w1 (ValIs 4 y.n ⟨#[]⟩ w1)) := Lib.hid (fun A2 c2 w1 hz hL => concat_c A2 n c2 L.reverse hm2 4 y.n [] (concatV_yes hg) w1 hz hL)
  have HP := Lib.hid hg.1
  have hq := hg.lt
  rw [List.length_reverse, hz.1] at hq
  have hx4 := may_fault (hm2 y (List.mem_of_getElem? hg.1)) hg.2.1
  have d2 : decide ((0 : Int) ≤ (p : Int)) = true := decide_eq_true (by omega)
  obtain ⟨yk, yn, yt⟩ := y
  simp only [Vl.mk.injEq] at hx4
  obtain ⟨rfl, _, rfl⟩ := hx4
  dsimp only at H1 H2 H3 H4
  clear hR hL hz hm hm2 hf hg
  go_enter Tryd.func6, Tryd.ntmps6
  go_wp2_with fail
  refine HR.out.mono ?_
  rintro e w1 ⟨rfl, hb⟩
  replace hb0 := on hb0 hb
  replace HZ := Lib.hid (HZ.out.on hb)
  clear hb HR
  have hs1 := hb0.size
  go_wp2_with fail
  go_loopw [3, 14] (fun o i wr => ∃ k : Nat, k ≤ n ∧ i = .int .i64 k ∧ OwnV w1.heap.size o (L.reverse.take k) wr ∧ Below w.heap.size w wr ∧ Below w1.heap.size w1 wr) (fun _ i _ => n - (intOf i).toNat)
  case atStart => exact ⟨0, Nat.zero_le _, rfl, World.ownsRow_nil _ _ _ _, hb0, Below.refl _ _⟩
  case round =>
    clear hb0
    obtain ⟨k, hk, rfl, hrow, hb0, hbW⟩ := hrel
    have hlen : (L.reverse.take k).length ≤ k := by rw [List.length_take]; omega
    have hs0 := hb0.size
    have hsW := hbW.size
    by_cases hlt : k < n
    · obtain ⟨d, hd⟩ : ∃ d, n - 1 - k = d := ⟨_, rfl⟩
      have hd1 : (n : Int) - 1 - (k : Int) = (d : Int) := by omega
      have hdn : d < n := by omega
      obtain ⟨v, hv⟩ := HZ.out.get hdn
      obtain ⟨b, o, rfl, hb, c0, c1, c2⟩ := (HZ.out.on hbW).at hv
      have HN : Hid (L.reverse.take (k + 1) = L.reverse.take k ++ [v]) := Lib.hid (rev_at HLn.out hlt (by rw [hd]; exact hv))
      obtain ⟨vk, vn, vt⟩ := v
      dsimp only at c0 c1 c2
      clear hv hd
      generalize L.reverse.take k = R at *
      unfold OwnV at hrow
      go_wp2_with (at_builtin; refine wpList_append_own _ rfl _ _ 22 rfl w1.heap.size 27 i0 _ 3 32 Tryd.underlying22 hi hz0 hz1 hz2 rfl (by decide) _ _ _ rfl (hrow.alloc _) ⟨_, 0, none⟩ 1 1 [.int .i64 vk, .int .i64 vn, .string vt] rfl rfl (three_new (by simp) _ _ _ _) (by simp [Value.oneCell']) (by unfold maxLen; omega) (by omega) (by simp; omega) ?_)
      intro v1 w2 hown1 hg1 _
      have hb3 := own_below hrow hb0 hs1 hg1
      have hb4 : Below w1.heap.size w1 w2 := own_below hrow hbW (Nat.le_refl _) hg1
      have hrow1 := OwnV.snoc ⟨vk, vn, vt⟩ hown1
      clear hown1 hg1 hrow hb0 hbW c0 c1 c2 hs0 hsW hd1
      go_wp2
      go_roundw
      case rel => exact ⟨k + 1, by omega, by go_num, by rw [HN.out]; exact hrow1, hb3, hb4⟩
      case measure => simp [intOf]; omega
    · obtain rfl : k = n := by omega
      rw [List.take_of_length_le (by rw [List.length_reverse, HLn.out]; omega)] at hrow
      obtain ⟨A2, c2, rfl, hZ2⟩ := hrow.reads (n := k) (by rw [List.length_reverse]; exact HLn.out) (by omega) HFit.out
      replace HZ := Lib.hid (HZ.out.on hbW)
      replace hZ2 := Lib.hid hZ2
      clear hrow hbW hs0 hsW hlen
      go_wp2_with fail
      refine (HF.out _ HZ.out).mono ?_
      rintro e w2 ⟨rfl, rfl⟩
      clear HF
      go_wp2_with fail
      refine (HG.out _ _ _ hZ2.out).mono ?_
      rintro e w2 ⟨rfl, rfl⟩
      clear HG
      obtain ⟨b, o, rfl, hb9, c0, c1, c2⟩ := hZ2.out.at HP.out
      dsimp only at c0 c1 c2
      go_wp2_with fail
      have D0 := fun d os => cell_regrown c0 d os
      have D1 := fun d os => cell_regrown c1 d os
      have D2 := fun d os => cell_regrown c2 d os
      have HLr := Lib.hid (HL.out.grown hb0)
      clear c0 c1 c2 HP
      refine wp_region_mem 38 (fun d => match d with
        | 35 => some (Is (.agg #[.int .i64 4, .int .i64 yn, .string ⟨#[]⟩]))
        | 43 => some (Is (.agg #[.int .i64 4, .int .i64 yn, .string ⟨#[]⟩]))
        | 52 => some (Is (.agg #[.int .i64 4, .int .i64 yn, .string ⟨#[]⟩]))
        | 61 => some (Is (.agg #[.int .i64 4, .int .i64 yn, .string ⟨#[]⟩]))
        | 69 => some (Is (.bool true))
        | _ => none) (by kernel_rfl) (by kernel_rfl) ?_
      simp only [List.take_succ_cons, List.take_zero, List.drop_succ_cons, List.drop_zero]
      repeat (first | ((with_reducible refine wpM_calm ?_ ?_ ?_ ?_); exact rfl; exact rfl; exact rfl; intro K hK; go_big_quiet_op; go_big_quiet_on) | ((with_reducible refine wpM_skip ?_ ?_); exact rfl; simp only [Act.put, List.setIfInBounds_toArray, List.set_cons_succ, List.set_cons_zero]))
      refine wpM_exact rfl rfl rfl Tryd.func12 (by kernel_rfl) (by kernel_rfl) (fun w1 hw1 _ => H1.out _ _ w1 (hZ2.out.on hw1)) rfl (by simp only [Act.put, List.setIfInBounds_toArray, List.set_cons_succ, List.set_cons_zero]; rfl) ?_
      repeat (first | ((with_reducible refine wpM_calm ?_ ?_ ?_ ?_); exact rfl; exact rfl; exact rfl; intro K hK; go_big_quiet_op; go_big_quiet_on) | ((with_reducible refine wpM_skip ?_ ?_); exact rfl; simp only [Act.put, List.setIfInBounds_toArray, List.set_cons_succ, List.set_cons_zero]))
      refine wpM_exact rfl rfl rfl Tryd.func16 (by kernel_rfl) (by kernel_rfl) (fun w1 hw1 _ => H2.out _ _ w1 (hZ2.out.on hw1)) rfl (by simp only [Act.put, List.setIfInBounds_toArray, List.set_cons_succ, List.set_cons_zero]; rfl) ?_
      repeat (first | ((with_reducible refine wpM_calm ?_ ?_ ?_ ?_); exact rfl; exact rfl; exact rfl; intro K hK; go_big_quiet_op; go_big_quiet_on) | ((with_reducible refine wpM_skip ?_ ?_); exact rfl; simp only [Act.put, List.setIfInBounds_toArray, List.set_cons_succ, List.set_cons_zero]))
      refine wpM_exact rfl rfl rfl Tryd.func19 (by kernel_rfl) (by kernel_rfl) (fun w1 hw1 _ => H3.out _ _ w1 (hZ2.out.on hw1)) rfl (by simp only [Act.put, List.setIfInBounds_toArray, List.set_cons_succ, List.set_cons_zero]; rfl) ?_
      repeat (first | ((with_reducible refine wpM_calm ?_ ?_ ?_ ?_); exact rfl; exact rfl; exact rfl; intro K hK; go_big_quiet_op; go_big_quiet_on) | ((with_reducible refine wpM_skip ?_ ?_); exact rfl; simp only [Act.put, List.setIfInBounds_toArray, List.set_cons_succ, List.set_cons_zero]))
      refine wpM_exact rfl rfl rfl Tryd.func23 (by kernel_rfl) (by kernel_rfl) (fun w1 hw1 _ => H4.out _ _ w1 (hZ2.out.on hw1) (HLr.out.grown hw1)) rfl (by simp only [Act.put, List.setIfInBounds_toArray, List.set_cons_succ, List.set_cons_zero]; rfl) ?_
      repeat (first | ((with_reducible refine wpM_calm ?_ ?_ ?_ ?_); exact rfl; exact rfl; exact rfl; intro K hK; go_big_quiet_op; go_big_quiet_on) | ((with_reducible refine wpM_skip ?_ ?_); exact rfl; simp only [Act.put, List.setIfInBounds_toArray, List.set_cons_succ, List.set_cons_zero]))
      refine wpM_exact rfl rfl rfl Tryd.func8 (by kernel_rfl) (by kernel_rfl) (fun w1 hw1 _ => HA.out w1 (HLr.out.grown hw1)) rfl (by simp only [Act.put, List.setIfInBounds_toArray, List.set_cons_succ, List.set_cons_zero]; rfl) ?_
      repeat (first | ((with_reducible refine wpM_calm ?_ ?_ ?_ ?_); exact rfl; exact rfl; exact rfl; intro K hK; go_big_quiet_op; go_big_quiet_on) | ((with_reducible refine wpM_skip ?_ ?_); exact rfl; simp only [Act.put, List.setIfInBounds_toArray, List.set_cons_succ, List.set_cons_zero]))
      refine wpM_nil ?_
      intro w9 hb _
      replace hb0 := on hb0 hb
      clear hb D0 D1 D2
      go_wp2
      go_ret
      exact ⟨rfl, hb0⟩
set_option maxRecDepth 100000 in
set_option maxHeartbeats 8000000 in
theorem order_no (A : Option Addr) (n cap : Nat) (L : List Vl) (hm : ∀ v ∈ L, v.may) (hn2 : n ≤ 200) (hf : NoF L) (w : World) (hz : ValsR w A n L) (hR : Calls Tryd.prog 7 #[.slice A n cap, .int .i64 200] w fun e w' => e = .returned (.bool true) ∧ Below w.heap.size w w') (hL : Dig.Libs w) :
    Calls Tryd.prog 6 #[.slice A n cap] w (LawEnd w) := by
  obtain ⟨i0, hi, hz0, hz1, hz2⟩ := info_parts infoV
  have HA := Lib.hid (fun w1 hL => alive_c w1 hL)
  have HR := Lib.hid hR
  have HL := Lib.hid hL
  have HZ := Lib.hid hz
  have HLn := Lib.hid hz.1
  have HFit : Hid (∀ v ∈ L.reverse, v.fits) := Lib.hid (rev_mem hz.2.2.1)
  have hb0 := Below.refl w.heap.size w
  have hm2 := rev_mem hm
  have hg := nof_rev hf
  obtain ⟨⟨k1, n1⟩, e1⟩ : ∃ r, allV addD 0 L = r := ⟨_, rfl⟩
  obtain ⟨⟨k2, n2⟩, e2⟩ : ∃ r, allV addD 0 L.reverse = r := ⟨_, rfl⟩
  obtain ⟨⟨k3, n3⟩, e3⟩ : ∃ r, allV (bestD false) (startB false) L = r := ⟨_, rfl⟩
  obtain ⟨⟨k4, n4⟩, e4⟩ : ∃ r, allV (bestD true) (startB true) L = r := ⟨_, rfl⟩
  obtain ⟨c, e5⟩ : ∃ r, countF 0 L = r := ⟨_, rfl⟩
  have hways : ((k1 == 1) = true ∧ (k2 == 1) = true ∧ n1 = n2 ∧ k1 = k2) ∨ (k1 == 1) = false ∨ ((k1 == 1) = true ∧ (k2 == 1) = false) := by
    by_cases h1 : k1 = 1
    · by_cases h2 : k2 = 1
      · subst h1
        subst h2
        exact .inl ⟨rfl, rfl, sum_rev hf e1 e2, rfl⟩
      · exact .inr (.inr ⟨by simpa using h1, by simpa using h2⟩)
    · exact .inr (.inl (by simpa using h1))
  have HF := Lib.hid (fun w1 hz => rfault_no A n cap L hf w1 hz)
  have H1 := Lib.hid (fun w1 hz => sum_c A n cap L hm k1 n1 e1 w1 hz)
  have H2 := Lib.hid (fun A2 c2 w1 hz => sum_c A2 n c2 L.reverse hm2 k2 n2 e2 w1 hz)
  have H3 := Lib.hid (fun A2 c2 w1 hz => least_c A2 n c2 L.reverse hm2 k3 n3 ((allD_rev false L hf).trans e3) w1 hz)
  have H4 := Lib.hid (fun w1 hz => least_c A n cap L hm k3 n3 e3 w1 hz)
  have H5 := Lib.hid (fun A2 c2 w1 hz => most_c A2 n c2 L.reverse hm2 k4 n4 ((allD_rev true L hf).trans e4) w1 hz)
  have H6 := Lib.hid (fun w1 hz => most_c A n cap L hm k4 n4 e4 w1 hz)
  have H7 := Lib.hid (fun A2 c2 w1 hz => count_c 0 A2 n c2 L.reverse hm2 c ((count_rev 0 L).trans e5) w1 hz)
  have H8 := Lib.hid (fun w1 hz => count_c 0 A n cap L hm c e5 w1 hz)
  clear hR hL hz hm hm2 hf hg e1 e2 e3 e4 e5
  go_enter Tryd.func6, Tryd.ntmps6
  go_wp2_with fail
  refine HR.out.mono ?_
  rintro e w1 ⟨rfl, hb⟩
  replace hb0 := on hb0 hb
  replace HZ := Lib.hid (HZ.out.on hb)
  clear hb HR
  have hs1 := hb0.size
  go_wp2_with fail
  go_loopw [3, 14] (fun o i wr => ∃ k : Nat, k ≤ n ∧ i = .int .i64 k ∧ OwnV w1.heap.size o (L.reverse.take k) wr ∧ Below w.heap.size w wr ∧ Below w1.heap.size w1 wr) (fun _ i _ => n - (intOf i).toNat)
  case atStart => exact ⟨0, Nat.zero_le _, rfl, World.ownsRow_nil _ _ _ _, hb0, Below.refl _ _⟩
  case round =>
    clear hb0
    obtain ⟨k, hk, rfl, hrow, hb0, hbW⟩ := hrel
    have hlen : (L.reverse.take k).length ≤ k := by rw [List.length_take]; omega
    have hs0 := hb0.size
    have hsW := hbW.size
    by_cases hlt : k < n
    · obtain ⟨d, hd⟩ : ∃ d, n - 1 - k = d := ⟨_, rfl⟩
      have hd1 : (n : Int) - 1 - (k : Int) = (d : Int) := by omega
      have hdn : d < n := by omega
      obtain ⟨v, hv⟩ := HZ.out.get hdn
      obtain ⟨b, o, rfl, hb, c0, c1, c2⟩ := (HZ.out.on hbW).at hv
      have HN : Hid (L.reverse.take (k + 1) = L.reverse.take k ++ [v]) := Lib.hid (rev_at HLn.out hlt (by rw [hd]; exact hv))
      obtain ⟨vk, vn, vt⟩ := v
      dsimp only at c0 c1 c2
      clear hv hd
      generalize L.reverse.take k = R at *
      unfold OwnV at hrow
      go_wp2_with (at_builtin; refine wpList_append_own _ rfl _ _ 22 rfl w1.heap.size 27 i0 _ 3 32 Tryd.underlying22 hi hz0 hz1 hz2 rfl (by decide) _ _ _ rfl (hrow.alloc _) ⟨_, 0, none⟩ 1 1 [.int .i64 vk, .int .i64 vn, .string vt] rfl rfl (three_new (by simp) _ _ _ _) (by simp [Value.oneCell']) (by unfold maxLen; omega) (by omega) (by simp; omega) ?_)
      intro v1 w2 hown1 hg1 _
      have hb3 := own_below hrow hb0 hs1 hg1
      have hb4 : Below w1.heap.size w1 w2 := own_below hrow hbW (Nat.le_refl _) hg1
      have hrow1 := OwnV.snoc ⟨vk, vn, vt⟩ hown1
      clear hown1 hg1 hrow hb0 hbW c0 c1 c2 hs0 hsW hd1
      go_wp2
      go_roundw
      case rel => exact ⟨k + 1, by omega, by go_num, by rw [HN.out]; exact hrow1, hb3, hb4⟩
      case measure => simp [intOf]; omega
    · obtain rfl : k = n := by omega
      rw [List.take_of_length_le (by rw [List.length_reverse, HLn.out]; omega)] at hrow
      obtain ⟨A2, c2, rfl, hZ2⟩ := hrow.reads (n := k) (by rw [List.length_reverse]; exact HLn.out) (by omega) HFit.out
      replace HZ := Lib.hid (HZ.out.on hbW)
      replace hZ2 := Lib.hid hZ2
      clear hrow hbW hs0 hsW hlen
      go_wp2_with fail
      refine (HF.out _ HZ.out).mono ?_
      rintro e w2 ⟨rfl, rfl⟩
      clear HF
      go_wp2_with fail
      refine (H1.out _ HZ.out).mono ?_
      rintro e w3 ⟨rfl, hb⟩
      replace hb0 := on hb0 hb
      replace HZ := Lib.hid (HZ.out.on hb)
      replace hZ2 := Lib.hid (hZ2.out.on hb)
      clear hb H1
      go_wp2_with fail
      refine (H2.out _ _ _ hZ2.out).mono ?_
      rintro e w4 ⟨rfl, hb⟩
      replace hb0 := on hb0 hb
      replace HZ := Lib.hid (HZ.out.on hb)
      replace hZ2 := Lib.hid (hZ2.out.on hb)
      clear hb H2
      have hxa := (CellsAt.new w4 [.int .i64 k1, .int .i64 n1, .string ⟨#[]⟩] 27).on_alloc (.cells #[.int .i64 k2, .int .i64 n2, .string ⟨#[]⟩] 27)
      have hxb := CellsAt.new (w4.alloc (.cells #[.int .i64 k1, .int .i64 n1, .string ⟨#[]⟩] 27)) [.int .i64 k2, .int .i64 n2, .string ⟨#[]⟩] 27
      rw [show (w4.alloc (.cells #[.int .i64 k1, .int .i64 n1, .string ⟨#[]⟩] 27)).heap.size = w4.heap.size + 1 by simp] at hxb
      have hbx := below2 w4 (.cells #[.int .i64 k1, .int .i64 n1, .string ⟨#[]⟩] 27) (.cells #[.int .i64 k2, .int .i64 n2, .string ⟨#[]⟩] 27)
      replace hb0 := on hb0 hbx
      replace HZ := Lib.hid (HZ.out.on hbx)
      replace hZ2 := Lib.hid (hZ2.out.on hbx)
      clear hbx
      obtain ⟨x0, x1, x2, _⟩ := hxa.three
      obtain ⟨y0, y1, y2, _⟩ := hxb.three
      clear hxa hxb
      rcases hways with ⟨q1, q2, rfl, rfl⟩ | q1 | ⟨q1, q2⟩
      · go_wp2_with fail
        generalize World.alloc (World.alloc w4 _) _ = X at *
        clear x0 x1 x2 y0 y1 y2
        refine (H3.out _ _ _ hZ2.out).mono ?_
        rintro e w5 ⟨rfl, hb⟩
        replace hb0 := on hb0 hb
        replace HZ := Lib.hid (HZ.out.on hb)
        replace hZ2 := Lib.hid (hZ2.out.on hb)
        clear hb H3
        go_wp2_with fail
        refine (H4.out _ HZ.out).mono ?_
        rintro e w6 ⟨rfl, hb⟩
        replace hb0 := on hb0 hb
        replace HZ := Lib.hid (HZ.out.on hb)
        replace hZ2 := Lib.hid (hZ2.out.on hb)
        clear hb H4
        go_wp2_with fail
        refine (H5.out _ _ _ hZ2.out).mono ?_
        rintro e w7 ⟨rfl, hb⟩
        replace hb0 := on hb0 hb
        replace HZ := Lib.hid (HZ.out.on hb)
        replace hZ2 := Lib.hid (hZ2.out.on hb)
        clear hb H5
        go_wp2_with fail
        refine (H6.out _ HZ.out).mono ?_
        rintro e w8 ⟨rfl, hb⟩
        replace hb0 := on hb0 hb
        replace HZ := Lib.hid (HZ.out.on hb)
        replace hZ2 := Lib.hid (hZ2.out.on hb)
        clear hb H6
        go_wp2_with fail
        refine (H7.out _ _ _ hZ2.out).mono ?_
        rintro e w9 ⟨rfl, hb⟩
        replace hb0 := on hb0 hb
        replace HZ := Lib.hid (HZ.out.on hb)
        replace hZ2 := Lib.hid (hZ2.out.on hb)
        clear hb H7
        go_wp2_with fail
        refine (H8.out _ HZ.out).mono ?_
        rintro e w10 ⟨rfl, hb⟩
        replace hb0 := on hb0 hb
        replace HZ := Lib.hid (HZ.out.on hb)
        replace hZ2 := Lib.hid (hZ2.out.on hb)
        clear hb H8
        go_wp2_with fail
        refine (HA.out _ (HL.out.grown hb0)).mono ?_
        rintro e w11 ⟨rfl, hb⟩
        replace hb0 := on hb0 hb
        replace HZ := Lib.hid (HZ.out.on hb)
        replace hZ2 := Lib.hid (hZ2.out.on hb)
        clear hb HA
        go_wp2
        go_ret
        exact ⟨rfl, hb0⟩
      · go_wp2_with fail
        generalize World.alloc (World.alloc w4 _) _ = X at *
        clear x0 x1 x2 y0 y1 y2
        refine (H3.out _ _ _ hZ2.out).mono ?_
        rintro e w5 ⟨rfl, hb⟩
        replace hb0 := on hb0 hb
        replace HZ := Lib.hid (HZ.out.on hb)
        replace hZ2 := Lib.hid (hZ2.out.on hb)
        clear hb H3
        go_wp2_with fail
        refine (H4.out _ HZ.out).mono ?_
        rintro e w6 ⟨rfl, hb⟩
        replace hb0 := on hb0 hb
        replace HZ := Lib.hid (HZ.out.on hb)
        replace hZ2 := Lib.hid (hZ2.out.on hb)
        clear hb H4
        go_wp2_with fail
        refine (H5.out _ _ _ hZ2.out).mono ?_
        rintro e w7 ⟨rfl, hb⟩
        replace hb0 := on hb0 hb
        replace HZ := Lib.hid (HZ.out.on hb)
        replace hZ2 := Lib.hid (hZ2.out.on hb)
        clear hb H5
        go_wp2_with fail
        refine (H6.out _ HZ.out).mono ?_
        rintro e w8 ⟨rfl, hb⟩
        replace hb0 := on hb0 hb
        replace HZ := Lib.hid (HZ.out.on hb)
        replace hZ2 := Lib.hid (hZ2.out.on hb)
        clear hb H6
        go_wp2_with fail
        refine (H7.out _ _ _ hZ2.out).mono ?_
        rintro e w9 ⟨rfl, hb⟩
        replace hb0 := on hb0 hb
        replace HZ := Lib.hid (HZ.out.on hb)
        replace hZ2 := Lib.hid (hZ2.out.on hb)
        clear hb H7
        go_wp2_with fail
        refine (H8.out _ HZ.out).mono ?_
        rintro e w10 ⟨rfl, hb⟩
        replace hb0 := on hb0 hb
        replace HZ := Lib.hid (HZ.out.on hb)
        replace hZ2 := Lib.hid (hZ2.out.on hb)
        clear hb H8
        go_wp2_with fail
        refine (HA.out _ (HL.out.grown hb0)).mono ?_
        rintro e w11 ⟨rfl, hb⟩
        replace hb0 := on hb0 hb
        replace HZ := Lib.hid (HZ.out.on hb)
        replace hZ2 := Lib.hid (hZ2.out.on hb)
        clear hb HA
        go_wp2
        go_ret
        exact ⟨rfl, hb0⟩
      · go_wp2_with fail
        generalize World.alloc (World.alloc w4 _) _ = X at *
        clear x0 x1 x2 y0 y1 y2
        refine (H3.out _ _ _ hZ2.out).mono ?_
        rintro e w5 ⟨rfl, hb⟩
        replace hb0 := on hb0 hb
        replace HZ := Lib.hid (HZ.out.on hb)
        replace hZ2 := Lib.hid (hZ2.out.on hb)
        clear hb H3
        go_wp2_with fail
        refine (H4.out _ HZ.out).mono ?_
        rintro e w6 ⟨rfl, hb⟩
        replace hb0 := on hb0 hb
        replace HZ := Lib.hid (HZ.out.on hb)
        replace hZ2 := Lib.hid (hZ2.out.on hb)
        clear hb H4
        go_wp2_with fail
        refine (H5.out _ _ _ hZ2.out).mono ?_
        rintro e w7 ⟨rfl, hb⟩
        replace hb0 := on hb0 hb
        replace HZ := Lib.hid (HZ.out.on hb)
        replace hZ2 := Lib.hid (hZ2.out.on hb)
        clear hb H5
        go_wp2_with fail
        refine (H6.out _ HZ.out).mono ?_
        rintro e w8 ⟨rfl, hb⟩
        replace hb0 := on hb0 hb
        replace HZ := Lib.hid (HZ.out.on hb)
        replace hZ2 := Lib.hid (hZ2.out.on hb)
        clear hb H6
        go_wp2_with fail
        refine (H7.out _ _ _ hZ2.out).mono ?_
        rintro e w9 ⟨rfl, hb⟩
        replace hb0 := on hb0 hb
        replace HZ := Lib.hid (HZ.out.on hb)
        replace hZ2 := Lib.hid (hZ2.out.on hb)
        clear hb H7
        go_wp2_with fail
        refine (H8.out _ HZ.out).mono ?_
        rintro e w10 ⟨rfl, hb⟩
        replace hb0 := on hb0 hb
        replace HZ := Lib.hid (HZ.out.on hb)
        replace hZ2 := Lib.hid (hZ2.out.on hb)
        clear hb H8
        go_wp2_with fail
        refine (HA.out _ (HL.out.grown hb0)).mono ?_
        rintro e w11 ⟨rfl, hb⟩
        replace hb0 := on hb0 hb
        replace HZ := Lib.hid (HZ.out.on hb)
        replace hZ2 := Lib.hid (hZ2.out.on hb)
        clear hb HA
        go_wp2
        go_ret
        exact ⟨rfl, hb0⟩
theorem order_law (A : Option Addr) (n cap : Nat) (L : List Vl) (w : World) (h : n ≤ 200 → ValsR w A n L) (hL : Val.PLibs w) : Calls Tryd.prog 6 #[.slice A n cap] w (LawEnd w) := by
  rcases right_or A n cap L w h with ⟨hn2, hz, hm, hR⟩ | hR
  · rcases fault_ways L with hf | ⟨p, x, hf⟩
    · exact order_no A n cap L hm hn2 hf w hz hR hL.1
    · rcases fault_ways L.reverse with hg | ⟨q, y, hg⟩
      · exact absurd hf.2.1 (hg x (by simpa using List.mem_of_getElem? hf.1))
      · exact order_yes A n cap L hm hn2 p x hf q y hg w hz hR hL.1
  · exact order_out A n cap w hR hL.1
end Go.Proofs.YtcampdedhfhkbaaDoor.Fld

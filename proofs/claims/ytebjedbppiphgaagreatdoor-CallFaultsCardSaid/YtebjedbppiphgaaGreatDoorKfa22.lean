/- Values as truths, and what Xor answers: the program's and the reference's.
   The first fault and the numbers of a list: what the program's Numbers, the reference's Fault and Numbers answer, for every list of values that reads as one. -/
import Derived.Test.YtebjedbppiphgaaGreatDoorKfa21
import Derived.Test.YtebjedbppiphgaaGreatDoorKfa11
import Derived.Test.YtebjedbppiphgaaGreatDoorKfa09
import Derived.Laws.OwnMore
namespace Go.Proofs.YtebjedbppiphgaaGreatDoor.Fld
open Go.RowKit Kit Reg Dec Dig Val Txt
theorem truth_c (v : Vl) (hm : v.may) (k n : Int) (h : truthF v = (k, n)) (w : World) : Calls Tryz.prog 118 #[.agg #[.int .i64 v.k, .int .i64 v.n, .string v.t]] w (ValIs k n ⟨#[]⟩ w) := by
  rcases may_ways hm with rfl | ⟨x, rfl, _⟩ | ⟨t, rfl, _⟩ | rfl | rfl | ⟨x, rfl, _⟩
  · obtain ⟨rfl, rfl⟩ := Prod.mk.inj h
    exact astruth_e w
  · by_cases h0 : x = 0
    · subst h0
      obtain ⟨rfl, rfl⟩ := Prod.mk.inj h
      exact astruth_n0 w
    · obtain ⟨rfl, rfl⟩ := Prod.mk.inj (show ((3 : Int), (1 : Int)) = (k, n) by rw [← h]; simp [truthF, h0])
      exact astruth_n1 x h0 w
  · by_cases h1 : t = yesT
    · subst h1
      obtain ⟨rfl, rfl⟩ := Prod.mk.inj (show ((3 : Int), (1 : Int)) = (k, n) by rw [← h]; simp [truthF])
      exact astruth_tyes w
    · by_cases h2 : t = noT
      · subst h2
        obtain ⟨rfl, rfl⟩ := Prod.mk.inj (show ((3 : Int), (0 : Int)) = (k, n) from h)
        exact astruth_tno w
      · obtain ⟨rfl, rfl⟩ := Prod.mk.inj (show ((4 : Int), (2 : Int)) = (k, n) by rw [← h]; simp [truthF, h1, h2])
        exact astruth_telse t h1 h2 w
  · obtain ⟨rfl, rfl⟩ := Prod.mk.inj h
    exact astruth_b 0 w
  · obtain ⟨rfl, rfl⟩ := Prod.mk.inj h
    exact astruth_b 1 w
  · obtain ⟨rfl, rfl⟩ := Prod.mk.inj h
    exact astruth_f x w
set_option maxRecDepth 100000 in
set_option maxHeartbeats 4000000 in
theorem xor_c (A : Option Addr) (n cap : Nat) (L : List Vl) (hm : ∀ v ∈ L, v.may) (k0 n0 : Int) (hv : xorV false L = (k0, n0)) (w : World) (hz : ValsR w A n L) : Calls Tryz.prog 127 #[.slice A n cap] w (ValIs k0 n0 ⟨#[]⟩ w) := by
  have HM : Hid (∀ (k : Nat) (v : Vl), L[k]? = some v → v.may) := Lib.hid fun k v hv => hm v (List.mem_of_getElem? hv)
  have HV : Hid (xorV false (L.drop 0) = (k0, n0)) := Lib.hid hv
  have HT := Lib.hid (fun v hm k n h w1 => truth_c v hm k n h w1)
  have HTrue : Hid (∀ w1, Calls Tryz.prog 27 #[.bool true] w1 (ValIs 3 1 ⟨#[]⟩ w1)) := Lib.hid (fun w1 => bool_c true w1)
  have HBool := Lib.hid (fun b w1 => bool_c b w1)
  have hn9 := hz.2.1
  have HL := Lib.hid hz.1
  have hb0 := below1 w (.cells #[.int .i64 0, .int .i64 0, .string ⟨#[]⟩] 23)
  have HZ := Lib.hid (hz.on hb0)
  have hr := CellsAt.new w [.int .i64 0, .int .i64 0, .string ⟨#[]⟩] 23
  clear hz hm hv
  go_enter Tryz.func127, Tryz.ntmps127
  go_wp2_with fail
  generalize w.alloc (.cells #[.int .i64 0, .int .i64 0, .string ⟨#[]⟩] 23) = W at *
  go_loopw [3, 9] (fun o i wr => ∃ (k : Nat) (odd : Bool), k ≤ n ∧ i = .int .i64 k ∧ o = .bool odd ∧ Hid (xorV odd (L.drop k) = (k0, n0)) ∧ Below w.heap.size w wr ∧ Below W.heap.size W wr ∧ CellsAt wr w.heap.size [.int .i64 0, .int .i64 0, .string ⟨#[]⟩]) (fun _ i _ => n - (intOf i).toNat)
  case atStart => exact ⟨0, false, Nat.zero_le _, rfl, rfl, HV, hb0, Below.refl _ _, hr⟩
  case round =>
    clear hb0 hr HV
    obtain ⟨k, odd, hk, rfl, rfl, HV, hb0, hbW, hr⟩ := hrel
    by_cases hlt : k < n
    · obtain ⟨v, hv⟩ := HZ.out.get hlt
      obtain ⟨b, o, rfl, hb, c0, c1, c2⟩ := (HZ.out.on hbW).at hv
      have hmv := HM.out k v hv
      have hways : (∃ c, truthF v = (4, c) ∧ k0 = 4 ∧ n0 = c) ∨ (truthF v = (3, 0) ∧ xorV odd (L.drop (k + 1)) = (k0, n0)) ∨ (truthF v = (3, 1) ∧ xorV (!odd) (L.drop (k + 1)) = (k0, n0)) := by
        rcases truth_ways hmv with h | h | ⟨c, h⟩
        · exact .inr (.inl ⟨h, by rw [← xor_zero hv h]; exact HV.out⟩)
        · exact .inr (.inr ⟨h, by rw [← xor_one hv h]; exact HV.out⟩)
        · refine .inl ⟨c, h, ?_⟩
          have h2 := HV.out
          rw [xor_bad hv h] at h2
          obtain ⟨rfl, rfl⟩ := Prod.mk.inj h2
          exact ⟨rfl, rfl⟩
      have HT2 := Lib.hid (fun k n h w1 => HT.out v hmv k n h w1)
      obtain ⟨vk, vn, vt⟩ := v
      dsimp only at c0 c1 c2 HT2
      have hx := CellsAt.new wr [.int .i64 vk, .int .i64 vn, .string vt] 23
      obtain ⟨x0, x1, x2, _⟩ := hx.three
      have hbx := below1 wr (.cells #[.int .i64 vk, .int .i64 vn, .string vt] 23)
      replace hb0 := on_alloc hb0 (.cells #[.int .i64 vk, .int .i64 vn, .string vt] 23)
      replace hbW := on_alloc hbW (.cells #[.int .i64 vk, .int .i64 vn, .string vt] 23)
      replace hr := hr.on hbx
      clear hv HV HT hbx hmv
      rcases hways with ⟨c, ht, rfl, rfl⟩ | ⟨ht, HN⟩ | ⟨ht, HN⟩
      · have HT3 := Lib.hid (HT2.out 4 n0 ht)
        clear ht HT2
        go_wp2_with fail
        generalize wr.alloc (.cells #[.int .i64 vk, .int .i64 vn, .string vt] 23) = X at *
        refine (HT3.out _).mono ?_
        rintro e w1 ⟨rfl, hb1⟩
        replace hb0 := on hb0 hb1
        replace hr := hr.on hb1
        clear hb1 hbW HT3 hx x0 x1 x2
        have hx := CellsAt.new w1 [.int .i64 4, .int .i64 n0, .string ⟨#[]⟩] 23
        obtain ⟨x0, x1, x2, _⟩ := hx.three
        have hl := hr.1
        obtain ⟨p0, p1, p2, f0, f1, f2⟩ := hr.three
        obtain ⟨z0, z1, z2⟩ := three_set (u := .int .i64 4) (v := .int .i64 n0) (r := .string ⟨#[]⟩) p0 p1 p2
        replace z0 := kept_alloc (.cells #[.int .i64 4, .int .i64 n0, .string ⟨#[]⟩] 23) z0
        replace z1 := kept_alloc (.cells #[.int .i64 4, .int .i64 n0, .string ⟨#[]⟩] 23) z1
        replace z2 := kept_alloc (.cells #[.int .i64 4, .int .i64 n0, .string ⟨#[]⟩] 23) z2
        have hb5 := on_alloc (set3 hb0 (Nat.le_refl _) (.int .i64 4) (.int .i64 n0) (.string ⟨#[]⟩)) (.cells #[.int .i64 4, .int .i64 n0, .string ⟨#[]⟩] 23)
        clear hb0 hr
        go_wp2_with fail
        exact bodyPost_ret (v := .agg #[.int .i64 4, .int .i64 n0, .string ⟨#[]⟩]) (by simp [results, Tryz.results127, go_sem, z0, z1, z2]) rfl ⟨rfl, hb5⟩
      · have HT3 := Lib.hid (HT2.out 3 0 ht)
        replace HN := Lib.hid HN
        clear ht HT2
        go_wp2_with fail
        generalize wr.alloc (.cells #[.int .i64 vk, .int .i64 vn, .string vt] 23) = X at *
        refine (HT3.out _).mono ?_
        rintro e w1 ⟨rfl, hb1⟩
        replace hb0 := on_alloc (on hb0 hb1) (.cells #[.int .i64 3, .int .i64 0, .string ⟨#[]⟩] 23)
        replace hbW := on_alloc (on hbW hb1) (.cells #[.int .i64 3, .int .i64 0, .string ⟨#[]⟩] 23)
        replace hr := (hr.on hb1).on_alloc (.cells #[.int .i64 3, .int .i64 0, .string ⟨#[]⟩] 23)
        clear hb1 HT3 hx x0 x1 x2 c0 c1 c2
        have hx := CellsAt.new w1 [.int .i64 3, .int .i64 0, .string ⟨#[]⟩] 23
        obtain ⟨x0, x1, x2, _⟩ := hx.three
        go_wp2_with fail
        generalize w1.alloc (.cells #[.int .i64 3, .int .i64 0, .string ⟨#[]⟩] 23) = X1 at *
        have C0 := fun d os => cell_regrown x0 d os
        have C1 := fun d os => cell_regrown x1 d os
        have C2 := fun d os => cell_regrown x2 d os
        clear x0 x1 x2
        refine wp_region_mem 3 (fun d => match d with
          | 20 => some (Is (.agg #[.int .i64 3, .int .i64 1, .string ⟨#[]⟩]))
          | _ => none) (by kernel_rfl) (by kernel_rfl) ?_
        simp only [List.take_succ_cons, List.take_zero, List.drop_succ_cons, List.drop_zero]
        repeat (first | (refine wpM_calm rfl rfl rfl ?_; intro K hK; go_big_quiet_op; go_big_quiet_on) | (refine wpM_skip rfl ?_; simp only [Act.put, List.setIfInBounds_toArray, List.set_cons_succ, List.set_cons_zero]))
        refine wpM_exact rfl rfl rfl Tryz.func27 (by kernel_rfl) (by kernel_rfl) (fun w1 _ _ => HTrue.out w1) rfl (by simp only [Act.put, List.setIfInBounds_toArray, List.set_cons_succ, List.set_cons_zero]; rfl) ?_
        repeat (first | (refine wpM_calm rfl rfl rfl ?_; intro K hK; go_big_quiet_op; go_big_quiet_on) | (refine wpM_skip rfl ?_; simp only [Act.put, List.setIfInBounds_toArray, List.set_cons_succ, List.set_cons_zero]))
        refine wpM_nil ?_
        intro w4 hb4 _
        replace hb0 := on hb0 hb4
        replace hbW := on hbW hb4
        replace hr := hr.on hb4
        clear hb4 C0 C1 C2 hx
        go_wp2
        go_roundw
        case rel => exact ⟨k + 1, odd, by omega, by go_num, rfl, HN, hb0, hbW, hr⟩
        case measure => simp [intOf]; omega
      · have HT3 := Lib.hid (HT2.out 3 1 ht)
        replace HN := Lib.hid HN
        clear ht HT2
        go_wp2_with fail
        generalize wr.alloc (.cells #[.int .i64 vk, .int .i64 vn, .string vt] 23) = X at *
        refine (HT3.out _).mono ?_
        rintro e w1 ⟨rfl, hb1⟩
        replace hb0 := on_alloc (on hb0 hb1) (.cells #[.int .i64 3, .int .i64 1, .string ⟨#[]⟩] 23)
        replace hbW := on_alloc (on hbW hb1) (.cells #[.int .i64 3, .int .i64 1, .string ⟨#[]⟩] 23)
        replace hr := (hr.on hb1).on_alloc (.cells #[.int .i64 3, .int .i64 1, .string ⟨#[]⟩] 23)
        clear hb1 HT3 hx x0 x1 x2 c0 c1 c2
        have hx := CellsAt.new w1 [.int .i64 3, .int .i64 1, .string ⟨#[]⟩] 23
        obtain ⟨x0, x1, x2, _⟩ := hx.three
        go_wp2_with fail
        generalize w1.alloc (.cells #[.int .i64 3, .int .i64 1, .string ⟨#[]⟩] 23) = X1 at *
        have C0 := fun d os => cell_regrown x0 d os
        have C1 := fun d os => cell_regrown x1 d os
        have C2 := fun d os => cell_regrown x2 d os
        clear x0 x1 x2
        refine wp_region_mem 3 (fun d => match d with
          | 20 => some (Is (.agg #[.int .i64 3, .int .i64 1, .string ⟨#[]⟩]))
          | _ => none) (by kernel_rfl) (by kernel_rfl) ?_
        simp only [List.take_succ_cons, List.take_zero, List.drop_succ_cons, List.drop_zero]
        repeat (first | (refine wpM_calm rfl rfl rfl ?_; intro K hK; go_big_quiet_op; go_big_quiet_on) | (refine wpM_skip rfl ?_; simp only [Act.put, List.setIfInBounds_toArray, List.set_cons_succ, List.set_cons_zero]))
        refine wpM_exact rfl rfl rfl Tryz.func27 (by kernel_rfl) (by kernel_rfl) (fun w1 _ _ => HTrue.out w1) rfl (by simp only [Act.put, List.setIfInBounds_toArray, List.set_cons_succ, List.set_cons_zero]; rfl) ?_
        repeat (first | (refine wpM_calm rfl rfl rfl ?_; intro K hK; go_big_quiet_op; go_big_quiet_on) | (refine wpM_skip rfl ?_; simp only [Act.put, List.setIfInBounds_toArray, List.set_cons_succ, List.set_cons_zero]))
        refine wpM_nil ?_
        intro w4 hb4 _
        replace hb0 := on hb0 hb4
        replace hbW := on hbW hb4
        replace hr := hr.on hb4
        clear hb4 C0 C1 C2 hx
        go_wp2
        go_roundw
        case rel => exact ⟨k + 1, !odd, by omega, by go_num, rfl, HN, hb0, hbW, hr⟩
        case measure => simp [intOf]; omega
    · obtain rfl : k = n := by omega
      have h := HV.out
      rw [← HL.out, xor_end] at h
      cases odd
      · obtain ⟨rfl, rfl⟩ := Prod.mk.inj (show ((3 : Int), (0 : Int)) = (k0, n0) from h)
        have HB2 : Hid (∀ w1, Calls Tryz.prog 27 #[.bool false] w1 (ValIs 3 0 ⟨#[]⟩ w1)) := Lib.hid (HBool.out false)
        clear HV hbW HBool HTrue HT h
        go_wp2_with fail
        refine (HB2.out _).mono ?_
        rintro e w4 ⟨rfl, hb4⟩
        replace hb0 := on hb0 hb4
        replace hr := hr.on hb4
        clear hb4 HB2
        have hl9 := hr.1
        obtain ⟨p0, p1, p2, f0, f1, f2⟩ := hr.three
        obtain ⟨z0, z1, z2⟩ := three_set (u := .int .i64 3) (v := .int .i64 0) (r := .string ⟨#[]⟩) p0 p1 p2
        have hb5 := set3 hb0 (Nat.le_refl _) (.int .i64 3) (.int .i64 0) (.string ⟨#[]⟩)
        clear hb0 hr
        go_wp2_with fail
        exact bodyPost_ret (v := .agg #[.int .i64 3, .int .i64 0, .string ⟨#[]⟩]) (by simp [results, Tryz.results127, go_sem, z0, z1, z2]) rfl ⟨rfl, hb5⟩
      · obtain ⟨rfl, rfl⟩ := Prod.mk.inj (show ((3 : Int), (1 : Int)) = (k0, n0) from h)
        have HB2 : Hid (∀ w1, Calls Tryz.prog 27 #[.bool true] w1 (ValIs 3 1 ⟨#[]⟩ w1)) := Lib.hid (HBool.out true)
        clear HV hbW HBool HTrue HT h
        go_wp2_with fail
        refine (HB2.out _).mono ?_
        rintro e w4 ⟨rfl, hb4⟩
        replace hb0 := on hb0 hb4
        replace hr := hr.on hb4
        clear hb4 HB2
        have hl9 := hr.1
        obtain ⟨p0, p1, p2, f0, f1, f2⟩ := hr.three
        obtain ⟨z0, z1, z2⟩ := three_set (u := .int .i64 3) (v := .int .i64 1) (r := .string ⟨#[]⟩) p0 p1 p2
        have hb5 := set3 hb0 (Nat.le_refl _) (.int .i64 3) (.int .i64 1) (.string ⟨#[]⟩)
        clear hb0 hr
        go_wp2_with fail
        exact bodyPost_ret (v := .agg #[.int .i64 3, .int .i64 1, .string ⟨#[]⟩]) (by simp [results, Tryz.results127, go_sem, z0, z1, z2]) rfl ⟨rfl, hb5⟩
end Go.Proofs.YtebjedbppiphgaaGreatDoor.Fld
namespace Go.Proofs.YtebjedbppiphgaaGreatDoor.Fld
open Go.RowKit Kit Reg Dec Dig Val Txt
theorem infoI : (Tryz.prog.info? 2).map (fun i => (i.zero, i.size, i.bytes)) = some (some (.int .i64 0), 1, 8) := by kernel_rfl
theorem one_new {w : World} {g : Nat} (hg : g = w.heap.size) (x : Value) (ty : TypeId) : ∀ j u, [x][j]? = some u → (w.alloc (.cells #[x] ty)).cell? ((⟨g, 0, none⟩ : Addr).add j) = some u := by
  intro j u hj
  rw [show ((⟨g, 0, none⟩ : Addr).add j) = ⟨g, j, none⟩ by unfold Addr.add; split <;> simp_all, hg]
  exact ((CellsAt.new w [x] ty).2 j u hj).1
theorem one_cells (x : Value) (h : x.oneCell' = true) : ∀ u ∈ [x], u.oneCell' = true := fun u hu => by
  simp only [List.mem_singleton] at hu
  subst hu
  exact h
/-- what stays behind an append to a row of one's own -/
theorem own_below {B : Nat} {e : TypeId} {size : Nat} {w0 w w' : World} {v : Value} {n : Nat} {xs : List Value} {o : Obj} (h : w.ownsRow B e size v n xs) (hb : Below w0.heap.size w0 w) (hB : w0.heap.size ≤ B) (hg : (w.alloc o).grownBy w' v.ownBlock) : Below w0.heap.size w0 w' :=
  (on_alloc hb _).grown hg (by have := hb.size; simp; omega) (fun b e => Nat.le_trans hB (World.ownsRow.lt h b e).1)
theorem OwnI.snoc {B : Nat} {w : World} {v : Value} {xs : List Int} (x : Int) (h : w.ownsRow B 2 1 v (xs.length + 1) (xs.map (Value.int .i64) ++ [.int .i64 x])) : OwnI B v (xs ++ [x]) w := by
  unfold OwnI
  rw [List.map_append, List.length_append]
  exact h
/-- a list's numbers, and the empty value -/
def NumsEnd (xs : List Int) (w : World) (e : Ending) (w' : World) : Prop := ∃ A c, e = .returned (.tuple #[.slice A xs.length c, .agg #[.int .i64 0, .int .i64 0, .string ⟨#[]⟩]]) ∧ IntsR w' A xs ∧ Below w.heap.size w w'
/-- .. and where there is no memory there is none to spare -/
def NumsCap (xs : List Int) (w : World) (e : Ending) (w' : World) : Prop := ∃ A c, e = .returned (.tuple #[.slice A xs.length c, .agg #[.int .i64 0, .int .i64 0, .string ⟨#[]⟩]]) ∧ (IntsR w' A xs ∧ (A = none → c = 0)) ∧ Below w.heap.size w w'
theorem OwnI.none_ {B n c : Nat} {A : Option Addr} {xs : List Int} {w : World} (h : OwnI B (.slice A n c) xs w) (hA : A = none) : c = 0 := by
  rcases h.2 with ⟨h1, _⟩ | ⟨g, cap, cur, h1, _⟩
  · simp only [Value.slice.injEq] at h1
    exact h1.2.2
  · subst hA
    simp only [Value.slice.injEq] at h1
    cases h1.1
set_option maxRecDepth 100000 in
set_option maxHeartbeats 2000000 in
theorem numbers_cap (A : Option Addr) (n cap : Nat) (L : List Vl) (hf : NoF L) (w : World) (hz : ValsR w A n L) :
    Calls Tryz.prog 128 #[.slice A n cap] w (NumsCap (numsF L) w) := by
  obtain ⟨i0, hi, hz0, hz1, hz2⟩ := info_parts infoI
  have HZ := Lib.hid hz
  have HF := Lib.hid hf
  have hn9 := hz.2.1
  have hb0 := below1 w (.cells #[.int .i64 0, .int .i64 0, .string ⟨#[]⟩] 23)
  have hr := CellsAt.new w [.int .i64 0, .int .i64 0, .string ⟨#[]⟩] 23
  have hrow := World.ownsRow_lit (base := w.heap.size + 1) (e := 2) (size := 1) (w.alloc (.cells #[.int .i64 0, .int .i64 0, .string ⟨#[]⟩] 23)) #[] 0 (by simp) (by simp [maxLen]) rfl
  rw [show (w.alloc (.cells #[.int .i64 0, .int .i64 0, .string ⟨#[]⟩] 23)).heap.size = w.heap.size + 1 by simp] at hrow
  replace hb0 := on_alloc hb0 (.cells #[] 2)
  replace hr := hr.on_alloc (.cells #[] 2)
  clear hz hf
  go_enter Tryz.func128, Tryz.ntmps128
  go_wp2_with fail
  generalize (w.alloc (.cells #[.int .i64 0, .int .i64 0, .string ⟨#[]⟩] 23)).alloc (.cells #[] 2) = W at *
  go_loopw [4, 10] (fun o i wr => ∃ k : Nat, k ≤ n ∧ i = .int .i64 k ∧ OwnI (w.heap.size + 1) o (numsF (L.take k)) wr ∧ Below w.heap.size w wr ∧ CellsAt wr w.heap.size [.int .i64 0, .int .i64 0, .string ⟨#[]⟩]) (fun _ i _ => n - (intOf i).toNat)
  case atStart => exact ⟨0, Nat.zero_le _, rfl, hrow, hb0, hr⟩
  case round =>
    clear hb0 hr hrow
    obtain ⟨k, hk, rfl, hrow, hb0, hr⟩ := hrel
    have hlen : (numsF (L.take k)).length ≤ k := Nat.le_trans (numsF_len _) (by rw [List.length_take]; omega)
    by_cases hlt : k < n
    · obtain ⟨v, hv⟩ := HZ.out.get hlt
      obtain ⟨b, o, rfl, hb, c0, c1, c2⟩ := (HZ.out.on hb0).at hv
      have h4 := HF.out.at hv
      obtain ⟨vk, vn, vt⟩ := v
      dsimp only at c0 c1 c2 h4
      have q4 : (vk == 4) = false := by simpa using h4
      clear h4
      have HV := Lib.hid hv
      have hls : (wr.alloc (.cells #[.int .i64 vk, .int .i64 vn, .string vt] 23)).heap.size = wr.heap.size + 1 := by simp
      have hbx := below1 wr (.cells #[.int .i64 vk, .int .i64 vn, .string vt] 23)
      replace hb0 := on_alloc hb0 (.cells #[.int .i64 vk, .int .i64 vn, .string vt] 23)
      replace hr := hr.on_alloc (.cells #[.int .i64 vk, .int .i64 vn, .string vt] 23)
      replace hrow := hrow.on hbx
      have hx := CellsAt.new wr [.int .i64 vk, .int .i64 vn, .string vt] 23
      obtain ⟨x0, x1, x2, _⟩ := hx.three
      have hs0 := hb0.size
      clear hv hbx
      by_cases h1 : vk = 1
      · have HN : Hid (numsF (L.take (k + 1)) = numsF (L.take k) ++ [vn]) := Lib.hid (numsF_hit HV.out h1)
        subst h1
        clear HV
        generalize numsF (L.take k) = xs at *
        unfold OwnI at hrow
        go_wp2_with (at_builtin; refine wpList_append_own _ rfl _ _ 85 rfl (w.heap.size + 1) 2 i0 (.int .i64 0) 1 8 Tryz.underlying85 hi hz0 hz1 hz2 rfl (by decide) _ _ _ rfl (hrow.alloc _) ⟨_, 0, none⟩ 1 1 [.int .i64 vn] rfl rfl (one_new (by simp) _ _) (one_cells _ rfl) (by unfold maxLen; omega) (by omega) (by simp; omega) ?_)
        intro v1 w2 hown1 hg1 _
        have hb3 := own_below hrow hb0 (by omega) hg1
        have hrow1 := OwnI.snoc vn hown1
        replace hr := cells_grown (hr.on_alloc _) hg1 (own_far hrow (by omega))
        clear hown1 hg1 hrow hb0 c0 c1 c2 x0 x1 x2
        go_wp2
        go_roundw
        case rel => exact ⟨k + 1, by omega, by go_num, by rw [HN.out]; exact hrow1, hb3, hr⟩
        case measure => simp [intOf]; omega
      · have HN : Hid (numsF (L.take (k + 1)) = numsF (L.take k)) := Lib.hid (numsF_miss HV.out h1)
        have q1 : (vk == 1) = false := by simpa using h1
        clear HV
        go_wp2_with fail
        go_roundw
        case rel => exact ⟨k + 1, by omega, by go_num, by rw [HN.out]; exact hrow, hb0, hr⟩
        case measure => simp [intOf]; omega
    · obtain rfl : k = n := by omega
      rw [List.take_of_length_le (by rw [HZ.out.1]; omega)] at hrow hlen
      obtain ⟨A2, c2, rfl, hread⟩ := hrow.reads
      have hcap := hrow.none_
      obtain ⟨p0, p1, p2, f0, f1, f2⟩ := hr.three
      obtain ⟨z0, z1, z2⟩ := three_set (u := .int .i64 0) (v := .int .i64 0) (r := .string ⟨#[]⟩) p0 p1 p2
      have hb3 := set3 hb0 (Nat.le_refl _) (.int .i64 0) (.int .i64 0) (.string ⟨#[]⟩)
      have hl := hr.1
      have HR : Hid (IntsR (((wr.setCell ⟨w.heap.size, 0, none⟩ (.int .i64 0)).setCell ⟨w.heap.size, 1, none⟩ (.int .i64 0)).setCell ⟨w.heap.size, 2, none⟩ (.string ⟨#[]⟩)) A2 (numsF L)) := Lib.hid (by
        have h2 := hrow
        obtain ⟨A3, c3, e3, h3⟩ := OwnI.reads (show OwnI (w.heap.size + 1) (.slice A2 (numsF L).length c2) (numsF L) (((wr.setCell ⟨w.heap.size, 0, none⟩ (.int .i64 0)).setCell ⟨w.heap.size, 1, none⟩ (.int .i64 0)).setCell ⟨w.heap.size, 2, none⟩ (.string ⟨#[]⟩)) from
          ownsRow_setCell_below (ownsRow_setCell_below (ownsRow_setCell_below h2 (by simp) _) (by simp) _) (by simp) _)
        simp only [Value.slice.injEq] at e3
        obtain ⟨rfl, _, _⟩ := e3
        exact h3)
      clear hrow hread
      go_wp2_with fail
      exact bodyPost_ret (v := .tuple #[.slice A2 (numsF L).length c2, .agg #[.int .i64 0, .int .i64 0, .string ⟨#[]⟩]]) (by simp [results, Tryz.results128, go_sem, z0, z1, z2]) rfl ⟨A2, c2, rfl, ⟨HR.out, hcap⟩, hb3⟩
theorem numbers_no (A : Option Addr) (n cap : Nat) (L : List Vl) (hf : NoF L) (w : World) (hz : ValsR w A n L) :
    Calls Tryz.prog 128 #[.slice A n cap] w (NumsEnd (numsF L) w) :=
  (numbers_cap A n cap L hf w hz).mono fun _ _ ⟨A2, c2, he, hr, hb⟩ => ⟨A2, c2, he, hr.1, hb⟩
end Go.Proofs.YtebjedbppiphgaaGreatDoor.Fld

/- The reference's steps, what comes of all numbers, and what All answers.
   What the reference's All, Best and Mean, and the program's Mean answer. -/
import Derived.Test.YtbjomidkeignjaaGreatDoorGb
import Derived.Test.YtbjomidkeignjaaGreatDoorG3
import Derived.Test.YtbjomidkeignjaaGreatDoorG8
namespace Go.Proofs.YtbjomidkeignjaaGreatDoor.Fld
open Go.RowKit Kit Reg Dec Dig Val Txt

/-- the ways of reckoning -/
def StepR (step : Int → Int → Int × Bool) (way : Int) : Prop := ∀ (so x n : Int) (k : Bool), so ≤ 9223372036854775807 → x ≤ 9223372036854775807 → step so x = (n, k) → n ≤ 9223372036854775807 ∧
  ∀ w : World, Calls Tryz.prog 92 #[.int .i64 way, .int .i64 so, .int .i64 x] w (GotIs n k w)
set_option maxRecDepth 100000 in
set_option maxHeartbeats 1000000 in
theorem rstep_add (so x n : Int) (k : Bool) (h1 : so ≤ 9223372036854775807) (h2 : x ≤ 9223372036854775807) (h : addD so x = (n, k)) (w : World) : Calls Tryz.prog 92 #[.int .i64 0, .int .i64 so, .int .i64 x] w (GotIs n k w) := by
  have S := Lib.hid (fun w1 => radd_c so x h1 h2 n k h w1)
  clear h
  go_enter Tryz.func92, Tryz.ntmps92
  go_wp2_with fail
  refine (S.out _).mono ?_
  rintro e w1 ⟨rfl, hb1⟩
  obtain ⟨hc, hw⟩ := slot (cs := [.int .i64 0, .bool false]) (ty := 70) hb1
  obtain ⟨p0, p1, f0, f1⟩ := hc.two
  obtain ⟨e0, e1⟩ := two_set (u := .int .i64 n) (v := .bool k) p0 p1
  have hw3 := Lib.hid hw
  replace e0 := Lib.hid e0
  replace e1 := Lib.hid e1
  have hlt := hc.1
  clear hb1 hc hw
  go_wp2_with fail
  exact bodyPost_ret (v := .agg #[.int .i64 n, .bool k]) (by simp [results, Tryz.results92, go_sem, e0.out, e1.out]) rfl ⟨rfl, set2 hw3.out (Nat.le_refl _) _ _⟩
set_option maxRecDepth 100000 in
set_option maxHeartbeats 1000000 in
theorem rstep_mul (so x n : Int) (k : Bool) (h1 : so ≤ 9223372036854775807) (h2 : x ≤ 9223372036854775807) (h : mulD so x = (n, k)) (w : World) : Calls Tryz.prog 92 #[.int .i64 1, .int .i64 so, .int .i64 x] w (GotIs n k w) := by
  have S := Lib.hid (fun w1 => rmul_c so x h1 h2 n k h w1)
  clear h
  go_enter Tryz.func92, Tryz.ntmps92
  go_wp2_with fail
  refine (S.out _).mono ?_
  rintro e w1 ⟨rfl, hb1⟩
  obtain ⟨hc, hw⟩ := slot (cs := [.int .i64 0, .bool false]) (ty := 70) hb1
  obtain ⟨p0, p1, f0, f1⟩ := hc.two
  obtain ⟨e0, e1⟩ := two_set (u := .int .i64 n) (v := .bool k) p0 p1
  have hw3 := Lib.hid hw
  replace e0 := Lib.hid e0
  replace e1 := Lib.hid e1
  have hlt := hc.1
  clear hb1 hc hw
  go_wp2_with fail
  exact bodyPost_ret (v := .agg #[.int .i64 n, .bool k]) (by simp [results, Tryz.results92, go_sem, e0.out, e1.out]) rfl ⟨rfl, set2 hw3.out (Nat.le_refl _) _ _⟩
set_option maxRecDepth 100000 in
set_option maxHeartbeats 1000000 in
theorem rstep_sq (so x n : Int) (k : Bool) (h1 : so ≤ 9223372036854775807) (h2 : x ≤ 9223372036854775807) (h : sqD so x = (n, k)) (w : World) : Calls Tryz.prog 92 #[.int .i64 2, .int .i64 so, .int .i64 x] w (GotIs n k w) := by
  obtain ⟨⟨s, b⟩, hs⟩ : ∃ r, scaledD x x 10000 = r := ⟨_, rfl⟩
  have S := Lib.hid (fun w1 => rmul_c x x h2 h2 s b hs w1)
  obtain ⟨hs9, hs0⟩ := mulD_room hs
  unfold sqD at h
  rw [hs] at h
  have hb0 := below1 w (.cells #[.int .i64 0, .bool false] 70)
  have hr := CellsAt.new w [.int .i64 0, .bool false] 70
  cases b
  · obtain ⟨rfl, rfl⟩ := Prod.mk.inj h
    clear hs h hs0
    go_enter Tryz.func92, Tryz.ntmps92
    go_wp2_with fail
    generalize w.alloc (.cells #[.int .i64 0, .bool false] 70) = W at *
    refine (S.out _).mono ?_
    rintro e w1 ⟨rfl, hb1⟩
    replace hb0 := on hb0 hb1
    replace hr := hr.on hb1
    obtain ⟨p0, p1, f0, f1⟩ := hr.two
    obtain ⟨z0, z1⟩ := two_set (u := .int .i64 s) (v := .bool false) p0 p1
    replace z0 := kept_alloc (.cells #[.int .i64 s, .bool false] 70) z0
    replace z1 := kept_alloc (.cells #[.int .i64 s, .bool false] 70) z1
    have hx := CellsAt.new w1 [.int .i64 s, .bool false] 70
    obtain ⟨x0, x1, _⟩ := hx.two
    have hb5 := on_alloc (set2 hb0 (Nat.le_refl _) (.int .i64 s) (.bool false)) (.cells #[.int .i64 s, .bool false] 70)
    have hlt := hr.1
    clear hb1 hr hx hb0
    go_wp2_with fail
    exact bodyPost_ret (v := .agg #[.int .i64 s, .bool false]) (by simp [results, Tryz.results92, go_sem, z0, z1]) rfl ⟨rfl, hb5⟩
  · have HA := Lib.hid (fun w1 => radd_c so s h1 hs9 n k h w1)
    clear hs h hs0
    go_enter Tryz.func92, Tryz.ntmps92
    go_wp2_with fail
    generalize w.alloc (.cells #[.int .i64 0, .bool false] 70) = W at *
    refine (S.out _).mono ?_
    rintro e w1 ⟨rfl, hb1⟩
    replace hb0 := on_alloc (on hb0 hb1) (.cells #[.int .i64 s, .bool true] 70)
    replace hr := (hr.on hb1).on_alloc (.cells #[.int .i64 s, .bool true] 70)
    have hx := CellsAt.new w1 [.int .i64 s, .bool true] 70
    obtain ⟨x0, x1, _⟩ := hx.two
    clear hb1
    go_wp2_with fail
    generalize w1.alloc (.cells #[.int .i64 s, .bool true] 70) = W1 at *
    refine (HA.out _).mono ?_
    rintro e w2 ⟨rfl, hb2⟩
    replace hb0 := on hb0 hb2
    replace hr := hr.on hb2
    obtain ⟨p0, p1, f0, f1⟩ := hr.two
    obtain ⟨z0, z1⟩ := two_set (u := .int .i64 n) (v := .bool k) p0 p1
    have hb5 := set2 hb0 (Nat.le_refl _) (.int .i64 n) (.bool k)
    have hlt := hr.1
    clear hb2 hr hb0 hx x0 x1
    go_wp2_with fail
    exact bodyPost_ret (v := .agg #[.int .i64 n, .bool k]) (by simp [results, Tryz.results92, go_sem, z0, z1]) rfl ⟨rfl, hb5⟩
theorem stepR_add : StepR addD 0 := fun so x n k h1 h2 h => ⟨addD_room h, fun w => rstep_add so x n k h1 h2 h w⟩
theorem stepR_mul : StepR mulD 1 := fun so x n k h1 h2 h => ⟨(mulD_room h).1, fun w => rstep_mul so x n k h1 h2 h w⟩
theorem stepR_sq : StepR sqD 2 := fun so x n k h1 h2 h => ⟨sqD_room h, fun w => rstep_sq so x n k h1 h2 h w⟩
/-- where a way begins -/
def begW (way : Int) (xs : List Int) : Int := if way = 1 ∧ ¬ xs = [] then 10000 else 0
/-- the memory of Total: the result's block, and what came so far -/
def TotMem (w wr : World) (q : Int) (b : Bool) : Prop := Below w.heap.size w wr ∧ CellsAt wr w.heap.size [.int .i64 0, .bool false] ∧ CellsAt wr (w.heap.size + 1) [.int .i64 q, .bool b]
theorem TotMem.start (w : World) (n : Int) (b : Bool) : TotMem w ((w.alloc (.cells #[.int .i64 0, .bool false] 70)).alloc (.cells #[.int .i64 n, .bool b] 70)) n b := by
  refine ⟨below2 _ _ _, (CellsAt.new w [.int .i64 0, .bool false] _).on_alloc _, ?_⟩
  have h := CellsAt.new (w.alloc (.cells #[.int .i64 0, .bool false] 70)) [.int .i64 n, .bool b] 70
  rw [show (w.alloc (.cells #[.int .i64 0, .bool false] 70)).heap.size = w.heap.size + 1 by simp] at h
  exact h
theorem TotMem.on {w wr wr' : World} {q : Int} {b : Bool} (h : TotMem w wr q b) (hb : Below wr.heap.size wr wr') : TotMem w wr' q b :=
  ⟨Kit.on h.1 hb, h.2.1.on hb, h.2.2.on hb⟩
theorem TotMem.put {w wr : World} {q : Int} {b : Bool} (h : TotMem w wr q b) (n : Int) (k : Bool) : TotMem w (put2 wr (w.heap.size + 1) (.int .i64 n) (.bool k)) n k :=
  ⟨set2 h.1 (by omega) _ _, h.2.1.put2_far (by omega) _ _, h.2.2.put2 _ _⟩
set_option maxRecDepth 100000 in
set_option maxHeartbeats 4000000 in
theorem rtotal_c (step : Int → Int → Int × Bool) (way : Int) (_hw : way = 0 ∨ way = 1 ∨ way = 2) (HS : StepR step way) (A : Option Addr) (m cap : Nat) (xs : List Int) (hm : xs.length = m) (hfit : ∀ x ∈ xs, x ≤ 9223372036854775807) (hm9 : m ≤ 1000) (n0 : Int) (b0 : Bool) (hv : totalD step (begW way xs) xs = (n0, b0))
    (w : World) (hz : IntsR w A xs) : Calls Tryz.prog 71 #[.slice A m cap, .int .i64 way] w (GotIs n0 b0 w) := by
  have HZ := Lib.hid hz
  have HM := Lib.hid hm
  have HSt := Lib.hid HS
  have HV := Lib.hid hv
  have HFit : Hid (∀ (k : Nat) (x : Int), xs[k]? = some x → x ≤ 9223372036854775807) := Lib.hid fun k x hx => hfit x (List.mem_of_getElem? hx)
  obtain ⟨s0, hs0⟩ : ∃ s0, begW way xs = s0 := ⟨_, rfl⟩
  rw [hs0] at HV
  have hs9 : s0 ≤ 9223372036854775807 := by rw [← hs0]; unfold begW; split <;> omega
  have hways : (way = 1 ∧ 0 < m ∧ s0 = 10000) ∨ (¬ way = 1 ∧ s0 = 0) ∨ (way = 1 ∧ m = 0 ∧ s0 = 0) := by
    unfold begW at hs0
    by_cases h1 : way = 1
    · by_cases h2 : m = 0
      · have hx : xs = [] := List.eq_nil_of_length_eq_zero (by omega)
        rw [if_neg (fun e => e.2 hx)] at hs0
        exact .inr (.inr ⟨h1, h2, hs0.symm⟩)
      · have hx : ¬ xs = [] := fun e => h2 (by rw [← hm, e]; rfl)
        rw [if_pos ⟨h1, hx⟩] at hs0
        exact .inl ⟨h1, by omega, hs0.symm⟩
    · rw [if_neg (fun e => h1 e.1)] at hs0
      exact .inr (.inl ⟨h1, hs0.symm⟩)
  have HB : Hid (TotMem w ((w.alloc (.cells #[.int .i64 0, .bool false] 70)).alloc (.cells #[.int .i64 s0, .bool true] 70)) s0 true) := Lib.hid (TotMem.start w s0 true)
  clear hz hm HS hv hfit hs0
  have q1 : (way = 1 ∧ 0 < m ∧ s0 = 10000) ∨ ((way == 1) = false ∧ s0 = 0) ∨ (way = 1 ∧ m = 0 ∧ s0 = 0) := by
    rcases hways with h | ⟨h1, h2⟩ | h
    · exact .inl h
    · exact .inr (.inl ⟨by simpa using h1, h2⟩)
    · exact .inr (.inr h)
  clear hways
  have q2 : (way = 1 ∧ s0 = 10000 ∧ decide ((0 : Int) < (m : Int)) = true ∧ decide (0 < m) = true) ∨ ((way == 1) = false ∧ s0 = 0) ∨ (way = 1 ∧ s0 = 0 ∧ decide ((0 : Int) < (m : Int)) = false ∧ decide (0 < m) = false) := by
    rcases q1 with ⟨h1, h2, h3⟩ | h | ⟨h1, h2, h3⟩
    · exact .inl ⟨h1, h3, decide_eq_true (by omega), decide_eq_true (by omega)⟩
    · exact .inr (.inl h)
    · exact .inr (.inr ⟨h1, h3, decide_eq_false (by omega), decide_eq_false (by omega)⟩)
  clear q1
  rcases q2 with ⟨rfl, rfl, d1, d2⟩ | ⟨h1, rfl⟩ | ⟨rfl, rfl, d1, d2⟩
  all_goals
    go_enter Tryz.func71, Tryz.ntmps71
    go_wp2_with fail
    generalize hW : World.alloc (World.alloc w _) _ = W at *
    replace HSt := Lib.hid HSt.out
    go_loopw [6] (fun i wr => ∃ (j : Nat) (q : Int) (b : Bool), j ≤ m ∧ i = .int .i64 j ∧ q ≤ 9223372036854775807 ∧ Hid (if b = true then totalD step q (xs.drop j) = (n0, b0) else (q, b) = (n0, b0)) ∧ TotMem w wr q b) (fun i _ => m - (intOf i).toNat)
    case atStart => exact ⟨0, _, true, Nat.zero_le _, rfl, hs9, HV, HB.out⟩
    case round =>
      clear HB HV hs9 hW
      obtain ⟨j, q, b, hj, rfl, hq9, HV, hM⟩ := hrel
      obtain ⟨_, hc, hc2⟩ := id hM
      have l1 := hc.1
      have l2 := hc2.1
      obtain ⟨p0, p1, f0, f1⟩ := hc2.two
      obtain ⟨r0, r1, g0, g1⟩ := hc.two
      obtain ⟨z0, z1⟩ := two_set (u := .int .i64 q) (v := .bool b) r0 r1
      have hb0 := Lib.hid hM.1
      replace z0 := Lib.hid z0
      replace z1 := Lib.hid z1
      cases b
      · obtain ⟨rfl, rfl⟩ := Prod.mk.inj (show (q, false) = (n0, b0) from HV.out)
        have hcase : j < m ∨ ¬ j < m := by omega
        clear HV hM hc hc2 HSt HFit
        rcases hcase with hlt | hlt
        all_goals
          go_wp2
          exact bodyPost_ret (v := .agg #[.int .i64 q, .bool false]) (by simp [results, Tryz.results71, go_sem, z0.out, z1.out]) rfl ⟨rfl, set2 hb0.out (Nat.le_refl _) _ _⟩
      · replace HV : Hid (totalD step q (xs.drop j) = (n0, b0)) := Lib.hid (by simpa using HV.out)
        by_cases hlt : j < m
        · obtain ⟨x, hx⟩ : ∃ x, xs[j]? = some x := ⟨_, List.getElem?_eq_getElem (by rw [HM.out]; exact hlt)⟩
          obtain ⟨g, of, rfl, hg, c0⟩ := (HZ.out.on hb0.out).at hx
          have hx9 := HFit.out j x hx
          obtain ⟨⟨n2, b2⟩, hr2⟩ : ∃ r, step q x = r := ⟨_, rfl⟩
          obtain ⟨hn9, HC⟩ := HSt.out q x n2 b2 hq9 hx9 hr2
          have HV2 : Hid (if b2 = true then totalD step n2 (xs.drop (j + 1)) = (n0, b0) else (n2, b2) = (n0, b0)) := Lib.hid (by
            have h := HV.out
            cases b2
            · rw [total_no hx hr2] at h
              exact h
            · rw [total_yes hx hr2] at h
              exact h)
          replace HC := Lib.hid HC
          have hM2 := Lib.hid hM
          clear hr2 HV hc hc2 hM z0 z1 hb0 hx HSt HFit
          go_wp2_with fail
          have C0 := fun d os => cell_regrown p0 d os
          have C1 := fun d os => cell_regrown c0 d os
          clear p0 c0
          refine wp_region_mem 8 (fun d => match d with
            | 33 => some (Is (.agg #[.int .i64 n2, .bool b2]))
            | _ => none) (by kernel_rfl) (by kernel_rfl) ?_
          simp only [List.take_succ_cons, List.take_zero, List.drop_succ_cons, List.drop_zero]
          repeat (first | (refine wpM_calm rfl rfl rfl ?_; intro K hK; go_big_quiet_op; go_big_quiet_on) | (refine wpM_skip rfl ?_; simp only [Act.put, List.setIfInBounds_toArray, List.set_cons_succ, List.set_cons_zero]))
          refine wpM_exact rfl rfl rfl Tryz.func92 (by kernel_rfl) (by kernel_rfl) (fun w1 _ _ => HC.out w1) rfl (by simp only [Act.put, List.setIfInBounds_toArray, List.set_cons_succ, List.set_cons_zero]; rfl) ?_
          refine wpM_nil ?_
          intro w4 hb4 _
          have hM3 := hM2.out.on hb4
          obtain ⟨_, _, hc2⟩ := id hM3
          have l3 := hc2.1
          obtain ⟨p0, p1, f0, f1⟩ := hc2.two
          have hM4 := Lib.hid (hM3.put n2 b2)
          clear hM3 hM2 hb4 hc2 C0 C1
          go_wp2_with fail
          exact ⟨⟨j + 1, n2, b2, by omega, by go_num, hn9, HV2, hM4.out⟩, by simp [intOf]; omega⟩
        · obtain rfl : j = m := by omega
          have h := HV.out
          rw [← HM.out, total_end] at h
          obtain ⟨rfl, rfl⟩ := Prod.mk.inj h
          clear HV hM hc hc2 HSt HFit h
          go_wp2
          exact bodyPost_ret (v := .agg #[.int .i64 q, .bool true]) (by simp [results, Tryz.results71, go_sem, z0.out, z1.out]) rfl ⟨rfl, set2 hb0.out (Nat.le_refl _) _ _⟩
end Go.Proofs.YtbjomidkeignjaaGreatDoor.Fld
namespace Go.Proofs.YtbjomidkeignjaaGreatDoor.Fld
open Go.RowKit Kit Reg Dec Dig Val Txt

set_option maxRecDepth 100000 in
set_option maxHeartbeats 1000000 in
theorem rall_no (step : Int → Int → Int × Bool) (way : Int) (hw : way = 0 ∨ way = 1 ∨ way = 2) (HS : StepR step way) (start : Int) (hst : start = if way = 1 then 10000 else 0) (A : Option Addr) (n cap : Nat) (L : List Vl) (hf : NoF L) (hfit : ∀ x ∈ numsF L, x ≤ 9223372036854775807) (k0 n0 : Int)
    (hv : allD step start (numsF L) = (k0, n0)) (w : World) (hz : ValsR w A n L) : Calls Tryz.prog 48 #[.slice A n cap, .int .i64 way] w (ValIs k0 n0 ⟨#[]⟩ w) := by
  have hlen := Nat.le_trans (numsF_len L) (show L.length ≤ 1000 by rw [hz.1]; exact hz.2.1)
  obtain ⟨⟨x, b⟩, ht⟩ : ∃ r, totalD step (begW way (numsF L)) (numsF L) = r := ⟨_, rfl⟩
  have hg : gotV x b = (k0, n0) := by
    unfold allD at hv
    unfold begW at ht
    by_cases h0 : numsF L = []
    · rw [if_pos h0] at hv
      rw [if_neg (fun e => e.2 h0), h0] at ht
      obtain ⟨rfl, rfl⟩ := Prod.mk.inj ht
      rw [← hv]
      rfl
    · rw [if_neg h0] at hv
      by_cases h1 : way = 1
      · rw [if_pos ⟨h1, h0⟩] at ht
        rw [if_pos h1] at hst
        rw [hst, ht] at hv
        exact hv
      · rw [if_neg (fun e => h1 e.1)] at ht
        rw [if_neg h1] at hst
        rw [hst, ht] at hv
        exact hv
  have HF := Lib.hid (fun w1 hz => rfault_no A n cap L hf w1 hz)
  have HN := Lib.hid (fun w1 hz => rnumbers_no A n cap L hf w1 hz)
  have HT := Lib.hid (fun A2 c2 w1 hz => rtotal_c step way hw HS A2 (numsF L).length c2 (numsF L) rfl hfit hlen x b ht w1 hz)
  have HO := Lib.hid (fun w1 => rof_c x b k0 n0 hg w1)
  have hb0 := below1 w (.cells #[.int .i64 0, .int .i64 0, .string ⟨#[]⟩] 26)
  have HZ := Lib.hid (hz.on hb0)
  have hr := CellsAt.new w [.int .i64 0, .int .i64 0, .string ⟨#[]⟩] 26
  clear hz hf hfit hv ht hg HS hw hst
  go_enter Tryz.func48, Tryz.ntmps48
  go_wp2_with fail
  generalize w.alloc (.cells #[.int .i64 0, .int .i64 0, .string ⟨#[]⟩] 26) = W at *
  refine (HF.out _ HZ.out).mono ?_
  rintro e w1 ⟨rfl, rfl⟩
  clear HF
  go_wp2_with fail
  refine (HN.out _ HZ.out).mono ?_
  rintro e w1 ⟨A2, c2, rfl, hread, hb1⟩
  replace hb0 := on hb0 hb1
  replace hr := hr.on hb1
  replace hread := Lib.hid hread
  clear hb1 HN HZ
  generalize numsF L = xs at *
  generalize hm : xs.length = m at *
  go_wp2_with fail
  refine (HT.out _ _ _ hread.out).mono ?_
  rintro e w2 ⟨rfl, hb2⟩
  replace hb0 := on hb0 hb2
  replace hr := hr.on hb2
  clear hb2 HT hread hm
  go_wp2_with fail
  refine (HO.out _).mono ?_
  rintro e w4 ⟨rfl, hb4⟩
  replace hb0 := on hb0 hb4
  replace hr := hr.on hb4
  have hl2 := hr.1
  obtain ⟨p0, p1, p2, f0, f1, f2⟩ := hr.three
  obtain ⟨z0, z1, z2⟩ := three_set (u := .int .i64 k0) (v := .int .i64 n0) (r := .string ⟨#[]⟩) p0 p1 p2
  have hb5 := set3 hb0 (Nat.le_refl _) (.int .i64 k0) (.int .i64 n0) (.string ⟨#[]⟩)
  clear hb4 hb0 hr HO
  go_wp2_with fail
  exact bodyPost_ret (v := .agg #[.int .i64 k0, .int .i64 n0, .string ⟨#[]⟩]) (by simp [results, Tryz.results48, go_sem, z0, z1, z2]) rfl ⟨rfl, hb5⟩
set_option maxRecDepth 100000 in
set_option maxHeartbeats 1000000 in
theorem rall_yes (way : Int) (A : Option Addr) (n cap : Nat) (L : List Vl) (p : Nat) (x : Vl) (hf : FirstF L p x) (hx : x.may) (w : World) (hz : ValsR w A n L) : Calls Tryz.prog 48 #[.slice A n cap, .int .i64 way] w (ValIs 4 x.n ⟨#[]⟩ w) := by
  have HF := Lib.hid (fun w1 hz => rfault_yes A n cap L p x hf w1 hz)
  have hb0 := below1 w (.cells #[.int .i64 0, .int .i64 0, .string ⟨#[]⟩] 26)
  have hz2 := hz.on hb0
  have HZ := Lib.hid hz2
  obtain ⟨b, o, rfl, hblt, c0, c1, c2⟩ := hz2.at hf.1
  have hpn : p < n := by have := hf.lt; rw [hz.1] at this; exact this
  have hr := CellsAt.new w [.int .i64 0, .int .i64 0, .string ⟨#[]⟩] 26
  have e4 := may_fault hx hf.2.1
  have hn9 := hz.2.1
  obtain ⟨vk, vn, vt⟩ := x
  simp only [Vl.mk.injEq] at e4
  obtain ⟨rfl, _, rfl⟩ := e4
  dsimp only at c0 c1 c2
  have d1 : decide ((0 : Int) ≤ (p : Int)) = true := decide_eq_true (by omega)
  obtain ⟨p0, p1, p2, f0, f1, f2⟩ := hr.three
  obtain ⟨z0, z1, z2⟩ := three_set (u := .int .i64 4) (v := .int .i64 vn) (r := .string ⟨#[]⟩) p0 p1 p2
  have hb5 := set3 hb0 (Nat.le_refl _) (.int .i64 4) (.int .i64 vn) (.string ⟨#[]⟩)
  have hl := hr.1
  clear hz hf hx hz2 hr hb0
  go_enter Tryz.func48, Tryz.ntmps48
  go_wp2_with fail
  generalize w.alloc (.cells #[.int .i64 0, .int .i64 0, .string ⟨#[]⟩] 26) = W at *
  refine (HF.out _ HZ.out).mono ?_
  rintro e w1 ⟨rfl, rfl⟩
  clear HF HZ
  go_wp2_with fail
  exact bodyPost_ret (v := .agg #[.int .i64 4, .int .i64 vn, .string ⟨#[]⟩]) (by simp [results, Tryz.results48, go_sem, z0, z1, z2]) rfl ⟨rfl, hb5⟩
theorem rall_c (step : Int → Int → Int × Bool) (way : Int) (hw : way = 0 ∨ way = 1 ∨ way = 2) (HS : StepR step way) (start : Int) (hst : start = if way = 1 then 10000 else 0) (A : Option Addr) (n cap : Nat) (L : List Vl) (hm : ∀ v ∈ L, v.may) (k0 n0 : Int)
    (hv : allV step start L = (k0, n0)) (w : World) (hz : ValsR w A n L) : Calls Tryz.prog 48 #[.slice A n cap, .int .i64 way] w (ValIs k0 n0 ⟨#[]⟩ w) := by
  rcases fault_ways L with h | ⟨p, x, h⟩
  · rw [allV_no h] at hv
    exact rall_no step way hw HS start hst A n cap L h (fun x hx => (numsF_room hm hz.2.2.1 hx).2) k0 n0 hv w hz
  · rw [allV_yes h] at hv
    obtain ⟨rfl, rfl⟩ := Prod.mk.inj hv
    exact rall_yes way A n cap L p x h (hm x (List.mem_of_getElem? h.1)) w hz
theorem rsum_c (A : Option Addr) (n cap : Nat) (L : List Vl) (hm : ∀ v ∈ L, v.may) (k0 n0 : Int) (hv : allV addD 0 L = (k0, n0)) (w : World) (hz : ValsR w A n L) : Calls Tryz.prog 48 #[.slice A n cap, .int .i64 0] w (ValIs k0 n0 ⟨#[]⟩ w) :=
  rall_c addD 0 (.inl rfl) stepR_add 0 rfl A n cap L hm k0 n0 hv w hz
theorem rproduct_c (A : Option Addr) (n cap : Nat) (L : List Vl) (hm : ∀ v ∈ L, v.may) (k0 n0 : Int) (hv : allV mulD 10000 L = (k0, n0)) (w : World) (hz : ValsR w A n L) : Calls Tryz.prog 48 #[.slice A n cap, .int .i64 1] w (ValIs k0 n0 ⟨#[]⟩ w) :=
  rall_c mulD 1 (.inr (.inl rfl)) stepR_mul 10000 rfl A n cap L hm k0 n0 hv w hz
theorem rsquares_c (A : Option Addr) (n cap : Nat) (L : List Vl) (hm : ∀ v ∈ L, v.may) (k0 n0 : Int) (hv : allV sqD 0 L = (k0, n0)) (w : World) (hz : ValsR w A n L) : Calls Tryz.prog 48 #[.slice A n cap, .int .i64 2] w (ValIs k0 n0 ⟨#[]⟩ w) :=
  rall_c sqD 2 (.inr (.inr rfl)) stepR_sq 0 rfl A n cap L hm k0 n0 hv w hz
end Go.Proofs.YtbjomidkeignjaaGreatDoor.Fld

/- What the program's small functions on policies answer: a kind's word, how many words it has, whether a line may stand behind another, which kind a line is of, whether a grid may be that great, and whether a cell is in it.
   What the program's Wrong answers: the first line of a policy that is wrong, and why. -/
import Derived.Test.YtmlmanlcomfhbaaGreatDoorGm
import Derived.Test.YtmlmanlcomfhbaaGreatDoorGl
import Derived.Test.YtmlmanlcomfhbaaGreatDoorZoneWrong
import Derived.Test.YtmlmanlcomfhbaaGreatDoorGk
namespace Go.Proofs.YtmlmanlcomfhbaaGreatDoor.Pol
open Go.RowKit Kit

/-- a kind's word, and how many words are behind it -/
def kindW : Nat → List UInt8
  | 1 => gridW
  | 2 => zoneW
  | 3 => userW
  | 4 => grantW
  | _ => []
def kindN (k : Nat) : Nat := if k = 4 then 3 else 2
/-- the kind of a line -/
def kindF (x : List UInt8) (n : Nat) : Nat := if x = gridW ∧ n = 2 then 1 else if x = zoneW ∧ n = 2 then 2 else if x = userW ∧ n = 2 then 3 else if x = grantW ∧ n = 3 then 4 else 0
theorem kindF_le (x : List UInt8) (n : Nat) : kindF x n ≤ 4 := by
  unfold kindF
  repeat' split
  all_goals decide
theorem kindF_at (x : List UInt8) (n k : Nat) (h1 : 1 ≤ k) (h4 : k ≤ 4) : kindF x n = k ↔ x = kindW k ∧ n = kindN k := by
  have hk : k = 1 ∨ k = 2 ∨ k = 3 ∨ k = 4 := by omega
  unfold kindF
  by_cases hx1 : x = gridW
  · subst hx1
    rcases hk with rfl | rfl | rfl | rfl <;> simp [kindW, kindN, gridW, zoneW, userW, grantW] <;> split <;> simp_all
  · by_cases hx2 : x = zoneW
    · subst hx2
      rcases hk with rfl | rfl | rfl | rfl <;> simp [kindW, kindN, gridW, zoneW, userW, grantW] <;> split <;> simp_all
    · by_cases hx3 : x = userW
      · subst hx3
        rcases hk with rfl | rfl | rfl | rfl <;> simp [kindW, kindN, gridW, zoneW, userW, grantW] <;> split <;> simp_all
      · by_cases hx4 : x = grantW
        · subst hx4
          rcases hk with rfl | rfl | rfl | rfl <;> simp [kindW, kindN, gridW, zoneW, userW, grantW] <;> split <;> simp_all
        · rcases hk with rfl | rfl | rfl | rfl <;> simp [kindW, kindN, hx1, hx2, hx3, hx4]

set_option maxRecDepth 100000 in
set_option maxHeartbeats 1000000 in
theorem word_c (k : Nat) (h1 : 1 ≤ k) (h4 : k ≤ 4) (w : World) : Calls Tryz.prog 26 #[.int .i64 k] w fun e w' => e = .returned (.string ⟨(kindW k).toArray⟩) ∧ w = w' := by
  have hk : k = 1 ∨ k = 2 ∨ k = 3 ∨ k = 4 := by omega
  rcases hk with rfl | rfl | rfl | rfl
  all_goals
    go_enter Tryz.func26, Tryz.ntmps26
    go_wp2
    go_ret
    exact ⟨rfl, rfl⟩
set_option maxRecDepth 100000 in
set_option maxHeartbeats 1000000 in
theorem told_c (k : Nat) (h1 : 1 ≤ k) (h4 : k ≤ 4) (w : World) : Calls Tryz.prog 101 #[.int .i64 k] w fun e w' => e = .returned (.int .i64 (kindN k)) ∧ w = w' := by
  have hk : k = 1 ∨ k = 2 ∨ k = 3 ∨ k = 4 := by omega
  rcases hk with rfl | rfl | rfl | rfl
  all_goals
    go_enter Tryz.func101, Tryz.ntmps101
    go_wp2
    go_ret
    exact ⟨rfl, rfl⟩
set_option maxRecDepth 100000 in
set_option maxHeartbeats 1000000 in
theorem stand_c (k last : Nat) (h4 : k ≤ 4) (l4 : last ≤ 4) (w : World) : Calls Tryz.prog 56 #[.int .i64 k, .int .i64 last] w fun e w' => e = .returned (.bool (standP k last)) ∧ w = w' := by
  obtain ⟨b, hb⟩ : ∃ b, standP k last = b := ⟨_, rfl⟩
  rw [hb]
  have HB := Lib.hid hb
  clear hb
  by_cases h0 : last = 0
  · subst h0
    obtain ⟨c, hc⟩ : ∃ c, ((k : Int) == 1) = c := ⟨_, rfl⟩
    have hbc : c = b := by
      rw [← HB.out, ← hc, standP, if_pos rfl, Bool.eq_iff_iff, beq_iff_eq, decide_eq_true_eq]
      omega
    subst hbc
    clear HB
    cases c
    all_goals
      go_enter Tryz.func56, Tryz.ntmps56
      go_wp2
      go_ret
      exact ⟨rfl, rfl⟩
  · have hz : ((last : Int) == 0) = false := by rw [beq_eq_false_iff_ne]; omega
    by_cases h1 : 1 < k
    · have d1 : decide ((1 : Int) < (k : Int)) = true := decide_eq_true (by omega)
      by_cases h2 : last ≤ k
      · have d2 : decide ((last : Int) ≤ (k : Int)) = true := decide_eq_true (by omega)
        have hbc : b = true := by rw [← HB.out, standP, if_neg h0]; simp [h1, h2]
        subst hbc
        clear HB
        go_enter Tryz.func56, Tryz.ntmps56
        go_wp2
        go_ret
        exact ⟨rfl, rfl⟩
      · have d2 : decide ((last : Int) ≤ (k : Int)) = false := decide_eq_false (by omega)
        have hbc : b = false := by rw [← HB.out, standP, if_neg h0]; simp [h1, h2]
        subst hbc
        clear HB
        go_enter Tryz.func56, Tryz.ntmps56
        go_wp2
        go_ret
        exact ⟨rfl, rfl⟩
    · have d1 : decide ((1 : Int) < (k : Int)) = false := decide_eq_false (by omega)
      have hbc : b = false := by rw [← HB.out, standP, if_neg h0]; simp [h1]
      subst hbc
      clear HB
      go_enter Tryz.func56, Tryz.ntmps56
      go_wp2
      go_ret
      exact ⟨rfl, rfl⟩
set_option maxRecDepth 100000 in
set_option maxHeartbeats 2000000 in
theorem kind_c (x : ByteArray) (n : Nat) (w : World) : Calls Tryz.prog 78 #[.string x, .int .i64 n] w fun e w' => e = .returned (.int .i64 (kindF x.data.toList n)) ∧ w = w' := by
  have HW := Lib.hid word_c
  have HT := Lib.hid told_c
  have HK := Lib.hid (kindF_at x.data.toList n)
  have h5 := kindF_le x.data.toList n
  obtain ⟨K, hK⟩ : ∃ K, kindF x.data.toList n = K := ⟨_, rfl⟩
  rw [hK] at h5 HK
  rw [hK]
  clear hK
  go_enter Tryz.func78, Tryz.ntmps78
  go_wp2
  go_loop [5] (fun i => ∃ k : Nat, 1 ≤ k ∧ k ≤ 5 ∧ i = .int .i64 k ∧ (K = 0 ∨ k ≤ K)) (fun i => 5 - (intOf i).toNat)
  case atStart => exact ⟨1, Nat.le_refl _, by omega, rfl, by omega⟩
  case round =>
    obtain ⟨k, hk1, hk5, rfl, hkK⟩ := hrel
    by_cases hlt : k ≤ 4
    · have hK := HK.out k hk1 hlt
      have hW := Lib.hid (fun w1 => HW.out k hk1 hlt w1)
      have hT := Lib.hid (fun w1 => HT.out k hk1 hlt w1)
      obtain ⟨b1, hb1⟩ : ∃ b, ((kindW k) == x.toList) = b := ⟨_, rfl⟩
      obtain ⟨b2, hb2⟩ : ∃ b, (((kindN k : Nat) : Int) == (n : Int)) = b := ⟨_, rfl⟩
      have e1 : b1 = true ↔ x.data.toList = kindW k := by rw [← hb1, beq_iff_eq, Lib.toList_data]; exact eq_comm
      have e2 : b2 = true ↔ n = kindN k := by rw [← hb2, beq_iff_eq]; omega
      rw [← e1, ← e2] at hK
      have HKK := Lib.hid hK
      have hkn : kindN k ≤ 3 := by unfold kindN; split <;> omega
      clear hK e1 e2 HW HT HK
      generalize kindN k = m at *
      generalize kindW k = W at *
      cases b1 <;> cases b2
      case true.true =>
        obtain rfl : K = k := HKK.out.2 ⟨rfl, rfl⟩
        go_wp2_with (first | (go_at_call 26; refine (hW.out _).mono ?_; rintro e w' ⟨rfl, rfl⟩) | (go_at_call 101; refine (hT.out _).mono ?_; rintro e w' ⟨rfl, rfl⟩))
        go_ret
        exact ⟨rfl, rfl⟩
      all_goals
        have hne : K ≠ k := fun e => by simpa using HKK.out.1 e
        go_wp2_with (first | (go_at_call 26; refine (hW.out _).mono ?_; rintro e w' ⟨rfl, rfl⟩) | (go_at_call 101; refine (hT.out _).mono ?_; rintro e w' ⟨rfl, rfl⟩))
        go_round
        case rel => exact ⟨k + 1, by omega, by omega, by go_num, by omega⟩
        case measure => simp [intOf]; omega
    · obtain rfl : k = 5 := by omega
      obtain rfl : K = 0 := by omega
      go_wp2
      go_ret
      exact ⟨rfl, rfl⟩
/-- may a grid be that great? -/
theorem size_ways2 (r c : Int) : (sizeB r c = false ∧ (decide (1 ≤ r) = false ∨ (decide (1 ≤ r) = true ∧ decide (r ≤ 999) = false) ∨ (decide (1 ≤ r) = true ∧ decide (r ≤ 999) = true ∧ decide (1 ≤ c) = false) ∨
      (decide (1 ≤ r) = true ∧ decide (r ≤ 999) = true ∧ decide (1 ≤ c) = true ∧ decide (c ≤ 702) = false) ∨
      (decide (1 ≤ r) = true ∧ decide (r ≤ 999) = true ∧ decide (1 ≤ c) = true ∧ decide (c ≤ 702) = true ∧ (0 ≤ r * c ∧ r * c ≤ 701298) ∧ decide (r * c ≤ 400) = false))) ∨
    (sizeB r c = true ∧ decide (1 ≤ r) = true ∧ decide (r ≤ 999) = true ∧ decide (1 ≤ c) = true ∧ decide (c ≤ 702) = true ∧ (0 ≤ r * c ∧ r * c ≤ 701298) ∧ decide (r * c ≤ 400) = true) := by
  rcases size_ways r c with ⟨hs, h⟩ | ⟨hs, h1, h2, h3, h4, hm, h5⟩
  · refine .inl ⟨hs, ?_⟩
    simp only [decide_eq_true_eq, decide_eq_false_iff_not] at h ⊢
    rcases h with h | ⟨h1, h2⟩ | ⟨h1, h2, h3⟩ | ⟨h1, h2, h3, h4⟩ | ⟨h1, h2, h3, h4, hm, h5⟩
    · exact .inl (by omega)
    · exact .inr (.inl ⟨by omega, by omega⟩)
    · exact .inr (.inr (.inl ⟨by omega, by omega, by omega⟩))
    · exact .inr (.inr (.inr (.inl ⟨by omega, by omega, by omega, by omega⟩)))
    · exact .inr (.inr (.inr (.inr ⟨by omega, by omega, by omega, by omega, hm, by omega⟩)))
  · refine .inr ⟨hs, ?_⟩
    simp only [decide_eq_true_eq, decide_eq_false_iff_not] at h1 h2 h3 h4 h5 ⊢
    exact ⟨by omega, by omega, by omega, by omega, hm, by omega⟩
set_option maxRecDepth 100000 in
set_option maxHeartbeats 2000000 in
theorem grid_c (r c : Int) (w : World) : Calls Tryz.prog 17 #[.int .i64 r, .int .i64 c] w fun e w' => e = .returned (.bool (sizeB r c)) ∧ w = w' := by
  rcases size_ways2 r c with ⟨hs, hw⟩ | ⟨hs, d1, d2, d3, d4, ⟨dm0, dm1⟩, d5⟩
  · rw [hs]
    clear hs
    rcases hw with d1 | ⟨d1, d2⟩ | ⟨d1, d2, d3⟩ | ⟨d1, d2, d3, d4⟩ | ⟨d1, d2, d3, d4, ⟨dm0, dm1⟩, d5⟩
    all_goals
      go_enter Tryz.func17, Tryz.ntmps17
      go_wp2
      go_ret
      exact ⟨rfl, rfl⟩
  · rw [hs]
    clear hs
    go_enter Tryz.func17, Tryz.ntmps17
    go_wp2
    go_ret
    exact ⟨rfl, rfl⟩
set_option maxRecDepth 100000 in
set_option maxHeartbeats 2000000 in
theorem in_c (r c x y : Int) (v1 v2 v3 : Value) (w : World) :
    Calls Tryz.prog 10 #[.agg #[.int .i64 r, .int .i64 c, v1, v2, v3], .agg #[.int .i64 x, .int .i64 y]] w fun e w' => e = .returned (.bool (inB r c x y)) ∧ Below w.heap.size w w' := by
  have hb0 := below2 w (.cells #[.int .i64 r, .int .i64 c, v1, v2, v3] 26) (.cells #[.int .i64 x, .int .i64 y] 28)
  obtain ⟨b1, e1⟩ : ∃ b, decide (0 ≤ x) = b := ⟨_, rfl⟩
  obtain ⟨b2, e2⟩ : ∃ b, decide (x < r) = b := ⟨_, rfl⟩
  obtain ⟨b3, e3⟩ : ∃ b, decide (0 ≤ y) = b := ⟨_, rfl⟩
  obtain ⟨b4, e4⟩ : ∃ b, decide (y < c) = b := ⟨_, rfl⟩
  unfold inB
  rw [e1, e2, e3, e4]
  cases b1 <;> cases b2 <;> cases b3 <;> cases b4
  all_goals
    go_enter Tryz.func10, Tryz.ntmps10
    go_wp2
    go_ret
    exact ⟨rfl, hb0⟩
end Go.Proofs.YtmlmanlcomfhbaaGreatDoor.Pol
namespace Go.Proofs.YtmlmanlcomfhbaaGreatDoor.Pol
open Go.RowKit Kit
open Go.Proofs.YtmlmanlcomfhbaaGreatDoor.Zone (Zn ZonesR wrongF)
open Go.Proofs.YtmlmanlcomfhbaaGreatDoor.Right (Us Gr UsersR GrantsR wrongU wrongG)

set_option maxRecDepth 100000 in
set_option maxHeartbeats 4000000 in
theorem wrongP_c (p : Pl) (A1 : Option Addr) (n1 c1 : Nat) (A2 : Option Addr) (n2 c2 : Nat) (A3 : Option Addr) (n3 c3 : Nat) (hcap : n2 ≤ c2) (w : World) (hz : ZonesR w A1 n1 p.zs) (hu : UsersR w A2 n2 p.us) (hg : GrantsR w A3 n3 p.gs) :
    Calls Tryz.prog 8 #[.agg #[.int .i64 p.rows, .int .i64 p.cols, .slice A1 n1 c1, .slice A2 n2 c2, .slice A3 n3 c3]] w fun e w' => e = .returned (.tuple #[.int .i64 (wrongP p).1, .int .i64 (wrongP p).2]) ∧ Below w.heap.size w w' := by
  have hb0 := below1 w (.cells #[.int .i64 p.rows, .int .i64 p.cols, .slice A1 n1 c1, .slice A2 n2 c2, .slice A3 n3 c3] 26)
  have kp := CellsAt.new w [.int .i64 p.rows, .int .i64 p.cols, .slice A1 n1 c1, .slice A2 n2 c2, .slice A3 n3 c3] 26
  obtain ⟨za, ze, hze⟩ : ∃ za ze, wrongF 0 p.zs p.rows p.cols = (za, ze) := ⟨_, _, rfl⟩
  obtain ⟨ua, ue, hue⟩ : ∃ ua ue, wrongU p.us 0 p.us = (ua, ue) := ⟨_, _, rfl⟩
  obtain ⟨ga, ge, hge⟩ : ∃ ga ge, wrongG p.us 0 p.gs = (ga, ge) := ⟨_, _, rfl⟩
  have bz := wrongF_at p.zs 0 p.rows p.cols
  have bu := wrongU_at p.us p.us 0
  have bg := wrongG_at p.us p.gs 0
  rw [hze, hz.1] at bz
  rw [hue, hu.1] at bu
  rw [hge, hg.1] at bg
  simp only [Nat.zero_add] at bz bu bg
  obtain ⟨bz0, bz1⟩ := bz
  obtain ⟨bu0, bu1⟩ := bu
  obtain ⟨bg0, bg1⟩ := bg
  have mz := hz.2.1
  have mu := hu.2.1
  have mg := hg.2.1
  have lz := hz.1
  have lu := hu.1
  have HZ := Lib.hid hz
  have HU := Lib.hid hu
  have HG := Lib.hid hg
  have CS := Lib.hid (grid_c p.rows p.cols)
  have CZ := Lib.hid (fun w1 h => Zone.wrong_c A1 n1 c1 p.zs p.rows p.cols _ _ hze w1 h)
  have CU := Lib.hid (fun w1 h => Right.users_says A2 n2 c2 p.us w1 hcap h)
  have CG := Lib.hid (fun w1 h h2 => Right.grants_says A3 n3 c3 p.gs A2 n2 c2 p.us w1 h h2)
  rw [hue] at CU
  rw [hge] at CG
  rcases size_ways2 p.rows p.cols with ⟨hs, _⟩ | ⟨hs, _⟩
  · rw [show wrongP p = (1, 2) by unfold wrongP; rw [if_pos hs]]
    rw [hs] at CS
    obtain ⟨p0, p1, _⟩ := kp.five
    have lp := kp.1
    clear hze hue hge CZ CU CG hs hz hu hg HZ HU HG lz lu
    generalize p.rows = r at *
    generalize p.cols = c at *
    go_enter Tryz.func8, Tryz.ntmps8
    go_wp2_with (go_at_call 17; refine (CS.out _).mono ?_; rintro e w' ⟨rfl, rfl⟩)
    go_ret2
    exact ⟨rfl, hb0⟩
  · have hW := wrongP_ways p hs hze hue hge
    rw [lz, lu] at hW
    rw [hs] at CS
    have HW := Lib.hid hW
    clear hW
    clear hze hue hge hs hz hu hg lz lu
    generalize hP : wrongP p = P at *
    clear hP
    generalize p.rows = r at *
    generalize p.cols = c at *
    obtain ⟨p0, p1, p2, p3, p4, _⟩ := kp.five
    have lp := kp.1
    go_enter Tryz.func8, Tryz.ntmps8
    go_wp2_with (go_at_call 17; refine (CS.out _).mono ?_; rintro e w' ⟨rfl, rfl⟩)
    generalize w.alloc (.cells #[.int .i64 r, .int .i64 c, .slice A1 n1 c1, .slice A2 n2 c2, .slice A3 n3 c3] 26) = W at *
    refine (CZ.out _ (HZ.out.on hb0)).mono ?_
    rintro e w1 ⟨rfl, hb1⟩
    replace hb0 := on hb0 hb1
    replace kp := kp.on hb1
    clear hb1 p0 p1 p2 p3 p4 lp CZ CS
    obtain ⟨p0, p1, p2, p3, p4, _⟩ := kp.five
    have lp := kp.1
    rcases HW.out with ⟨hn, rfl⟩ | ⟨rfl, hn, rfl⟩ | ⟨rfl, rfl, hn, rfl⟩ | ⟨rfl, rfl, rfl, rfl⟩
    · clear HW CU CG HU HG HZ
      go_wp2
      go_ret2
      exact ⟨rfl, hb0⟩
    · clear HW
      go_wp2_with fail
      refine (CU.out _ (HU.out.on hb0)).mono ?_
      rintro e w2 ⟨rfl, hb2⟩
      replace hb0 := on hb0 hb2
      replace kp := kp.on hb2
      clear hb2 p0 p1 p2 p3 p4 lp CU CG HU HG HZ
      obtain ⟨p0, p1, p2, p3, p4, _⟩ := kp.five
      have lp := kp.1
      go_wp2
      go_ret2
      exact ⟨rfl, hb0⟩
    all_goals
      clear HW
      go_wp2_with fail
      refine (CU.out _ (HU.out.on hb0)).mono ?_
      rintro e w2 ⟨rfl, hb2⟩
      replace hb0 := on hb0 hb2
      replace kp := kp.on hb2
      clear hb2 p0 p1 p2 p3 p4 lp CU
      obtain ⟨p0, p1, p2, p3, p4, _⟩ := kp.five
      have lp := kp.1
      go_wp2_with fail
      refine (CG.out _ (HG.out.on hb0) (HU.out.on hb0)).mono ?_
      rintro e w3 ⟨rfl, hb3⟩
      replace hb0 := on hb0 hb3
      replace kp := kp.on hb3
      clear hb3 p0 p1 p2 p3 p4 lp CG HU HG HZ
      obtain ⟨p0, p1, p2, p3, p4, _⟩ := kp.five
      have lp := kp.1
      go_wp2
      go_ret2
      exact ⟨rfl, hb0⟩
end Go.Proofs.YtmlmanlcomfhbaaGreatDoor.Pol

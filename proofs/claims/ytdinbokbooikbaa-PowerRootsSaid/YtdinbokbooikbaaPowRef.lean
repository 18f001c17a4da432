/- What the reference's whole, Power, Fact on decimals answer: for every number of 64 bits. -/
import Derived.Test.YtdinbokbooikbaaPowFact
import Derived.Test.YtdinbokbooikbaaDecRefScale
namespace Go.Proofs.Ytdinbokbooikbaa.Pow
open Go.RowKit Kit Dec Reg

set_option maxRecDepth 100000 in
set_option maxHeartbeats 400000 in
theorem rwhole_c (x f t : Int) (x2 : x ≤ 9223372036854775807) (b : Bool) (hb : wholeIn x f t = b) (w : World) :
    Calls Try.prog 27 #[.int .i64 x, .int .i64 f, .int .i64 t] w fun e w' => e = .returned (.bool b) ∧ w = w' := by
  subst hb
  have M := Lib.hid (fun w1 => rmay_c x _ rfl w1)
  unfold wholeIn wholeD
  cases hm : mayD x
  · rw [hm] at M
    rw [Bool.false_and, Bool.false_and]
    go_enter Try.func27, Try.ntmps27
    go_wp2_with (go_at_call 26; refine (M.out _).mono ?_; rintro e w' ⟨rfl, rfl⟩)
    go_ret
    exact ⟨rfl, rfl⟩
  · rw [hm] at M
    have x1 : -9223372036854775807 ≤ x := by unfold mayD at hm; simpa using hm
    obtain ⟨⟨t1, t2⟩, t3, t4⟩ := cut_room x1 x2
    rw [Bool.true_and, unitsD, if_neg (by omega)]
    obtain ⟨d, hd⟩ : ∃ d, x.tdiv 10000 = d := ⟨_, rfl⟩
    obtain ⟨l, hl⟩ : ∃ d, x.tmod 10000 = d := ⟨_, rfl⟩
    rw [hd] at t1 t2 ⊢
    rw [hl] at t3 t4 ⊢
    clear hm
    by_cases h0 : l = 0
    · have z : (l == 0) = true := by simpa using h0
      rw [decide_eq_true h0, Bool.true_and]
      subst h0
      by_cases h : f ≤ d
      · rw [decide_eq_true h, Bool.true_and]
        go_enter Try.func27, Try.ntmps27
        go_wp2_with (go_at_call 26; refine (M.out _).mono ?_; rintro e w' ⟨rfl, rfl⟩)
        go_ret
        exact ⟨rfl, rfl⟩
      · rw [decide_eq_false h, Bool.false_and]
        go_enter Try.func27, Try.ntmps27
        go_wp2_with (go_at_call 26; refine (M.out _).mono ?_; rintro e w' ⟨rfl, rfl⟩)
        go_ret
        exact ⟨rfl, rfl⟩
    · have z : (l == 0) = false := by simpa using h0
      rw [decide_eq_false h0, Bool.false_and]
      go_enter Try.func27, Try.ntmps27
      go_wp2_with (go_at_call 26; refine (M.out _).mono ?_; rintro e w' ⟨rfl, rfl⟩)
      go_ret
      exact ⟨rfl, rfl⟩
set_option maxRecDepth 100000 in
set_option maxHeartbeats 400000 in
theorem rpower_none (x n : Int) (n2 : n ≤ 9223372036854775807) (h : mayD x = false ∨ wholeIn n (-1000) 1000 = false) (w : World) :
    Calls Try.prog 8 #[.int .i64 x, .int .i64 n] w (GotIs 0 false w) := by
  have M := Lib.hid (fun w1 => rmay_c x _ rfl w1)
  have B := Lib.hid (fun w1 => rwhole_c n (-1000) 1000 n2 _ rfl w1)
  cases hm : mayD x
  · rw [hm] at M
    clear h
    go_enter Try.func8, Try.ntmps8
    go_wp2_with (go_at_call 26; refine (M.out _).mono ?_; rintro e w' ⟨rfl, rfl⟩)
    exact bodyPost_ret (v := .agg #[.int .i64 0, .bool false]) (by simp [results, Try.results8, go_sem]) rfl ⟨rfl, below1 _ _⟩
  · rw [hm] at M h
    rw [show wholeIn n (-1000) 1000 = false by simpa using h] at B
    clear h
    go_enter Try.func8, Try.ntmps8
    go_wp2_with (first
      | (go_at_call 26; refine (M.out _).mono ?_; rintro e w' ⟨rfl, rfl⟩)
      | (go_at_call 27; refine (B.out _).mono ?_; rintro e w' ⟨rfl, rfl⟩))
    exact bodyPost_ret (v := .agg #[.int .i64 0, .bool false]) (by simp [results, Try.results8, go_sem]) rfl ⟨rfl, below1 _ _⟩
/-- the memory of a loop that multiplies: the result's block, and the product's -/
def MulMem (w wr : World) (q : Int) (b : Bool) : Prop := Below w.heap.size w wr ∧ CellsAt wr w.heap.size [.int .i64 0, .bool false] ∧ CellsAt wr (w.heap.size + 1) [.int .i64 q, .bool b]
theorem MulMem.start (w : World) (n : Int) (b : Bool) : MulMem w ((w.alloc (.cells #[.int .i64 0, .bool false] 25)).alloc (.cells #[.int .i64 n, .bool b] 25)) n b := by
  refine ⟨below2 _ _ _, (CellsAt.new w [.int .i64 0, .bool false] _).on_alloc _, ?_⟩
  have h := CellsAt.new (w.alloc (.cells #[.int .i64 0, .bool false] 25)) [.int .i64 n, .bool b] 25
  rw [show (w.alloc (.cells #[.int .i64 0, .bool false] 25)).heap.size = w.heap.size + 1 by simp] at h
  exact h
theorem MulMem.on {w wr wr' : World} {q : Int} {b : Bool} (h : MulMem w wr q b) (hb : Below wr.heap.size wr wr') : MulMem w wr' q b :=
  ⟨Kit.on h.1 hb, h.2.1.on hb, h.2.2.on hb⟩
theorem MulMem.put {w wr : World} {q : Int} {b : Bool} (h : MulMem w wr q b) (n : Int) (k : Bool) : MulMem w (put2 wr (w.heap.size + 1) (.int .i64 n) (.bool k)) n k :=
  ⟨set2 h.1 (by omega) _ _, h.2.1.put2_far (by omega) _ _, h.2.2.put2 _ _⟩
set_option maxRecDepth 100000 in
set_option maxHeartbeats 1000000 in
theorem rpower_up (x n : Int) (x2 : x ≤ 9223372036854775807) (n2 : n ≤ 9223372036854775807) (h : mayD x = true) (h2 : wholeIn n (-1000) 1000 = true) (h3 : 0 ≤ n) (y : Int) (k : Bool) (hy : mulsD x (unitsD n).natAbs = (y, k)) (w : World) :
    Calls Try.prog 8 #[.int .i64 x, .int .i64 n] w (GotIs y k w) := by
  have M := Lib.hid (fun w1 => rmay_c x _ h w1)
  have B := Lib.hid (fun w1 => rwhole_c n (-1000) 1000 n2 _ h2 w1)
  obtain ⟨e, e2, e3, _⟩ := wholeIn_yes h2
  obtain ⟨d, hd⟩ : ∃ d, unitsD n = d := ⟨_, rfl⟩
  rw [hd] at e e2 e3 hy
  have hdv : n.tdiv 10000 = d := by rw [← hd, unitsD, if_neg (by omega)]
  have A := Lib.hid (fun w1 => rabs_c d (by omega) (by omega) w1)
  obtain ⟨t, ht⟩ : ∃ t, d.natAbs = t := ⟨_, rfl⟩
  rw [ht] at A hy
  have ht2 : t ≤ 1000 := by omega
  have d1 : -9223372036854775808 ≤ d := by omega
  have d2 : d ≤ 9223372036854775807 := by omega
  have HN := Lib.hid hy
  clear hy e e2 e3 ht h h2 hd
  go_enter Try.func8, Try.ntmps8
  go_wp2_with (first
    | (go_at_call 26; refine (M.out _).mono ?_; rintro e w' ⟨rfl, rfl⟩)
    | (go_at_call 27; refine (B.out _).mono ?_; rintro e w' ⟨rfl, rfl⟩)
    | (go_at_call 28; refine (A.out _).mono ?_; rintro e w' ⟨rfl, rfl⟩))
  go_loopw [7] (fun i wr => ∃ (j : Nat) (q : Int) (b : Bool), j ≤ t ∧ i = .int .u64 j ∧ Hid (mulsD x j = (q, b)) ∧ MulMem w wr q b) (fun i _ => t - (intOf i).toNat)
  case atStart => exact ⟨0, 10000, true, by omega, rfl, Lib.hid rfl, MulMem.start w _ _⟩
  case round =>
    clear M B A hdv
    obtain ⟨j, q, b, hj, rfl, hq, hM⟩ := hrel
    have hr := mulsD_room x j
    rw [hq.out] at hr
    obtain ⟨q1, q2⟩ := hr
    dsimp only at q1 q2
    obtain ⟨_, hc, hc2⟩ := id hM
    have l1 := hc.1
    have l2 := hc2.1
    obtain ⟨p0, p1, f0, f1⟩ := hc2.two
    obtain ⟨r0, r1, g0, g1⟩ := hc.two
    obtain ⟨z0, z1⟩ := two_set (u := .int .i64 q) (v := .bool b) r0 r1
    have hb0 := Lib.hid hM.1
    replace z0 := Lib.hid z0
    replace z1 := Lib.hid z1
    by_cases hgo : j < t ∧ b = true
    · obtain ⟨hlt, rfl⟩ := hgo
      obtain ⟨⟨n2, b2⟩, hr2⟩ : ∃ r, scaledD q x 10000 = r := ⟨_, rfl⟩
      have M2 := Lib.hid (fun w1 => rmul_c q x q2 x2 _ _ hr2 w1)
      have hx := Lib.hid (mulsD_next hq.out hr2)
      have hM2 := Lib.hid hM
      clear hr2 hq hc hc2 hM HN z0 z1 hb0
      go_wp2_with fail
      refine (M2.out _).mono ?_
      rintro e w1 ⟨rfl, hb1⟩
      have hM3 := hM2.out.on hb1
      obtain ⟨_, _, hc2⟩ := id hM3
      have l3 := hc2.1
      obtain ⟨p0, p1, f0, f1⟩ := hc2.two
      have hM4 := Lib.hid (hM3.put n2 b2)
      clear hM3 hM2 hb1 hc2
      go_wp2_with fail
      exact ⟨⟨j + 1, n2, b2, by omega, by go_num, hx, hM4.out⟩, by simp [intOf]; omega⟩
    · have he : mulsD x t = (q, b) := by
        cases b
        · rw [mulsD_stop hj hq.out, mulsD_no hq.out]
        · have : j = t := by
            have : ¬ j < t := fun h => hgo ⟨h, rfl⟩
            omega
          rw [← this]; exact hq.out
      obtain ⟨rfl, rfl⟩ := Prod.mk.inj (HN.out.symm.trans he)
      have hcase : (j < t ∧ k = false) ∨ j = t := by
        cases k
        · rcases Nat.lt_or_ge j t with h | h
          · exact .inl ⟨h, rfl⟩
          · exact .inr (by omega)
        · exact .inr (by have : ¬ j < t := fun h => hgo ⟨h, rfl⟩; omega)
      clear he HN hq hgo hc hc2 hM
      rcases hcase with ⟨hlt, rfl⟩ | rfl
      · go_wp2
        exact bodyPost_ret (v := .agg #[.int .i64 y, .bool false]) (by simp [results, Try.results8, go_sem, z0.out, z1.out]) rfl ⟨rfl, set2 hb0.out (Nat.le_refl _) _ _⟩
      · go_wp2
        exact bodyPost_ret (v := .agg #[.int .i64 y, .bool k]) (by simp [results, Try.results8, go_sem, z0.out, z1.out]) rfl ⟨rfl, set2 hb0.out (Nat.le_refl _) _ _⟩
set_option maxRecDepth 100000 in
set_option maxHeartbeats 1000000 in
theorem rpower_down (x n : Int) (x2 : x ≤ 9223372036854775807) (n2 : n ≤ 9223372036854775807) (h : mayD x = true) (h2 : wholeIn n (-1000) 1000 = true) (h3 : n < 0) (p : Int) (b : Bool) (hp : mulsD x (unitsD n).natAbs = (p, b)) (y : Int) (k : Bool) (hy : (if b then scaledD 10000 10000 p else (0, false)) = (y, k)) (w : World) :
    Calls Try.prog 8 #[.int .i64 x, .int .i64 n] w (GotIs y k w) := by
  have M := Lib.hid (fun w1 => rmay_c x _ h w1)
  have B := Lib.hid (fun w1 => rwhole_c n (-1000) 1000 n2 _ h2 w1)
  obtain ⟨e, e2, e3, _⟩ := wholeIn_yes h2
  obtain ⟨d, hd⟩ : ∃ d, unitsD n = d := ⟨_, rfl⟩
  rw [hd] at e e2 e3 hp
  have hdv : n.tdiv 10000 = d := by rw [← hd, unitsD, if_neg (by omega)]
  have A := Lib.hid (fun w1 => rabs_c d (by omega) (by omega) w1)
  obtain ⟨t, ht⟩ : ∃ t, d.natAbs = t := ⟨_, rfl⟩
  rw [ht] at A hp
  have ht2 : t ≤ 1000 := by omega
  have d1 : -9223372036854775808 ≤ d := by omega
  have d2 : d ≤ 9223372036854775807 := by omega
  have HN := Lib.hid hp
  have HP := Lib.hid hp
  clear hp e e2 e3 ht h h2 hd
  go_enter Try.func8, Try.ntmps8
  go_wp2_with (first
    | (go_at_call 26; refine (M.out _).mono ?_; rintro e w' ⟨rfl, rfl⟩)
    | (go_at_call 27; refine (B.out _).mono ?_; rintro e w' ⟨rfl, rfl⟩)
    | (go_at_call 28; refine (A.out _).mono ?_; rintro e w' ⟨rfl, rfl⟩))
  go_loopw [7] (fun i wr => ∃ (j : Nat) (q : Int) (b : Bool), j ≤ t ∧ i = .int .u64 j ∧ Hid (mulsD x j = (q, b)) ∧ MulMem w wr q b) (fun i _ => t - (intOf i).toNat)
  case atStart => exact ⟨0, 10000, true, by omega, rfl, Lib.hid rfl, MulMem.start w _ _⟩
  case round =>
    clear M B A hdv
    obtain ⟨j, q, b, hj, rfl, hq, hM⟩ := hrel
    have hr := mulsD_room x j
    rw [hq.out] at hr
    obtain ⟨q1, q2⟩ := hr
    dsimp only at q1 q2
    obtain ⟨_, hc, hc2⟩ := id hM
    have l1 := hc.1
    have l2 := hc2.1
    obtain ⟨p0, p1, f0, f1⟩ := hc2.two
    obtain ⟨r0, r1, g0, g1⟩ := hc.two
    obtain ⟨z0, z1⟩ := two_set (u := .int .i64 q) (v := .bool b) r0 r1
    have hb0 := Lib.hid hM.1
    replace z0 := Lib.hid z0
    replace z1 := Lib.hid z1
    by_cases hgo : j < t ∧ b = true
    · obtain ⟨hlt, rfl⟩ := hgo
      obtain ⟨⟨n2, b2⟩, hr2⟩ : ∃ r, scaledD q x 10000 = r := ⟨_, rfl⟩
      have M2 := Lib.hid (fun w1 => rmul_c q x q2 x2 _ _ hr2 w1)
      have hx := Lib.hid (mulsD_next hq.out hr2)
      have hM2 := Lib.hid hM
      clear hr2 hq hc hc2 hM HN z0 z1 hb0
      go_wp2_with fail
      refine (M2.out _).mono ?_
      rintro e w1 ⟨rfl, hb1⟩
      have hM3 := hM2.out.on hb1
      obtain ⟨_, _, hc2⟩ := id hM3
      have l3 := hc2.1
      obtain ⟨p0, p1, f0, f1⟩ := hc2.two
      have hM4 := Lib.hid (hM3.put n2 b2)
      clear hM3 hM2 hb1 hc2
      go_wp2_with fail
      exact ⟨⟨j + 1, n2, b2, by omega, by go_num, hx, hM4.out⟩, by simp [intOf]; omega⟩
    · have he : mulsD x t = (q, b) := by
        cases b
        · rw [mulsD_stop hj hq.out, mulsD_no hq.out]
        · have : j = t := by
            have : ¬ j < t := fun h => hgo ⟨h, rfl⟩
            omega
          rw [← this]; exact hq.out
      obtain ⟨rfl, rfl⟩ := Prod.mk.inj (HN.out.symm.trans he)
      have hcase : (j < t ∧ b = false) ∨ j = t := by
        cases b
        · rcases Nat.lt_or_ge j t with h | h
          · exact .inl ⟨h, rfl⟩
          · exact .inr (by omega)
        · exact .inr (by have : ¬ j < t := fun h => hgo ⟨h, rfl⟩; omega)
      clear he HN hq hgo hc2
      cases b
      · obtain rfl := mulsD_no HP.out
        obtain ⟨rfl, rfl⟩ := Prod.mk.inj hy
        clear hy HP hc hM
        rcases hcase with ⟨hlt, _⟩ | rfl
        · go_wp2
          exact bodyPost_ret (v := .agg #[.int .i64 0, .bool false]) (by simp [results, Try.results8, go_sem, z0.out, z1.out]) rfl ⟨rfl, set2 hb0.out (Nat.le_refl _) _ _⟩
        · go_wp2
          exact bodyPost_ret (v := .agg #[.int .i64 0, .bool false]) (by simp [results, Try.results8, go_sem, z0.out, z1.out]) rfl ⟨rfl, set2 hb0.out (Nat.le_refl _) _ _⟩
      · obtain rfl : j = t := by simpa using hcase
        have hy2 : scaledD 10000 10000 p = (y, k) := hy
        have D := Lib.hid (fun w1 => rdiv_c 10000 p (by omega) q2 y k hy2 w1)
        clear hy hy2 hcase z0 z1 HP hb0 hc
        go_wp2_with fail
        refine (D.out _).mono ?_
        rintro e w1 ⟨rfl, hb1⟩
        have hM3 := hM.on hb1
        obtain ⟨hb0, hc, _⟩ := id hM3
        have l3 := hc.1
        obtain ⟨r0, r1, g0, g1⟩ := hc.two
        obtain ⟨z0, z1⟩ := two_set (u := .int .i64 y) (v := .bool k) r0 r1
        replace z0 := Lib.hid z0
        replace z1 := Lib.hid z1
        replace hb0 := Lib.hid hb0
        clear hM3 hM hb1 hc
        go_wp2_with fail
        exact bodyPost_ret (v := .agg #[.int .i64 y, .bool k]) (by simp [results, Try.results8, go_sem, z0.out, z1.out]) rfl ⟨rfl, set2 hb0.out (Nat.le_refl _) _ _⟩
theorem rpower_c (x n : Int) (x2 : x ≤ 9223372036854775807) (n2 : n ≤ 9223372036854775807) (y : Int) (k : Bool) (hy : powerD x n = (y, k)) (w : World) :
    Calls Try.prog 8 #[.int .i64 x, .int .i64 n] w (GotIs y k w) := by
  cases h1 : mayD x
  · obtain ⟨rfl, rfl⟩ := Prod.mk.inj (hy.symm.trans (powerD_none (.inl h1)))
    exact rpower_none x n n2 (.inl h1) w
  cases h2 : wholeIn n (-1000) 1000
  · obtain ⟨rfl, rfl⟩ := Prod.mk.inj (hy.symm.trans (powerD_none (.inr h2)))
    exact rpower_none x n n2 (.inr h2) w
  by_cases h3 : 0 ≤ n
  · rw [powerD_up h1 h2 h3] at hy
    exact rpower_up x n x2 n2 h1 h2 h3 y k hy w
  · rw [powerD_down h1 h2 (by omega)] at hy
    exact rpower_down x n x2 n2 h1 h2 (by omega) _ _ rfl y k hy w
end Go.Proofs.Ytdinbokbooikbaa.Pow

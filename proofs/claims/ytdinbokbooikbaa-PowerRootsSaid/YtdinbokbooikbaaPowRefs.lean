/- What the reference's Fits, Gcd, Lcm, Fact on decimals answer: for every number of 64 bits. -/
import Derived.Test.YtdinbokbooikbaaPowRef
namespace Go.Proofs.Ytdinbokbooikbaa.Pow
open Go.RowKit Kit Dec Reg

set_option maxRecDepth 100000 in
set_option maxHeartbeats 1000000 in
theorem fits_c (r x : Nat) (hr : r ≤ 9223372036854775807) (hx : x ≤ 9223372036854775807) (b : Bool) (hb : decide (r * r ≤ x * 10000) = b) (w : World) :
    Calls Try.prog 11 #[.int .i64 r, .int .i64 x] w fun e w' => e = .returned (.bool b) ∧ Below w.heap.size w w' := by
  subst hb
  have M := Lib.hid (fun w1 => rtimes_c r r _ _ (by omega) (by omega) rfl rfl w1)
  have M2 : Hid (∀ w1, Calls Try.prog 16 #[.int .u64 x, .int .u64 10000] w1 fun e w' => e = .returned (.agg #[.int .u64 ((x * 10000 / 18446744073709551616 : Nat) : Int), .int .u64 ((x * 10000 % 18446744073709551616 : Nat) : Int)]) ∧ Below w1.heap.size w1 w') := Lib.hid (fun w1 => rtimes_c x 10000 _ _ (by omega) (by omega) rfl rfl w1)
  have e1 := halves (r * r)
  have e2 := halves (x * 10000)
  have l1 : r * r % 18446744073709551616 < 18446744073709551616 := Nat.mod_lt _ (by omega)
  have l2 : x * 10000 % 18446744073709551616 < 18446744073709551616 := Nat.mod_lt _ (by omega)
  rw [e1, e2]
  generalize r * r / 18446744073709551616 = H at *
  generalize r * r % 18446744073709551616 = L at *
  generalize x * 10000 / 18446744073709551616 = I at *
  generalize x * 10000 % 18446744073709551616 = J at *
  clear e1 e2
  have hcase : (H < I ∧ decide (H * 18446744073709551616 + L ≤ I * 18446744073709551616 + J) = true) ∨ (I < H ∧ decide (H * 18446744073709551616 + L ≤ I * 18446744073709551616 + J) = false) ∨
      (H = I ∧ decide (H * 18446744073709551616 + L ≤ I * 18446744073709551616 + J) = decide (L ≤ J)) := by
    rcases Nat.lt_trichotomy H I with h | h | h
    · exact .inl ⟨h, decide_eq_true (by omega)⟩
    · exact .inr (.inr ⟨h, decide_eq_decide.2 (by omega)⟩)
    · exact .inr (.inl ⟨h, decide_eq_false (by omega)⟩)
  clear l1 l2
  obtain ⟨bb, hbb⟩ : ∃ bb, decide (H * 18446744073709551616 + L ≤ I * 18446744073709551616 + J) = bb := ⟨_, rfl⟩
  rw [hbb] at hcase ⊢
  clear hbb
  go_enter Try.func11, Try.ntmps11
  go_wp2_with fail
  refine (M.out _).mono ?_
  rintro e w1 ⟨rfl, hb1⟩
  have hA := CellsAt.new w1 [.int .u64 H, .int .u64 L] 33
  have hb := on_alloc hb1 (.cells #[.int .u64 H, .int .u64 L] 33)
  clear hb1
  have hlt := hA.1
  go_wp2_with fail
  refine (M2.out _).mono ?_
  rintro e w2 ⟨rfl, hb2⟩
  have hB := CellsAt.new w2 [.int .u64 I, .int .u64 J] 33
  replace hA := (hA.on hb2).on_alloc (.cells #[.int .u64 I, .int .u64 J] 33)
  replace hb := Lib.hid (on_alloc (Kit.on hb hb2) (.cells #[.int .u64 I, .int .u64 J] 33))
  obtain ⟨a0, a1, _, _⟩ := hA.two
  obtain ⟨b0, b1, _, _⟩ := hB.two
  clear hb2 M M2
  have k1 := hA.1
  have k2 := hB.1
  clear hA hB
  rcases hcase with ⟨h, rfl⟩ | ⟨h, rfl⟩ | ⟨rfl, rfl⟩
  · go_wp2_with fail
    go_ret
    exact ⟨rfl, hb.out⟩
  · have t1 : decide (H < I) = false := decide_eq_false (by omega)
    have t2 : (H == I) = false := by simp; omega
    have t3 : ((H : Int) == (I : Int)) = false := by simp; omega
    go_wp2_with fail
    go_ret
    exact ⟨rfl, hb.out⟩
  · go_wp2_with fail
    go_ret
    exact ⟨rfl, hb.out⟩
set_option maxRecDepth 100000 in
set_option maxHeartbeats 400000 in
theorem rgcd_none (a b : Int) (a2 : a ≤ 9223372036854775807) (b2 : b ≤ 9223372036854775807) (h : cntD a = false ∨ cntD b = false) (w : World) :
    Calls Try.prog 14 #[.int .i64 a, .int .i64 b] w (GotIs 0 false w) := by
  have ea : wholeIn a 0 9223372036854775807 = cntD a := (cntD_in a).resolve_right (by omega)
  have eb : wholeIn b 0 9223372036854775807 = cntD b := (cntD_in b).resolve_right (by omega)
  have C := Lib.hid (fun w1 => rwhole_c a 0 9223372036854775807 a2 _ ea w1)
  have C2 := Lib.hid (fun w1 => rwhole_c b 0 9223372036854775807 b2 _ eb w1)
  clear ea eb
  cases ha : cntD a
  · rw [ha] at C
    clear h
    go_enter Try.func14, Try.ntmps14
    go_wp2_with (go_at_call 27; (with_reducible refine (C.out _).mono ?_); rintro e w' ⟨rfl, rfl⟩)
    exact bodyPost_ret (v := .agg #[.int .i64 0, .bool false]) (by simp [results, Try.results14, go_sem]) rfl ⟨rfl, below1 _ _⟩
  · rw [ha] at C h
    rw [show cntD b = false by simpa using h] at C2
    clear h
    go_enter Try.func14, Try.ntmps14
    go_wp2_with (go_at_call 27; first | ((with_reducible refine (C.out _).mono ?_); rintro e w' ⟨rfl, rfl⟩) | ((with_reducible refine (C2.out _).mono ?_); rintro e w' ⟨rfl, rfl⟩))
    exact bodyPost_ret (v := .agg #[.int .i64 0, .bool false]) (by simp [results, Try.results14, go_sem]) rfl ⟨rfl, below1 _ _⟩
theorem gcd_left {m n : Nat} : Nat.gcd (m % n) n = Nat.gcd m n := by rw [Nat.gcd_comm, gcd_step]
theorem gcd_right {m n : Nat} : Nat.gcd m (n % m) = Nat.gcd m n := by rw [Nat.gcd_comm m n, gcd_step]
set_option maxRecDepth 100000 in
set_option maxHeartbeats 1000000 in
theorem rgcd_some (a b g : Nat) (a2 : a ≤ 9223372036854775807) (b2 : b ≤ 9223372036854775807) (ha : cntD a = true) (hb : cntD b = true) (hg : Nat.gcd a b = g) (w : World) :
    Calls Try.prog 14 #[.int .i64 a, .int .i64 b] w (GotIs g true w) := by
  have ea : wholeIn a 0 9223372036854775807 = cntD a := (cntD_in a).resolve_right (by omega)
  have eb : wholeIn b 0 9223372036854775807 = cntD b := (cntD_in b).resolve_right (by omega)
  rw [ha] at ea
  rw [hb] at eb
  have C := Lib.hid (fun w1 => rwhole_c a 0 9223372036854775807 (by omega) _ ea w1)
  have C2 := Lib.hid (fun w1 => rwhole_c b 0 9223372036854775807 (by omega) _ eb w1)
  have HG := Lib.hid hg
  clear hg ha hb ea eb
  go_enter Try.func14, Try.ntmps14
  go_wp2_with (go_at_call 27; first | ((with_reducible refine (C.out _).mono ?_); rintro e w' ⟨rfl, rfl⟩) | ((with_reducible refine (C2.out _).mono ?_); rintro e w' ⟨rfl, rfl⟩))
  go_loop [0, 1] (fun p q => ∃ m n : Nat, p = .int .i64 m ∧ q = .int .i64 n ∧ m ≤ 9223372036854775807 ∧ n ≤ 9223372036854775807 ∧ Hid (Nat.gcd m n = g)) (fun p q => (intOf p).toNat + (intOf q).toNat)
  case atStart => exact ⟨a, b, rfl, rfl, a2, b2, HG⟩
  case round =>
    clear HG C C2
    obtain ⟨m, n, rfl, rfl, hm, hn, hG⟩ := hrel
    by_cases hzm : m = 0
    · subst hzm
      have hg := hG.out
      rw [Nat.gcd_zero_left] at hg
      subst hg
      clear hG
      go_wp2
      exact bodyPost_ret (v := .agg #[.int .i64 n, .bool true]) (by simp [results, Try.results14, go_sem]) rfl ⟨rfl, below1 _ _⟩
    have z1 : (m == 0) = false := by simpa using hzm
    have z2 : ((m : Int) == 0) = false := by simpa using hzm
    by_cases hzn : n = 0
    · subst hzn
      have hg := hG.out
      rw [Nat.gcd_zero_right] at hg
      subst hg
      clear hG
      go_wp2
      exact bodyPost_ret (v := .agg #[.int .i64 m, .bool true]) (by simp [results, Try.results14, go_sem]) rfl ⟨rfl, below1 _ _⟩
    have z3 : (n == 0) = false := by simpa using hzn
    have z4 : ((n : Int) == 0) = false := by simpa using hzn
    have z5 : ((m : Int) != 0) = true := by simpa using hzm
    have z6 : ((n : Int) != 0) = true := by simpa using hzn
    by_cases hc : n < m
    · have hlt : m % n < n := Nat.mod_lt _ (by omega)
      have hr : (m : Int).tmod (n : Int) = ((m % n : Nat) : Int) := by rw [Int.tmod_eq_emod_of_nonneg (by omega)]; simp
      have hG2 : Hid (Nat.gcd (m % n) n = g) := Lib.hid (by rw [gcd_left]; exact hG.out)
      generalize m % n = l at *
      clear hG
      go_wp2
      exact ⟨⟨l, n, rfl, rfl, by omega, hn, hG2⟩, by simp [intOf]; omega⟩
    · have hlt : n % m < m := Nat.mod_lt _ (by omega)
      have hr : (n : Int).tmod (m : Int) = ((n % m : Nat) : Int) := by rw [Int.tmod_eq_emod_of_nonneg (by omega)]; simp
      have hG2 : Hid (Nat.gcd m (n % m) = g) := Lib.hid (by rw [gcd_right]; exact hG.out)
      generalize n % m = l at *
      clear hG
      go_wp2
      exact ⟨⟨m, l, rfl, rfl, hm, by omega, hG2⟩, by simp [intOf]; omega⟩
theorem rgcd_c (a b : Int) (a2 : a ≤ 9223372036854775807) (b2 : b ≤ 9223372036854775807) (n : Int) (k : Bool) (hn : gcdD a b = (n, k)) (w : World) :
    Calls Try.prog 14 #[.int .i64 a, .int .i64 b] w (GotIs n k w) := by
  cases ha : cntD a
  · obtain ⟨rfl, rfl⟩ := Prod.mk.inj (hn.symm.trans (gcdD_none (.inl ha)))
    exact rgcd_none a b a2 b2 (.inl ha) w
  cases hb : cntD b
  · obtain ⟨rfl, rfl⟩ := Prod.mk.inj (hn.symm.trans (gcdD_none (.inr hb)))
    exact rgcd_none a b a2 b2 (.inr hb) w
  obtain ⟨p, rfl, _⟩ := cntD_yes ha
  obtain ⟨q, rfl, _⟩ := cntD_yes hb
  obtain ⟨rfl, rfl⟩ := Prod.mk.inj (hn.symm.trans (gcdD_some ha hb))
  exact rgcd_some p q _ (by omega) (by omega) ha hb rfl w
set_option maxRecDepth 100000 in
set_option maxHeartbeats 1000000 in
theorem rlcm_c (a b : Int) (a2 : a ≤ 9223372036854775807) (b2 : b ≤ 9223372036854775807) (n : Int) (k : Bool) (hn : lcmD a b = (n, k)) (w : World) :
    Calls Try.prog 15 #[.int .i64 a, .int .i64 b] w (GotIs n k w) := by
  unfold lcmD at hn
  obtain ⟨⟨g, j⟩, hg⟩ : ∃ r, gcdD a b = r := ⟨_, rfl⟩
  obtain ⟨g1, g2⟩ := gcdD_room a2 b2 hg
  have G := Lib.hid (fun w1 => rgcd_c a b a2 b2 g j hg w1)
  rw [hg] at hn
  dsimp only at hn
  by_cases hz : j = false ∨ g = 0
  · have he : n = g ∧ k = j := by
      rcases hz with rfl | rfl
      · obtain ⟨rfl, rfl⟩ := Prod.mk.inj hn
        have : g = 0 := by
          unfold gcdD at hg
          split at hg
          · cases hg
          · cases hg; rfl
        exact ⟨this.symm, rfl⟩
      · cases j
        · obtain ⟨rfl, rfl⟩ := Prod.mk.inj hn; exact ⟨rfl, rfl⟩
        · rw [if_pos rfl, if_pos rfl] at hn; obtain ⟨rfl, rfl⟩ := Prod.mk.inj hn; exact ⟨rfl, rfl⟩
    obtain ⟨rfl, rfl⟩ := he
    clear hn hg
    go_enter Try.func15, Try.ntmps15
    go_wp2_with fail
    refine (G.out _).mono ?_
    rintro e w1 ⟨rfl, hb1⟩
    obtain ⟨hc, hw⟩ := slot (cs := [.int .i64 0, .bool false]) (ty := 25) hb1
    replace hc := hc.on_alloc (.cells #[.int .i64 n, .bool k] 25)
    replace hw := on_alloc hw (.cells #[.int .i64 n, .bool k] 25)
    have hN := CellsAt.new w1 [.int .i64 n, .bool k] 25
    obtain ⟨n0, n1, _, _⟩ := hN.two
    obtain ⟨r0, r1, f0, f1⟩ := hc.two
    obtain ⟨e0, e1⟩ := two_set (u := .int .i64 n) (v := .bool k) r0 r1
    replace e0 := Lib.hid e0
    replace e1 := Lib.hid e1
    replace hw := Lib.hid hw
    have k1 := hc.1
    have k2 := hN.1
    clear hb1 hc hN G
    rcases hz with rfl | rfl
    · go_wp2_with fail
      exact bodyPost_ret (v := .agg #[.int .i64 n, .bool false]) (by simp [results, Try.results15, go_sem, e0.out, e1.out]) rfl ⟨rfl, set2 hw.out (Nat.le_refl _) _ _⟩
    · cases k
      · go_wp2_with fail
        exact bodyPost_ret (v := .agg #[.int .i64 0, .bool false]) (by simp [results, Try.results15, go_sem, e0.out, e1.out]) rfl ⟨rfl, set2 hw.out (Nat.le_refl _) _ _⟩
      · go_wp2_with fail
        exact bodyPost_ret (v := .agg #[.int .i64 0, .bool true]) (by simp [results, Try.results15, go_sem, e0.out, e1.out]) rfl ⟨rfl, set2 hw.out (Nat.le_refl _) _ _⟩
  · obtain rfl : j = true := by
      cases j
      · exact absurd (.inl rfl) hz
      · rfl
    have hz0 : g ≠ 0 := fun h => hz (.inr h)
    rw [if_pos rfl, if_neg hz0] at hn
    have hab : cntD a = true ∧ cntD b = true := by
      unfold gcdD at hg
      split at hg
      · rename_i h; rwa [Bool.and_eq_true] at h
      · cases hg
    obtain ⟨p, rfl, _⟩ := cntD_yes hab.1
    obtain ⟨q, rfl, _⟩ := cntD_yes hab.2
    rw [gcdD_some hab.1 hab.2] at hg
    obtain ⟨hg, _⟩ := Prod.mk.inj hg
    obtain ⟨m, rfl⟩ : ∃ m : Nat, g = m := ⟨g.toNat, by omega⟩
    have hgm : Nat.gcd p q = m := by omega
    obtain ⟨s1, s2⟩ := lcm_same hgm (by omega) (by omega) (by omega)
    rw [s1, ← s2] at hn
    have S := Lib.hid (fun w1 => rscaled_c ((p / m : Nat) : Int) q 1 (by have := Nat.div_le_self p m; omega) b2 (by omega) n k hn w1)
    have hd : (p : Int).tdiv (m : Int) = ((p / m : Nat) : Int) := by rw [Int.tdiv_eq_ediv_of_nonneg (by omega)]; simp
    have hdl : p / m ≤ 9223372036854775807 := by have := Nat.div_le_self p m; omega
    have hz2 : ((m : Int) == 0) = false := by simp; omega
    have hz3 : (m == 0) = false := by simp; omega
    have hz4 : ¬ m = 0 := by omega
    clear hn hg hgm s1 s2 hab hz hz0
    generalize p / m = d at *
    go_enter Try.func15, Try.ntmps15
    go_wp2_with fail
    refine (G.out _).mono ?_
    rintro e w1 ⟨rfl, hb1⟩
    obtain ⟨hc, hw⟩ := slot (cs := [.int .i64 0, .bool false]) (ty := 25) hb1
    replace hc := hc.on_alloc (.cells #[.int .i64 m, .bool true] 25)
    replace hw := on_alloc hw (.cells #[.int .i64 m, .bool true] 25)
    have hN := CellsAt.new w1 [.int .i64 m, .bool true] 25
    obtain ⟨n0, n1, _, _⟩ := hN.two
    have k2 := hN.1
    clear hb1 hN G
    go_wp2_with fail
    refine (S.out _).mono ?_
    rintro e w2 ⟨rfl, hb2⟩
    replace hc := hc.on hb2
    replace hw := Kit.on hw hb2
    obtain ⟨r0, r1, f0, f1⟩ := hc.two
    obtain ⟨e0, e1⟩ := two_set (u := .int .i64 n) (v := .bool k) r0 r1
    replace e0 := Lib.hid e0
    replace e1 := Lib.hid e1
    replace hw := Lib.hid hw
    have k1 := hc.1
    clear hb2 hc S n0 n1 k2
    go_wp2_with fail
    exact bodyPost_ret (v := .agg #[.int .i64 n, .bool k]) (by simp [results, Try.results15, go_sem, e0.out, e1.out]) rfl ⟨rfl, set2 hw.out (Nat.le_refl _) _ _⟩
set_option maxRecDepth 100000 in
set_option maxHeartbeats 400000 in
theorem rfact_none (x : Int) (x2 : x ≤ 9223372036854775807) (h : wholeIn x 0 1000 = false) (w : World) :
    Calls Try.prog 18 #[.int .i64 x] w (GotIs 0 false w) := by
  have B := Lib.hid (fun w1 => rwhole_c x 0 1000 x2 false h w1)
  clear h
  go_enter Try.func18, Try.ntmps18
  go_wp2_with (go_at_call 27; (with_reducible refine (B.out _).mono ?_); rintro e w' ⟨rfl, rfl⟩)
  exact bodyPost_ret (v := .agg #[.int .i64 0, .bool false]) (by simp [results, Try.results18, go_sem]) rfl ⟨rfl, below1 _ _⟩
set_option maxRecDepth 100000 in
set_option maxHeartbeats 1000000 in
theorem rfact_some (x : Int) (x2 : x ≤ 9223372036854775807) (h : wholeIn x 0 1000 = true) (y : Int) (k : Bool) (hy : factsD (unitsD x).toNat = (y, k)) (w : World) :
    Calls Try.prog 18 #[.int .i64 x] w (GotIs y k w) := by
  have B := Lib.hid (fun w1 => rwhole_c x 0 1000 x2 true h w1)
  obtain ⟨e, e2, e3, _⟩ := wholeIn_yes h
  obtain ⟨t, ht⟩ : ∃ t : Nat, unitsD x = t := ⟨(unitsD x).toNat, by omega⟩
  rw [ht] at e e2 e3 hy
  have hdv : x.tdiv 10000 = (t : Int) := by rw [← ht, unitsD, if_neg (by omega)]
  rw [Int.toNat_natCast] at hy
  have ht2 : t ≤ 1000 := by omega
  have HN := Lib.hid hy
  clear hy e e2 e3 ht h
  go_enter Try.func18, Try.ntmps18
  go_wp2_with (go_at_call 27; (with_reducible refine (B.out _).mono ?_); rintro e w' ⟨rfl, rfl⟩)
  go_loopw [4] (fun i wr => ∃ (j : Nat) (q : Int) (b : Bool), j ≤ t ∧ i = .int .i64 ((j : Int) + 1) ∧ Hid (factsD j = (q, b)) ∧ MulMem w wr q b) (fun i _ => t + 1 - (intOf i).toNat)
  case atStart => exact ⟨0, 10000, true, by omega, rfl, Lib.hid rfl, MulMem.start w _ _⟩
  case round =>
    clear B
    obtain ⟨j, q, b, hj, rfl, hq, hM⟩ := hrel
    have hr := factsD_room j
    rw [hq.out] at hr
    obtain ⟨q1, q2⟩ := hr
    dsimp only at q1 q2
    obtain ⟨_, hc, hc2⟩ := id hM
    have l1 := hc.1
    have l2 := hc2.1
    obtain ⟨p0, p1, f0, f1⟩ := hc2.two
    obtain ⟨r0, r1, g0, g1⟩ := hc.two
    obtain ⟨z0, z1⟩ := two_set (u := .int .i64 q) (v := .bool b) r0 r1
    have hb0 := Lib.hid hM.1
    replace z0 := Lib.hid z0
    replace z1 := Lib.hid z1
    by_cases hgo : j < t ∧ b = true
    · obtain ⟨hlt, rfl⟩ := hgo
      obtain ⟨⟨n2, b2⟩, hr2⟩ : ∃ r, scaledD q ((j + 1 : Nat) : Int) 1 = r := ⟨_, rfl⟩
      have M2 := Lib.hid (fun w1 => rscaled_c q ((j + 1 : Nat) : Int) 1 q2 (by omega) (by omega) _ _ hr2 w1)
      rw [show ((j + 1 : Nat) : Int) = (j : Int) + 1 from rfl] at M2
      have hx := Lib.hid (factsD_next hq.out hr2)
      have hM2 := Lib.hid hM
      clear hr2 hq hc hc2 hM HN z0 z1 hb0
      go_wp2_with fail
      refine (M2.out _).mono ?_
      rintro e w1 ⟨rfl, hb1⟩
      have hM3 := hM2.out.on hb1
      obtain ⟨_, _, hc2⟩ := id hM3
      have l3 := hc2.1
      obtain ⟨p0, p1, f0, f1⟩ := hc2.two
      have hM4 := Lib.hid (hM3.put n2 b2)
      clear hM3 hM2 hb1 hc2
      go_wp2_with fail
      exact ⟨⟨j + 1, n2, b2, by omega, by go_num, hx, hM4.out⟩, by simp [intOf]; omega⟩
    · have he : factsD t = (q, b) := by
        cases b
        · rw [factsD_stop hj hq.out, factsD_no hq.out]
        · have : j = t := by
            have : ¬ j < t := fun h => hgo ⟨h, rfl⟩
            omega
          rw [← this]; exact hq.out
      obtain ⟨rfl, rfl⟩ := Prod.mk.inj (HN.out.symm.trans he)
      have hcase : (j < t ∧ k = false) ∨ j = t := by
        cases k
        · rcases Nat.lt_or_ge j t with h | h
          · exact .inl ⟨h, rfl⟩
          · exact .inr (by omega)
        · exact .inr (by have : ¬ j < t := fun h => hgo ⟨h, rfl⟩; omega)
      clear he HN hq hgo hc hc2 hM
      rcases hcase with ⟨hlt, rfl⟩ | rfl
      · go_wp2
        exact bodyPost_ret (v := .agg #[.int .i64 y, .bool false]) (by simp [results, Try.results18, go_sem, z0.out, z1.out]) rfl ⟨rfl, set2 hb0.out (Nat.le_refl _) _ _⟩
      · go_wp2
        exact bodyPost_ret (v := .agg #[.int .i64 y, .bool k]) (by simp [results, Try.results18, go_sem, z0.out, z1.out]) rfl ⟨rfl, set2 hb0.out (Nat.le_refl _) _ _⟩
theorem rfact_c (x : Int) (x2 : x ≤ 9223372036854775807) (n : Int) (b : Bool) (hn : factD x = (n, b)) (w : World) :
    Calls Try.prog 18 #[.int .i64 x] w (GotIs n b w) := by
  unfold factD at hn
  cases h : wholeIn x 0 1000
  · rw [h] at hn
    obtain ⟨rfl, rfl⟩ := Prod.mk.inj hn
    exact rfact_none x x2 h w
  · rw [h, if_pos rfl] at hn
    exact rfact_some x x2 h n b hn w
end Go.Proofs.Ytdinbokbooikbaa.Pow

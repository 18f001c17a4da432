/- What the reference's Odd answers. -/
import Derived.Test.YtdilnmobblkafaaRndRefs
import Derived.Test.YtdilnmobblkafaaRndOdd
namespace Go.Proofs.Ytdilnmobblkafaa.Rnd
open Go.RowKit Kit Dec Reg

theorem odd_parts (a K : Nat) (ha : a ≤ 9223372036854775807) (hK : a / 20000 = K) :
    (2 * K + 1) * 10000 ≤ 9223372036854775807 ∧ scaledD (2 * (K : Int) + 1) 10000 1 = ((((2 * K + 1) * 10000 : Nat) : Int), true) ∧
    (a ≤ (2 * K + 1) * 10000 → oddN a = (2 * K + 1) * 10000) ∧ ((2 * K + 1) * 10000 < a → oddN a = (2 * K + 3) * 10000 ∧ scaledD (2 * (K : Int) + 3) 10000 1 = giveD true (((2 * K + 3) * 10000 : Nat) : Int)) := by
  have hle : (2 * K + 1) * 10000 ≤ 9223372036854775807 := by omega
  refine ⟨hle, ?_, fun h => ?_, fun h => ⟨?_, ?_⟩⟩
  · rw [scaled_one (by omega) (by omega), show (2 * (K : Int) + 1) * 10000 = (((2 * K + 1) * 10000 : Nat) : Int) by omega]
    exact giveD_in (by omega) (by omega)
  · unfold oddN; rw [hK, if_pos h]
  · unfold oddN; rw [hK, if_neg (by omega)]
  · rw [scaled_one (by omega) (by omega), show (2 * (K : Int) + 3) * 10000 = (((2 * K + 3) * 10000 : Nat) : Int) by omega]
theorem oddD_give {x : Int} (h : -9223372036854775807 ≤ x) {n : Int} {k : Bool} (hn : giveD true (oddN x.natAbs : Int) = (n, k)) : oddD x = (if x < 0 then -n else n, k) := by
  unfold oddD
  rw [mayD_yes h, Bool.true_and]
  by_cases hc : oddN x.natAbs ≤ 9223372036854775807
  · rw [giveD_in (by omega) (by omega)] at hn
    obtain ⟨rfl, rfl⟩ := Prod.mk.inj hn
    rw [decide_eq_true hc, if_pos rfl]
  · rw [giveD_out (by omega)] at hn
    obtain ⟨rfl, rfl⟩ := Prod.mk.inj hn
    rw [decide_eq_false hc, if_neg (by decide)]
    simp
theorem giveD_room {x n : Int} {k : Bool} (h : giveD true x = (n, k)) : -9223372036854775807 ≤ n ∧ n ≤ 9223372036854775807 := by
  by_cases h1 : x < -9223372036854775807 ∨ 9223372036854775807 < x
  · rw [giveD_out (.inr h1)] at h
    obtain ⟨rfl, _⟩ := Prod.mk.inj h
    omega
  · rw [giveD_in (by omega) (by omega)] at h
    obtain ⟨rfl, _⟩ := Prod.mk.inj h
    omega
set_option maxRecDepth 100000 in
set_option maxHeartbeats 400000 in
theorem rodd_none (x : Int) (h : x < -9223372036854775807) (w : World) : Calls Try.prog 19 #[.int .i64 x] w (GotIs 0 false w) := by
  have M := Lib.hid (fun w1 => rmay_c x false (mayD_no h) w1)
  go_enter Try.func19, Try.ntmps19
  go_wp2_with (go_at_call 24; refine (M.out _).mono ?_; rintro e w' ⟨rfl, rfl⟩)
  exact bodyPost_ret (v := .agg #[.int .i64 0, .bool false]) (by simp [results, Try.results19, go_sem]) rfl ⟨rfl, below1 _ _⟩
set_option maxRecDepth 100000 in
set_option maxHeartbeats 1000000 in
/-- the first odd number is not nearer to 0 -/
theorem rodd_first (x : Int) (x1 : -9223372036854775807 ≤ x) (x2 : x ≤ 9223372036854775807) (a K n : Nat) (ha : x.natAbs = a) (hK : a / 20000 = K) (hn : (2 * K + 1) * 10000 = n) (hl : a ≤ n) (w : World) :
    Calls Try.prog 19 #[.int .i64 x] w (GotIs (if x < 0 then -(n : Int) else n) true w) := by
  have M := Lib.hid (fun w1 => rmay_c x true (mayD_yes x1) w1)
  have B := Lib.hid (fun w1 => rabs_c x x1 x2 w1)
  rw [ha] at B
  have la : a ≤ 9223372036854775807 := by omega
  obtain ⟨h1, h2, _, _⟩ := odd_parts a K la hK
  rw [hn] at h1 h2
  have R1 := Lib.hid (fun w1 => rscaled_c (2 * (K : Int) + 1) 10000 1 (by omega) (by omega) (by omega) _ true h2 w1)
  have k1 : (a : Int) / 20000 = (K : Int) := by omega
  have k2 : (a : Int).tdiv 20000 = (K : Int) := by rw [Int.tdiv_eq_ediv_of_nonneg (by omega)]; exact k1
  have t1 : decide (n < a) = false := decide_eq_false (by omega)
  have lK : K ≤ 461168601842738 := by omega
  clear h2 hK ha hn
  by_cases hx : x < 0
  · rw [if_pos hx]
    go_enter Try.func19, Try.ntmps19
    go_wp2_with (first | (go_at_call 24; refine (M.out _).mono ?_; rintro e w' ⟨rfl, rfl⟩) | (go_at_call 12; refine (B.out _).mono ?_; rintro e w' ⟨rfl, rfl⟩))
    refine (R1.out _).mono ?_
    rintro e w1 ⟨rfl, hb1⟩
    obtain ⟨hc, hw⟩ := slot (cs := [.int .i64 0, .bool false]) (ty := 26) hb1
    have hlt := hc.1
    obtain ⟨p0, p1, f0, f1⟩ := hc.two
    obtain ⟨e0, e1⟩ := two_set (u := .int .i64 (-(n : Int))) (v := .bool true) p0 p1
    have hw3 := Lib.hid hw
    replace e0 := Lib.hid e0
    replace e1 := Lib.hid e1
    clear hb1 hc hw
    go_wp2_with fail
    have g0 := kept_alloc (.cells #[.int .i64 (-(n : Int)), .bool true] 26) e0.out
    have g1 := kept_alloc (.cells #[.int .i64 (-(n : Int)), .bool true] 26) e1.out
    exact bodyPost_ret (v := .agg #[.int .i64 (-(n : Int)), .bool true]) (by simp [results, Try.results19, go_sem, g0, g1]) rfl ⟨rfl, on_alloc (set2 hw3.out (Nat.le_refl _) _ _) _⟩
  · rw [if_neg hx]
    go_enter Try.func19, Try.ntmps19
    go_wp2_with (first | (go_at_call 24; refine (M.out _).mono ?_; rintro e w' ⟨rfl, rfl⟩) | (go_at_call 12; refine (B.out _).mono ?_; rintro e w' ⟨rfl, rfl⟩))
    refine (R1.out _).mono ?_
    rintro e w1 ⟨rfl, hb1⟩
    obtain ⟨hc, hw⟩ := slot (cs := [.int .i64 0, .bool false]) (ty := 26) hb1
    have hlt := hc.1
    obtain ⟨p0, p1, f0, f1⟩ := hc.two
    obtain ⟨e0, e1⟩ := two_set (u := .int .i64 (n : Int)) (v := .bool true) p0 p1
    have hw3 := Lib.hid hw
    replace e0 := Lib.hid e0
    replace e1 := Lib.hid e1
    clear hb1 hc hw
    go_wp2_with fail
    have g0 := kept_alloc (.cells #[.int .i64 ((n : Int)), .bool true] 26) e0.out
    have g1 := kept_alloc (.cells #[.int .i64 ((n : Int)), .bool true] 26) e1.out
    exact bodyPost_ret (v := .agg #[.int .i64 ((n : Int)), .bool true]) (by simp [results, Try.results19, go_sem, g0, g1]) rfl ⟨rfl, on_alloc (set2 hw3.out (Nat.le_refl _) _ _) _⟩
set_option maxRecDepth 100000 in
set_option maxHeartbeats 1000000 in
/-- the first odd number is nearer to 0: it is the next one -/
theorem rodd_next (x : Int) (x1 : -9223372036854775807 ≤ x) (x2 : x ≤ 9223372036854775807) (a K n : Nat) (ha : x.natAbs = a) (hK : a / 20000 = K) (hn : (2 * K + 1) * 10000 = n) (hl : n < a) (m : Int) (k : Bool) (hm : scaledD (2 * (K : Int) + 3) 10000 1 = (m, k)) (hr : -9223372036854775807 ≤ m ∧ m ≤ 9223372036854775807) (w : World) :
    Calls Try.prog 19 #[.int .i64 x] w (GotIs (if x < 0 then -m else m) k w) := by
  have M := Lib.hid (fun w1 => rmay_c x true (mayD_yes x1) w1)
  have B := Lib.hid (fun w1 => rabs_c x x1 x2 w1)
  rw [ha] at B
  have la : a ≤ 9223372036854775807 := by omega
  obtain ⟨h1, h2, _, _⟩ := odd_parts a K la hK
  rw [hn] at h1 h2
  have R1 := Lib.hid (fun w1 => rscaled_c (2 * (K : Int) + 1) 10000 1 (by omega) (by omega) (by omega) _ true h2 w1)
  have R2 := Lib.hid (fun w1 => rscaled_c (2 * (K : Int) + 3) 10000 1 (by omega) (by omega) (by omega) m k hm w1)
  have k1 : (a : Int) / 20000 = (K : Int) := by omega
  have k2 : (a : Int).tdiv 20000 = (K : Int) := by rw [Int.tdiv_eq_ediv_of_nonneg (by omega)]; exact k1
  have t1 : decide (n < a) = true := decide_eq_true (by omega)
  have lK : K ≤ 461168601842738 := by omega
  obtain ⟨r1, r2⟩ := hr
  clear h2 hK ha hn hm
  by_cases hx : x < 0
  · rw [if_pos hx]
    go_enter Try.func19, Try.ntmps19
    go_wp2_with (first | (go_at_call 24; refine (M.out _).mono ?_; rintro e w' ⟨rfl, rfl⟩) | (go_at_call 12; refine (B.out _).mono ?_; rintro e w' ⟨rfl, rfl⟩))
    refine (R1.out _).mono ?_
    rintro e w1 ⟨rfl, hb1⟩
    go_wp2_with fail
    refine (R2.out _).mono ?_
    rintro e w2 ⟨rfl, hb2⟩
    obtain ⟨hc, hw⟩ := slot (cs := [.int .i64 0, .bool false]) (ty := 26) hb1
    have hA := (hc.on_alloc (.cells #[.int .i64 (n : Int), .bool true] 26)).on hb2
    have hB := (CellsAt.new w1 [.int .i64 (n : Int), .bool true] 26).on hb2
    have hw3 := Lib.hid (on (on_alloc hw (.cells #[.int .i64 (n : Int), .bool true] 26)) hb2)
    have hne : w.heap.size < w1.heap.size := hc.1
    have l1 := hA.1
    have l2 := hB.1
    obtain ⟨p0, p1, f0, f1⟩ := hA.two
    obtain ⟨q0, q1, g0, g1⟩ := hB.two
    clear hb1 hb2 hc hw
    replace hA := Lib.hid hA
    replace hB := Lib.hid hB
    go_wp2_with fail
    have hE := ((hA.out.put2_far (c := w1.heap.size) (by omega) (.int .i64 m) (.bool k)).far (p := ⟨w1.heap.size, 0, none⟩) (Nat.ne_of_gt hne) (.int .i64 (-m))).put2 (.int .i64 (-m)) (.bool k)
    obtain ⟨e0, e1, _, _⟩ := hE.two
    dsimp only [Kit.put2] at e0 e1
    exact bodyPost_ret (v := .agg #[.int .i64 (-m), .bool k]) (by simp [results, Try.results19, go_sem, e0, e1]) rfl ⟨rfl, set2 (set1 (set2 hw3.out (Nat.le_of_lt hne) _ _) (Nat.le_of_lt hne) _) (Nat.le_refl _) _ _⟩
  · rw [if_neg hx]
    go_enter Try.func19, Try.ntmps19
    go_wp2_with (first | (go_at_call 24; refine (M.out _).mono ?_; rintro e w' ⟨rfl, rfl⟩) | (go_at_call 12; refine (B.out _).mono ?_; rintro e w' ⟨rfl, rfl⟩))
    refine (R1.out _).mono ?_
    rintro e w1 ⟨rfl, hb1⟩
    go_wp2_with fail
    refine (R2.out _).mono ?_
    rintro e w2 ⟨rfl, hb2⟩
    obtain ⟨hc, hw⟩ := slot (cs := [.int .i64 0, .bool false]) (ty := 26) hb1
    have hA := (hc.on_alloc (.cells #[.int .i64 (n : Int), .bool true] 26)).on hb2
    have hB := (CellsAt.new w1 [.int .i64 (n : Int), .bool true] 26).on hb2
    have hw3 := Lib.hid (on (on_alloc hw (.cells #[.int .i64 (n : Int), .bool true] 26)) hb2)
    have hne : w.heap.size < w1.heap.size := hc.1
    have l1 := hA.1
    have l2 := hB.1
    obtain ⟨p0, p1, f0, f1⟩ := hA.two
    obtain ⟨q0, q1, g0, g1⟩ := hB.two
    clear hb1 hb2 hc hw
    replace hA := Lib.hid hA
    replace hB := Lib.hid hB
    go_wp2_with fail
    have hE := (hA.out.put2_far (c := w1.heap.size) (by omega) (.int .i64 m) (.bool k)).put2 (.int .i64 m) (.bool k)
    obtain ⟨e0, e1, _, _⟩ := hE.two
    dsimp only [Kit.put2] at e0 e1
    exact bodyPost_ret (v := .agg #[.int .i64 m, .bool k]) (by simp [results, Try.results19, go_sem, e0, e1]) rfl ⟨rfl, set2 (set2 hw3.out (Nat.le_of_lt hne) _ _) (Nat.le_refl _) _ _⟩
theorem rodd_c (x : Int) (x2 : x ≤ 9223372036854775807) (n : Int) (k : Bool) (hn : oddD x = (n, k)) (w : World) :
    Calls Try.prog 19 #[.int .i64 x] w (GotIs n k w) := by
  by_cases h : x < -9223372036854775807
  · unfold oddD at hn
    rw [mayD_no h, Bool.false_and, if_neg (by decide)] at hn
    obtain ⟨rfl, rfl⟩ := Prod.mk.inj hn
    exact rodd_none x h w
  have x1 : -9223372036854775807 ≤ x := by omega
  obtain ⟨a, ha⟩ : ∃ a, x.natAbs = a := ⟨_, rfl⟩
  obtain ⟨K, hK⟩ : ∃ K, a / 20000 = K := ⟨_, rfl⟩
  obtain ⟨h1, h2, h3, h4⟩ := odd_parts a K (by omega) hK
  by_cases hl : a ≤ (2 * K + 1) * 10000
  · have ho := h3 hl
    obtain ⟨N, hN⟩ : ∃ N, (2 * K + 1) * 10000 = N := ⟨_, rfl⟩
    rw [hN] at h1 ho hl
    have hg : giveD true (oddN x.natAbs : Int) = ((N : Int), true) := by rw [ha, ho]; exact giveD_in (by omega) (by omega)
    rw [oddD_give x1 hg] at hn
    obtain ⟨rfl, rfl⟩ := Prod.mk.inj hn
    exact rodd_first x x1 x2 a K N ha hK hN hl w
  · obtain ⟨ho, hs⟩ := h4 (by omega)
    obtain ⟨⟨m, j⟩, hm⟩ : ∃ p, giveD true (((2 * K + 3) * 10000 : Nat) : Int) = p := ⟨_, rfl⟩
    rw [oddD_give x1 (n := m) (k := j) (by rw [ha, ho]; exact hm)] at hn
    obtain ⟨rfl, rfl⟩ := Prod.mk.inj hn
    exact rodd_next x x1 x2 a K _ ha hK rfl (by omega) m j (hs.trans hm) (giveD_room hm) w
end Go.Proofs.Ytdilnmobblkafaa.Rnd

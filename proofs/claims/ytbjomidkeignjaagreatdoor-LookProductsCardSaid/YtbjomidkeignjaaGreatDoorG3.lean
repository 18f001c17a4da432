/- What the reference's Divide answers: long division bit by bit, 128 steps.
   What the reference's Scaled, Mul, Div answer: for every number of 64 bits. -/
import Derived.Test.YtbjomidkeignjaaGreatDoorG2
import Derived.Test.YtbjomidkeignjaaGreatDoorKit4
import Derived.Test.YtbjomidkeignjaaGreatDoorDecScale
namespace Go.Proofs.YtbjomidkeignjaaGreatDoor.Dec
open Go.RowKit Kit Reg

/-- a step's numbers -/
structure Step (by_ hi lo q r : Nat) (ok : Bool) (bit hi2 lo2 q2 r2 : Nat) : Prop where
  b : (hi : Int) / 9223372036854775808 = (bit : Int)
  h : IntKind.u64.wrap (IntKind.u64.wrap ((hi : Int) * 2) + IntKind.u64.wrap ((lo : Int) / 9223372036854775808)) = (hi2 : Int)
  l : IntKind.u64.wrap ((lo : Int) * 2) = (lo2 : Int)
  q : IntKind.u64.wrap ((q : Int) * 2) = (q2 : Int)
  r : (r : Int) * 2 + (bit : Int) = (r2 : Int)
  rl : r2 < 18446744073709551616
  ql : q2 ≤ 18446744073709551614
theorem DivAt.go {N by_ i hi lo q r : Nat} {ok : Bool} (hb : 0 < by_) (hb2 : by_ ≤ 9223372036854775808) (hlt : i < 128) (h : DivAt N by_ i hi lo q r ok) :
    ∃ bit hi2 lo2 q2 r2 : Nat, Step by_ hi lo q r ok bit hi2 lo2 q2 r2 ∧
      (by_ ≤ r2 → DivAt N by_ (i + 1) hi2 lo2 (q2 + 1) (r2 - by_) (ok && decide (q < 9223372036854775808))) ∧
      (r2 < by_ → DivAt N by_ (i + 1) hi2 lo2 q2 r2 (ok && decide (q < 9223372036854775808))) := by
  obtain ⟨h1, h2⟩ := h.step hb hb2 hlt
  obtain ⟨bit, hbit⟩ : ∃ bit, hi / 9223372036854775808 = bit := ⟨_, rfl⟩
  obtain ⟨r2, hr2⟩ : ∃ r2, r * 2 + bit = r2 := ⟨_, rfl⟩
  have hhi := h.hiU
  have hlo := h.loU
  have hq : q * 2 % 18446744073709551616 + 1 < 18446744073709551616 := by omega
  rw [hbit, hr2] at h1 h2
  refine ⟨bit, (hi * 2 + lo / 9223372036854775808) % 18446744073709551616, lo * 2 % 18446744073709551616, q * 2 % 18446744073709551616, r2, ⟨by omega, ?_, ?_, ?_, by omega, by omega, by omega⟩, ?_, ?_⟩
  · rw [IntKind.wrap_u64, IntKind.wrap_u64, IntKind.wrap_u64]; omega
  · rw [IntKind.wrap_u64]; omega
  · rw [IntKind.wrap_u64]; omega
  · intro hc; rw [if_pos hc, if_pos hc] at h2; exact h2
  · intro hc; rw [if_neg (by omega), if_neg (by omega)] at h2; exact h2
/-- the memory of Divide as its loop goes on -/
def DivMem (w wr : World) (hi lo q r : Nat) (ok : Bool) : Prop :=
  Below w.heap.size w wr ∧ CellsAt wr w.heap.size [.int .u64 hi, .int .u64 lo] ∧ CellsAt wr (w.heap.size + 1) [.int .u64 0, .int .u64 0, .bool false] ∧ CellsAt wr (w.heap.size + 1 + 1) [.int .u64 q, .int .u64 r, .bool ok]
theorem DivMem.start (w : World) (H L : Nat) : DivMem w (((w.alloc (.cells #[.int .u64 H, .int .u64 L] 115)).alloc (.cells #[.int .u64 0, .int .u64 0, .bool false] 112)).alloc (.cells #[.int .u64 0, .int .u64 0, .bool true] 112)) H L 0 0 true := by
  refine ⟨below3 _ _ _ _, ((CellsAt.new w [.int .u64 H, .int .u64 L] _).on_alloc _).on_alloc _, ?_, ?_⟩
  · have h := (CellsAt.new (w.alloc (.cells #[.int .u64 H, .int .u64 L] 115)) [.int .u64 0, .int .u64 0, .bool false] 112).on_alloc (.cells #[.int .u64 0, .int .u64 0, .bool true] 112)
    rw [show (w.alloc (.cells #[.int .u64 H, .int .u64 L] 115)).heap.size = w.heap.size + 1 by simp] at h
    exact h
  · have h := CellsAt.new ((w.alloc (.cells #[.int .u64 H, .int .u64 L] 115)).alloc (.cells #[.int .u64 0, .int .u64 0, .bool false] 112)) [.int .u64 0, .int .u64 0, .bool true] 112
    rw [show ((w.alloc (.cells #[.int .u64 H, .int .u64 L] 115)).alloc (.cells #[.int .u64 0, .int .u64 0, .bool false] 112)).heap.size = w.heap.size + 1 + 1 by simp] at h
    exact h
/-- five stores of a step -/
theorem DivMem.five {w wr : World} {hi lo q r : Nat} {ok : Bool} (h : DivMem w wr hi lo q r ok) (hi2 lo2 q2 r2 : Nat) (ok2 : Bool) :
    DivMem w (((((wr.setCell ⟨w.heap.size, 0, none⟩ (.int .u64 hi2)).setCell ⟨w.heap.size, 1, none⟩ (.int .u64 lo2)).setCell ⟨w.heap.size + 1 + 1, 2, none⟩ (.bool ok2)).setCell ⟨w.heap.size + 1 + 1, 0, none⟩ (.int .u64 q2)).setCell ⟨w.heap.size + 1 + 1, 1, none⟩ (.int .u64 r2)) hi2 lo2 q2 r2 ok2 := by
  obtain ⟨hb, h2, h4, h5⟩ := h
  refine ⟨((((hb.setCell (p := ⟨w.heap.size, 0, none⟩) (Nat.le_refl _) _).setCell (p := ⟨w.heap.size, 1, none⟩) (Nat.le_refl _) _).setCell (p := ⟨w.heap.size + 1 + 1, 2, none⟩) (by dsimp only; omega) _).setCell (p := ⟨w.heap.size + 1 + 1, 0, none⟩) (by dsimp only; omega) _).setCell (p := ⟨w.heap.size + 1 + 1, 1, none⟩) (by dsimp only; omega) _, ?_, ?_, ?_⟩
  · exact ((((h2.set (i := 0) (by simp) _).set (i := 1) (by simp) _).far (p := ⟨w.heap.size + 1 + 1, 2, none⟩) (by dsimp only; omega) _).far (p := ⟨w.heap.size + 1 + 1, 0, none⟩) (by dsimp only; omega) _).far (p := ⟨w.heap.size + 1 + 1, 1, none⟩) (by dsimp only; omega) _
  · exact ((((h4.far (p := ⟨w.heap.size, 0, none⟩) (by dsimp only; omega) _).far (p := ⟨w.heap.size, 1, none⟩) (by dsimp only; omega) _).far (p := ⟨w.heap.size + 1 + 1, 2, none⟩) (by dsimp only; omega) _).far (p := ⟨w.heap.size + 1 + 1, 0, none⟩) (by dsimp only; omega) _).far (p := ⟨w.heap.size + 1 + 1, 1, none⟩) (by dsimp only; omega) _
  · exact ((((h5.far (p := ⟨w.heap.size, 0, none⟩) (by dsimp only; omega) _).far (p := ⟨w.heap.size, 1, none⟩) (by dsimp only; omega) _).set (i := 2) (by simp) _).set (i := 0) (by simp) _).set (i := 1) (by simp) _
theorem DivMem.seven {w wr : World} {hi lo q r : Nat} {ok : Bool} (h : DivMem w wr hi lo q r ok) (q2 r2 : Nat) :
    DivMem w ((wr.setCell ⟨w.heap.size + 1 + 1, 1, none⟩ (.int .u64 r2)).setCell ⟨w.heap.size + 1 + 1, 0, none⟩ (.int .u64 ((q2 : Int) + 1))) hi lo (q2 + 1) r2 ok := by
  rw [show (q2 : Int) + 1 = ((q2 + 1 : Nat) : Int) from rfl]
  obtain ⟨hb, h2, h4, h5⟩ := h
  refine ⟨(hb.setCell (p := ⟨w.heap.size + 1 + 1, 1, none⟩) (by dsimp only; omega) _).setCell (p := ⟨w.heap.size + 1 + 1, 0, none⟩) (by dsimp only; omega) _, ?_, ?_, ?_⟩
  · exact (h2.far (p := ⟨w.heap.size + 1 + 1, 1, none⟩) (by dsimp only; omega) _).far (p := ⟨w.heap.size + 1 + 1, 0, none⟩) (by dsimp only; omega) _
  · exact (h4.far (p := ⟨w.heap.size + 1 + 1, 1, none⟩) (by dsimp only; omega) _).far (p := ⟨w.heap.size + 1 + 1, 0, none⟩) (by dsimp only; omega) _
  · exact (h5.set (i := 1) (by simp) _).set (i := 0) (by simp) _
set_option maxRecDepth 100000 in
set_option maxHeartbeats 1000000 in
theorem rdivide_c (H L N by_ : Nat) (hH : H < 18446744073709551616) (hL : L < 18446744073709551616) (hN : H * 18446744073709551616 + L = N) (hb : 0 < by_) (hb2 : by_ ≤ 9223372036854775808) (w : World) :
    Calls Tryz.prog 95 #[.agg #[.int .u64 H, .int .u64 L], .int .u64 by_] w fun e w' =>
      e = .returned (.agg #[.int .u64 ((N / by_ % 18446744073709551616 : Nat) : Int), .int .u64 ((N % by_ : Nat) : Int), .bool (decide (N / by_ < 18446744073709551616))]) ∧ Below w.heap.size w w' := by
  have hD := DivAt.start (by_ := by_) hN hH hL
  replace hN := Lib.hid hN
  replace hD := Lib.hid hD
  go_enter Tryz.func95, Tryz.ntmps95
  go_wp2
  go_loopw [6] (fun i wr => ∃ (k hi lo q r : Nat) (ok : Bool), k ≤ 128 ∧ i = .int .i64 k ∧ Hid (DivAt N by_ k hi lo q r ok) ∧ DivMem w wr hi lo q r ok) (fun i _ => 128 - (intOf i).toNat)
  case atStart =>
    exact ⟨0, H, L, 0, 0, true, by omega, rfl, hD, DivMem.start w H L⟩
  case round =>
    clear hD hN
    obtain ⟨k, hi, lo, q, r, ok, hk, rfl, hD, hM⟩ := hrel
    by_cases hlt : k < 128
    · obtain ⟨bit, hi2, lo2, q2, r2, hS, hyes, hno⟩ := hD.out.go hb hb2 hlt
      obtain ⟨s1, s2, s3, s4, s5, s6, s7⟩ := hS
      obtain ⟨_, m2, m4, m5⟩ := id hM
      obtain ⟨c20, c21, f20, f21⟩ := m2.two
      obtain ⟨c50, c51, c52, f50, f51, f52⟩ := m5.three
      have l2 := m2.1
      have l5 := m5.1
      have hdd : decide (q < 9223372036854775808) = decide ((q : Int) < 9223372036854775808) := decide_eq_decide.2 (by omega)
      rw [hdd] at hyes hno
      obtain ⟨ok2, hok2⟩ : ∃ x, (ok && decide ((q : Int) < 9223372036854775808)) = x := ⟨_, rfl⟩
      rw [hok2] at hyes hno
      replace hok2 := Lib.hid hok2
      replace hyes := Lib.hid hyes
      replace hno := Lib.hid hno
      clear hdd
      have h5 := Lib.hid (hM.five hi2 lo2 q2 r2 ok2)
      clear m2 m4 m5 hD
      by_cases hc : by_ ≤ r2
      · obtain ⟨r3, hr3⟩ : ∃ r3, r2 - by_ = r3 := ⟨_, rfl⟩
        have hr4 : (r2 : Int) - (by_ : Int) = (r3 : Int) := by omega
        have h7 := Lib.hid (h5.out.seven q2 r3)
        rw [hr3] at hyes
        have hcd : decide (by_ ≤ r2) = true := decide_eq_true hc
        have hr5 : r3 < 18446744073709551616 := by omega
        clear hr3 hno h5 hM hc hb hb2 hH hL
        cases ok
        · obtain rfl : ok2 = false := hok2.out.symm
          clear hok2
          go_wp2
          exact ⟨⟨k + 1, hi2, lo2, q2 + 1, r3, _, by omega, by go_num, Lib.hid (hyes.out (of_decide_eq_true hcd)), h7.out⟩, by simp [intOf]; omega⟩
        · have hk2 := hok2.out
          rw [Bool.true_and] at hk2
          subst hk2
          clear hok2
          go_wp2
          exact ⟨⟨k + 1, hi2, lo2, q2 + 1, r3, _, by omega, by go_num, Lib.hid (hyes.out (of_decide_eq_true hcd)), h7.out⟩, by simp [intOf]; omega⟩
      · have hcd : decide (by_ ≤ r2) = false := decide_eq_false hc
        clear hyes hM hb hb2 hH hL
        cases ok
        · obtain rfl : ok2 = false := hok2.out.symm
          clear hok2
          go_wp2
          exact ⟨⟨k + 1, hi2, lo2, q2, r2, _, by omega, by go_num, Lib.hid (hno.out (by omega)), h5.out⟩, by simp [intOf]; omega⟩
        · have hk2 := hok2.out
          rw [Bool.true_and] at hk2
          subst hk2
          clear hok2
          go_wp2
          exact ⟨⟨k + 1, hi2, lo2, q2, r2, _, by omega, by go_num, Lib.hid (hno.out (by omega)), h5.out⟩, by simp [intOf]; omega⟩
    · obtain rfl : k = 128 := by omega
      obtain ⟨e1, e2, e3⟩ := hD.out.done
      obtain ⟨hb1, m2, m4, m5⟩ := hM
      obtain ⟨c50, c51, c52, f50, f51, f52⟩ := m5.three
      obtain ⟨c40, c41, c42, f40, f41, f42⟩ := m4.three
      have l4 := m4.1
      have l5 := m5.1
      obtain ⟨g0, g1, g2⟩ := three_set (u := .int .u64 q) (v := .int .u64 r) (r := .bool ok) c40 c41 c42
      have he := Lib.hid (And.intro e1 (And.intro e2 e3))
      replace hb1 := Lib.hid hb1
      replace g0 := Lib.hid g0
      replace g1 := Lib.hid g1
      replace g2 := Lib.hid g2
      clear m2 m4 m5 e1 e2 e3 hD hlt hk hb hb2 hH hL
      go_wp2
      exact bodyPost_ret (v := .agg #[.int .u64 q, .int .u64 r, .bool ok]) (by simp [results, Tryz.results95, go_sem, g0.out, g1.out, g2.out]) rfl ⟨by rw [he.out.1, he.out.2.1, he.out.2.2], set3 hb1.out (by omega) _ _ _⟩
end Go.Proofs.YtbjomidkeignjaaGreatDoor.Dec
namespace Go.Proofs.YtbjomidkeignjaaGreatDoor.Dec
open Go.RowKit Kit Reg

set_option maxRecDepth 100000 in
set_option maxHeartbeats 400000 in
theorem rscaled_none (a b c : Int) (h : a < -9223372036854775807 ∨ b < -9223372036854775807 ∨ c < -9223372036854775807 ∨ c = 0) (w : World) :
    Calls Tryz.prog 74 #[.int .i64 a, .int .i64 b, .int .i64 c] w (GotIs 0 false w) := by
  by_cases h1 : a < -9223372036854775807
  · have M := Lib.hid (fun w1 => rmay_c a false (mayD_no h1) w1)
    clear h
    go_enter Tryz.func74, Tryz.ntmps74
    go_wp2_with (go_at_call 34; (with_reducible refine (M.out _).mono ?_); rintro e w' ⟨rfl, rfl⟩)
    exact bodyPost_ret (v := .agg #[.int .i64 0, .bool false]) (by simp [results, Tryz.results74, go_sem]) rfl ⟨rfl, below1 _ _⟩
  have M := Lib.hid (fun w1 => rmay_c a true (mayD_yes (by omega)) w1)
  by_cases h2 : b < -9223372036854775807
  · have M2 := Lib.hid (fun w1 => rmay_c b false (mayD_no h2) w1)
    clear h
    go_enter Tryz.func74, Tryz.ntmps74
    go_wp2_with (go_at_call 34; first | ((with_reducible refine (M.out _).mono ?_); rintro e w' ⟨rfl, rfl⟩) | ((with_reducible refine (M2.out _).mono ?_); rintro e w' ⟨rfl, rfl⟩))
    exact bodyPost_ret (v := .agg #[.int .i64 0, .bool false]) (by simp [results, Tryz.results74, go_sem]) rfl ⟨rfl, below1 _ _⟩
  have M2 := Lib.hid (fun w1 => rmay_c b true (mayD_yes (by omega)) w1)
  by_cases h3 : c < -9223372036854775807
  · have M3 := Lib.hid (fun w1 => rmay_c c false (mayD_no h3) w1)
    clear h
    go_enter Tryz.func74, Tryz.ntmps74
    go_wp2_with (go_at_call 34; first | ((with_reducible refine (M.out _).mono ?_); rintro e w' ⟨rfl, rfl⟩) | ((with_reducible refine (M2.out _).mono ?_); rintro e w' ⟨rfl, rfl⟩) | ((with_reducible refine (M3.out _).mono ?_); rintro e w' ⟨rfl, rfl⟩))
    exact bodyPost_ret (v := .agg #[.int .i64 0, .bool false]) (by simp [results, Tryz.results74, go_sem]) rfl ⟨rfl, below1 _ _⟩
  have M3 := Lib.hid (fun w1 => rmay_c c true (mayD_yes (by omega)) w1)
  obtain rfl : c = 0 := by omega
  clear h
  go_enter Tryz.func74, Tryz.ntmps74
  go_wp2_with (go_at_call 34; first | ((with_reducible refine (M.out _).mono ?_); rintro e w' ⟨rfl, rfl⟩) | ((with_reducible refine (M2.out _).mono ?_); rintro e w' ⟨rfl, rfl⟩) | ((with_reducible refine (M3.out _).mono ?_); rintro e w' ⟨rfl, rfl⟩))
  exact bodyPost_ret (v := .agg #[.int .i64 0, .bool false]) (by simp [results, Tryz.results74, go_sem]) rfl ⟨rfl, below1 _ _⟩

set_option maxRecDepth 100000 in
set_option maxHeartbeats 1000000 in
theorem rscaled_may (a b c : Int) (a1 : -9223372036854775807 ≤ a) (a2 : a ≤ 9223372036854775807) (b1 : -9223372036854775807 ≤ b) (b2 : b ≤ 9223372036854775807) (c1 : -9223372036854775807 ≤ c) (c2 : c ≤ 9223372036854775807) (c0 : c ≠ 0)
    (n : Int) (k : Bool) (hn : scaledD a b c = (n, k)) (w : World) :
    Calls Tryz.prog 74 #[.int .i64 a, .int .i64 b, .int .i64 c] w (GotIs n k w) := by
  have M := Lib.hid (fun w1 => rmay_c a true (mayD_yes a1) w1)
  have M2 := Lib.hid (fun w1 => rmay_c b true (mayD_yes b1) w1)
  have M3 := Lib.hid (fun w1 => rmay_c c true (mayD_yes c1) w1)
  obtain ⟨x, hx⟩ : ∃ x, a.natAbs = x := ⟨_, rfl⟩
  obtain ⟨y, hy⟩ : ∃ y, b.natAbs = y := ⟨_, rfl⟩
  obtain ⟨z, hz⟩ : ∃ z, c.natAbs = z := ⟨_, rfl⟩
  have S := Lib.hid (fun w1 => rabs_c a a1 a2 w1)
  have S2 := Lib.hid (fun w1 => rabs_c b b1 b2 w1)
  have S3 := Lib.hid (fun w1 => rabs_c c c1 c2 w1)
  rw [hx] at S; rw [hy] at S2; rw [hz] at S3
  have hc0 : (c == 0) = false := by simpa using c0
  have hz0 : 0 < z := by omega
  have hzl : z ≤ 9223372036854775807 := by omega
  obtain ⟨N, hN⟩ : ∃ N, x * y = N := ⟨_, rfl⟩
  obtain ⟨H, hH⟩ : ∃ H, N / 18446744073709551616 = H := ⟨_, rfl⟩
  obtain ⟨L, hL⟩ : ∃ L, N % 18446744073709551616 = L := ⟨_, rfl⟩
  have hNl : x * y < 18446744073709551616 * 18446744073709551616 := Nat.mul_lt_mul'' (by omega) (by omega)
  have T := Lib.hid (fun w1 => rtimes_c x y H L (by omega) (by omega) (by rw [hN]; exact hH) (by rw [hN]; exact hL) w1)
  have D := Lib.hid (fun w1 => rdivide_c H L N z (by rw [← hH, Nat.div_lt_iff_lt_mul (by omega), ← hN]; exact hNl) (by rw [← hL]; exact Nat.mod_lt _ (by omega)) (by rw [← hH, ← hL]; exact Nat.div_add_mod' _ _) hz0 (by omega) w1)
  have hNe : a.natAbs * b.natAbs = N := by rw [hx, hy, hN]
  obtain ⟨q, hq⟩ : ∃ q, N / z = q := ⟨_, rfl⟩
  obtain ⟨r, hr⟩ : ∃ r, N % z = r := ⟨_, rfl⟩
  have hrz : r < z := by rw [← hr]; exact Nat.mod_lt _ hz0
  have hge : q ≤ roundN N z := by rw [← hq]; exact roundN_ge N z
  rw [hq, hr] at D
  clear hNl hH hL
  by_cases hbig : 18446744073709551616 ≤ q
  · obtain ⟨rfl, rfl⟩ := Prod.mk.inj ((scaledD_out (by rw [hNe, hz]; omega)).symm.trans hn)
    rw [decide_eq_false (by omega)] at D
    obtain ⟨q0, hq0⟩ : ∃ q0, q % 18446744073709551616 = q0 := ⟨_, rfl⟩
    rw [hq0] at D
    clear hbig hq0 hq hr hge hn hNe hN hx hy hz c0
    go_enter Tryz.func74, Tryz.ntmps74
    go_wp2_with (first
      | (go_at_call 34; first | ((with_reducible refine (M.out _).mono ?_); rintro e w' ⟨rfl, rfl⟩) | ((with_reducible refine (M2.out _).mono ?_); rintro e w' ⟨rfl, rfl⟩) | ((with_reducible refine (M3.out _).mono ?_); rintro e w' ⟨rfl, rfl⟩))
      | (go_at_call 94; first | ((with_reducible refine (S.out _).mono ?_); rintro e w' ⟨rfl, rfl⟩) | ((with_reducible refine (S2.out _).mono ?_); rintro e w' ⟨rfl, rfl⟩) | ((with_reducible refine (S3.out _).mono ?_); rintro e w' ⟨rfl, rfl⟩)))
    refine (T.out _).mono ?_
    rintro e w1 ⟨rfl, hb1⟩
    go_wp2_with fail
    refine (D.out _).mono ?_
    rintro e w2 ⟨rfl, hb2⟩
    obtain ⟨hc, hw⟩ := slot (cs := [.int .i64 0, .bool false]) (ty := 70) (on hb1 hb2)
    have hlt := hc.1
    obtain ⟨p0, p1, f0, f1⟩ := hc.two
    obtain ⟨e0, e1⟩ := two_set (u := .int .i64 (0)) (v := .bool false) p0 p1
    have hw3 := Lib.hid hw
    replace e0 := Lib.hid (kept_alloc (.cells #[.int .u64 q0, .int .u64 r, .bool false] 112) e0)
    replace e1 := Lib.hid (kept_alloc (.cells #[.int .u64 q0, .int .u64 r, .bool false] 112) e1)
    clear hb1 hb2 hc hw
    go_wp2_with fail
    exact bodyPost_ret (v := .agg #[.int .i64 (0), .bool false]) (by simp [results, Tryz.results74, go_sem, e0.out, e1.out]) rfl ⟨rfl, on_alloc (set2 hw3.out (Nat.le_refl _) _ _) _⟩
  rw [decide_eq_true (by omega), Nat.mod_eq_of_lt (by omega)] at D
  by_cases hqb : 9223372036854775807 < q
  · obtain ⟨rfl, rfl⟩ := Prod.mk.inj ((scaledD_out (by rw [hNe, hz]; omega)).symm.trans hn)
    have t2 : decide ((9223372036854775807 : Int) < (q : Int)) = true := decide_eq_true (by omega)
    clear hbig hqb hq hr hge hn hNe hN hx hy hz c0
    go_enter Tryz.func74, Tryz.ntmps74
    go_wp2_with (first
      | (go_at_call 34; first | ((with_reducible refine (M.out _).mono ?_); rintro e w' ⟨rfl, rfl⟩) | ((with_reducible refine (M2.out _).mono ?_); rintro e w' ⟨rfl, rfl⟩) | ((with_reducible refine (M3.out _).mono ?_); rintro e w' ⟨rfl, rfl⟩))
      | (go_at_call 94; first | ((with_reducible refine (S.out _).mono ?_); rintro e w' ⟨rfl, rfl⟩) | ((with_reducible refine (S2.out _).mono ?_); rintro e w' ⟨rfl, rfl⟩) | ((with_reducible refine (S3.out _).mono ?_); rintro e w' ⟨rfl, rfl⟩)))
    refine (T.out _).mono ?_
    rintro e w1 ⟨rfl, hb1⟩
    go_wp2_with fail
    refine (D.out _).mono ?_
    rintro e w2 ⟨rfl, hb2⟩
    obtain ⟨hc, hw⟩ := slot (cs := [.int .i64 0, .bool false]) (ty := 70) (on hb1 hb2)
    have hlt := hc.1
    obtain ⟨p0, p1, f0, f1⟩ := hc.two
    obtain ⟨e0, e1⟩ := two_set (u := .int .i64 (0)) (v := .bool false) p0 p1
    have hw3 := Lib.hid hw
    replace e0 := Lib.hid (kept_alloc (.cells #[.int .u64 q, .int .u64 r, .bool true] 112) e0)
    replace e1 := Lib.hid (kept_alloc (.cells #[.int .u64 q, .int .u64 r, .bool true] 112) e1)
    clear hb1 hb2 hc hw
    go_wp2_with fail
    exact bodyPost_ret (v := .agg #[.int .i64 (0), .bool false]) (by simp [results, Tryz.results74, go_sem, e0.out, e1.out]) rfl ⟨rfl, on_alloc (set2 hw3.out (Nat.le_refl _) _ _) _⟩
  have t2 : decide ((9223372036854775807 : Int) < (q : Int)) = false := decide_eq_false (by omega)
  by_cases hup : z - r ≤ r
  · have t3 : decide ((z : Int) - (r : Int) ≤ (r : Int)) = true := decide_eq_true (by omega)
    have e := roundN_up hq hr hup
    by_cases hov : q = 9223372036854775807
    · obtain ⟨rfl, rfl⟩ := Prod.mk.inj ((scaledD_out (by rw [hNe, hz]; omega)).symm.trans hn)
      subst hov
      clear hbig hqb hq hr hge hn hNe hN hx hy hz c0 e hup
      go_enter Tryz.func74, Tryz.ntmps74
      go_wp2_with (first
        | (go_at_call 34; first | ((with_reducible refine (M.out _).mono ?_); rintro e w' ⟨rfl, rfl⟩) | ((with_reducible refine (M2.out _).mono ?_); rintro e w' ⟨rfl, rfl⟩) | ((with_reducible refine (M3.out _).mono ?_); rintro e w' ⟨rfl, rfl⟩))
        | (go_at_call 94; first | ((with_reducible refine (S.out _).mono ?_); rintro e w' ⟨rfl, rfl⟩) | ((with_reducible refine (S2.out _).mono ?_); rintro e w' ⟨rfl, rfl⟩) | ((with_reducible refine (S3.out _).mono ?_); rintro e w' ⟨rfl, rfl⟩)))
      refine (T.out _).mono ?_
      rintro e w1 ⟨rfl, hb1⟩
      go_wp2_with fail
      refine (D.out _).mono ?_
      rintro e w2 ⟨rfl, hb2⟩
      obtain ⟨hc, hw⟩ := slot (cs := [.int .i64 0, .bool false]) (ty := 70) (on hb1 hb2)
      have hlt := hc.1
      obtain ⟨p0, p1, f0, f1⟩ := hc.two
      obtain ⟨e0, e1⟩ := two_set (u := .int .i64 (0)) (v := .bool false) p0 p1
      have hw3 := Lib.hid hw
      replace e0 := Lib.hid (kept_alloc (.cells #[.int .u64 9223372036854775807, .int .u64 r, .bool true] 112) e0)
      replace e1 := Lib.hid (kept_alloc (.cells #[.int .u64 9223372036854775807, .int .u64 r, .bool true] 112) e1)
      clear hb1 hb2 hc hw
      go_wp2_with fail
      exact bodyPost_ret (v := .agg #[.int .i64 (0), .bool false]) (by simp [results, Tryz.results74, go_sem, e0.out, e1.out]) rfl ⟨rfl, on_alloc (set2 hw3.out (Nat.le_refl _) _ _) _⟩
    obtain ⟨m, hm⟩ : ∃ m, q + 1 = m := ⟨_, rfl⟩
    rw [hm] at e
    have hsR : roundN (a.natAbs * b.natAbs) c.natAbs = m := by rw [hNe, hz]; exact e
    have hm2 : (q : Int) + 1 = (m : Int) := by omega
    obtain ⟨rfl, rfl⟩ := Prod.mk.inj ((scaledD_in a1 b1 c1 c0 hsR (by omega)).symm.trans hn)
    have t4 : decide ((9223372036854775807 : Int) < (m : Int)) = false := decide_eq_false (by omega)
    have hml : m ≤ 9223372036854775807 := by omega
    obtain ⟨v, hv⟩ : ∃ v, (decide (a < 0) != decide (b < 0)) = v := ⟨_, rfl⟩
    obtain ⟨u, hu⟩ : ∃ u, decide (c < 0) = u := ⟨_, rfl⟩
    have hv2 : (!(decide (a < 0) == decide (b < 0))) = v := by rw [← hv]; cases decide (a < 0) <;> cases decide (b < 0) <;> rfl
    unfold negs
    rw [hv, hu]
    clear hbig hqb hq hr hge hn hNe hN hx hy hz c0 e hup hov hm hsR
    cases v <;> cases u
    · show Calls _ _ _ w (GotIs ((m : Int)) true w)
      go_enter Tryz.func74, Tryz.ntmps74
      go_wp2_with (first
        | (go_at_call 34; first | ((with_reducible refine (M.out _).mono ?_); rintro e w' ⟨rfl, rfl⟩) | ((with_reducible refine (M2.out _).mono ?_); rintro e w' ⟨rfl, rfl⟩) | ((with_reducible refine (M3.out _).mono ?_); rintro e w' ⟨rfl, rfl⟩))
        | (go_at_call 94; first | ((with_reducible refine (S.out _).mono ?_); rintro e w' ⟨rfl, rfl⟩) | ((with_reducible refine (S2.out _).mono ?_); rintro e w' ⟨rfl, rfl⟩) | ((with_reducible refine (S3.out _).mono ?_); rintro e w' ⟨rfl, rfl⟩)))
      refine (T.out _).mono ?_
      rintro e w1 ⟨rfl, hb1⟩
      go_wp2_with fail
      refine (D.out _).mono ?_
      rintro e w2 ⟨rfl, hb2⟩
      obtain ⟨hc, hw⟩ := slot (cs := [.int .i64 0, .bool false]) (ty := 70) (on hb1 hb2)
      have hlt := hc.1
      obtain ⟨p0, p1, f0, f1⟩ := hc.two
      obtain ⟨e0, e1⟩ := two_set (u := .int .i64 ((m : Int))) (v := .bool true) p0 p1
      have hw3 := Lib.hid hw
      replace e0 := Lib.hid (kept_alloc (.cells #[.int .u64 q, .int .u64 r, .bool true] 112) e0)
      replace e1 := Lib.hid (kept_alloc (.cells #[.int .u64 q, .int .u64 r, .bool true] 112) e1)
      clear hb1 hb2 hc hw
      go_wp2_with fail
      exact bodyPost_ret (v := .agg #[.int .i64 ((m : Int)), .bool true]) (by simp [results, Tryz.results74, go_sem, e0.out, e1.out]) rfl ⟨rfl, on_alloc (set2 hw3.out (Nat.le_refl _) _ _) _⟩
    · show Calls _ _ _ w (GotIs (-(m : Int)) true w)
      go_enter Tryz.func74, Tryz.ntmps74
      go_wp2_with (first
        | (go_at_call 34; first | ((with_reducible refine (M.out _).mono ?_); rintro e w' ⟨rfl, rfl⟩) | ((with_reducible refine (M2.out _).mono ?_); rintro e w' ⟨rfl, rfl⟩) | ((with_reducible refine (M3.out _).mono ?_); rintro e w' ⟨rfl, rfl⟩))
        | (go_at_call 94; first | ((with_reducible refine (S.out _).mono ?_); rintro e w' ⟨rfl, rfl⟩) | ((with_reducible refine (S2.out _).mono ?_); rintro e w' ⟨rfl, rfl⟩) | ((with_reducible refine (S3.out _).mono ?_); rintro e w' ⟨rfl, rfl⟩)))
      refine (T.out _).mono ?_
      rintro e w1 ⟨rfl, hb1⟩
      go_wp2_with fail
      refine (D.out _).mono ?_
      rintro e w2 ⟨rfl, hb2⟩
      obtain ⟨hc, hw⟩ := slot (cs := [.int .i64 0, .bool false]) (ty := 70) (on hb1 hb2)
      have hlt := hc.1
      obtain ⟨p0, p1, f0, f1⟩ := hc.two
      obtain ⟨e0, e1⟩ := two_set (u := .int .i64 (-(m : Int))) (v := .bool true) p0 p1
      have hw3 := Lib.hid hw
      replace e0 := Lib.hid (kept_alloc (.cells #[.int .u64 q, .int .u64 r, .bool true] 112) e0)
      replace e1 := Lib.hid (kept_alloc (.cells #[.int .u64 q, .int .u64 r, .bool true] 112) e1)
      clear hb1 hb2 hc hw
      go_wp2_with fail
      exact bodyPost_ret (v := .agg #[.int .i64 (-(m : Int)), .bool true]) (by simp [results, Tryz.results74, go_sem, e0.out, e1.out]) rfl ⟨rfl, on_alloc (set2 hw3.out (Nat.le_refl _) _ _) _⟩
    · show Calls _ _ _ w (GotIs (-(m : Int)) true w)
      go_enter Tryz.func74, Tryz.ntmps74
      go_wp2_with (first
        | (go_at_call 34; first | ((with_reducible refine (M.out _).mono ?_); rintro e w' ⟨rfl, rfl⟩) | ((with_reducible refine (M2.out _).mono ?_); rintro e w' ⟨rfl, rfl⟩) | ((with_reducible refine (M3.out _).mono ?_); rintro e w' ⟨rfl, rfl⟩))
        | (go_at_call 94; first | ((with_reducible refine (S.out _).mono ?_); rintro e w' ⟨rfl, rfl⟩) | ((with_reducible refine (S2.out _).mono ?_); rintro e w' ⟨rfl, rfl⟩) | ((with_reducible refine (S3.out _).mono ?_); rintro e w' ⟨rfl, rfl⟩)))
      refine (T.out _).mono ?_
      rintro e w1 ⟨rfl, hb1⟩
      go_wp2_with fail
      refine (D.out _).mono ?_
      rintro e w2 ⟨rfl, hb2⟩
      obtain ⟨hc, hw⟩ := slot (cs := [.int .i64 0, .bool false]) (ty := 70) (on hb1 hb2)
      have hlt := hc.1
      obtain ⟨p0, p1, f0, f1⟩ := hc.two
      obtain ⟨e0, e1⟩ := two_set (u := .int .i64 (-(m : Int))) (v := .bool true) p0 p1
      have hw3 := Lib.hid hw
      replace e0 := Lib.hid (kept_alloc (.cells #[.int .u64 q, .int .u64 r, .bool true] 112) e0)
      replace e1 := Lib.hid (kept_alloc (.cells #[.int .u64 q, .int .u64 r, .bool true] 112) e1)
      clear hb1 hb2 hc hw
      go_wp2_with fail
      exact bodyPost_ret (v := .agg #[.int .i64 (-(m : Int)), .bool true]) (by simp [results, Tryz.results74, go_sem, e0.out, e1.out]) rfl ⟨rfl, on_alloc (set2 hw3.out (Nat.le_refl _) _ _) _⟩
    · show Calls _ _ _ w (GotIs ((m : Int)) true w)
      go_enter Tryz.func74, Tryz.ntmps74
      go_wp2_with (first
        | (go_at_call 34; first | ((with_reducible refine (M.out _).mono ?_); rintro e w' ⟨rfl, rfl⟩) | ((with_reducible refine (M2.out _).mono ?_); rintro e w' ⟨rfl, rfl⟩) | ((with_reducible refine (M3.out _).mono ?_); rintro e w' ⟨rfl, rfl⟩))
        | (go_at_call 94; first | ((with_reducible refine (S.out _).mono ?_); rintro e w' ⟨rfl, rfl⟩) | ((with_reducible refine (S2.out _).mono ?_); rintro e w' ⟨rfl, rfl⟩) | ((with_reducible refine (S3.out _).mono ?_); rintro e w' ⟨rfl, rfl⟩)))
      refine (T.out _).mono ?_
      rintro e w1 ⟨rfl, hb1⟩
      go_wp2_with fail
      refine (D.out _).mono ?_
      rintro e w2 ⟨rfl, hb2⟩
      obtain ⟨hc, hw⟩ := slot (cs := [.int .i64 0, .bool false]) (ty := 70) (on hb1 hb2)
      have hlt := hc.1
      obtain ⟨p0, p1, f0, f1⟩ := hc.two
      obtain ⟨e0, e1⟩ := two_set (u := .int .i64 ((m : Int))) (v := .bool true) p0 p1
      have hw3 := Lib.hid hw
      replace e0 := Lib.hid (kept_alloc (.cells #[.int .u64 q, .int .u64 r, .bool true] 112) e0)
      replace e1 := Lib.hid (kept_alloc (.cells #[.int .u64 q, .int .u64 r, .bool true] 112) e1)
      clear hb1 hb2 hc hw
      go_wp2_with fail
      exact bodyPost_ret (v := .agg #[.int .i64 ((m : Int)), .bool true]) (by simp [results, Tryz.results74, go_sem, e0.out, e1.out]) rfl ⟨rfl, on_alloc (set2 hw3.out (Nat.le_refl _) _ _) _⟩
  · have t3 : decide ((z : Int) - (r : Int) ≤ (r : Int)) = false := decide_eq_false (by omega)
    have e := roundN_down hq hr (by omega)
    have hsR : roundN (a.natAbs * b.natAbs) c.natAbs = q := by rw [hNe, hz]; exact e
    obtain ⟨rfl, rfl⟩ := Prod.mk.inj ((scaledD_in a1 b1 c1 c0 hsR (by omega)).symm.trans hn)
    have hml : q ≤ 9223372036854775807 := by omega
    obtain ⟨v, hv⟩ : ∃ v, (decide (a < 0) != decide (b < 0)) = v := ⟨_, rfl⟩
    obtain ⟨u, hu⟩ : ∃ u, decide (c < 0) = u := ⟨_, rfl⟩
    have hv2 : (!(decide (a < 0) == decide (b < 0))) = v := by rw [← hv]; cases decide (a < 0) <;> cases decide (b < 0) <;> rfl
    unfold negs
    rw [hv, hu]
    clear hbig hqb hq hr hge hn hNe hN hx hy hz c0 e hup hsR
    cases v <;> cases u
    · show Calls _ _ _ w (GotIs ((q : Int)) true w)
      go_enter Tryz.func74, Tryz.ntmps74
      go_wp2_with (first
        | (go_at_call 34; first | ((with_reducible refine (M.out _).mono ?_); rintro e w' ⟨rfl, rfl⟩) | ((with_reducible refine (M2.out _).mono ?_); rintro e w' ⟨rfl, rfl⟩) | ((with_reducible refine (M3.out _).mono ?_); rintro e w' ⟨rfl, rfl⟩))
        | (go_at_call 94; first | ((with_reducible refine (S.out _).mono ?_); rintro e w' ⟨rfl, rfl⟩) | ((with_reducible refine (S2.out _).mono ?_); rintro e w' ⟨rfl, rfl⟩) | ((with_reducible refine (S3.out _).mono ?_); rintro e w' ⟨rfl, rfl⟩)))
      refine (T.out _).mono ?_
      rintro e w1 ⟨rfl, hb1⟩
      go_wp2_with fail
      refine (D.out _).mono ?_
      rintro e w2 ⟨rfl, hb2⟩
      obtain ⟨hc, hw⟩ := slot (cs := [.int .i64 0, .bool false]) (ty := 70) (on hb1 hb2)
      have hlt := hc.1
      obtain ⟨p0, p1, f0, f1⟩ := hc.two
      obtain ⟨e0, e1⟩ := two_set (u := .int .i64 ((q : Int))) (v := .bool true) p0 p1
      have hw3 := Lib.hid hw
      replace e0 := Lib.hid (kept_alloc (.cells #[.int .u64 q, .int .u64 r, .bool true] 112) e0)
      replace e1 := Lib.hid (kept_alloc (.cells #[.int .u64 q, .int .u64 r, .bool true] 112) e1)
      clear hb1 hb2 hc hw
      go_wp2_with fail
      exact bodyPost_ret (v := .agg #[.int .i64 ((q : Int)), .bool true]) (by simp [results, Tryz.results74, go_sem, e0.out, e1.out]) rfl ⟨rfl, on_alloc (set2 hw3.out (Nat.le_refl _) _ _) _⟩
    · show Calls _ _ _ w (GotIs (-(q : Int)) true w)
      go_enter Tryz.func74, Tryz.ntmps74
      go_wp2_with (first
        | (go_at_call 34; first | ((with_reducible refine (M.out _).mono ?_); rintro e w' ⟨rfl, rfl⟩) | ((with_reducible refine (M2.out _).mono ?_); rintro e w' ⟨rfl, rfl⟩) | ((with_reducible refine (M3.out _).mono ?_); rintro e w' ⟨rfl, rfl⟩))
        | (go_at_call 94; first | ((with_reducible refine (S.out _).mono ?_); rintro e w' ⟨rfl, rfl⟩) | ((with_reducible refine (S2.out _).mono ?_); rintro e w' ⟨rfl, rfl⟩) | ((with_reducible refine (S3.out _).mono ?_); rintro e w' ⟨rfl, rfl⟩)))
      refine (T.out _).mono ?_
      rintro e w1 ⟨rfl, hb1⟩
      go_wp2_with fail
      refine (D.out _).mono ?_
      rintro e w2 ⟨rfl, hb2⟩
      obtain ⟨hc, hw⟩ := slot (cs := [.int .i64 0, .bool false]) (ty := 70) (on hb1 hb2)
      have hlt := hc.1
      obtain ⟨p0, p1, f0, f1⟩ := hc.two
      obtain ⟨e0, e1⟩ := two_set (u := .int .i64 (-(q : Int))) (v := .bool true) p0 p1
      have hw3 := Lib.hid hw
      replace e0 := Lib.hid (kept_alloc (.cells #[.int .u64 q, .int .u64 r, .bool true] 112) e0)
      replace e1 := Lib.hid (kept_alloc (.cells #[.int .u64 q, .int .u64 r, .bool true] 112) e1)
      clear hb1 hb2 hc hw
      go_wp2_with fail
      exact bodyPost_ret (v := .agg #[.int .i64 (-(q : Int)), .bool true]) (by simp [results, Tryz.results74, go_sem, e0.out, e1.out]) rfl ⟨rfl, on_alloc (set2 hw3.out (Nat.le_refl _) _ _) _⟩
    · show Calls _ _ _ w (GotIs (-(q : Int)) true w)
      go_enter Tryz.func74, Tryz.ntmps74
      go_wp2_with (first
        | (go_at_call 34; first | ((with_reducible refine (M.out _).mono ?_); rintro e w' ⟨rfl, rfl⟩) | ((with_reducible refine (M2.out _).mono ?_); rintro e w' ⟨rfl, rfl⟩) | ((with_reducible refine (M3.out _).mono ?_); rintro e w' ⟨rfl, rfl⟩))
        | (go_at_call 94; first | ((with_reducible refine (S.out _).mono ?_); rintro e w' ⟨rfl, rfl⟩) | ((with_reducible refine (S2.out _).mono ?_); rintro e w' ⟨rfl, rfl⟩) | ((with_reducible refine (S3.out _).mono ?_); rintro e w' ⟨rfl, rfl⟩)))
      refine (T.out _).mono ?_
      rintro e w1 ⟨rfl, hb1⟩
      go_wp2_with fail
      refine (D.out _).mono ?_
      rintro e w2 ⟨rfl, hb2⟩
      obtain ⟨hc, hw⟩ := slot (cs := [.int .i64 0, .bool false]) (ty := 70) (on hb1 hb2)
      have hlt := hc.1
      obtain ⟨p0, p1, f0, f1⟩ := hc.two
      obtain ⟨e0, e1⟩ := two_set (u := .int .i64 (-(q : Int))) (v := .bool true) p0 p1
      have hw3 := Lib.hid hw
      replace e0 := Lib.hid (kept_alloc (.cells #[.int .u64 q, .int .u64 r, .bool true] 112) e0)
      replace e1 := Lib.hid (kept_alloc (.cells #[.int .u64 q, .int .u64 r, .bool true] 112) e1)
      clear hb1 hb2 hc hw
      go_wp2_with fail
      exact bodyPost_ret (v := .agg #[.int .i64 (-(q : Int)), .bool true]) (by simp [results, Tryz.results74, go_sem, e0.out, e1.out]) rfl ⟨rfl, on_alloc (set2 hw3.out (Nat.le_refl _) _ _) _⟩
    · show Calls _ _ _ w (GotIs ((q : Int)) true w)
      go_enter Tryz.func74, Tryz.ntmps74
      go_wp2_with (first
        | (go_at_call 34; first | ((with_reducible refine (M.out _).mono ?_); rintro e w' ⟨rfl, rfl⟩) | ((with_reducible refine (M2.out _).mono ?_); rintro e w' ⟨rfl, rfl⟩) | ((with_reducible refine (M3.out _).mono ?_); rintro e w' ⟨rfl, rfl⟩))
        | (go_at_call 94; first | ((with_reducible refine (S.out _).mono ?_); rintro e w' ⟨rfl, rfl⟩) | ((with_reducible refine (S2.out _).mono ?_); rintro e w' ⟨rfl, rfl⟩) | ((with_reducible refine (S3.out _).mono ?_); rintro e w' ⟨rfl, rfl⟩)))
      refine (T.out _).mono ?_
      rintro e w1 ⟨rfl, hb1⟩
      go_wp2_with fail
      refine (D.out _).mono ?_
      rintro e w2 ⟨rfl, hb2⟩
      obtain ⟨hc, hw⟩ := slot (cs := [.int .i64 0, .bool false]) (ty := 70) (on hb1 hb2)
      have hlt := hc.1
      obtain ⟨p0, p1, f0, f1⟩ := hc.two
      obtain ⟨e0, e1⟩ := two_set (u := .int .i64 ((q : Int))) (v := .bool true) p0 p1
      have hw3 := Lib.hid hw
      replace e0 := Lib.hid (kept_alloc (.cells #[.int .u64 q, .int .u64 r, .bool true] 112) e0)
      replace e1 := Lib.hid (kept_alloc (.cells #[.int .u64 q, .int .u64 r, .bool true] 112) e1)
      clear hb1 hb2 hc hw
      go_wp2_with fail
      exact bodyPost_ret (v := .agg #[.int .i64 ((q : Int)), .bool true]) (by simp [results, Tryz.results74, go_sem, e0.out, e1.out]) rfl ⟨rfl, on_alloc (set2 hw3.out (Nat.le_refl _) _ _) _⟩
theorem rscaled_c (a b c : Int) (a2 : a ≤ 9223372036854775807) (b2 : b ≤ 9223372036854775807) (c2 : c ≤ 9223372036854775807) (n : Int) (k : Bool) (hn : scaledD a b c = (n, k)) (w : World) :
    Calls Tryz.prog 74 #[.int .i64 a, .int .i64 b, .int .i64 c] w (GotIs n k w) := by
  by_cases h : a < -9223372036854775807 ∨ b < -9223372036854775807 ∨ c < -9223372036854775807 ∨ c = 0
  · obtain ⟨rfl, rfl⟩ := Prod.mk.inj ((scaledD_none h).symm.trans hn)
    exact rscaled_none a b c h w
  · exact rscaled_may a b c (by omega) a2 (by omega) b2 (by omega) c2 (by omega) n k hn w
set_option maxRecDepth 100000 in
set_option maxHeartbeats 400000 in
theorem rmul_c (a b : Int) (a2 : a ≤ 9223372036854775807) (b2 : b ≤ 9223372036854775807) (n : Int) (k : Bool) (hn : scaledD a b 10000 = (n, k)) (w : World) :
    Calls Tryz.prog 56 #[.int .i64 a, .int .i64 b] w (GotIs n k w) := by
  have S := Lib.hid (fun w1 => rscaled_c a b 10000 a2 b2 (by omega) n k hn w1)
  clear hn
  go_enter Tryz.func56, Tryz.ntmps56
  go_wp2_with fail
  refine (S.out _).mono ?_
  rintro e w1 ⟨rfl, hb1⟩
  obtain ⟨hc, hw⟩ := slot (cs := [.int .i64 0, .bool false]) (ty := 70) hb1
  obtain ⟨p0, p1, f0, f1⟩ := hc.two
  obtain ⟨e0, e1⟩ := two_set (u := .int .i64 n) (v := .bool k) p0 p1
  have hw3 := Lib.hid hw
  replace e0 := Lib.hid e0
  replace e1 := Lib.hid e1
  have hlt := hc.1
  clear hb1 hc hw
  go_wp2_with fail
  exact bodyPost_ret (v := .agg #[.int .i64 n, .bool k]) (by simp [results, Tryz.results56, go_sem, e0.out, e1.out]) rfl ⟨rfl, set2 hw3.out (Nat.le_refl _) _ _⟩
end Go.Proofs.YtbjomidkeignjaaGreatDoor.Dec

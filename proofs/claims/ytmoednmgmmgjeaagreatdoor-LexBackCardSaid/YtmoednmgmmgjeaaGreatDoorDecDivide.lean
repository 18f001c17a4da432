/- What the reference's Divide answers: long division bit by bit, 128 steps. -/
import Derived.Test.YtmoednmgmmgjeaaGreatDoorDecTimes
import Derived.Test.YtmoednmgmmgjeaaGreatDoorKit4
namespace Go.Proofs.YtmoednmgmmgjeaaGreatDoor.Dec
open Go.RowKit Kit Reg

/-- a step's numbers -/
structure Step (by_ hi lo q r : Nat) (ok : Bool) (bit hi2 lo2 q2 r2 : Nat) : Prop where
  b : (hi : Int) / 9223372036854775808 = (bit : Int)
  h : IntKind.u64.wrap (IntKind.u64.wrap ((hi : Int) * 2) + IntKind.u64.wrap ((lo : Int) / 9223372036854775808)) = (hi2 : Int)
  l : IntKind.u64.wrap ((lo : Int) * 2) = (lo2 : Int)
  q : IntKind.u64.wrap ((q : Int) * 2) = (q2 : Int)
  r : (r : Int) * 2 + (bit : Int) = (r2 : Int)
  rl : r2 < 18446744073709551616
  ql : q2 ≤ 18446744073709551614
theorem DivAt.go {N by_ i hi lo q r : Nat} {ok : Bool} (hb : 0 < by_) (hb2 : by_ ≤ 9223372036854775808) (hlt : i < 128) (h : DivAt N by_ i hi lo q r ok) :
    ∃ bit hi2 lo2 q2 r2 : Nat, Step by_ hi lo q r ok bit hi2 lo2 q2 r2 ∧
      (by_ ≤ r2 → DivAt N by_ (i + 1) hi2 lo2 (q2 + 1) (r2 - by_) (ok && decide (q < 9223372036854775808))) ∧
      (r2 < by_ → DivAt N by_ (i + 1) hi2 lo2 q2 r2 (ok && decide (q < 9223372036854775808))) := by
  obtain ⟨h1, h2⟩ := h.step hb hb2 hlt
  obtain ⟨bit, hbit⟩ : ∃ bit, hi / 9223372036854775808 = bit := ⟨_, rfl⟩
  obtain ⟨r2, hr2⟩ : ∃ r2, r * 2 + bit = r2 := ⟨_, rfl⟩
  have hhi := h.hiU
  have hlo := h.loU
  have hq : q * 2 % 18446744073709551616 + 1 < 18446744073709551616 := by omega
  rw [hbit, hr2] at h1 h2
  refine ⟨bit, (hi * 2 + lo / 9223372036854775808) % 18446744073709551616, lo * 2 % 18446744073709551616, q * 2 % 18446744073709551616, r2, ⟨by omega, ?_, ?_, ?_, by omega, by omega, by omega⟩, ?_, ?_⟩
  · rw [IntKind.wrap_u64, IntKind.wrap_u64, IntKind.wrap_u64]; omega
  · rw [IntKind.wrap_u64]; omega
  · rw [IntKind.wrap_u64]; omega
  · intro hc; rw [if_pos hc, if_pos hc] at h2; exact h2
  · intro hc; rw [if_neg (by omega), if_neg (by omega)] at h2; exact h2
/-- the memory of Divide as its loop goes on -/
def DivMem (w wr : World) (hi lo q r : Nat) (ok : Bool) : Prop :=
  Below w.heap.size w wr ∧ CellsAt wr w.heap.size [.int .u64 hi, .int .u64 lo] ∧ CellsAt wr (w.heap.size + 1) [.int .u64 0, .int .u64 0, .bool false] ∧ CellsAt wr (w.heap.size + 1 + 1) [.int .u64 q, .int .u64 r, .bool ok]
theorem DivMem.start (w : World) (H L : Nat) : DivMem w (((w.alloc (.cells #[.int .u64 H, .int .u64 L] 121)).alloc (.cells #[.int .u64 0, .int .u64 0, .bool false] 118)).alloc (.cells #[.int .u64 0, .int .u64 0, .bool true] 118)) H L 0 0 true := by
  refine ⟨below3 _ _ _ _, ((CellsAt.new w [.int .u64 H, .int .u64 L] _).on_alloc _).on_alloc _, ?_, ?_⟩
  · have h := (CellsAt.new (w.alloc (.cells #[.int .u64 H, .int .u64 L] 121)) [.int .u64 0, .int .u64 0, .bool false] 118).on_alloc (.cells #[.int .u64 0, .int .u64 0, .bool true] 118)
    rw [show (w.alloc (.cells #[.int .u64 H, .int .u64 L] 121)).heap.size = w.heap.size + 1 by simp] at h
    exact h
  · have h := CellsAt.new ((w.alloc (.cells #[.int .u64 H, .int .u64 L] 121)).alloc (.cells #[.int .u64 0, .int .u64 0, .bool false] 118)) [.int .u64 0, .int .u64 0, .bool true] 118
    rw [show ((w.alloc (.cells #[.int .u64 H, .int .u64 L] 121)).alloc (.cells #[.int .u64 0, .int .u64 0, .bool false] 118)).heap.size = w.heap.size + 1 + 1 by simp] at h
    exact h
/-- five stores of a step -/
theorem DivMem.five {w wr : World} {hi lo q r : Nat} {ok : Bool} (h : DivMem w wr hi lo q r ok) (hi2 lo2 q2 r2 : Nat) (ok2 : Bool) :
    DivMem w (((((wr.setCell ⟨w.heap.size, 0, none⟩ (.int .u64 hi2)).setCell ⟨w.heap.size, 1, none⟩ (.int .u64 lo2)).setCell ⟨w.heap.size + 1 + 1, 2, none⟩ (.bool ok2)).setCell ⟨w.heap.size + 1 + 1, 0, none⟩ (.int .u64 q2)).setCell ⟨w.heap.size + 1 + 1, 1, none⟩ (.int .u64 r2)) hi2 lo2 q2 r2 ok2 := by
  obtain ⟨hb, h2, h4, h5⟩ := h
  refine ⟨((((hb.setCell (p := ⟨w.heap.size, 0, none⟩) (Nat.le_refl _) _).setCell (p := ⟨w.heap.size, 1, none⟩) (Nat.le_refl _) _).setCell (p := ⟨w.heap.size + 1 + 1, 2, none⟩) (by dsimp only; omega) _).setCell (p := ⟨w.heap.size + 1 + 1, 0, none⟩) (by dsimp only; omega) _).setCell (p := ⟨w.heap.size + 1 + 1, 1, none⟩) (by dsimp only; omega) _, ?_, ?_, ?_⟩
  · exact ((((h2.set (i := 0) (by simp) _).set (i := 1) (by simp) _).far (p := ⟨w.heap.size + 1 + 1, 2, none⟩) (by dsimp only; omega) _).far (p := ⟨w.heap.size + 1 + 1, 0, none⟩) (by dsimp only; omega) _).far (p := ⟨w.heap.size + 1 + 1, 1, none⟩) (by dsimp only; omega) _
  · exact ((((h4.far (p := ⟨w.heap.size, 0, none⟩) (by dsimp only; omega) _).far (p := ⟨w.heap.size, 1, none⟩) (by dsimp only; omega) _).far (p := ⟨w.heap.size + 1 + 1, 2, none⟩) (by dsimp only; omega) _).far (p := ⟨w.heap.size + 1 + 1, 0, none⟩) (by dsimp only; omega) _).far (p := ⟨w.heap.size + 1 + 1, 1, none⟩) (by dsimp only; omega) _
  · exact ((((h5.far (p := ⟨w.heap.size, 0, none⟩) (by dsimp only; omega) _).far (p := ⟨w.heap.size, 1, none⟩) (by dsimp only; omega) _).set (i := 2) (by simp) _).set (i := 0) (by simp) _).set (i := 1) (by simp) _
theorem DivMem.seven {w wr : World} {hi lo q r : Nat} {ok : Bool} (h : DivMem w wr hi lo q r ok) (q2 r2 : Nat) :
    DivMem w ((wr.setCell ⟨w.heap.size + 1 + 1, 1, none⟩ (.int .u64 r2)).setCell ⟨w.heap.size + 1 + 1, 0, none⟩ (.int .u64 ((q2 : Int) + 1))) hi lo (q2 + 1) r2 ok := by
  rw [show (q2 : Int) + 1 = ((q2 + 1 : Nat) : Int) from rfl]
  obtain ⟨hb, h2, h4, h5⟩ := h
  refine ⟨(hb.setCell (p := ⟨w.heap.size + 1 + 1, 1, none⟩) (by dsimp only; omega) _).setCell (p := ⟨w.heap.size + 1 + 1, 0, none⟩) (by dsimp only; omega) _, ?_, ?_, ?_⟩
  · exact (h2.far (p := ⟨w.heap.size + 1 + 1, 1, none⟩) (by dsimp only; omega) _).far (p := ⟨w.heap.size + 1 + 1, 0, none⟩) (by dsimp only; omega) _
  · exact (h4.far (p := ⟨w.heap.size + 1 + 1, 1, none⟩) (by dsimp only; omega) _).far (p := ⟨w.heap.size + 1 + 1, 0, none⟩) (by dsimp only; omega) _
  · exact (h5.set (i := 1) (by simp) _).set (i := 0) (by simp) _
set_option maxRecDepth 100000 in
set_option maxHeartbeats 1000000 in
theorem rdivide_c (H L N by_ : Nat) (hH : H < 18446744073709551616) (hL : L < 18446744073709551616) (hN : H * 18446744073709551616 + L = N) (hb : 0 < by_) (hb2 : by_ ≤ 9223372036854775808) (w : World) :
    Calls Tryz.prog 82 #[.agg #[.int .u64 H, .int .u64 L], .int .u64 by_] w fun e w' =>
      e = .returned (.agg #[.int .u64 ((N / by_ % 18446744073709551616 : Nat) : Int), .int .u64 ((N % by_ : Nat) : Int), .bool (decide (N / by_ < 18446744073709551616))]) ∧ Below w.heap.size w w' := by
  have hD := DivAt.start (by_ := by_) hN hH hL
  replace hN := Lib.hid hN
  replace hD := Lib.hid hD
  go_enter Tryz.func82, Tryz.ntmps82
  go_wp2
  go_loopw [6] (fun i wr => ∃ (k hi lo q r : Nat) (ok : Bool), k ≤ 128 ∧ i = .int .i64 k ∧ Hid (DivAt N by_ k hi lo q r ok) ∧ DivMem w wr hi lo q r ok) (fun i _ => 128 - (intOf i).toNat)
  case atStart =>
    exact ⟨0, H, L, 0, 0, true, by omega, rfl, hD, DivMem.start w H L⟩
  case round =>
    clear hD hN
    obtain ⟨k, hi, lo, q, r, ok, hk, rfl, hD, hM⟩ := hrel
    by_cases hlt : k < 128
    · obtain ⟨bit, hi2, lo2, q2, r2, hS, hyes, hno⟩ := hD.out.go hb hb2 hlt
      obtain ⟨s1, s2, s3, s4, s5, s6, s7⟩ := hS
      obtain ⟨_, m2, m4, m5⟩ := id hM
      obtain ⟨c20, c21, f20, f21⟩ := m2.two
      obtain ⟨c50, c51, c52, f50, f51, f52⟩ := m5.three
      have l2 := m2.1
      have l5 := m5.1
      have hdd : decide (q < 9223372036854775808) = decide ((q : Int) < 9223372036854775808) := decide_eq_decide.2 (by omega)
      rw [hdd] at hyes hno
      obtain ⟨ok2, hok2⟩ : ∃ x, (ok && decide ((q : Int) < 9223372036854775808)) = x := ⟨_, rfl⟩
      rw [hok2] at hyes hno
      replace hok2 := Lib.hid hok2
      replace hyes := Lib.hid hyes
      replace hno := Lib.hid hno
      clear hdd
      have h5 := Lib.hid (hM.five hi2 lo2 q2 r2 ok2)
      clear m2 m4 m5 hD
      by_cases hc : by_ ≤ r2
      · obtain ⟨r3, hr3⟩ : ∃ r3, r2 - by_ = r3 := ⟨_, rfl⟩
        have hr4 : (r2 : Int) - (by_ : Int) = (r3 : Int) := by omega
        have h7 := Lib.hid (h5.out.seven q2 r3)
        rw [hr3] at hyes
        have hcd : decide (by_ ≤ r2) = true := decide_eq_true hc
        have hr5 : r3 < 18446744073709551616 := by omega
        clear hr3 hno h5 hM hc hb hb2 hH hL
        cases ok
        · obtain rfl : ok2 = false := hok2.out.symm
          clear hok2
          go_wp2
          exact ⟨⟨k + 1, hi2, lo2, q2 + 1, r3, _, by omega, by go_num, Lib.hid (hyes.out (of_decide_eq_true hcd)), h7.out⟩, by simp [intOf]; omega⟩
        · have hk2 := hok2.out
          rw [Bool.true_and] at hk2
          subst hk2
          clear hok2
          go_wp2
          exact ⟨⟨k + 1, hi2, lo2, q2 + 1, r3, _, by omega, by go_num, Lib.hid (hyes.out (of_decide_eq_true hcd)), h7.out⟩, by simp [intOf]; omega⟩
      · have hcd : decide (by_ ≤ r2) = false := decide_eq_false hc
        clear hyes hM hb hb2 hH hL
        cases ok
        · obtain rfl : ok2 = false := hok2.out.symm
          clear hok2
          go_wp2
          exact ⟨⟨k + 1, hi2, lo2, q2, r2, _, by omega, by go_num, Lib.hid (hno.out (by omega)), h5.out⟩, by simp [intOf]; omega⟩
        · have hk2 := hok2.out
          rw [Bool.true_and] at hk2
          subst hk2
          clear hok2
          go_wp2
          exact ⟨⟨k + 1, hi2, lo2, q2, r2, _, by omega, by go_num, Lib.hid (hno.out (by omega)), h5.out⟩, by simp [intOf]; omega⟩
    · obtain rfl : k = 128 := by omega
      obtain ⟨e1, e2, e3⟩ := hD.out.done
      obtain ⟨hb1, m2, m4, m5⟩ := hM
      obtain ⟨c50, c51, c52, f50, f51, f52⟩ := m5.three
      obtain ⟨c40, c41, c42, f40, f41, f42⟩ := m4.three
      have l4 := m4.1
      have l5 := m5.1
      obtain ⟨g0, g1, g2⟩ := three_set (u := .int .u64 q) (v := .int .u64 r) (r := .bool ok) c40 c41 c42
      have he := Lib.hid (And.intro e1 (And.intro e2 e3))
      replace hb1 := Lib.hid hb1
      replace g0 := Lib.hid g0
      replace g1 := Lib.hid g1
      replace g2 := Lib.hid g2
      clear m2 m4 m5 e1 e2 e3 hD hlt hk hb hb2 hH hL
      go_wp2
      exact bodyPost_ret (v := .agg #[.int .u64 q, .int .u64 r, .bool ok]) (by simp [results, Tryz.results82, go_sem, g0.out, g1.out, g2.out]) rfl ⟨by rw [he.out.1, he.out.2.1, he.out.2.2], set3 hb1.out (by omega) _ _ _⟩
end Go.Proofs.YtmoednmgmmgjeaaGreatDoor.Dec

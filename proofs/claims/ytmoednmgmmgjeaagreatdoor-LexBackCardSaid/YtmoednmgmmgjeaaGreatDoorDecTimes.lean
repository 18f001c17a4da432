/- What the reference's Times answers: products by halves: for every two numbers of 64 bits. -/
import Derived.Test.YtmoednmgmmgjeaaGreatDoorDecRef
import Derived.BigRegion
import Derived.BigQuiet
import Derived.Deep.QuietTactic
namespace Go.Proofs.YtmoednmgmmgjeaaGreatDoor.Dec
open Go.RowKit Kit Reg
set_option maxRecDepth 100000 in
set_option maxHeartbeats 1000000 in
theorem rtimes_c (a b H L : Nat) (ha : a < 18446744073709551616) (hb : b < 18446744073709551616) (hH : a * b / 18446744073709551616 = H) (hL : a * b % 18446744073709551616 = L) (w : World) :
    Calls Tryz.prog 83 #[.int .u64 a, .int .u64 b] w fun e w' => e = .returned (.agg #[.int .u64 H, .int .u64 L]) ∧ Below w.heap.size w w' := by
  obtain ⟨m1, m2, m3, m4, m5, m6⟩ := mul_halves a b ha hb
  rw [hH] at m5
  rw [hL] at m6
  have A1 : (a : Int) / 4294967296 = ((a / 4294967296 : Nat) : Int) := by simp
  have A0 : (a : Int) % 4294967296 = ((a % 4294967296 : Nat) : Int) := by simp
  have B1 : (b : Int) / 4294967296 = ((b / 4294967296 : Nat) : Int) := by simp
  have B0 : (b : Int) % 4294967296 = ((b % 4294967296 : Nat) : Int) := by simp
  have l1 : a / 4294967296 < 4294967296 := by omega
  have l2 : a % 4294967296 < 4294967296 := by omega
  have l3 : b / 4294967296 < 4294967296 := by omega
  have l4 : b % 4294967296 < 4294967296 := by omega
  generalize a / 4294967296 = a1 at *
  generalize a % 4294967296 = a0 at *
  generalize b / 4294967296 = b1 at *
  generalize b % 4294967296 = b0 at *
  have P1 : (a0 : Int) * (b0 : Int) = ((a0 * b0 : Nat) : Int) := by rw [Int.natCast_mul]
  have P2 : (a1 : Int) * (b0 : Int) = ((a1 * b0 : Nat) : Int) := by rw [Int.natCast_mul]
  have P3 : (a0 : Int) * (b1 : Int) = ((a0 * b1 : Nat) : Int) := by rw [Int.natCast_mul]
  have P4 : (a1 : Int) * (b1 : Int) = ((a1 * b1 : Nat) : Int) := by rw [Int.natCast_mul]
  have b1l := prod_lt l2 l4
  have b2l := prod_lt l1 l4
  have b3l := prod_lt l2 l3
  have b4l := prod_lt l1 l3
  generalize a0 * b0 = p1 at *
  generalize a1 * b0 = p2 at *
  generalize a0 * b1 = p3 at *
  generalize a1 * b1 = p4 at *
  have k1 : (p2 : Int) + (p1 : Int) / 4294967296 < 18446744073709551616 := by omega
  obtain ⟨x, hx⟩ : ∃ x, p2 + p1 / 4294967296 = x := ⟨_, rfl⟩
  have X : (p2 : Int) + (p1 : Int) / 4294967296 = (x : Int) := by omega
  rw [hx] at m2 m3 m4 m5 m6
  obtain ⟨y, hy⟩ : ∃ y, p3 + x % 4294967296 = y := ⟨_, rfl⟩
  have Y : (p3 : Int) + (x : Int) % 4294967296 = (y : Int) := by omega
  rw [hy] at m3 m4 m5 m6
  have HH : (p4 : Int) + (x : Int) / 4294967296 + (y : Int) / 4294967296 = (H : Int) := by omega
  have LL : (y : Int) % 4294967296 * 4294967296 + (p1 : Int) % 4294967296 = (L : Int) := by omega
  have HHl : (H : Int) < 18446744073709551616 := by omega
  have LLl : (L : Int) < 18446744073709551616 := by omega
  clear hx hy m5 m6 hH hL
  go_enter Tryz.func83, Tryz.ntmps83
  go_wp2
  go_quiet (fail)
  go_wp2
  go_quiet (fail)
  go_wp2
  go_quiet (fail)
  go_wp2
  generalize hwr : World.drewN _ _ = wr
  rw [World.drewN_drewN, World.drewN_drewN] at hwr
  obtain ⟨hc, hw⟩ := slot (cs := [.int .u64 0, .int .u64 0]) (ty := 121) (drew_below hwr.symm)
  obtain ⟨c0, c1, f0, f1⟩ := hc.two
  obtain ⟨e0, e1⟩ := two_set (u := .int .u64 H) (v := .int .u64 L) c0 c1
  clear hwr hc
  replace hw := Lib.hid hw
  replace e0 := Lib.hid e0
  replace e1 := Lib.hid e1
  go_region
  all_goals (try go_wp2)
  replace e0 := e0.out
  replace e1 := e1.out
  exact bodyPost_ret (v := .agg #[.int .u64 H, .int .u64 L]) (by simp [results, Tryz.results83, go_sem, e0, e1]) rfl ⟨rfl, on (set2 hw.out (Nat.le_refl _) _ _) (drew_below (n := 1) rfl)⟩
end Go.Proofs.YtmoednmgmmgjeaaGreatDoor.Dec

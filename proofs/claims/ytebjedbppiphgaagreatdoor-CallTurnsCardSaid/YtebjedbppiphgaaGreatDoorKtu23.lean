/- What the reference's May, Abs, Add, Times on decimals answer: for every number of 64 bits.
   What the reference's Quote answers: for every text of at most 100000 bytes.
   What the reference's Times answers: products by halves: for every two numbers of 64 bits.
   What the reference's Divide answers: long division bit by bit, 128 steps.
   What the reference's Digit, more, whole, Text on decimals as text answer.
   What the reference's Read of a decimal answers: for every text below 2^47 bytes. -/
import Derived.Test.YtebjedbppiphgaaGreatDoorKtu07
import Derived.Test.YtebjedbppiphgaaGreatDoorKtu09
import Derived.Test.YtebjedbppiphgaaGreatDoorKtu13
import Derived.Test.YtebjedbppiphgaaGreatDoorKtu21
import Derived.BigRegion
import Derived.BigQuiet
import Derived.Deep.QuietTactic
import Derived.Test.YtebjedbppiphgaaGreatDoorKtu10
import Derived.StillTailTactics
namespace Go.Proofs.YtebjedbppiphgaaGreatDoor.Dec
open Go.RowKit Kit
set_option maxRecDepth 100000 in
set_option maxHeartbeats 400000 in
theorem rmay_c (x : Int) (b : Bool) (hb : mayD x = b) (w : World) : Calls Tryz.prog 22 #[.int .i64 x] w fun e w' => e = .returned (.bool b) ∧ w = w' := by
  have HB := Lib.hid hb
  clear hb
  go_enter Tryz.func22, Tryz.ntmps22
  go_wp2
  go_ret
  exact ⟨ret_bool (by rw [← HB.out]; rfl), rfl⟩
end Go.Proofs.YtebjedbppiphgaaGreatDoor.Dec
namespace Go.Proofs.YtebjedbppiphgaaGreatDoor.Val
open Go.RowKit Kit Dec Dig
theorem take_one {t : ByteArray} {k : Nat} (hk : k < t.size) : t.data.toList.take (k + 1) = t.data.toList.take k ++ [t[k]] := by
  rw [List.take_add_one, Lib.data_getElem? t k hk]
  rfl
theorem one_cell (x : Value) (h : x.oneCell' = true) : ∀ u ∈ [x], u.oneCell' = true := fun u hu => by
  simp only [List.mem_singleton] at hu
  subst hu
  exact h
end Go.Proofs.YtebjedbppiphgaaGreatDoor.Val
namespace Go.Proofs.YtebjedbppiphgaaGreatDoor.Dec
open Go.RowKit Kit Reg
set_option maxRecDepth 100000 in
set_option maxHeartbeats 1000000 in
theorem rtimes_c (a b H L : Nat) (ha : a < 18446744073709551616) (hb : b < 18446744073709551616) (hH : a * b / 18446744073709551616 = H) (hL : a * b % 18446744073709551616 = L) (w : World) :
    Calls Tryz.prog 199 #[.int .u64 a, .int .u64 b] w fun e w' => e = .returned (.agg #[.int .u64 H, .int .u64 L]) ∧ Below w.heap.size w w' := by
  obtain ⟨m1, m2, m3, m4, m5, m6⟩ := mul_halves a b ha hb
  rw [hH] at m5
  rw [hL] at m6
  have A1 : (a : Int) / 4294967296 = ((a / 4294967296 : Nat) : Int) := by simp
  have A0 : (a : Int) % 4294967296 = ((a % 4294967296 : Nat) : Int) := by simp
  have B1 : (b : Int) / 4294967296 = ((b / 4294967296 : Nat) : Int) := by simp
  have B0 : (b : Int) % 4294967296 = ((b % 4294967296 : Nat) : Int) := by simp
  have l1 : a / 4294967296 < 4294967296 := by omega
  have l2 : a % 4294967296 < 4294967296 := by omega
  have l3 : b / 4294967296 < 4294967296 := by omega
  have l4 : b % 4294967296 < 4294967296 := by omega
  generalize a / 4294967296 = a1 at *
  generalize a % 4294967296 = a0 at *
  generalize b / 4294967296 = b1 at *
  generalize b % 4294967296 = b0 at *
  have P1 : (a0 : Int) * (b0 : Int) = ((a0 * b0 : Nat) : Int) := by rw [Int.natCast_mul]
  have P2 : (a1 : Int) * (b0 : Int) = ((a1 * b0 : Nat) : Int) := by rw [Int.natCast_mul]
  have P3 : (a0 : Int) * (b1 : Int) = ((a0 * b1 : Nat) : Int) := by rw [Int.natCast_mul]
  have P4 : (a1 : Int) * (b1 : Int) = ((a1 * b1 : Nat) : Int) := by rw [Int.natCast_mul]
  have b1l := prod_lt l2 l4
  have b2l := prod_lt l1 l4
  have b3l := prod_lt l2 l3
  have b4l := prod_lt l1 l3
  generalize a0 * b0 = p1 at *
  generalize a1 * b0 = p2 at *
  generalize a0 * b1 = p3 at *
  generalize a1 * b1 = p4 at *
  have k1 : (p2 : Int) + (p1 : Int) / 4294967296 < 18446744073709551616 := by omega
  obtain ⟨x, hx⟩ : ∃ x, p2 + p1 / 4294967296 = x := ⟨_, rfl⟩
  have X : (p2 : Int) + (p1 : Int) / 4294967296 = (x : Int) := by omega
  rw [hx] at m2 m3 m4 m5 m6
  obtain ⟨y, hy⟩ : ∃ y, p3 + x % 4294967296 = y := ⟨_, rfl⟩
  have Y : (p3 : Int) + (x : Int) % 4294967296 = (y : Int) := by omega
  rw [hy] at m3 m4 m5 m6
  have HH : (p4 : Int) + (x : Int) / 4294967296 + (y : Int) / 4294967296 = (H : Int) := by omega
  have LL : (y : Int) % 4294967296 * 4294967296 + (p1 : Int) % 4294967296 = (L : Int) := by omega
  have HHl : (H : Int) < 18446744073709551616 := by omega
  have LLl : (L : Int) < 18446744073709551616 := by omega
  clear hx hy m5 m6 hH hL
  go_enter Tryz.func199, Tryz.ntmps199
  go_wp2
  go_quiet (fail)
  go_wp2
  go_quiet (fail)
  go_wp2
  go_quiet (fail)
  go_wp2
  generalize hwr : World.drewN _ _ = wr
  rw [World.drewN_drewN, World.drewN_drewN] at hwr
  obtain ⟨hc, hw⟩ := slot (cs := [.int .u64 0, .int .u64 0]) (ty := 159) (drew_below hwr.symm)
  obtain ⟨c0, c1, f0, f1⟩ := hc.two
  obtain ⟨e0, e1⟩ := two_set (u := .int .u64 H) (v := .int .u64 L) c0 c1
  clear hwr hc
  replace hw := Lib.hid hw
  replace e0 := Lib.hid e0
  replace e1 := Lib.hid e1
  go_region
  all_goals (try go_wp2)
  replace e0 := e0.out
  replace e1 := e1.out
  exact bodyPost_ret (v := .agg #[.int .u64 H, .int .u64 L]) (by simp [results, Tryz.results199, go_sem, e0, e1]) rfl ⟨rfl, on (set2 hw.out (Nat.le_refl _) _ _) (drew_below (n := 1) rfl)⟩
end Go.Proofs.YtebjedbppiphgaaGreatDoor.Dec
namespace Go.Proofs.YtebjedbppiphgaaGreatDoor.Dec
open Go.RowKit Kit Reg
/-- a step's numbers -/
structure Step (by_ hi lo q r : Nat) (ok : Bool) (bit hi2 lo2 q2 r2 : Nat) : Prop where
  b : (hi : Int) / 9223372036854775808 = (bit : Int)
  h : IntKind.u64.wrap (IntKind.u64.wrap ((hi : Int) * 2) + IntKind.u64.wrap ((lo : Int) / 9223372036854775808)) = (hi2 : Int)
  l : IntKind.u64.wrap ((lo : Int) * 2) = (lo2 : Int)
  q : IntKind.u64.wrap ((q : Int) * 2) = (q2 : Int)
  r : (r : Int) * 2 + (bit : Int) = (r2 : Int)
  rl : r2 < 18446744073709551616
  ql : q2 ≤ 18446744073709551614
/-- the memory of Divide as its loop goes on -/
def DivMem (w wr : World) (hi lo q r : Nat) (ok : Bool) : Prop :=
  Below w.heap.size w wr ∧ CellsAt wr w.heap.size [.int .u64 hi, .int .u64 lo] ∧ CellsAt wr (w.heap.size + 1) [.int .u64 0, .int .u64 0, .bool false] ∧ CellsAt wr (w.heap.size + 1 + 1) [.int .u64 q, .int .u64 r, .bool ok]
theorem DivMem.start (w : World) (H L : Nat) : DivMem w (((w.alloc (.cells #[.int .u64 H, .int .u64 L] 159)).alloc (.cells #[.int .u64 0, .int .u64 0, .bool false] 156)).alloc (.cells #[.int .u64 0, .int .u64 0, .bool true] 156)) H L 0 0 true := by
  refine ⟨below3 _ _ _ _, ((CellsAt.new w [.int .u64 H, .int .u64 L] _).on_alloc _).on_alloc _, ?_, ?_⟩
  · have h := (CellsAt.new (w.alloc (.cells #[.int .u64 H, .int .u64 L] 159)) [.int .u64 0, .int .u64 0, .bool false] 156).on_alloc (.cells #[.int .u64 0, .int .u64 0, .bool true] 156)
    rw [show (w.alloc (.cells #[.int .u64 H, .int .u64 L] 159)).heap.size = w.heap.size + 1 by simp] at h
    exact h
  · have h := CellsAt.new ((w.alloc (.cells #[.int .u64 H, .int .u64 L] 159)).alloc (.cells #[.int .u64 0, .int .u64 0, .bool false] 156)) [.int .u64 0, .int .u64 0, .bool true] 156
    rw [show ((w.alloc (.cells #[.int .u64 H, .int .u64 L] 159)).alloc (.cells #[.int .u64 0, .int .u64 0, .bool false] 156)).heap.size = w.heap.size + 1 + 1 by simp] at h
    exact h
end Go.Proofs.YtebjedbppiphgaaGreatDoor.Dec
namespace Go.Proofs.YtebjedbppiphgaaGreatDoor.Dig
open Go.RowKit Kit Dec
/-- the digits laid so far -/
def LaidD (N m : Nat) (T : ByteArray) : Prop := (if m = 0 then [] else Lib.decDigits m) ++ T.data.toList = Lib.decDigits N
theorem LaidD.size {N m : Nat} {T : ByteArray} (h : LaidD N m T) (hN : N < 18446744073709551616) : T.size ≤ 20 := by
  have := congrArg List.length h
  rw [List.length_append, len] at this
  have h2 := dd_len 19 N (by omega)
  omega
theorem digs_step (m : Nat) : (if m / 10 = 0 then [] else Lib.decDigits (m / 10)) ++ [dg (m % 10)] = Lib.decDigits m := by
  by_cases h : m < 10
  · rw [if_pos (by omega), dd_small h, Nat.mod_eq_of_lt h]; rfl
  · rw [if_neg (by omega), ← dd_big h]
theorem LaidD.first (N : Nat) {T : ByteArray} (h : T.data.toList = [dg (N % 10)]) : LaidD N (N / 10) T := by
  unfold LaidD
  rw [h]; exact digs_step N
theorem LaidD.next {N m : Nat} {T U : ByteArray} (h : LaidD N m T) (hm : 0 < m) (hU : U.data.toList = dg (m % 10) :: T.data.toList) : LaidD N (m / 10) U := by
  unfold LaidD at h ⊢
  rw [if_neg (by omega)] at h
  rw [hU, ← h, ← digs_step m, List.append_assoc]
  rfl
end Go.Proofs.YtebjedbppiphgaaGreatDoor.Dig
namespace Go.Proofs.YtebjedbppiphgaaGreatDoor.Dig
open Go.RowKit Kit Dec
/-- the memory of a reader: the result's block, and the number's -/
def NumMem (w wr : World) (n : Int) (b : Bool) : Prop := Below w.heap.size w wr ∧ CellsAt wr w.heap.size [.int .i64 0, .bool false] ∧ CellsAt wr (w.heap.size + 1) [.int .i64 n, .bool b]
theorem NumMem.start (w : World) (n : Int) (b : Bool) : NumMem w ((w.alloc (.cells #[.int .i64 0, .bool false] 55)).alloc (.cells #[.int .i64 n, .bool b] 55)) n b := by
  refine ⟨below2 _ _ _, (CellsAt.new w [.int .i64 0, .bool false] _).on_alloc _, ?_⟩
  have h := CellsAt.new (w.alloc (.cells #[.int .i64 0, .bool false] 55)) [.int .i64 n, .bool b] 55
  rw [show (w.alloc (.cells #[.int .i64 0, .bool false] 55)).heap.size = w.heap.size + 1 by simp] at h
  exact h
theorem NumMem.on {w wr wr' : World} {q : Int} {b : Bool} (h : NumMem w wr q b) (hb : Below wr.heap.size wr wr') : NumMem w wr' q b :=
  ⟨Kit.on h.1 hb, h.2.1.on hb, h.2.2.on hb⟩
theorem NumMem.put {w wr : World} {q : Int} {b : Bool} (h : NumMem w wr q b) (n : Int) (k : Bool) : NumMem w (put2 wr (w.heap.size + 1) (.int .i64 n) (.bool k)) n k :=
  ⟨set2 h.1 (by omega) _ _, h.2.1.put2_far (by omega) _ _, h.2.2.put2 _ _⟩
end Go.Proofs.YtebjedbppiphgaaGreatDoor.Dig

/- What the program's and the reference's small functions on cells answer: for every cell.
   Plain facts on sets of categories as numbers below 2^64. No condition; no program is named here. -/
import Derived.Test.YtcgpggknmhlnkaaDoorPs03
import Derived.Test.YtcgpggknmhlnkaaDoorPs07
import Derived.Laws.Runes
import Derived.Laws.BitsAllLaws
namespace Go.Proofs.YtcgpggknmhlnkaaDoor.Addr
open Go.RowKit Kit
set_option maxRecDepth 100000 in
set_option maxHeartbeats 1000000 in
theorem mayRow_c (r : Int) (b : Bool) (hb : decide (0 ≤ r ∧ r ≤ 998) = b) (w : World) : Calls Tryd.prog 38 #[.int .i64 r] w fun e w' => e = .returned (.bool b) ∧ w' = w := by
  have HB := Lib.hid hb
  clear hb
  by_cases h0 : 0 ≤ r
  · by_cases h1 : r < 999
    · go_enter Tryd.func38, Tryd.ntmps38
      go_wp2
      go_ret
      exact ⟨ret_bool (by rw [← HB.out]; simp; omega), rfl⟩
    · go_enter Tryd.func38, Tryd.ntmps38
      go_wp2
      go_ret
      exact ⟨ret_bool (by rw [← HB.out]; simp; omega), rfl⟩
  · have hd : decide (0 ≤ r) = false := by simpa using h0
    go_enter Tryd.func38, Tryd.ntmps38
    go_wp2
    go_ret
    exact ⟨ret_bool (by rw [← HB.out]; simp; omega), rfl⟩
set_option maxRecDepth 100000 in
set_option maxHeartbeats 1000000 in
theorem mayCol_c (r : Int) (b : Bool) (hb : decide (0 ≤ r ∧ r ≤ 701) = b) (w : World) : Calls Tryd.prog 39 #[.int .i64 r] w fun e w' => e = .returned (.bool b) ∧ w' = w := by
  have HB := Lib.hid hb
  clear hb
  by_cases h0 : 0 ≤ r
  · by_cases h1 : r < 702
    · go_enter Tryd.func39, Tryd.ntmps39
      go_wp2
      go_ret
      exact ⟨ret_bool (by rw [← HB.out]; simp; omega), rfl⟩
    · go_enter Tryd.func39, Tryd.ntmps39
      go_wp2
      go_ret
      exact ⟨ret_bool (by rw [← HB.out]; simp; omega), rfl⟩
  · have hd : decide (0 ≤ r) = false := by simpa using h0
    go_enter Tryd.func39, Tryd.ntmps39
    go_wp2
    go_ret
    exact ⟨ret_bool (by rw [← HB.out]; simp; omega), rfl⟩
theorem may_split (r c : Int) : mayB r c = (decide (0 ≤ r ∧ r ≤ 998) && decide (0 ≤ c ∧ c ≤ 701)) := by
  unfold mayB
  rw [← Bool.decide_and]
  exact decide_eq_decide.2 ⟨fun ⟨a, b, c, d⟩ => ⟨⟨a, b⟩, c, d⟩, fun ⟨⟨a, b⟩, c, d⟩ => ⟨a, b, c, d⟩⟩
set_option maxRecDepth 100000 in
set_option maxHeartbeats 1000000 in
theorem may_c (r c : Int) (b : Bool) (hb : mayB r c = b) (w : World) : Calls Tryd.prog 29 #[.agg #[.int .i64 r, .int .i64 c]] w fun e w' => e = .returned (.bool b) ∧ Below w.heap.size w w' := by
  rw [may_split] at hb
  cases h1 : decide (0 ≤ r ∧ r ≤ 998) with
  | false =>
    have H1 := Lib.hid (fun w1 => mayRow_c r false h1 w1)
    rw [h1] at hb
    subst hb
    clear h1
    go_enter Tryd.func29, Tryd.ntmps29
    go_wp2_with (go_at_call 38; refine (H1.out _).mono ?_; rintro e w' ⟨rfl, rfl⟩)
    go_ret
    exact ⟨rfl, below1 _ _⟩
  | true =>
    have H1 := Lib.hid (fun w1 => mayRow_c r true h1 w1)
    rw [h1, Bool.true_and] at hb
    have H2 := Lib.hid (fun w1 => mayCol_c c b hb w1)
    clear h1 hb
    go_enter Tryd.func29, Tryd.ntmps29
    go_wp2_with (first | (go_at_call 38; refine (H1.out _).mono ?_; rintro e w' ⟨rfl, rfl⟩) | (go_at_call 39; refine (H2.out _).mono ?_; rintro e w' ⟨rfl, rfl⟩))
    go_ret
    exact ⟨rfl, below1 _ _⟩
end Go.Proofs.YtcgpggknmhlnkaaDoor.Addr
namespace Go.Proofs.YtcgpggknmhlnkaaDoor.Cats
/-- a set: a number below 2^64 -/
def U (s : Nat) : Prop := s < 18446744073709551616
theorem U.lt {s : Nat} (h : U s) : s < 2 ^ 64 := h
theorem U.of {s : Nat} (h : s < 2 ^ 64) : U s := h

/-- may a number be a category? -/
def mayB (c : Int) : Bool := decide (0 ≤ c) && decide (c < 64)
theorem mayB_yes {c : Int} (h0 : 0 ≤ c) (h1 : c < 64) : mayB c = true := by simp [mayB, h0, h1]
theorem mayB_neg {c : Int} (h : c < 0) : mayB c = false := by simp [mayB]; omega
theorem mayB_big {c : Int} (h : 64 ≤ c) : mayB c = false := by simp [mayB]; omega
theorem of_mayB {c : Int} (h : mayB c = true) : 0 ≤ c ∧ c < 64 := by simpa [mayB] using h
def hasB (s : Nat) (c : Int) : Bool := mayB c && s.testBit c.toNat
theorem pow_lt {k : Nat} (hk : k < 64) : 2 ^ k < 2 ^ 64 := Nat.pow_lt_pow_of_lt (by decide) hk
theorem U_pow {k : Nat} (hk : k < 64) : U (2 ^ k) := pow_lt hk
theorem U_or {a b : Nat} (ha : U a) (hb : U b) : U (a ||| b) := U.of (Nat.or_lt_two_pow ha.lt hb.lt)
theorem U_zero : U 0 := by unfold U; omega
theorem testBit_lt {s i : Nat} (hs : U s) (h : s.testBit i = true) : i < 64 := by
  by_cases hi : i < 64
  · exact hi
  · rw [Nat.testBit_lt_two_pow (Nat.lt_of_lt_of_le hs.lt (Nat.pow_le_pow_right (by decide) (by omega)))] at h; cases h

theorem cast_beq (a b : Nat) : ((a : Int) == (b : Int)) = (a == b) := by rw [Bool.eq_iff_iff]; simp [Int.ofNat_inj]
theorem shr_and_one_int (s k : Nat) (hs : U s) : (bits .and .u64 ((s : Int) / 2 ^ k) 1 == 1) = s.testBit k := by
  have e : ((s : Int) / 2 ^ k) = ((s / 2 ^ k : Nat) : Int) := by simp
  have hd : s / 2 ^ k < 18446744073709551616 := Nat.lt_of_le_of_lt (Nat.div_le_self _ _) hs
  have h := u64_and_nat (s / 2 ^ k) 1 hd (by decide)
  rw [e]
  simp only [Int.natCast_one] at h
  rw [h, Nat.and_one_is_mod, Nat.testBit_eq_decide_div_mod_eq]
  by_cases hb : s / 2 ^ k % 2 = 1
  · rw [hb]; rfl
  · simp [hb]; omega
theorem pow_cast (k : Nat) : (2 : Int) ^ k = ((2 ^ k : Nat) : Int) := by simp
theorem wrap_small {n : Nat} (h : n < 18446744073709551616) : IntKind.u64.wrap (n : Int) = n := by
  rw [IntKind.wrap_u64]; omega
theorem wrap_pow (k : Nat) (hk : k < 64) : IntKind.u64.wrap (2 ^ k) = 2 ^ k := by
  rw [pow_cast]
  exact wrap_small (pow_lt hk)
theorem or_pow_int (s k : Nat) (hs : U s) (hk : k < 64) : bits .or .u64 (s : Int) (IntKind.u64.wrap (2 ^ k)) = ((s ||| 2 ^ k : Nat) : Int) := by
  rw [wrap_pow k hk, pow_cast]
  exact u64_or_nat s (2 ^ k) hs (pow_lt hk)
/-- how many are in a set -/
def pop (s : Nat) : Nat := ((List.range 64).filter s.testBit).length

end Go.Proofs.YtcgpggknmhlnkaaDoor.Cats

/- What the reference's small functions on sets answer, for every input that they are asked at.
   What List of package cats and the reference's List make, and what Same answers: for every set, and for any two slices of numbers. -/
import Derived.Deep.RegionWith
import Derived.Test.YtmlmanlcomfhbaaGreatDoorGa
namespace Go.Proofs.YtmlmanlcomfhbaaGreatDoor.Cats
open Go.RowKit

theorem U.half {q : Nat} (h : U q) : U (q / 2) := Nat.lt_of_le_of_lt (Nat.div_le_self _ _) h
theorem half_u64 (q : Nat) (h : U q) : IntKind.u64.wrap ((q : Int) / 2) = ((q / 2 : Nat) : Int) := by
  rw [show (q : Int) / 2 = ((q / 2 : Nat) : Int) from rfl]
  exact wrap_small h.half
theorem odd_u64 (q : Nat) : ((q : Int) % 2 == 1) = (q % 2 == 1) := by
  rw [show (q : Int) % 2 = ((q % 2 : Nat) : Int) from rfl]
  exact cast_beq _ 1
theorem dbl_u64 (q : Nat) (h : U (q * 2)) : IntKind.u64.wrap ((q : Int) * 2) = ((q * 2 : Nat) : Int) := by
  rw [show (q : Int) * 2 = ((q * 2 : Nat) : Int) from rfl]
  exact wrap_small h

set_option maxRecDepth 100000 in
set_option maxHeartbeats 400000 in
theorem bit_out (s c : Int) (h : mayB c = false) (w : World) : Calls Tryz.prog 98 #[.int .u64 s, .int .i64 c] w fun e w' => e = .returned (.bool false) ∧ w = w' := by
  have h2 := not_mayB h
  clear h
  rcases h2 with h | h
  · go_enter Tryz.func98, Tryz.ntmps98
    go_wp2
    go_ret
    exact ⟨rfl, rfl⟩
  · go_enter Tryz.func98, Tryz.ntmps98
    go_wp2
    go_ret
    exact ⟨rfl, rfl⟩

def HalfAt (s k q : Nat) : Prop := q = s / 2 ^ k ∧ U q
theorem HalfAt.next {s k q : Nat} (h : HalfAt s k q) : HalfAt s (k + 1) (q / 2) := ⟨by rw [h.1, Nat.pow_succ, ← Nat.div_div_eq_div_mul], h.2.half⟩
set_option maxRecDepth 100000 in
set_option maxHeartbeats 400000 in
theorem bit_in (s c : Nat) (hs : U s) (hc : c < 64) (w : World) : Calls Tryz.prog 98 #[.int .u64 s, .int .i64 c] w fun e w' => e = .returned (.bool (s.testBit c)) ∧ w = w' := by
  have HS : HalfAt s 0 s := ⟨by simp, hs⟩
  clear hs
  go_enter Tryz.func98, Tryz.ntmps98
  go_wp2
  go_loop [0, 5] (fun x i => ∃ k q : Nat, k ≤ c ∧ i = .int .i64 k ∧ HalfAt s k q ∧ x = .int .u64 q) (fun _ i => c - (intOf i).toNat)
  case atStart => exact ⟨0, s, Nat.zero_le _, rfl, HS, rfl⟩
  case round =>
    obtain ⟨k, q, hk, rfl, hq, rfl⟩ := hrel
    by_cases hlt : k < c
    · go_wp2
      go_round
      case rel => exact ⟨k + 1, q / 2, by omega, by go_num, hq.next, by rw [half_u64 q hq.2]⟩
      case measure => simp [intOf]; omega
    · obtain rfl : k = c := by omega
      go_wp2
      go_ret
      exact ⟨ret_bool (by rw [Nat.testBit_eq_decide_div_mod_eq, ← hq.1]; exact odd_u64 q), rfl⟩
/-- Bit, in one -/
theorem bit_c (s : Nat) (c : Int) (b : Bool) (hs : U s) (hb : hasB s c = b) (w : World) : Calls Tryz.prog 98 #[.int .u64 s, .int .i64 c] w fun e w' => e = .returned (.bool b) ∧ w = w' := by
  subst hb
  cases hm : mayB c
  · have e : hasB s c = false := by simp [hasB, hm]
    rw [e]
    exact bit_out s c hm w
  · obtain ⟨h0, h1⟩ := of_mayB hm
    obtain ⟨k, rfl⟩ := Int.eq_ofNat_of_zero_le h0
    have e : hasB s (k : Int) = s.testBit k := by simp [hasB, hm]
    rw [e]
    exact bit_in s k hs (by omega) w

def PowAt (k q : Nat) : Prop := q = 2 ^ k
theorem PowAt.next {k q : Nat} (h : PowAt k q) : PowAt (k + 1) (q * 2) := by unfold PowAt at *; rw [h, Nat.pow_succ]
theorem PowAt.U {k q : Nat} (h : PowAt k q) (hk : k < 64) : U q := by rw [h]; exact U_pow hk
set_option maxRecDepth 100000 in
set_option maxHeartbeats 400000 in
theorem one_c (c : Nat) (hc : c < 64) (w : World) : Calls Tryz.prog 107 #[.int .i64 c] w fun e w' => e = .returned (.int .u64 (2 ^ c : Nat)) ∧ w = w' := by
  go_enter Tryz.func107, Tryz.ntmps107
  go_wp2
  go_loop [3, 4] (fun x i => ∃ k q : Nat, k ≤ c ∧ i = .int .i64 k ∧ PowAt k q ∧ x = .int .u64 q) (fun _ i => c - (intOf i).toNat)
  case atStart => exact ⟨0, 1, Nat.zero_le _, rfl, rfl, rfl⟩
  case round =>
    obtain ⟨k, q, hk, rfl, hq, rfl⟩ := hrel
    by_cases hlt : k < c
    · go_wp2
      go_round
      case rel => exact ⟨k + 1, q * 2, by omega, by go_num, hq.next, by rw [dbl_u64 q (hq.next.U (by omega))]⟩
      case measure => simp [intOf]; omega
    · obtain rfl : k = c := by omega
      go_wp2
      go_ret
      exact ⟨ret_u64 (congrArg _ hq), rfl⟩

/-- what Join has put together of the lowest k categories -/
def upto (k s : Nat) : Nat := s % 2 ^ k
theorem upto_zero (s : Nat) : upto 0 s = 0 := by simp [upto, Nat.mod_one]
theorem upto_all {s : Nat} (hs : U s) : upto 64 s = s := Nat.mod_eq_of_lt hs
theorem upto_yes {s k : Nat} (h : s.testBit k = true) : upto (k + 1) s = upto k s + 2 ^ k := by
  unfold upto
  rw [Nat.testBit_eq_decide_div_mod_eq, decide_eq_true_eq] at h
  rw [Nat.pow_succ, Nat.mod_mul, h, Nat.mul_one]
theorem upto_no {s k : Nat} (h : s.testBit k = false) : upto (k + 1) s = upto k s := by
  unfold upto
  rw [Nat.testBit_eq_decide_div_mod_eq, decide_eq_false_iff_not] at h
  rw [Nat.pow_succ, Nat.mod_mul, show s / 2 ^ k % 2 = 0 by omega, Nat.mul_zero, Nat.add_zero]
theorem upto_lt (k s : Nat) : upto k s < 2 ^ k := Nat.mod_lt _ (Nat.two_pow_pos k)
theorem U_add {k q : Nat} (h : q < 2 ^ k) (hk : k < 64) : U (q + 2 ^ k) := by
  have : 2 ^ (k + 1) ≤ 2 ^ 64 := Nat.pow_le_pow_right (by decide) (by omega)
  rw [Nat.pow_succ] at this
  exact U.of (by omega)
theorem add_u64 (a b : Nat) (h : U (a + b)) : IntKind.u64.wrap ((a : Int) + (b : Int)) = ((a + b : Nat) : Int) := by
  rw [show (a : Int) + b = ((a + b : Nat) : Int) from rfl]
  exact wrap_small h
def SumAt (s k q : Nat) : Prop := q = upto k s
theorem SumAt.next_yes {s k q : Nat} (h : SumAt s k q) (hb : s.testBit k = true) : SumAt s (k + 1) (q + 2 ^ k) := by unfold SumAt at *; rw [h, upto_yes hb]
theorem SumAt.next_no {s k q : Nat} (h : SumAt s k q) (hb : s.testBit k = false) : SumAt s (k + 1) q := by unfold SumAt at *; rw [h, upto_no hb]
theorem SumAt.room {s k q : Nat} (h : SumAt s k q) (hk : k < 64) : U (q + 2 ^ k) := U_add (by rw [h]; exact upto_lt k s) hk
theorem hasB_nat {s k : Nat} (hk : k < 64) : hasB s (k : Int) = s.testBit k := by simp [hasB, mayB_yes (c := (k : Int)) (by omega) (by omega)]
theorem pow_slot (q k : Nat) (h : U (q + 2 ^ k)) : Value.int .u64 (IntKind.u64.wrap ((q : Int) + 2 ^ k)) = .int .u64 ((q + 2 ^ k : Nat) : Int) := by
  rw [pow_cast, add_u64 q (2 ^ k) h]
set_option maxRecDepth 100000 in
set_option maxHeartbeats 2000000 in
theorem join_c (a b : Nat) (ha : U a) (hb : U b) (w : World) : Calls Tryz.prog 106 #[.int .u64 a, .int .u64 b] w fun e w' => e = .returned (.int .u64 (a ||| b : Nat)) ∧ w = w' := by
  have HA := Lib.hid ha
  have HB := Lib.hid hb
  clear ha hb
  go_enter Tryz.func106, Tryz.ntmps106
  go_wp2
  go_loop [5, 6] (fun x i => ∃ k q : Nat, k ≤ 64 ∧ i = .int .i64 k ∧ SumAt (a ||| b) k q ∧ x = .int .u64 q) (fun _ i => 64 - (intOf i).toNat)
  case atStart => exact ⟨0, 0, by omega, rfl, (upto_zero _).symm, rfl⟩
  case round =>
    obtain ⟨k, q, hk, rfl, hq, rfl⟩ := hrel
    by_cases hlt : k < 64
    · cases h1 : a.testBit k
      · cases h2 : b.testBit k
        · have h3 := hq.next_no (by simp [h1, h2])
          have H1 := Lib.hid ((hasB_nat hlt).trans h1)
          have H2 := Lib.hid ((hasB_nat hlt).trans h2)
          clear h1 h2
          go_wp2_with (first | (go_at_call_of 98 (Value.int .u64 a); refine (bit_c a _ false HA.out H1.out _).mono ?_; rintro e w' ⟨rfl, rfl⟩) | (go_at_call 98; refine (bit_c b _ false HB.out H2.out _).mono ?_; rintro e w' ⟨rfl, rfl⟩) | (go_at_call 107; refine (one_c k hlt _).mono ?_; rintro e w' ⟨rfl, rfl⟩))
          go_round
          case rel => exact ⟨k + 1, q, by omega, by go_num, h3, rfl⟩
          case measure => simp [intOf]; omega
        · have h3 := hq.next_yes (by simp [h1, h2])
          have hr := hq.room hlt
          have H1 := Lib.hid ((hasB_nat hlt).trans h1)
          have H2 := Lib.hid ((hasB_nat hlt).trans h2)
          clear h1 h2
          go_wp2_with (first | (go_at_call_of 98 (Value.int .u64 a); refine (bit_c a _ false HA.out H1.out _).mono ?_; rintro e w' ⟨rfl, rfl⟩) | (go_at_call 98; refine (bit_c b _ true HB.out H2.out _).mono ?_; rintro e w' ⟨rfl, rfl⟩) | (go_at_call 107; refine (one_c k hlt _).mono ?_; rintro e w' ⟨rfl, rfl⟩))
          go_round
          case rel => exact ⟨k + 1, q + 2 ^ k, by omega, by go_num, h3, pow_slot q k hr⟩
          case measure => simp [intOf]; omega
      · cases h2 : b.testBit k
        · have h3 := hq.next_yes (by simp [h1, h2])
          have hr := hq.room hlt
          have H1 := Lib.hid ((hasB_nat hlt).trans h1)
          have H2 := Lib.hid ((hasB_nat hlt).trans h2)
          clear h1 h2
          go_wp2_with (first | (go_at_call_of 98 (Value.int .u64 a); refine (bit_c a _ true HA.out H1.out _).mono ?_; rintro e w' ⟨rfl, rfl⟩) | (go_at_call 98; refine (bit_c b _ false HB.out H2.out _).mono ?_; rintro e w' ⟨rfl, rfl⟩) | (go_at_call 107; refine (one_c k hlt _).mono ?_; rintro e w' ⟨rfl, rfl⟩))
          go_round
          case rel => exact ⟨k + 1, q + 2 ^ k, by omega, by go_num, h3, pow_slot q k hr⟩
          case measure => simp [intOf]; omega
        · have h3 := hq.next_yes (by simp [h1, h2])
          have hr := hq.room hlt
          have H1 := Lib.hid ((hasB_nat hlt).trans h1)
          have H2 := Lib.hid ((hasB_nat hlt).trans h2)
          clear h1 h2
          go_wp2_with (first | (go_at_call_of 98 (Value.int .u64 a); refine (bit_c a _ true HA.out H1.out _).mono ?_; rintro e w' ⟨rfl, rfl⟩) | (go_at_call 98; refine (bit_c b _ true HB.out H2.out _).mono ?_; rintro e w' ⟨rfl, rfl⟩) | (go_at_call 107; refine (one_c k hlt _).mono ?_; rintro e w' ⟨rfl, rfl⟩))
          go_round
          case rel => exact ⟨k + 1, q + 2 ^ k, by omega, by go_num, h3, pow_slot q k hr⟩
          case measure => simp [intOf]; omega
    · obtain rfl : k = 64 := by omega
      go_wp2
      go_ret
      exact ⟨ret_u64 (by rw [show q = _ from hq, upto_all (U_or HA.out HB.out)]), rfl⟩
theorem andNot_iff (a b : Nat) (ha : U a) (hb : U b) : (a &&& b == a) = withinB a b := by
  unfold withinB
  rw [Bool.eq_iff_iff, beq_iff_eq, beq_iff_eq]
  constructor
  · intro h
    apply Nat.eq_of_testBit_eq
    intro i
    rw [Nat.testBit_and, testBit_compl hb, Nat.zero_testBit]
    have h2 : (a &&& b).testBit i = a.testBit i := by rw [h]
    rw [Nat.testBit_and] at h2
    cases h3 : a.testBit i <;> cases h4 : b.testBit i <;> simp [h3, h4] at h2 ⊢
  · intro h
    apply Nat.eq_of_testBit_eq
    intro i
    rw [Nat.testBit_and]
    have h2 : (a &&& (18446744073709551615 - b)).testBit i = false := by rw [h, Nat.zero_testBit]
    rw [Nat.testBit_and, testBit_compl hb] at h2
    cases h3 : a.testBit i
    · rfl
    · have h4 := testBit_lt ha h3
      simp [h3, h4] at h2
      simp [h2]
end Go.Proofs.YtmlmanlcomfhbaaGreatDoor.Cats
namespace Go.Proofs.YtmlmanlcomfhbaaGreatDoor.Cats
open Go.RowKit

def intsV (l : List Nat) : List Value := l.map fun (c : Nat) => Value.int .i64 (c : Int)
theorem intsV_snoc (l : List Nat) (k : Nat) : intsV (l ++ [k]) = intsV l ++ [.int .i64 (k : Int)] := by simp [intsV]

/-- a list of the call's own, of the categories below k -/
def Rl (s : Nat) (w wr : World) (v : Value) (k : Nat) : Prop := wr.ownsRow w.heap.size 3 1 v (bitsTo s k).length (intsV (bitsTo s k)) ∧ Below w.heap.size w wr
theorem Rl.nil (s : Nat) (w : World) : Rl s w w (.slice none 0 0) 0 := ⟨World.ownsRow_nil _ _ _ _, Below.refl _ _⟩
theorem Rl.no {s k : Nat} {w wr : World} {v : Value} (h : Rl s w wr v k) (hb : s.testBit k = false) : Rl s w wr v (k + 1) := by
  unfold Rl at *
  rw [bitsTo_no hb]
  exact h
theorem Rl.yes {s k : Nat} {w wr w1 : World} {v v' : Value} {o : Obj} (h : Rl s w wr v k) (hb : s.testBit k = true)
    (hown : w1.ownsRow w.heap.size 3 1 v' ((bitsTo s k).length + 1) (intsV (bitsTo s k) ++ [.int .i64 (k : Int)])) (hg : (wr.alloc o).grownBy w1 v.ownBlock) : Rl s w w1 v' (k + 1) := by
  obtain ⟨h1, h2⟩ := h
  refine ⟨?_, ?_⟩
  · rw [bitsTo_yes hb, intsV_snoc]
    simpa using hown
  · exact (h2.alloc h2.size o).grown hg (by have := h2.size; simp; omega) (fun g hk => (h1.lt g hk).1)

theorem int_info : (Tryz.prog.info? 3).map (fun i => (i.zero, i.size, i.bytes)) = some (some (.int .i64 0), 1, 8) := by kernel_rfl

set_option maxRecDepth 100000 in
set_option maxHeartbeats 1000000 in
theorem rlist_c (s : Nat) (hs : U s) (w : World) : Calls Tryz.prog 75 #[.int .u64 s] w fun e w' => ∃ v, e = .returned v ∧ Rl s w w' v 64 := by
  have HS := Lib.hid hs
  clear hs
  obtain ⟨i0, hi, hz0, hz1, hz2⟩ := info_parts int_info
  go_enter Tryz.func75, Tryz.ntmps75
  go_wp2
  go_loopw [3, 4] (fun v i wr => ∃ k : Nat, k ≤ 64 ∧ i = .int .i64 k ∧ Rl s w wr v k) (fun _ i _ => 64 - (intOf i).toNat)
  case atStart => exact ⟨0, by omega, rfl, Rl.nil s w⟩
  case round =>
    obtain ⟨k, hk, rfl, hr⟩ := hrel
    by_cases hlt : k < 64
    · have hle := bitsTo_le s k
      cases hb : s.testBit k
      · have h3 := hr.no hb
        have HB := Lib.hid ((hasB_nat hlt).trans hb)
        clear hb
        go_wp2_with (go_at_call 98; refine (bit_c s _ false HS.out HB.out _).mono ?_; rintro e w' ⟨rfl, rfl⟩)
        go_roundw
        case rel => exact ⟨k + 1, by omega, by go_num, h3⟩
        case measure => simp [intOf]; omega
      · have HB := Lib.hid ((hasB_nat hlt).trans hb)
        have hb' := Lib.hid hb
        clear hb
        go_wp2_with (first
          | (go_at_call 98; refine (bit_c s _ true HS.out HB.out _).mono ?_; rintro e w' ⟨rfl, rfl⟩)
          | (at_builtin; refine wpList_append_own _ rfl _ _ 117 rfl w.heap.size 3 i0 (.int .i64 0) 1 8 Tryz.underlying117 hi hz0 hz1 hz2 rfl (by decide) _ _ _ rfl (hr.1.alloc _) ⟨_, 0, none⟩ 1 1 [.int .i64 (k : Int)] rfl rfl ?c1 ?c2 ?c3 ?c4 ?c5 ?_))
        case c1 => exact cell_one_new _ _ _
        case c2 => intro u hu; simp at hu; subst hu; rfl
        case c3 => unfold maxLen; omega
        case c4 => omega
        case c5 => have := hr.2.size; simp; omega
        intro v' w1 hown' hgrow _
        have h3 := hr.yes hb'.out hown' hgrow
        clear hown' hgrow
        go_wp2
        go_roundw
        case rel => exact ⟨k + 1, by omega, by go_num, h3⟩
        case measure => simp [intOf]; omega
    · obtain rfl : k = 64 := by omega
      go_wp2
      go_ret
      exact ⟨_, rfl, hr⟩

set_option maxRecDepth 100000 in
set_option maxHeartbeats 400000 in
theorem count_c (s : Nat) (hs : U s) (w : World) : Calls Tryz.prog 70 #[.int .u64 s] w fun e w' => e = .returned (.int .i64 (pop s : Nat)) ∧ w = w' := by
  have HS := Lib.hid hs
  clear hs
  go_enter Tryz.func70, Tryz.ntmps70
  go_wp2_with (go_at_call 95; refine (ones_c s HS.out _).mono ?_; rintro e w' ⟨rfl, rfl⟩)
  go_ret
  exact ⟨rfl, rfl⟩
theorem pop_le (s : Nat) : pop s ≤ 64 := bitsTo_le s 64
theorem Rl.made {s : Nat} {w w1 : World} {v : Value} (h : w1.ownsRow w.heap.size 3 1 v 0 []) (hg : w.grownBy w1 none) : Rl s w w1 v 0 :=
  ⟨h, (Below.refl _ _).grown hg (Nat.le_refl _) (fun _ hk => by cases hk)⟩

set_option maxRecDepth 100000 in
set_option maxHeartbeats 1000000 in
theorem list_c (s : Nat) (hs : U s) (w : World) : Calls Tryz.prog 71 #[.int .u64 s] w fun e w' => ∃ v, e = .returned v ∧ Rl s w w' v 64 := by
  have HS := Lib.hid hs
  clear hs
  have hpop := pop_le s
  obtain ⟨i0, hi, hz0, hz1, hz2⟩ := info_parts int_info
  go_enter Tryz.func71, Tryz.ntmps71
  go_wp2_with (first
    | (go_at_call 70; refine (count_c s HS.out _).mono ?_; rintro e w' ⟨rfl, rfl⟩)
    | (at_make; refine wpList_make_own _ rfl _ _ 117 rfl w.heap.size 3 i0 (.int .i64 0) 1 Tryz.underlying117 hi hz0 hz1 .i64 .i64 _ (pop s) rfl rfl rfl ?m1 ?m2 ?m3 ?_))
  case m1 => rw [hz2]; omega
  case m2 => unfold maxLen; omega
  case m3 => exact Nat.le_refl _
  intro w1 hown hg
  have h0 := Rl.made (s := s) hown hg
  clear hown hg
  generalize (Value.slice (some ⟨w.heap.size, 0, none⟩) 0 (pop s)) = v0 at *
  go_wp2
  go_loopw [3, 8] (fun v i wr => ∃ k : Nat, k ≤ 64 ∧ i = .int .i64 k ∧ Rl s w wr v k) (fun _ i _ => 64 - (intOf i).toNat)
  case atStart => exact ⟨0, by omega, rfl, h0⟩
  case round =>
    clear h0
    obtain ⟨k, hk, rfl, hr⟩ := hrel
    by_cases hlt : k < 64
    · have hle := bitsTo_le s k
      cases hb : s.testBit k
      · have h3 := hr.no hb
        have HB := Lib.hid ((hasB_nat hlt).trans hb)
        clear hb
        go_wp2_with (go_at_call 96; refine (has_c s _ false HS.out HB.out _).mono ?_; rintro e w' ⟨rfl, rfl⟩)
        go_roundw
        case rel => exact ⟨k + 1, by omega, by go_num, h3⟩
        case measure => simp [intOf]; omega
      · have HB := Lib.hid ((hasB_nat hlt).trans hb)
        have hb' := Lib.hid hb
        clear hb
        go_wp2_with (first
          | (go_at_call 96; refine (has_c s _ true HS.out HB.out _).mono ?_; rintro e w' ⟨rfl, rfl⟩)
          | (at_builtin; refine wpList_append_own _ rfl _ _ 117 rfl w.heap.size 3 i0 (.int .i64 0) 1 8 Tryz.underlying117 hi hz0 hz1 hz2 rfl (by decide) _ _ _ rfl (hr.1.alloc _) ⟨_, 0, none⟩ 1 1 [.int .i64 (k : Int)] rfl rfl ?c1 ?c2 ?c3 ?c4 ?c5 ?_))
        case c1 => exact cell_one_new _ _ _
        case c2 => intro u hu; simp at hu; subst hu; rfl
        case c3 => unfold maxLen; omega
        case c4 => omega
        case c5 => have := hr.2.size; simp; omega
        intro v' w1 hown' hgrow _
        have h3 := hr.yes hb'.out hown' hgrow
        clear hown' hgrow
        go_wp2
        go_roundw
        case rel => exact ⟨k + 1, by omega, by go_num, h3⟩
        case measure => simp [intOf]; omega
    · obtain rfl : k = 64 := by omega
      go_wp2
      go_ret
      exact ⟨_, rfl, hr⟩

/-- a slice (nil too) that reads as a list of numbers -/
def Ints (w : World) (A : Option Addr) (n : Nat) (xs : List Int) : Prop :=
  xs.length = n ∧ n ≤ maxLen ∧ (0 < n → ∃ b off, A = some ⟨b, off, none⟩ ∧ b < w.heap.size ∧ ∀ k, k < n → w.cell? ⟨b, off + k, none⟩ = some (.int .i64 (xs.getD k 0)))
theorem Ints.at_ {w : World} {A : Option Addr} {n k : Nat} {xs : List Int} (h : Ints w A n xs) (hk : k < n) : ∃ b off, A = some ⟨b, off, none⟩ ∧ w.cell? ⟨b, off + k, none⟩ = some (.int .i64 (xs.getD k 0)) := by
  obtain ⟨b, off, e, _, hc⟩ := h.2.2 (by omega)
  exact ⟨b, off, e, hc k hk⟩
theorem Ints.keep {w w' : World} {A : Option Addr} {n : Nat} {xs : List Int} (h : Ints w A n xs) (hb : Below w.heap.size w w') : Ints w' A n xs :=
  ⟨h.1, h.2.1, fun hn => by
    obtain ⟨b, off, e, hlt, hc⟩ := h.2.2 hn
    exact ⟨b, off, e, Nat.lt_of_lt_of_le hlt hb.size, fun k hk => (hb.cell (p := ⟨b, off + k, none⟩) hlt).trans (hc k hk)⟩⟩
theorem Ints.drewN {w : World} {A : Option Addr} {n : Nat} {xs : List Int} (h : Ints w A n xs) (q : Nat) : Ints (w.drewN q) A n xs := h
def intsOf (l : List Nat) : List Int := l.map fun (c : Nat) => (c : Int)
theorem intsV_get (l : List Nat) (k : Nat) (hk : k < l.length) : (intsV l)[k]? = some (.int .i64 ((intsOf l).getD k 0)) := by
  simp [intsV, intsOf, hk]
theorem Rl.ints {s k : Nat} {w wr : World} {v : Value} (h : Rl s w wr v k) (hk : k ≤ 64) : ∃ A cap, v = .slice A (bitsTo s k).length cap ∧ Ints wr A (bitsTo s k).length (intsOf (bitsTo s k)) := by
  have hle := bitsTo_le s k
  have hl : (intsOf (bitsTo s k)).length = (bitsTo s k).length := by simp [intsOf]
  have hm : (bitsTo s k).length ≤ maxLen := by unfold maxLen; omega
  obtain ⟨ho, _⟩ := h
  rcases ho.2 with ⟨rfl, h0⟩ | ⟨g, cap, cur, rfl, hbg, hg, hnc, hcm, hcs, htake⟩
  · exact ⟨none, 0, by rw [h0], hl, hm, fun hn => by omega⟩
  · refine ⟨_, cap, rfl, hl, hm, fun _ => ⟨g, 0, rfl, ?_, fun k' hk' => ?_⟩⟩
    · rcases Nat.lt_or_ge g wr.heap.size with hlt | hge
      · exact hlt
      · rw [Array.getElem?_eq_none hge] at hg; cases hg
    · rw [Nat.zero_add, World.ownsRow.cellAt ho k' (by omega)]
      exact intsV_get _ _ hk'
/-- a world that has drawn a few times -/
def Drawn (w wr : World) : Prop := ∃ q, wr = w.drewN q
theorem Drawn.trans {a b c : World} (h : Drawn a b) (k : Drawn b c) : Drawn a c := by
  obtain ⟨q, rfl⟩ := h
  obtain ⟨p, rfl⟩ := k
  exact ⟨q + p, World.drewN_drewN _ _ _⟩
theorem Drawn.refl (w : World) : Drawn w w := ⟨0, rfl⟩
theorem Drawn.below {a b : World} (h : Drawn a b) : Below a.heap.size a b := by
  obtain ⟨q, rfl⟩ := h
  exact ⟨rfl, rfl, rfl, Nat.le_refl _, fun _ _ => rfl⟩
end Go.Proofs.YtmlmanlcomfhbaaGreatDoor.Cats

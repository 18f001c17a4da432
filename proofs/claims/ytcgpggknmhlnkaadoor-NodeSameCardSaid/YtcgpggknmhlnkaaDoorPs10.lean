/- What the small functions of package cats answer, for every input.
   What the reference's small functions on sets answer, for every input that they are asked at. -/
import Derived.Test.YtcgpggknmhlnkaaDoorRows
import Derived.Test.YtcgpggknmhlnkaaDoorPs09
import Derived.WalkKit
import Derived.WalkSpells
import Derived.WalkLawsBesides
import Derived.Lib.Hide
import Derived.Deep.RegionWith
namespace Go.Proofs.YtcgpggknmhlnkaaDoor.Cats
open Go.RowKit
theorem ret_bool {a b : Bool} (h : a = b) : Ending.returned (.bool a) = .returned (.bool b) := by rw [h]

set_option maxRecDepth 100000 in
set_option maxHeartbeats 400000 in
theorem may_c (c : Int) (b : Bool) (hb : mayB c = b) (w : World) : Calls Tryd.prog 63 #[.int .i64 c] w fun e w' => e = .returned (.bool b) ∧ w = w' := by
  have HB := Lib.hid hb
  clear hb
  by_cases h0 : 0 ≤ c
  · by_cases h1 : c < 64
    · go_enter Tryd.func63, Tryd.ntmps63
      go_wp2
      go_ret
      exact ⟨ret_bool (by rw [← HB.out, mayB_yes h0 h1]), rfl⟩
    · go_enter Tryd.func63, Tryd.ntmps63
      go_wp2
      go_ret
      exact ⟨ret_bool (by rw [← HB.out, mayB_big (by omega)]), rfl⟩
  · go_enter Tryd.func63, Tryd.ntmps63
    go_wp2
    go_ret
    exact ⟨ret_bool (by rw [← HB.out, mayB_neg (by omega)]), rfl⟩

set_option maxRecDepth 100000 in
set_option maxHeartbeats 400000 in
theorem has_in (s k : Nat) (hs : U s) (hk : k < 64) (w : World) : Calls Tryd.prog 77 #[.int .u64 s, .int .i64 k] w fun e w' => e = .returned (.bool (s.testBit k)) ∧ w = w' := by
  have hm := Lib.hid (mayB_yes (c := (k : Int)) (by omega) (by omega))
  go_enter Tryd.func77, Tryd.ntmps77
  go_wp2_with (go_at_call 63; refine (may_c _ true hm.out _).mono ?_; rintro e w' ⟨rfl, rfl⟩)
  go_ret
  exact ⟨ret_bool (shr_and_one_int s k hs), rfl⟩
set_option maxRecDepth 100000 in
set_option maxHeartbeats 400000 in
theorem has_out (s : Int) (c : Int) (hm : mayB c = false) (w : World) : Calls Tryd.prog 77 #[.int .u64 s, .int .i64 c] w fun e w' => e = .returned (.bool false) ∧ w = w' := by
  have HB := Lib.hid hm
  clear hm
  go_enter Tryd.func77, Tryd.ntmps77
  go_wp2_with (go_at_call 63; refine (may_c _ false HB.out _).mono ?_; rintro e w' ⟨rfl, rfl⟩)
  go_ret
  exact ⟨rfl, rfl⟩
/-- Has, in one -/
theorem has_c (s : Nat) (c : Int) (b : Bool) (hs : U s) (hb : hasB s c = b) (w : World) : Calls Tryd.prog 77 #[.int .u64 s, .int .i64 c] w fun e w' => e = .returned (.bool b) ∧ w = w' := by
  subst hb
  cases hm : mayB c
  · have e : hasB s c = false := by simp [hasB, hm]
    rw [e]
    exact has_out s c hm w
  · obtain ⟨h0, h1⟩ := of_mayB hm
    obtain ⟨k, rfl⟩ := Int.eq_ofNat_of_zero_le h0
    have e : hasB s (k : Int) = s.testBit k := by simp [hasB, hm]
    rw [e]
    exact has_in s k hs (by omega) w

theorem ret_i64 {a b : Int} (h : a = b) : Ending.returned (.int .i64 a) = .returned (.int .i64 b) := by rw [h]
def st1 (x : Int) : Int := IntKind.u64.wrap (bits .and .u64 (x / 2) 6148914691236517205 + bits .and .u64 x 6148914691236517205)
def st2 (x : Int) : Int := IntKind.u64.wrap (bits .and .u64 (x / 4) 3689348814741910323 + bits .and .u64 x 3689348814741910323)
def st3 (x : Int) : Int := bits .and .u64 (IntKind.u64.wrap (x / 16 + x)) 1085102592571150095
def st4 (x : Int) : Int := IntKind.u64.wrap (x + x / 256)
def st5 (x : Int) : Int := IntKind.u64.wrap (x + x / 65536)
def st6 (x : Int) : Int := IntKind.u64.wrap (x + x / 4294967296)
theorem and_le (a b : Nat) : a &&& b ≤ b := Nat.and_le_right
theorem st1_eq (s : Nat) (hs : U s) : st1 s = (g1 8 s : Nat) := by
  have e : ((s : Int) / 2) = ((s / 2 : Nat) : Int) := by omega
  have a1 := and_le (s / 2) 6148914691236517205
  have a2 := and_le s 6148914691236517205
  unfold U at hs
  have h1 := u64_and_nat (s / 2) 6148914691236517205 (by omega) (by omega)
  have h2 := u64_and_nat s 6148914691236517205 hs (by omega)
  have hg : g1 8 s = (s / 2 &&& 6148914691236517205) + (s &&& 6148914691236517205) := rfl
  unfold st1
  rw [e, show (6148914691236517205 : Int) = ((6148914691236517205 : Nat) : Int) from rfl, h1, h2, hg, IntKind.wrap_u64]
  omega
theorem g1_lt (s : Nat) : g1 8 s < 18446744073709551616 := by
  have a1 := and_le (s / 2) 6148914691236517205
  have a2 := and_le s 6148914691236517205
  have hg : g1 8 s = (s / 2 &&& 6148914691236517205) + (s &&& 6148914691236517205) := rfl
  omega
theorem st2_eq (s : Nat) : st2 (g1 8 s : Nat) = (g2 8 s : Nat) := by
  have hs := g1_lt s
  have e : ((g1 8 s : Nat) : Int) / 4 = ((g1 8 s / 4 : Nat) : Int) := by omega
  have a1 := and_le (g1 8 s / 4) 3689348814741910323
  have a2 := and_le (g1 8 s) 3689348814741910323
  have h1 := u64_and_nat (g1 8 s / 4) 3689348814741910323 (by omega) (by omega)
  have h2 := u64_and_nat (g1 8 s) 3689348814741910323 hs (by omega)
  have hg : g2 8 s = (g1 8 s / 4 &&& 3689348814741910323) + (g1 8 s &&& 3689348814741910323) := rfl
  unfold st2
  rw [e, show (3689348814741910323 : Int) = ((3689348814741910323 : Nat) : Int) from rfl, h1, h2, hg, IntKind.wrap_u64]
  omega
theorem g2_lt (s : Nat) : g2 8 s ≤ 7378697629483820646 := by
  have a1 := and_le (g1 8 s / 4) 3689348814741910323
  have a2 := and_le (g1 8 s) 3689348814741910323
  have hg : g2 8 s = (g1 8 s / 4 &&& 3689348814741910323) + (g1 8 s &&& 3689348814741910323) := rfl
  omega
theorem st3_eq (s : Nat) : st3 (g2 8 s : Nat) = (g3 8 s : Nat) := by
  have hs := g2_lt s
  have e : ((g2 8 s : Nat) : Int) / 16 + (g2 8 s : Nat) = ((g2 8 s / 16 + g2 8 s : Nat) : Int) := by omega
  have h1 := u64_and_nat (g2 8 s / 16 + g2 8 s) 1085102592571150095 (by omega) (by omega)
  have hg : g3 8 s = (g2 8 s / 16 + g2 8 s) &&& 1085102592571150095 := rfl
  unfold st3
  rw [e, wrap_small (by omega), show (1085102592571150095 : Int) = ((1085102592571150095 : Nat) : Int) from rfl, h1, hg]
theorem fin_eq (x : Nat) (hx : x ≤ 578721382704613384) : st6 (st5 (st4 (x : Int))) = (fin3 (fin2 (fin1 x)) : Nat) ∧ fin3 (fin2 (fin1 x)) < 9223372036854775808 := by
  have e1 : st4 (x : Int) = (fin1 x : Nat) := by
    unfold st4 fin1
    rw [IntKind.wrap_u64]; omega
  have l1 : fin1 x ≤ 600000000000000000 := by unfold fin1; omega
  have e2 : st5 (fin1 x : Nat) = (fin2 (fin1 x) : Nat) := by
    unfold st5
    rw [IntKind.wrap_u64]
    show _ = ((fin1 x + fin1 x / 65536 : Nat) : Int)
    omega
  have l2 : fin2 (fin1 x) ≤ 700000000000000000 := by show fin1 x + fin1 x / 65536 ≤ _; omega
  have e3 : st6 (fin2 (fin1 x) : Nat) = (fin3 (fin2 (fin1 x)) : Nat) := by
    unfold st6
    rw [IntKind.wrap_u64]
    show _ = ((fin2 (fin1 x) + fin2 (fin1 x) / 4294967296 : Nat) : Int)
    omega
  rw [e1, e2, e3]
  refine ⟨rfl, ?_⟩
  show fin2 (fin1 x) + fin2 (fin1 x) / 4294967296 < _
  omega
theorem ones_int (s : Nat) (hs : U s) : bits .and .i64 (wrap64 (st6 (st5 (st4 (st3 (st2 (st1 s))))))) 127 = ((pop s : Nat) : Int) := by
  obtain ⟨h, hl⟩ := ones_math s
  obtain ⟨f1, f2⟩ := fin_eq _ hl
  rw [st1_eq s hs, st2_eq, st3_eq, f1, ← h, i64_and127]
  unfold wrap64
  omega
set_option maxRecDepth 100000 in
set_option maxHeartbeats 1000000 in
theorem ones_c (s : Nat) (hs : U s) (w : World) : Calls Tryd.prog 76 #[.int .u64 s] w fun e w' => e = .returned (.int .i64 (pop s : Nat)) ∧ w = w' := by
  have HS := Lib.hid (ones_int s hs)
  clear hs
  have h0 : (0 : Int) ≤ s := by omega
  go_enter Tryd.func76, Tryd.ntmps76
  go_wp2
  go_ret
  exact ⟨ret_i64 HS.out, rfl⟩
end Go.Proofs.YtcgpggknmhlnkaaDoor.Cats
namespace Go.Proofs.YtcgpggknmhlnkaaDoor.Cats
open Go.RowKit
theorem U.half {q : Nat} (h : U q) : U (q / 2) := Nat.lt_of_le_of_lt (Nat.div_le_self _ _) h
def HalfAt (s k q : Nat) : Prop := q = s / 2 ^ k ∧ U q
theorem HalfAt.next {s k q : Nat} (h : HalfAt s k q) : HalfAt s (k + 1) (q / 2) := ⟨by rw [h.1, Nat.pow_succ, ← Nat.div_div_eq_div_mul], h.2.half⟩
def PowAt (k q : Nat) : Prop := q = 2 ^ k
theorem PowAt.next {k q : Nat} (h : PowAt k q) : PowAt (k + 1) (q * 2) := by unfold PowAt at *; rw [h, Nat.pow_succ]
theorem PowAt.U {k q : Nat} (h : PowAt k q) (hk : k < 64) : U q := by rw [h]; exact U_pow hk
/-- what Join has put together of the lowest k categories -/
def upto (k s : Nat) : Nat := s % 2 ^ k
theorem upto_lt (k s : Nat) : upto k s < 2 ^ k := Nat.mod_lt _ (Nat.two_pow_pos k)
theorem U_add {k q : Nat} (h : q < 2 ^ k) (hk : k < 64) : U (q + 2 ^ k) := by
  have : 2 ^ (k + 1) ≤ 2 ^ 64 := Nat.pow_le_pow_right (by decide) (by omega)
  rw [Nat.pow_succ] at this
  exact U.of (by omega)
def SumAt (s k q : Nat) : Prop := q = upto k s
theorem SumAt.room {s k q : Nat} (h : SumAt s k q) (hk : k < 64) : U (q + 2 ^ k) := U_add (by rw [h]; exact upto_lt k s) hk
theorem hasB_nat {s k : Nat} (hk : k < 64) : hasB s (k : Int) = s.testBit k := by simp [hasB, mayB_yes (c := (k : Int)) (by omega) (by omega)]
end Go.Proofs.YtcgpggknmhlnkaaDoor.Cats

/- What the reference's small functions on labels answer: for every two labels. -/
import Derived.Test.YtobjmldfnnhofaaDoorCatsRefParse
import Derived.Test.YtobjmldfnnhofaaDoorLabText
import Derived.Deep.RegionHeld3
namespace Go.Proofs.YtobjmldfnnhofaaDoor.Cats
open Go.RowKit

theorem below1 (w : World) (a : Obj) : Below w.heap.size w (w.alloc a) := (Below.refl _ _).alloc (Nat.le_refl _) a
theorem below2 (w : World) (a b : Obj) : Below w.heap.size w ((w.alloc a).alloc b) := (below1 w a).alloc (by simp) b
theorem below3 (w : World) (a b c : Obj) : Below w.heap.size w (((w.alloc a).alloc b).alloc c) := (below2 w a b).alloc (by simp; omega) c
theorem below4 (w : World) (a b c d : Obj) : Below w.heap.size w ((((w.alloc a).alloc b).alloc c).alloc d) := (below3 w a b c).alloc (by simp; omega) d
def belowL (l1 : Int) (s1 : Nat) (l2 : Int) (s2 : Nat) : Bool := decide (l1 ≤ l2) && withinB s1 s2
set_option maxRecDepth 100000 in
set_option maxHeartbeats 1000000 in
theorem rbelow_c (l1 l2 : Int) (s1 s2 : Nat) (b : Bool) (h1 : U s1) (h2 : U s2) (hb : belowL l1 s1 l2 s2 = b) (w : World) :
    Calls Tryd.prog 9 #[.agg #[.int .i64 l1, .int .u64 s1], .agg #[.int .i64 l2, .int .u64 s2]] w fun e w' => e = .returned (.bool b) ∧ Below w.heap.size w w' := by
  have HB := Lib.hid hb
  have Hw := Lib.hid (fun w1 => rwithin_c s1 s2 _ h1 h2 rfl w1)
  clear hb h1 h2
  by_cases hl : l1 ≤ l2
  · go_enter Tryd.func9, Tryd.ntmps9
    go_wp2_with (go_at_call 24; refine (Hw.out _).mono ?_; rintro e w' ⟨rfl, rfl⟩)
    go_ret
    exact ⟨ret_bool (by rw [← HB.out, belowL]; simp [hl]), ((Below.refl _ _).alloc (Nat.le_refl _) _).alloc (by simp) _⟩
  · have hd : decide (l1 ≤ l2) = false := by simpa using hl
    go_enter Tryd.func9, Tryd.ntmps9
    go_wp2
    go_ret
    exact ⟨ret_bool (by rw [← HB.out, belowL, hd]; rfl), ((Below.refl _ _).alloc (Nat.le_refl _) _).alloc (by simp) _⟩
def joinI (a b : Int) : Int := if a < b then b else a
set_option maxRecDepth 100000 in
set_option maxHeartbeats 2000000 in
theorem rjoin_c (l1 l2 : Int) (s1 s2 : Nat) (h1 : U s1) (h2 : U s2) (w : World) :
    Calls Tryd.prog 6 #[.agg #[.int .i64 l1, .int .u64 s1], .agg #[.int .i64 l2, .int .u64 s2]] w fun e w' => e = .returned (.agg #[.int .i64 (joinI l1 l2), .int .u64 (s1 ||| s2 : Nat)]) ∧ Below w.heap.size w w' := by
  have Hj := Lib.hid (fun w1 => join_c s1 s2 h1 h2 w1)
  clear h1 h2
  by_cases hl : l1 < l2
  · have e : joinI l1 l2 = l2 := if_pos hl
    rw [e]
    clear e
    go_enter Tryd.func6, Tryd.ntmps6
    go_wp2_with fail
    go_region_held3 (fun w' => w'.cell? ⟨w.heap.size, 0, none⟩ = some (.int .i64 l1) ∧ w'.cell? ⟨w.heap.size, 1, none⟩ = some (.int .u64 s1) ∧ w'.cell? ⟨w.heap.size + 1, 1, none⟩ = some (.int .u64 s2))
      (first | go_keep)
      (first | (go_at_call 22; refine (Hj.out _).mono ?_; rintro e w' ⟨rfl, rfl⟩))
    all_goals
      go_wp2
      refine bodyPost_ret (v := .agg #[.int .i64 l2, .int .u64 (s1 ||| s2 : Nat)]) (by simp [results, Tryd.results6, go_sem]) rfl ⟨rfl, ?_⟩
      exact (below4 _ _ _ _ _).drew
  · have e : joinI l1 l2 = l1 := if_neg hl
    rw [e]
    clear e
    go_enter Tryd.func6, Tryd.ntmps6
    go_wp2_with fail
    go_region_held3 (fun w' => w'.cell? ⟨w.heap.size, 0, none⟩ = some (.int .i64 l1) ∧ w'.cell? ⟨w.heap.size, 1, none⟩ = some (.int .u64 s1) ∧ w'.cell? ⟨w.heap.size + 1, 1, none⟩ = some (.int .u64 s2))
      (first | go_keep)
      (first | (go_at_call 22; refine (Hj.out _).mono ?_; rintro e w' ⟨rfl, rfl⟩))
    all_goals
      go_wp2
      refine bodyPost_ret (v := .agg #[.int .i64 l1, .int .u64 (s1 ||| s2 : Nat)]) (by simp [results, Tryd.results6, go_sem]) rfl ⟨rfl, ?_⟩
      exact (below4 _ _ _ _ _).drew
def meetI (a b : Int) : Int := if b < a then b else a
set_option maxRecDepth 100000 in
set_option maxHeartbeats 2000000 in
theorem rmeet_c (l1 l2 : Int) (s1 s2 : Nat) (h1 : U s1) (h2 : U s2) (w : World) :
    Calls Tryd.prog 12 #[.agg #[.int .i64 l1, .int .u64 s1], .agg #[.int .i64 l2, .int .u64 s2]] w fun e w' => e = .returned (.agg #[.int .i64 (meetI l1 l2), .int .u64 (s1 &&& s2 : Nat)]) ∧ Below w.heap.size w w' := by
  have Hj := Lib.hid (fun w1 => meet_c s1 s2 h1 h2 w1)
  clear h1 h2
  by_cases hl : l2 < l1
  · have e : meetI l1 l2 = l2 := if_pos hl
    rw [e]
    clear e
    go_enter Tryd.func12, Tryd.ntmps12
    go_wp2_with fail
    go_region_held3 (fun w' => w'.cell? ⟨w.heap.size, 0, none⟩ = some (.int .i64 l1) ∧ w'.cell? ⟨w.heap.size, 1, none⟩ = some (.int .u64 s1) ∧ w'.cell? ⟨w.heap.size + 1, 1, none⟩ = some (.int .u64 s2))
      (first | go_keep)
      (first | (go_at_call 25; refine (Hj.out _).mono ?_; rintro e w' ⟨rfl, rfl⟩))
    all_goals
      go_wp2
      refine bodyPost_ret (v := .agg #[.int .i64 l2, .int .u64 (s1 &&& s2 : Nat)]) (by simp [results, Tryd.results12, go_sem]) rfl ⟨rfl, ?_⟩
      exact (below4 _ _ _ _ _).drew
  · have e : meetI l1 l2 = l1 := if_neg hl
    rw [e]
    clear e
    go_enter Tryd.func12, Tryd.ntmps12
    go_wp2_with fail
    go_region_held3 (fun w' => w'.cell? ⟨w.heap.size, 0, none⟩ = some (.int .i64 l1) ∧ w'.cell? ⟨w.heap.size, 1, none⟩ = some (.int .u64 s1) ∧ w'.cell? ⟨w.heap.size + 1, 1, none⟩ = some (.int .u64 s2))
      (first | go_keep)
      (first | (go_at_call 25; refine (Hj.out _).mono ?_; rintro e w' ⟨rfl, rfl⟩))
    all_goals
      go_wp2
      refine bodyPost_ret (v := .agg #[.int .i64 l1, .int .u64 (s1 &&& s2 : Nat)]) (by simp [results, Tryd.results12, go_sem]) rfl ⟨rfl, ?_⟩
      exact (below4 _ _ _ _ _).drew

def EvAt (k q : Nat) : Prop := q + 1 = 2 ^ k
theorem EvAt.U {k q : Nat} (h : EvAt k q) (hk : k ≤ 64) : U q := by
  have : 2 ^ k ≤ 2 ^ 64 := Nat.pow_le_pow_right (by decide) hk
  unfold EvAt at h
  exact U.of (by omega)
theorem EvAt.next {k q : Nat} (h : EvAt k q) : EvAt (k + 1) (q * 2 + 1) := by
  unfold EvAt at *
  rw [Nat.pow_succ]
  omega
theorem EvAt.done {q : Nat} (h : EvAt 64 q) : q = allN := by unfold EvAt at h; unfold allN; omega
theorem ev_slot (q : Nat) (h : U (q * 2 + 1)) : Value.int .u64 (IntKind.u64.wrap (IntKind.u64.wrap ((q : Int) * 2) + 1)) = .int .u64 ((q * 2 + 1 : Nat) : Int) := by
  have h2 : U (q * 2) := by unfold U at *; omega
  rw [dbl_u64 q h2, show ((q * 2 : Nat) : Int) + 1 = ((q * 2 + 1 : Nat) : Int) from rfl, wrap_small h]
set_option maxRecDepth 100000 in
set_option maxHeartbeats 1000000 in
theorem every_c (w : World) : Calls Tryd.prog 26 #[] w fun e w' => e = .returned (.int .u64 (allN : Nat)) ∧ w = w' := by
  go_enter Tryd.func26, Tryd.ntmps26
  go_wp2
  go_loop [1, 2] (fun s i => ∃ k q : Nat, k ≤ 64 ∧ i = .int .i64 k ∧ EvAt k q ∧ s = .int .u64 q) (fun _ i => 64 - (intOf i).toNat)
  case atStart => exact ⟨0, 0, by omega, rfl, rfl, rfl⟩
  case round =>
    obtain ⟨k, q, hk, rfl, hq, rfl⟩ := hrel
    by_cases hlt : k < 64
    · go_wp2
      go_round
      case rel => exact ⟨k + 1, q * 2 + 1, by omega, by go_num, hq.next, ev_slot q (hq.next.U (by omega))⟩
      case measure => simp [intOf]; omega
    · obtain rfl : k = 64 := by omega
      go_wp2
      go_ret
      exact ⟨ret_u64 (by rw [hq.done]), rfl⟩
set_option maxRecDepth 100000 in
set_option maxHeartbeats 1000000 in
theorem rtop_c (w : World) : Calls Tryd.prog 16 #[] w fun e w' => e = .returned (.agg #[.int .i64 15, .int .u64 (allN : Nat)]) ∧ Below w.heap.size w w' := by
  go_enter Tryd.func16, Tryd.ntmps16
  go_wp2_with (go_at_call 26; refine (every_c _).mono ?_; rintro e w' ⟨rfl, rfl⟩)
  refine bodyPost_ret (v := .agg #[.int .i64 15, .int .u64 (allN : Nat)]) (by simp [results, Tryd.results16, go_sem]) rfl ⟨rfl, ?_⟩
  exact below1 _ _
end Go.Proofs.YtobjmldfnnhofaaDoor.Cats

/- What the reference's Digit, more, whole, Text on decimals as text answer. -/
import Derived.Test.YtgikagdfmbkfdaaGreatDoorDigTell
import Derived.Test.YtgikagdfmbkfdaaGreatDoorDecRefScale
namespace Go.Proofs.YtgikagdfmbkfdaaGreatDoor.Dig
open Go.RowKit Kit Dec

set_option maxRecDepth 100000 in
set_option maxHeartbeats 1000000 in
theorem digit_c (t : ByteArray) (i : Nat) (z : Int) (hz : z = i) (b : Bool) (hb : digAt t.data.toList i = b) (w : World) :
    Calls Tryz.prog 57 #[.string t, .int .i64 z] w fun e w' => e = .returned (.bool b) ∧ w = w' := by
  subst hz
  by_cases hlt : i < t.size
  · obtain ⟨x, hx⟩ : ∃ x : UInt8, t[i]'hlt = x := ⟨_, rfl⟩
    have hxl : t.data.toList[i]? = some x := by rw [← hx]; exact Lib.data_getElem? t i hlt
    rw [digAt_in hxl] at hb
    have hx256 := x.toNat_lt
    have HB := Lib.hid hb
    clear hb hxl
    by_cases h1 : 48 ≤ x.toNat
    · have d1 : decide (48 ≤ (x.toNat : Int)) = true := by simp; omega
      by_cases h2 : x.toNat ≤ 57
      · have d2 : decide ((x.toNat : Int) ≤ 57) = true := by simp; omega
        obtain rfl : true = b := by rw [← HB.out]; exact (isD_iff.2 ⟨h1, h2⟩).symm
        go_enter Tryz.func57, Tryz.ntmps57
        go_wp2
        go_ret
        exact ⟨rfl, rfl⟩
      · have d2 : decide ((x.toNat : Int) ≤ 57) = false := by simp; omega
        obtain rfl : false = b := by rw [← HB.out]; exact (isD_not.2 (by omega)).symm
        go_enter Tryz.func57, Tryz.ntmps57
        go_wp2
        go_ret
        exact ⟨rfl, rfl⟩
    · have d1 : decide (48 ≤ (x.toNat : Int)) = false := by simp; omega
      obtain rfl : false = b := by rw [← HB.out]; exact (isD_not.2 (by omega)).symm
      go_enter Tryz.func57, Tryz.ntmps57
      go_wp2
      go_ret
      exact ⟨rfl, rfl⟩
  · obtain rfl : false = b := by rw [← hb]; exact (digAt_out (by rw [len]; omega)).symm
    clear hb
    go_enter Tryz.func57, Tryz.ntmps57
    go_wp2
    go_ret
    exact ⟨rfl, rfl⟩

theorem scaled_ten (v : Nat) (h : v ≤ 9223372036854775807) : scaledD (v : Int) 10 1 = capD (v * 10) := by
  have hr : roundN (v * 10) 1 = v * 10 := by unfold roundN; rw [Nat.mod_one, Nat.div_one]; exact if_neg (by omega)
  unfold scaledD capD
  rw [mayD_yes (by omega), mayD_yes (by omega), mayD_yes (by omega), show (v : Int).natAbs = v by omega, show (10 : Int).natAbs = 10 from rfl, show (1 : Int).natAbs = 1 from rfl, hr]
  have hn : negs (v : Int) 10 1 = false := by
    unfold negs
    rw [decide_eq_false (show ¬ (v : Int) < 0 by omega)]
    rfl
  rw [hn]
  rfl
theorem add_digit (v d : Nat) (h : v * 10 ≤ 9223372036854775807) (hd : d < 10) : addD (((v * 10 : Nat)) : Int) (d : Int) = capD (v * 10 + d) := by
  unfold addD capD
  rw [mayD_yes (by omega), mayD_yes (by omega)]
  rfl
set_option maxRecDepth 100000 in
set_option maxHeartbeats 1000000 in
theorem more_no (d : Nat) (w : World) : Calls Tryz.prog 58 #[.agg #[.int .i64 0, .bool false], .int .i64 d] w (GotIs 0 false w) := by
  go_enter Tryz.func58, Tryz.ntmps58
  go_wp2
  exact bodyPost_ret (v := .agg #[.int .i64 0, .bool false]) (by simp [results, Tryz.results58, go_sem]) rfl ⟨rfl, below2 _ _ _⟩
theorem more_start (w : World) (A : Obj) (ty : TypeId) : CellsAt ((w.alloc A).alloc (.cells #[.int .i64 0, .bool false] ty)) (w.heap.size + 1) [.int .i64 0, .bool false] ∧ Below w.heap.size w ((w.alloc A).alloc (.cells #[.int .i64 0, .bool false] ty)) := by
  have h := CellsAt.new (w.alloc A) [.int .i64 0, .bool false] ty
  rw [show (w.alloc A).heap.size = w.heap.size + 1 by simp] at h
  exact ⟨h, below2 _ _ _⟩
set_option maxRecDepth 100000 in
set_option maxHeartbeats 1000000 in
theorem more_yes (v d : Nat) (hv : v ≤ 9223372036854775807) (hd : d < 10) (m : Int) (j : Bool) (h2 : capD (v * 10 + d) = (m, j)) (w : World) : Calls Tryz.prog 58 #[.agg #[.int .i64 v, .bool true], .int .i64 d] w (GotIs m j w) := by
  by_cases hx : v * 10 ≤ 9223372036854775807
  · obtain ⟨p, hp⟩ : ∃ p, v * 10 = p := ⟨_, rfl⟩
    have hs := scaled_ten v hv
    rw [hp] at hs hx
    rw [capD_in hx] at hs
    have S : Hid (∀ w1, Calls Tryz.prog 72 #[.int .i64 v, .int .i64 10, .int .i64 1] w1 (GotIs (p : Int) true w1)) := Lib.hid (fun w1 => rscaled_c (v : Int) 10 1 (by omega) (by omega) (by omega) (p : Int) true hs w1)
    have ha := add_digit v d (by omega) hd
    rw [hp] at ha
    rw [hp] at h2
    have A := Lib.hid (fun w1 => radd_c (p : Int) (d : Int) (by omega) (by omega) m j (ha.trans h2) w1)
    clear ha hs hp h2
    go_enter Tryz.func58, Tryz.ntmps58
    go_wp2_with fail
    refine (S.out _).mono ?_
    rintro e w1 ⟨rfl, hb1⟩
    obtain ⟨hc0, hw0⟩ := more_start w (.cells #[.int .i64 v, .bool true] 61) 61
    have hc1 := hc0.on hb1
    have hw1 := on hw0 hb1
    have hlt := hc1.1
    have hA := CellsAt.new w1 [.int .i64 p, .bool true] 61
    obtain ⟨q0, q1, _, _⟩ := hA.two
    have hc2 := hc1.on_alloc (.cells #[.int .i64 p, .bool true] 61)
    have hw2 := on_alloc hw1 (.cells #[.int .i64 p, .bool true] 61)
    clear S hc0 hw0 hc1 hw1 hb1 hA
    go_wp2_with fail
    refine (A.out _).mono ?_
    rintro e w3 ⟨rfl, hb3⟩
    obtain ⟨p0, p1, f0, f1⟩ := (hc2.on hb3).two
    have hlt3 := (hc2.on hb3).1
    have hw3 := on hw2 hb3
    obtain ⟨e0, e1⟩ := two_set (u := .int .i64 m) (v := .bool j) p0 p1
    replace e0 := Lib.hid e0
    replace e1 := Lib.hid e1
    replace hw3 := Lib.hid hw3
    clear A hc2 hw2 hb3 q0 q1
    go_wp2_with fail
    exact bodyPost_ret (v := .agg #[.int .i64 m, .bool j]) (by simp [results, Tryz.results58, go_sem, e0.out, e1.out]) rfl ⟨rfl, set2 hw3.out (by omega) _ _⟩
  · obtain ⟨rfl, rfl⟩ := Prod.mk.inj ((capD_out (by omega)).symm.trans h2)
    have hs := scaled_ten v hv
    rw [capD_out (by omega)] at hs
    have S : Hid (∀ w1, Calls Tryz.prog 72 #[.int .i64 v, .int .i64 10, .int .i64 1] w1 (GotIs 0 false w1)) := Lib.hid (fun w1 => rscaled_c (v : Int) 10 1 (by omega) (by omega) (by omega) 0 false hs w1)
    clear hs h2 hx
    go_enter Tryz.func58, Tryz.ntmps58
    go_wp2_with fail
    refine (S.out _).mono ?_
    rintro e w1 ⟨rfl, hb1⟩
    obtain ⟨hc0, hw0⟩ := more_start w (.cells #[.int .i64 v, .bool true] 61) 61
    have hc1 := hc0.on hb1
    have hw1 := on hw0 hb1
    have hlt := hc1.1
    obtain ⟨p0, p1, f0, f1⟩ := hc1.two
    obtain ⟨e0, e1⟩ := two_set (u := .int .i64 0) (v := .bool false) p0 p1
    replace e0 := Lib.hid (kept_alloc (.cells #[.int .i64 0, .bool false] 61) e0)
    replace e1 := Lib.hid (kept_alloc (.cells #[.int .i64 0, .bool false] 61) e1)
    replace hw1 := Lib.hid hw1
    clear S hc0 hw0 hc1 hb1
    go_wp2_with fail
    exact bodyPost_ret (v := .agg #[.int .i64 0, .bool false]) (by simp [results, Tryz.results58, go_sem, e0.out, e1.out]) rfl ⟨rfl, on_alloc (set2 hw1.out (by omega) _ _) _⟩
theorem more_c (v d : Nat) (hd : d < 10) (n : Int) (k : Bool) (h : capD v = (n, k)) (m : Int) (j : Bool) (h2 : capD (v * 10 + d) = (m, j)) (w : World) : Calls Tryz.prog 58 #[.agg #[.int .i64 n, .bool k], .int .i64 d] w (GotIs m j w) := by
  by_cases hv : v ≤ 9223372036854775807
  · obtain ⟨rfl, rfl⟩ := Prod.mk.inj ((capD_in hv).symm.trans h)
    exact more_yes v d hv hd m j h2 w
  · obtain ⟨rfl, rfl⟩ := Prod.mk.inj ((capD_out (by omega)).symm.trans h)
    obtain ⟨rfl, rfl⟩ := Prod.mk.inj ((capD_out (by omega)).symm.trans h2)
    exact more_no d w

/-- a slice of one byte, as a string -/
theorem conv_one (w : World) (x : Int) :
    (convert 98 9 (.slice (some ⟨w.heap.size, 0, none⟩) 1 1)).run Tryz.prog (w.alloc (.cells #[.int .u8 x] 5)) = .ok (.string ⟨#[UInt8.ofNat x.toNat]⟩) (w.alloc (.cells #[.int .u8 x] 5)) := by
  rw [run_convert_bytes_string _ _ _ _ _ _ _ Tryz.underlying98 Tryz.underlying5 Tryz.underlying9]
  refine (run_bytesToString _ _ 1 1 [x] ?_).trans ?_
  · have hc : (w.alloc (.cells #[.int .u8 x] 5)).cell? ⟨w.heap.size, 0, none⟩ = some (.int .u8 x) := by
      rw [World.cell?_alloc_at _ _ _ _ rfl]; rfl
    simp [loadCells, loadCellsFrom, hc, Addr.add]
  · rfl
/-- the digits laid so far -/
def LaidD (N m : Nat) (T : ByteArray) : Prop := (if m = 0 then [] else Lib.decDigits m) ++ T.data.toList = Lib.decDigits N
theorem LaidD.size {N m : Nat} {T : ByteArray} (h : LaidD N m T) (hN : N < 18446744073709551616) : T.size ≤ 20 := by
  have := congrArg List.length h
  rw [List.length_append, len] at this
  have h2 := dd_len 19 N (by omega)
  omega
theorem digs_step (m : Nat) : (if m / 10 = 0 then [] else Lib.decDigits (m / 10)) ++ [dg (m % 10)] = Lib.decDigits m := by
  by_cases h : m < 10
  · rw [if_pos (by omega), dd_small h, Nat.mod_eq_of_lt h]; rfl
  · rw [if_neg (by omega), ← dd_big h]
theorem LaidD.first (N : Nat) {T : ByteArray} (h : T.data.toList = [dg (N % 10)]) : LaidD N (N / 10) T := by
  unfold LaidD
  rw [h]; exact digs_step N
theorem dg_add (d : Nat) : 48 + UInt8.ofNat d = dg d := by unfold dg; rw [UInt8.ofNat_add]; rfl
theorem LaidD.next {N m : Nat} {T U : ByteArray} (h : LaidD N m T) (hm : 0 < m) (hU : U.data.toList = dg (m % 10) :: T.data.toList) : LaidD N (m / 10) U := by
  unfold LaidD at h ⊢
  rw [if_neg (by omega)] at h
  rw [hU, ← h, ← digs_step m, List.append_assoc]
  rfl
theorem restJ_go {r j : Nat} (h : r < 10000) (hj : j ≤ 4) : 0 < restJ r j ↔ j < pl r := by
  rcases Nat.lt_or_ge j 4 with h4 | h4
  · exact (restJ_facts h h4).2.2.2.2
  · obtain rfl : j = 4 := by omega
    rw [restJ_end]
    have := pl_le r
    omega
theorem frac_eq (r : Nat) : fracL r = (if r = 0 then [] else [46]) ++ partT r := by
  unfold fracL
  by_cases h : r = 0
  · subst h; rfl
  · rw [if_neg h, if_neg h]; rfl
/-- the length of a text (for a loop's measure) -/
def lenOf : Value → Nat | .string b => b.size | _ => 0
end Go.Proofs.YtgikagdfmbkfdaaGreatDoor.Dig

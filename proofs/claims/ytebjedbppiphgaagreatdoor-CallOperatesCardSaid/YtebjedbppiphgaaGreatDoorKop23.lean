/- What the reference's small functions on values answer: FaultText, Bad, Num, Str, Bool, Of: for every input.
   What the reference's Quote answers: for every text of at most 100000 bytes.
   What the reference's Times answers: products by halves: for every two numbers of 64 bits.
   What the reference's Divide answers: long division bit by bit, 128 steps. -/
import Derived.Test.YtebjedbppiphgaaGreatDoorKop10
import Derived.Test.YtebjedbppiphgaaGreatDoorKop22
import Derived.Test.YtebjedbppiphgaaGreatDoorKop08
import Derived.Test.YtebjedbppiphgaaGreatDoorKop13
import Derived.Test.YtebjedbppiphgaaGreatDoorKop20
import Derived.BigRegion
import Derived.BigQuiet
import Derived.Deep.QuietTactic
namespace Go.Proofs.YtebjedbppiphgaaGreatDoor.Val
open Go.RowKit Kit Dec Dig
set_option maxRecDepth 100000 in
set_option maxHeartbeats 1000000 in
theorem rbad_c (c : Int) (w : World) : Calls Tryz.prog 31 #[.int .i64 c] w (ValIs 4 (badV c) ⟨#[]⟩ w) := by
  by_cases h1 : c < 1
  · rw [bad_out (.inl h1)]
    go_enter Tryz.func31, Tryz.ntmps31
    go_wp2
    exact bodyPost_ret (v := .agg #[.int .i64 4, .int .i64 2, .string ⟨#[]⟩]) (by simp [results, Tryz.results31, go_sem]) rfl ⟨rfl, below1 _ _⟩
  · have d1 : decide (c < 1) = false := decide_eq_false h1
    by_cases h2 : 7 < c
    · have d2 : decide (7 < c) = true := decide_eq_true h2
      rw [bad_out (.inr h2)]
      go_enter Tryz.func31, Tryz.ntmps31
      go_wp2
      exact bodyPost_ret (v := .agg #[.int .i64 4, .int .i64 2, .string ⟨#[]⟩]) (by simp [results, Tryz.results31, go_sem]) rfl ⟨rfl, below1 _ _⟩
    · have d2 : decide (7 < c) = false := decide_eq_false h2
      rw [bad_in (by omega) (by omega)]
      go_enter Tryz.func31, Tryz.ntmps31
      go_wp2
      exact bodyPost_ret (v := .agg #[.int .i64 4, .int .i64 c, .string ⟨#[]⟩]) (by simp [results, Tryz.results31, go_sem]) rfl ⟨rfl, below1 _ _⟩
set_option maxRecDepth 100000 in
set_option maxHeartbeats 400000 in
theorem rnum_in_c (x : Int) (h : mayD x = true) (w : World) : Calls Tryz.prog 45 #[.int .i64 x] w (ValIs 1 x ⟨#[]⟩ w) := by
  have HM := Lib.hid (fun w1 => rmay_c x true h w1)
  clear h
  go_enter Tryz.func45, Tryz.ntmps45
  go_wp2_with (go_at_call 22; refine (HM.out _).mono ?_; rintro e w' ⟨rfl, rfl⟩)
  exact bodyPost_ret (v := .agg #[.int .i64 1, .int .i64 x, .string ⟨#[]⟩]) (by simp [results, Tryz.results45, go_sem]) rfl ⟨rfl, below1 _ _⟩
set_option maxRecDepth 100000 in
set_option maxHeartbeats 400000 in
theorem rnum_out_c (x : Int) (h : mayD x = false) (w : World) : Calls Tryz.prog 45 #[.int .i64 x] w (ValIs 4 4 ⟨#[]⟩ w) := by
  have HM := Lib.hid (fun w1 => rmay_c x false h w1)
  have HB := Lib.hid (fun w1 => rbad_c 4 w1)
  rw [bad_in (by omega) (by omega)] at HB
  clear h
  go_enter Tryz.func45, Tryz.ntmps45
  go_wp2_with (go_at_call 22; refine (HM.out _).mono ?_; rintro e w' ⟨rfl, rfl⟩)
  refine (HB.out _).mono ?_
  rintro e w1 ⟨rfl, hb⟩
  obtain ⟨hA, hb1⟩ := slot hb
  obtain ⟨p0, p1, p2, q0, q1, q2⟩ := hA.three
  obtain ⟨z0, z1, z2⟩ := three_set (u := .int .i64 4) (v := .int .i64 4) (r := .string ⟨#[]⟩) p0 p1 p2
  have hb2 := set3 hb1 (Nat.le_refl _) (.int .i64 4) (.int .i64 4) (.string ⟨#[]⟩)
  clear hA hb hb1
  go_wp2
  exact bodyPost_ret (v := .agg #[.int .i64 4, .int .i64 4, .string ⟨#[]⟩]) (by simp [results, Tryz.results45, go_sem, z0, z1, z2]) rfl ⟨rfl, hb2⟩
theorem rnum_c (x k n : Int) (h : numV x = (k, n)) (w : World) : Calls Tryz.prog 45 #[.int .i64 x] w (ValIs k n ⟨#[]⟩ w) := by
  cases hm : mayD x
  · obtain ⟨rfl, rfl⟩ := Prod.mk.inj ((num_out hm).symm.trans h); exact rnum_out_c x hm w
  · obtain ⟨rfl, rfl⟩ := Prod.mk.inj ((num_in hm).symm.trans h); exact rnum_in_c x hm w
set_option maxRecDepth 100000 in
set_option maxHeartbeats 400000 in
theorem rstr_in_c (t : ByteArray) (h : t.size ≤ 256) (w : World) : Calls Tryz.prog 94 #[.string t] w (ValIs 2 0 t w) := by
  have d0 : decide (256 < t.size) = false := decide_eq_false (by omega)
  go_enter Tryz.func94, Tryz.ntmps94
  go_wp2
  exact bodyPost_ret (v := .agg #[.int .i64 2, .int .i64 0, .string t]) (by simp [results, Tryz.results94, go_sem]) rfl ⟨rfl, below1 _ _⟩
set_option maxRecDepth 100000 in
set_option maxHeartbeats 400000 in
theorem rstr_out_c (t : ByteArray) (h : 256 < t.size) (w : World) : Calls Tryz.prog 94 #[.string t] w (ValIs 4 2 ⟨#[]⟩ w) := by
  have d0 : decide (256 < t.size) = true := decide_eq_true h
  have HB := Lib.hid (fun w1 => rbad_c 2 w1)
  rw [bad_in (by omega) (by omega)] at HB
  go_enter Tryz.func94, Tryz.ntmps94
  go_wp2_with fail
  refine (HB.out _).mono ?_
  rintro e w1 ⟨rfl, hb⟩
  obtain ⟨hA, hb1⟩ := slot hb
  obtain ⟨p0, p1, p2, q0, q1, q2⟩ := hA.three
  obtain ⟨z0, z1, z2⟩ := three_set (u := .int .i64 4) (v := .int .i64 2) (r := .string ⟨#[]⟩) p0 p1 p2
  have hb2 := set3 hb1 (Nat.le_refl _) (.int .i64 4) (.int .i64 2) (.string ⟨#[]⟩)
  clear hA hb hb1
  go_wp2
  exact bodyPost_ret (v := .agg #[.int .i64 4, .int .i64 2, .string ⟨#[]⟩]) (by simp [results, Tryz.results94, go_sem, z0, z1, z2]) rfl ⟨rfl, hb2⟩
theorem rstr_c (t : ByteArray) (k n : Int) (s : ByteArray) (h : strV t = (k, n, s)) (w : World) : Calls Tryz.prog 94 #[.string t] w (ValIs k n s w) := by
  by_cases hm : t.size ≤ 256
  · obtain ⟨rfl, h2⟩ := Prod.mk.inj ((str_in hm).symm.trans h); obtain ⟨rfl, rfl⟩ := Prod.mk.inj h2; exact rstr_in_c t hm w
  · obtain ⟨rfl, h2⟩ := Prod.mk.inj ((str_out (by omega)).symm.trans h); obtain ⟨rfl, rfl⟩ := Prod.mk.inj h2; exact rstr_out_c t (by omega) w
set_option maxRecDepth 100000 in
set_option maxHeartbeats 400000 in
theorem rbool_c (b : Bool) (w : World) : Calls Tryz.prog 41 #[.bool b] w (ValIs 3 (if b then 1 else 0) ⟨#[]⟩ w) := by
  cases b
  all_goals
    go_enter Tryz.func41, Tryz.ntmps41
    go_wp2
    exact bodyPost_ret (by simp [results, Tryz.results41, go_sem]) rfl ⟨rfl, below1 _ _⟩
set_option maxRecDepth 100000 in
set_option maxHeartbeats 400000 in
theorem rof_c (x : Int) (b : Bool) (k n : Int) (h : gotV x b = (k, n)) (w : World) : Calls Tryz.prog 34 #[.agg #[.int .i64 x, .bool b]] w (ValIs k n ⟨#[]⟩ w) := by
  cases b
  · have HB := Lib.hid (fun w1 => rbad_c 4 w1)
    rw [bad_in (by omega) (by omega)] at HB
    obtain ⟨rfl, rfl⟩ := Prod.mk.inj h
    go_enter Tryz.func34, Tryz.ntmps34
    go_wp2_with fail
    refine (HB.out _).mono ?_
    rintro e w1 ⟨rfl, hb⟩
    obtain ⟨hA, hb1⟩ := slot2 hb
    obtain ⟨p0, p1, p2, q0, q1, q2⟩ := hA.three
    obtain ⟨z0, z1, z2⟩ := three_set (u := .int .i64 4) (v := .int .i64 4) (r := .string ⟨#[]⟩) p0 p1 p2
    have hb2 := set3 hb1 (Nat.le_add_right _ 1) (.int .i64 4) (.int .i64 4) (.string ⟨#[]⟩)
    clear hA hb hb1
    go_wp2
    exact bodyPost_ret (v := .agg #[.int .i64 4, .int .i64 4, .string ⟨#[]⟩]) (by simp [results, Tryz.results34, go_sem, z0, z1, z2]) rfl ⟨rfl, hb2⟩
  · have HB := Lib.hid (fun w1 => rnum_c x k n h w1)
    clear h
    go_enter Tryz.func34, Tryz.ntmps34
    go_wp2_with fail
    refine (HB.out _).mono ?_
    rintro e w1 ⟨rfl, hb⟩
    obtain ⟨hA, hb1⟩ := slot2 hb
    obtain ⟨p0, p1, p2, q0, q1, q2⟩ := hA.three
    obtain ⟨z0, z1, z2⟩ := three_set (u := .int .i64 k) (v := .int .i64 n) (r := .string ⟨#[]⟩) p0 p1 p2
    have hb2 := set3 hb1 (Nat.le_add_right _ 1) (.int .i64 k) (.int .i64 n) (.string ⟨#[]⟩)
    clear hA hb hb1
    go_wp2
    exact bodyPost_ret (v := .agg #[.int .i64 k, .int .i64 n, .string ⟨#[]⟩]) (by simp [results, Tryz.results34, go_sem, z0, z1, z2]) rfl ⟨rfl, hb2⟩
end Go.Proofs.YtebjedbppiphgaaGreatDoor.Val
namespace Go.Proofs.YtebjedbppiphgaaGreatDoor.Val
open Go.RowKit Kit Dec Dig
theorem take_one {t : ByteArray} {k : Nat} (hk : k < t.size) : t.data.toList.take (k + 1) = t.data.toList.take k ++ [t[k]] := by
  rw [List.take_add_one, Lib.data_getElem? t k hk]
  rfl
theorem one_cell (x : Value) (h : x.oneCell' = true) : ∀ u ∈ [x], u.oneCell' = true := fun u hu => by
  simp only [List.mem_singleton] at hu
  subst hu
  exact h
end Go.Proofs.YtebjedbppiphgaaGreatDoor.Val
namespace Go.Proofs.YtebjedbppiphgaaGreatDoor.Dec
open Go.RowKit Kit Reg
set_option maxRecDepth 100000 in
set_option maxHeartbeats 1000000 in
theorem rtimes_c (a b H L : Nat) (ha : a < 18446744073709551616) (hb : b < 18446744073709551616) (hH : a * b / 18446744073709551616 = H) (hL : a * b % 18446744073709551616 = L) (w : World) :
    Calls Tryz.prog 199 #[.int .u64 a, .int .u64 b] w fun e w' => e = .returned (.agg #[.int .u64 H, .int .u64 L]) ∧ Below w.heap.size w w' := by
  obtain ⟨m1, m2, m3, m4, m5, m6⟩ := mul_halves a b ha hb
  rw [hH] at m5
  rw [hL] at m6
  have A1 : (a : Int) / 4294967296 = ((a / 4294967296 : Nat) : Int) := by simp
  have A0 : (a : Int) % 4294967296 = ((a % 4294967296 : Nat) : Int) := by simp
  have B1 : (b : Int) / 4294967296 = ((b / 4294967296 : Nat) : Int) := by simp
  have B0 : (b : Int) % 4294967296 = ((b % 4294967296 : Nat) : Int) := by simp
  have l1 : a / 4294967296 < 4294967296 := by omega
  have l2 : a % 4294967296 < 4294967296 := by omega
  have l3 : b / 4294967296 < 4294967296 := by omega
  have l4 : b % 4294967296 < 4294967296 := by omega
  generalize a / 4294967296 = a1 at *
  generalize a % 4294967296 = a0 at *
  generalize b / 4294967296 = b1 at *
  generalize b % 4294967296 = b0 at *
  have P1 : (a0 : Int) * (b0 : Int) = ((a0 * b0 : Nat) : Int) := by rw [Int.natCast_mul]
  have P2 : (a1 : Int) * (b0 : Int) = ((a1 * b0 : Nat) : Int) := by rw [Int.natCast_mul]
  have P3 : (a0 : Int) * (b1 : Int) = ((a0 * b1 : Nat) : Int) := by rw [Int.natCast_mul]
  have P4 : (a1 : Int) * (b1 : Int) = ((a1 * b1 : Nat) : Int) := by rw [Int.natCast_mul]
  have b1l := prod_lt l2 l4
  have b2l := prod_lt l1 l4
  have b3l := prod_lt l2 l3
  have b4l := prod_lt l1 l3
  generalize a0 * b0 = p1 at *
  generalize a1 * b0 = p2 at *
  generalize a0 * b1 = p3 at *
  generalize a1 * b1 = p4 at *
  have k1 : (p2 : Int) + (p1 : Int) / 4294967296 < 18446744073709551616 := by omega
  obtain ⟨x, hx⟩ : ∃ x, p2 + p1 / 4294967296 = x := ⟨_, rfl⟩
  have X : (p2 : Int) + (p1 : Int) / 4294967296 = (x : Int) := by omega
  rw [hx] at m2 m3 m4 m5 m6
  obtain ⟨y, hy⟩ : ∃ y, p3 + x % 4294967296 = y := ⟨_, rfl⟩
  have Y : (p3 : Int) + (x : Int) % 4294967296 = (y : Int) := by omega
  rw [hy] at m3 m4 m5 m6
  have HH : (p4 : Int) + (x : Int) / 4294967296 + (y : Int) / 4294967296 = (H : Int) := by omega
  have LL : (y : Int) % 4294967296 * 4294967296 + (p1 : Int) % 4294967296 = (L : Int) := by omega
  have HHl : (H : Int) < 18446744073709551616 := by omega
  have LLl : (L : Int) < 18446744073709551616 := by omega
  clear hx hy m5 m6 hH hL
  go_enter Tryz.func199, Tryz.ntmps199
  go_wp2
  go_quiet (fail)
  go_wp2
  go_quiet (fail)
  go_wp2
  go_quiet (fail)
  go_wp2
  generalize hwr : World.drewN _ _ = wr
  rw [World.drewN_drewN, World.drewN_drewN] at hwr
  obtain ⟨hc, hw⟩ := slot (cs := [.int .u64 0, .int .u64 0]) (ty := 159) (drew_below hwr.symm)
  obtain ⟨c0, c1, f0, f1⟩ := hc.two
  obtain ⟨e0, e1⟩ := two_set (u := .int .u64 H) (v := .int .u64 L) c0 c1
  clear hwr hc
  replace hw := Lib.hid hw
  replace e0 := Lib.hid e0
  replace e1 := Lib.hid e1
  go_region
  all_goals (try go_wp2)
  replace e0 := e0.out
  replace e1 := e1.out
  exact bodyPost_ret (v := .agg #[.int .u64 H, .int .u64 L]) (by simp [results, Tryz.results199, go_sem, e0, e1]) rfl ⟨rfl, on (set2 hw.out (Nat.le_refl _) _ _) (drew_below (n := 1) rfl)⟩
end Go.Proofs.YtebjedbppiphgaaGreatDoor.Dec
namespace Go.Proofs.YtebjedbppiphgaaGreatDoor.Dec
open Go.RowKit Kit Reg
/-- a step's numbers -/
structure Step (by_ hi lo q r : Nat) (ok : Bool) (bit hi2 lo2 q2 r2 : Nat) : Prop where
  b : (hi : Int) / 9223372036854775808 = (bit : Int)
  h : IntKind.u64.wrap (IntKind.u64.wrap ((hi : Int) * 2) + IntKind.u64.wrap ((lo : Int) / 9223372036854775808)) = (hi2 : Int)
  l : IntKind.u64.wrap ((lo : Int) * 2) = (lo2 : Int)
  q : IntKind.u64.wrap ((q : Int) * 2) = (q2 : Int)
  r : (r : Int) * 2 + (bit : Int) = (r2 : Int)
  rl : r2 < 18446744073709551616
  ql : q2 ≤ 18446744073709551614
theorem DivAt.go {N by_ i hi lo q r : Nat} {ok : Bool} (hb : 0 < by_) (hb2 : by_ ≤ 9223372036854775808) (hlt : i < 128) (h : DivAt N by_ i hi lo q r ok) :
    ∃ bit hi2 lo2 q2 r2 : Nat, Step by_ hi lo q r ok bit hi2 lo2 q2 r2 ∧
      (by_ ≤ r2 → DivAt N by_ (i + 1) hi2 lo2 (q2 + 1) (r2 - by_) (ok && decide (q < 9223372036854775808))) ∧
      (r2 < by_ → DivAt N by_ (i + 1) hi2 lo2 q2 r2 (ok && decide (q < 9223372036854775808))) := by
  obtain ⟨h1, h2⟩ := h.step hb hb2 hlt
  obtain ⟨bit, hbit⟩ : ∃ bit, hi / 9223372036854775808 = bit := ⟨_, rfl⟩
  obtain ⟨r2, hr2⟩ : ∃ r2, r * 2 + bit = r2 := ⟨_, rfl⟩
  have hhi := h.hiU
  have hlo := h.loU
  have hq : q * 2 % 18446744073709551616 + 1 < 18446744073709551616 := by omega
  rw [hbit, hr2] at h1 h2
  refine ⟨bit, (hi * 2 + lo / 9223372036854775808) % 18446744073709551616, lo * 2 % 18446744073709551616, q * 2 % 18446744073709551616, r2, ⟨by omega, ?_, ?_, ?_, by omega, by omega, by omega⟩, ?_, ?_⟩
  · rw [IntKind.wrap_u64, IntKind.wrap_u64, IntKind.wrap_u64]; omega
  · rw [IntKind.wrap_u64]; omega
  · rw [IntKind.wrap_u64]; omega
  · intro hc; rw [if_pos hc, if_pos hc] at h2; exact h2
  · intro hc; rw [if_neg (by omega), if_neg (by omega)] at h2; exact h2
/-- the memory of Divide as its loop goes on -/
def DivMem (w wr : World) (hi lo q r : Nat) (ok : Bool) : Prop :=
  Below w.heap.size w wr ∧ CellsAt wr w.heap.size [.int .u64 hi, .int .u64 lo] ∧ CellsAt wr (w.heap.size + 1) [.int .u64 0, .int .u64 0, .bool false] ∧ CellsAt wr (w.heap.size + 1 + 1) [.int .u64 q, .int .u64 r, .bool ok]
theorem DivMem.start (w : World) (H L : Nat) : DivMem w (((w.alloc (.cells #[.int .u64 H, .int .u64 L] 159)).alloc (.cells #[.int .u64 0, .int .u64 0, .bool false] 156)).alloc (.cells #[.int .u64 0, .int .u64 0, .bool true] 156)) H L 0 0 true := by
  refine ⟨below3 _ _ _ _, ((CellsAt.new w [.int .u64 H, .int .u64 L] _).on_alloc _).on_alloc _, ?_, ?_⟩
  · have h := (CellsAt.new (w.alloc (.cells #[.int .u64 H, .int .u64 L] 159)) [.int .u64 0, .int .u64 0, .bool false] 156).on_alloc (.cells #[.int .u64 0, .int .u64 0, .bool true] 156)
    rw [show (w.alloc (.cells #[.int .u64 H, .int .u64 L] 159)).heap.size = w.heap.size + 1 by simp] at h
    exact h
  · have h := CellsAt.new ((w.alloc (.cells #[.int .u64 H, .int .u64 L] 159)).alloc (.cells #[.int .u64 0, .int .u64 0, .bool false] 156)) [.int .u64 0, .int .u64 0, .bool true] 156
    rw [show ((w.alloc (.cells #[.int .u64 H, .int .u64 L] 159)).alloc (.cells #[.int .u64 0, .int .u64 0, .bool false] 156)).heap.size = w.heap.size + 1 + 1 by simp] at h
    exact h
/-- five stores of a step -/
theorem DivMem.five {w wr : World} {hi lo q r : Nat} {ok : Bool} (h : DivMem w wr hi lo q r ok) (hi2 lo2 q2 r2 : Nat) (ok2 : Bool) :
    DivMem w (((((wr.setCell ⟨w.heap.size, 0, none⟩ (.int .u64 hi2)).setCell ⟨w.heap.size, 1, none⟩ (.int .u64 lo2)).setCell ⟨w.heap.size + 1 + 1, 2, none⟩ (.bool ok2)).setCell ⟨w.heap.size + 1 + 1, 0, none⟩ (.int .u64 q2)).setCell ⟨w.heap.size + 1 + 1, 1, none⟩ (.int .u64 r2)) hi2 lo2 q2 r2 ok2 := by
  obtain ⟨hb, h2, h4, h5⟩ := h
  refine ⟨((((hb.setCell (p := ⟨w.heap.size, 0, none⟩) (Nat.le_refl _) _).setCell (p := ⟨w.heap.size, 1, none⟩) (Nat.le_refl _) _).setCell (p := ⟨w.heap.size + 1 + 1, 2, none⟩) (by dsimp only; omega) _).setCell (p := ⟨w.heap.size + 1 + 1, 0, none⟩) (by dsimp only; omega) _).setCell (p := ⟨w.heap.size + 1 + 1, 1, none⟩) (by dsimp only; omega) _, ?_, ?_, ?_⟩
  · exact ((((h2.set (i := 0) (by simp) _).set (i := 1) (by simp) _).far (p := ⟨w.heap.size + 1 + 1, 2, none⟩) (by dsimp only; omega) _).far (p := ⟨w.heap.size + 1 + 1, 0, none⟩) (by dsimp only; omega) _).far (p := ⟨w.heap.size + 1 + 1, 1, none⟩) (by dsimp only; omega) _
  · exact ((((h4.far (p := ⟨w.heap.size, 0, none⟩) (by dsimp only; omega) _).far (p := ⟨w.heap.size, 1, none⟩) (by dsimp only; omega) _).far (p := ⟨w.heap.size + 1 + 1, 2, none⟩) (by dsimp only; omega) _).far (p := ⟨w.heap.size + 1 + 1, 0, none⟩) (by dsimp only; omega) _).far (p := ⟨w.heap.size + 1 + 1, 1, none⟩) (by dsimp only; omega) _
  · exact ((((h5.far (p := ⟨w.heap.size, 0, none⟩) (by dsimp only; omega) _).far (p := ⟨w.heap.size, 1, none⟩) (by dsimp only; omega) _).set (i := 2) (by simp) _).set (i := 0) (by simp) _).set (i := 1) (by simp) _
theorem DivMem.seven {w wr : World} {hi lo q r : Nat} {ok : Bool} (h : DivMem w wr hi lo q r ok) (q2 r2 : Nat) :
    DivMem w ((wr.setCell ⟨w.heap.size + 1 + 1, 1, none⟩ (.int .u64 r2)).setCell ⟨w.heap.size + 1 + 1, 0, none⟩ (.int .u64 ((q2 : Int) + 1))) hi lo (q2 + 1) r2 ok := by
  rw [show (q2 : Int) + 1 = ((q2 + 1 : Nat) : Int) from rfl]
  obtain ⟨hb, h2, h4, h5⟩ := h
  refine ⟨(hb.setCell (p := ⟨w.heap.size + 1 + 1, 1, none⟩) (by dsimp only; omega) _).setCell (p := ⟨w.heap.size + 1 + 1, 0, none⟩) (by dsimp only; omega) _, ?_, ?_, ?_⟩
  · exact (h2.far (p := ⟨w.heap.size + 1 + 1, 1, none⟩) (by dsimp only; omega) _).far (p := ⟨w.heap.size + 1 + 1, 0, none⟩) (by dsimp only; omega) _
  · exact (h4.far (p := ⟨w.heap.size + 1 + 1, 1, none⟩) (by dsimp only; omega) _).far (p := ⟨w.heap.size + 1 + 1, 0, none⟩) (by dsimp only; omega) _
  · exact (h5.set (i := 1) (by simp) _).set (i := 0) (by simp) _
set_option maxRecDepth 100000 in
set_option maxHeartbeats 1000000 in
theorem rdivide_c (H L N by_ : Nat) (hH : H < 18446744073709551616) (hL : L < 18446744073709551616) (hN : H * 18446744073709551616 + L = N) (hb : 0 < by_) (hb2 : by_ ≤ 9223372036854775808) (w : World) :
    Calls Tryz.prog 198 #[.agg #[.int .u64 H, .int .u64 L], .int .u64 by_] w fun e w' =>
      e = .returned (.agg #[.int .u64 ((N / by_ % 18446744073709551616 : Nat) : Int), .int .u64 ((N % by_ : Nat) : Int), .bool (decide (N / by_ < 18446744073709551616))]) ∧ Below w.heap.size w w' := by
  have hD := DivAt.start (by_ := by_) hN hH hL
  replace hN := Lib.hid hN
  replace hD := Lib.hid hD
  go_enter Tryz.func198, Tryz.ntmps198
  go_wp2
  go_loopw [6] (fun i wr => ∃ (k hi lo q r : Nat) (ok : Bool), k ≤ 128 ∧ i = .int .i64 k ∧ Hid (DivAt N by_ k hi lo q r ok) ∧ DivMem w wr hi lo q r ok) (fun i _ => 128 - (intOf i).toNat)
  case atStart =>
    exact ⟨0, H, L, 0, 0, true, by omega, rfl, hD, DivMem.start w H L⟩
  case round =>
    clear hD hN
    obtain ⟨k, hi, lo, q, r, ok, hk, rfl, hD, hM⟩ := hrel
    by_cases hlt : k < 128
    · obtain ⟨bit, hi2, lo2, q2, r2, hS, hyes, hno⟩ := hD.out.go hb hb2 hlt
      obtain ⟨s1, s2, s3, s4, s5, s6, s7⟩ := hS
      obtain ⟨_, m2, m4, m5⟩ := id hM
      obtain ⟨c20, c21, f20, f21⟩ := m2.two
      obtain ⟨c50, c51, c52, f50, f51, f52⟩ := m5.three
      have l2 := m2.1
      have l5 := m5.1
      have hdd : decide (q < 9223372036854775808) = decide ((q : Int) < 9223372036854775808) := decide_eq_decide.2 (by omega)
      rw [hdd] at hyes hno
      obtain ⟨ok2, hok2⟩ : ∃ x, (ok && decide ((q : Int) < 9223372036854775808)) = x := ⟨_, rfl⟩
      rw [hok2] at hyes hno
      replace hok2 := Lib.hid hok2
      replace hyes := Lib.hid hyes
      replace hno := Lib.hid hno
      clear hdd
      have h5 := Lib.hid (hM.five hi2 lo2 q2 r2 ok2)
      clear m2 m4 m5 hD
      by_cases hc : by_ ≤ r2
      · obtain ⟨r3, hr3⟩ : ∃ r3, r2 - by_ = r3 := ⟨_, rfl⟩
        have hr4 : (r2 : Int) - (by_ : Int) = (r3 : Int) := by omega
        have h7 := Lib.hid (h5.out.seven q2 r3)
        rw [hr3] at hyes
        have hcd : decide (by_ ≤ r2) = true := decide_eq_true hc
        have hr5 : r3 < 18446744073709551616 := by omega
        clear hr3 hno h5 hM hc hb hb2 hH hL
        cases ok
        · obtain rfl : ok2 = false := hok2.out.symm
          clear hok2
          go_wp2
          exact ⟨⟨k + 1, hi2, lo2, q2 + 1, r3, _, by omega, by go_num, Lib.hid (hyes.out (of_decide_eq_true hcd)), h7.out⟩, by simp [intOf]; omega⟩
        · have hk2 := hok2.out
          rw [Bool.true_and] at hk2
          subst hk2
          clear hok2
          go_wp2
          exact ⟨⟨k + 1, hi2, lo2, q2 + 1, r3, _, by omega, by go_num, Lib.hid (hyes.out (of_decide_eq_true hcd)), h7.out⟩, by simp [intOf]; omega⟩
      · have hcd : decide (by_ ≤ r2) = false := decide_eq_false hc
        clear hyes hM hb hb2 hH hL
        cases ok
        · obtain rfl : ok2 = false := hok2.out.symm
          clear hok2
          go_wp2
          exact ⟨⟨k + 1, hi2, lo2, q2, r2, _, by omega, by go_num, Lib.hid (hno.out (by omega)), h5.out⟩, by simp [intOf]; omega⟩
        · have hk2 := hok2.out
          rw [Bool.true_and] at hk2
          subst hk2
          clear hok2
          go_wp2
          exact ⟨⟨k + 1, hi2, lo2, q2, r2, _, by omega, by go_num, Lib.hid (hno.out (by omega)), h5.out⟩, by simp [intOf]; omega⟩
    · obtain rfl : k = 128 := by omega
      obtain ⟨e1, e2, e3⟩ := hD.out.done
      obtain ⟨hb1, m2, m4, m5⟩ := hM
      obtain ⟨c50, c51, c52, f50, f51, f52⟩ := m5.three
      obtain ⟨c40, c41, c42, f40, f41, f42⟩ := m4.three
      have l4 := m4.1
      have l5 := m5.1
      obtain ⟨g0, g1, g2⟩ := three_set (u := .int .u64 q) (v := .int .u64 r) (r := .bool ok) c40 c41 c42
      have he := Lib.hid (And.intro e1 (And.intro e2 e3))
      replace hb1 := Lib.hid hb1
      replace g0 := Lib.hid g0
      replace g1 := Lib.hid g1
      replace g2 := Lib.hid g2
      clear m2 m4 m5 e1 e2 e3 hD hlt hk hb hb2 hH hL
      go_wp2
      exact bodyPost_ret (v := .agg #[.int .u64 q, .int .u64 r, .bool ok]) (by simp [results, Tryz.results198, go_sem, g0.out, g1.out, g2.out]) rfl ⟨by rw [he.out.1, he.out.2.1, he.out.2.2], set3 hb1.out (by omega) _ _ _⟩
end Go.Proofs.YtebjedbppiphgaaGreatDoor.Dec

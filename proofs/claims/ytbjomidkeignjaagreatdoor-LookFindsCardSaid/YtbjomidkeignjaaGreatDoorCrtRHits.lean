/- What the reference's Hits answers: for whatever Of makes, and every value that may be. Written by wip/gen17d.py. -/
import Derived.Test.YtbjomidkeignjaaGreatDoorCrtROf
import Derived.Test.YtbjomidkeignjaaGreatDoorG15
import Derived.Test.YtbjomidkeignjaaGreatDoorCrtRLike
namespace Go.Proofs.YtbjomidkeignjaaGreatDoor.Crt
open Go.RowKit Kit Reg Dec Dig Val

set_option maxRecDepth 100000 in
set_option maxHeartbeats 4000000 in
theorem rhits_fault (op k2 n2 n : Int) (t2 t : ByteArray) (w : World) :
    Calls Tryz.prog 68 #[.agg #[.int .i64 op, .int .i64 k2, .int .i64 n2, .string t2], .agg #[.int .i64 4, .int .i64 n, .string t]] w (Bit false w) := by
  go_enter Tryz.func68, Tryz.ntmps68
  go_wp2
  go_ret
  exact ⟨rfl, below2 _ _ _⟩
set_option maxRecDepth 100000 in
set_option maxHeartbeats 4000000 in
theorem rhits_unlike_k (op k2 n2 k n : Int) (t2 t : ByteArray) (h0 : (k == 0) = false) (h4 : (k == 4) = false) (hk : (k == k2) = false) (b : Bool) (hb : (op == 8) = b) (w : World) :
    Calls Tryz.prog 68 #[.agg #[.int .i64 op, .int .i64 k2, .int .i64 n2, .string t2], .agg #[.int .i64 k, .int .i64 n, .string t]] w (Bit b w) := by
  have hk2 : (k != k2) = true := by simp only [bne, hk]; rfl
  subst hb
  go_enter Tryz.func68, Tryz.ntmps68
  go_wp2
  go_ret
  exact ⟨rfl, below2 _ _ _⟩
set_option maxRecDepth 100000 in
set_option maxHeartbeats 4000000 in
theorem rhits_unlike_0 (op k2 n2 n : Int) (t2 t : ByteArray) (hk : ((2 : Int) == k2) = false) (b : Bool) (hb : (op == 8) = b) (w : World) :
    Calls Tryz.prog 68 #[.agg #[.int .i64 op, .int .i64 k2, .int .i64 n2, .string t2], .agg #[.int .i64 0, .int .i64 n, .string t]] w (Bit b w) := by
  have hk2 : ((2 : Int) != k2) = true := by simp only [bne, hk]; rfl
  subst hb
  go_enter Tryz.func68, Tryz.ntmps68
  go_wp2
  go_ret
  exact ⟨rfl, below2 _ _ _⟩
set_option maxRecDepth 100000 in
set_option maxHeartbeats 4000000 in
theorem rhits_nums (op n2 k n way : Int) (t2 t : ByteArray) (h0 : (k == 0) = false) (h2 : (k == 2) = false) (h4 : (k == 4) = false) (o1 : 7 ≤ op) (o2 : op ≤ 12) (b : Bool) (hb : holdsD op (way == 0) way = b)
    (HC : ∀ w1, Calls Tryz.prog 62 #[.agg #[.int .i64 k, .int .i64 n, .string t], .agg #[.int .i64 k, .int .i64 n2, .string t2]] w1 fun e w' => e = .returned (.int .i64 way) ∧ Below w1.heap.size w1 w') (w : World) :
    Calls Tryz.prog 68 #[.agg #[.int .i64 op, .int .i64 k, .int .i64 n2, .string t2], .agg #[.int .i64 k, .int .i64 n, .string t]] w (Bit b w) := by
  have hk1 : ((k : Int) == k) = true := by simp
  have hk2 : ((k : Int) != k) = false := by simp
  have HC := Lib.hid HC
  have hc0 := CellsAt.new w [.int .i64 op, .int .i64 k, .int .i64 n2, .string t2] 82
  have ha0 := hc0.on_alloc (.cells #[.int .i64 k, .int .i64 n, .string t] 26)
  have hz0 := cells_new (w0 := w.alloc (.cells #[.int .i64 op, .int .i64 k, .int .i64 n2, .string t2] 82)) (g := w.heap.size + 1) (by simp) [.int .i64 k, .int .i64 n, .string t] 26
  have hb0 := below2 w (.cells #[.int .i64 op, .int .i64 k, .int .i64 n2, .string t2] 82) (.cells #[.int .i64 k, .int .i64 n, .string t] 26)
  clear hc0
  obtain rfl | rfl | rfl | rfl | rfl | rfl : op = 7 ∨ op = 8 ∨ op = 9 ∨ op = 10 ∨ op = 11 ∨ op = 12 := by omega
  all_goals
    clear o1 o2
    go_enter Tryz.func68, Tryz.ntmps68
    go_wp2_with fail
    refine (HC.out _).mono ?_
    rintro e w1 ⟨rfl, hb1⟩
    have ha1 := ha0.on hb1
    have hz1 := hz0.on hb1
    replace hb0 := on hb0 hb1
    obtain ⟨c0, c1, c2, c3, _⟩ := ha1.four
    obtain ⟨z0, z1, z2, _⟩ := hz1.three
    clear ha0 hz0 hb1 HC
    have hx1 := ha1.1
    have hx2 := hz1.1
    clear ha1 hz1
    subst hb
    go_wp2
    go_ret
    exact ⟨rfl, on_alloc hb0 _⟩
set_option maxRecDepth 100000 in
set_option maxHeartbeats 4000000 in
theorem rhits_text (op n2 n way : Int) (t2 t : ByteArray) (like : Bool) (o1 : 7 ≤ op) (o2 : op ≤ 12) (b : Bool) (hb : holdsD op like way = b)
    (HC : ∀ w1, Calls Tryz.prog 62 #[.agg #[.int .i64 2, .int .i64 n, .string t], .agg #[.int .i64 2, .int .i64 n2, .string t2]] w1 fun e w' => e = .returned (.int .i64 way) ∧ Below w1.heap.size w1 w')
    (HL : ∀ w1, Calls Tryz.prog 91 #[.string t2, .string t] w1 fun e w' => e = .returned (.bool like) ∧ Below w1.heap.size w1 w') (w : World) :
    Calls Tryz.prog 68 #[.agg #[.int .i64 op, .int .i64 2, .int .i64 n2, .string t2], .agg #[.int .i64 2, .int .i64 n, .string t]] w (Bit b w) := by
  have hk1 : ((2 : Int) == 2) = true := by simp
  have hk2 : ((2 : Int) != 2) = false := by simp
  have HC := Lib.hid HC
  have HL := Lib.hid HL
  have hc0 := CellsAt.new w [.int .i64 op, .int .i64 2, .int .i64 n2, .string t2] 82
  have ha0 := hc0.on_alloc (.cells #[.int .i64 2, .int .i64 n, .string t] 26)
  have hz0 := cells_new (w0 := w.alloc (.cells #[.int .i64 op, .int .i64 2, .int .i64 n2, .string t2] 82)) (g := w.heap.size + 1) (by simp) [.int .i64 2, .int .i64 n, .string t] 26
  have hb0 := below2 w (.cells #[.int .i64 op, .int .i64 2, .int .i64 n2, .string t2] 82) (.cells #[.int .i64 2, .int .i64 n, .string t] 26)
  clear hc0
  obtain rfl | rfl | rfl | rfl | rfl | rfl : op = 7 ∨ op = 8 ∨ op = 9 ∨ op = 10 ∨ op = 11 ∨ op = 12 := by omega
  all_goals
    clear o1 o2
    go_enter Tryz.func68, Tryz.ntmps68
    go_wp2_with fail
    refine (HC.out _).mono ?_
    rintro e w1 ⟨rfl, hb1⟩
    have ha1 := ha0.on hb1
    have hz1 := hz0.on hb1
    replace hb0 := on hb0 hb1
    obtain ⟨c0, c1, c2, c3, _⟩ := ha1.four
    obtain ⟨z0, z1, z2, _⟩ := hz1.three
    clear ha0 hz0 hb1 HC
    go_wp2_with fail
    refine (HL.out _).mono ?_
    rintro e w2 ⟨rfl, hb2⟩
    replace hb0 := on hb0 hb2
    clear c0 c1 c2 c3 z0 z1 z2
    obtain ⟨c0, c1, c2, c3, _⟩ := (ha1.on hb2).four
    obtain ⟨z0, z1, z2, _⟩ := (hz1.on hb2).three
    have hx1 := (ha1.on hb2).1
    have hx2 := (hz1.on hb2).1
    clear hb2 HL ha1 hz1
    subst hb
    go_wp2
    go_ret
    exact ⟨rfl, on_alloc hb0 _⟩
set_option maxRecDepth 100000 in
set_option maxHeartbeats 4000000 in
theorem rhits_text0 (op n2 n way : Int) (t2 t : ByteArray) (like : Bool) (o1 : 7 ≤ op) (o2 : op ≤ 12) (b : Bool) (hb : holdsD op like way = b)
    (HC : ∀ w1, Calls Tryz.prog 62 #[.agg #[.int .i64 2, .int .i64 n, .string t], .agg #[.int .i64 2, .int .i64 n2, .string t2]] w1 fun e w' => e = .returned (.int .i64 way) ∧ Below w1.heap.size w1 w')
    (HL : ∀ w1, Calls Tryz.prog 91 #[.string t2, .string t] w1 fun e w' => e = .returned (.bool like) ∧ Below w1.heap.size w1 w') (w : World) :
    Calls Tryz.prog 68 #[.agg #[.int .i64 op, .int .i64 2, .int .i64 n2, .string t2], .agg #[.int .i64 0, .int .i64 n, .string t]] w (Bit b w) := by
  have hk1 : ((2 : Int) == 2) = true := by simp
  have hk2 : ((2 : Int) != 2) = false := by simp
  have HC := Lib.hid HC
  have HL := Lib.hid HL
  have hc0 := CellsAt.new w [.int .i64 op, .int .i64 2, .int .i64 n2, .string t2] 82
  have ha0 := hc0.on_alloc (.cells #[.int .i64 2, .int .i64 n, .string t] 26)
  have hz0 := cells_new (w0 := w.alloc (.cells #[.int .i64 op, .int .i64 2, .int .i64 n2, .string t2] 82)) (g := w.heap.size + 1) (by simp) [.int .i64 2, .int .i64 n, .string t] 26
  have hb0 := below2 w (.cells #[.int .i64 op, .int .i64 2, .int .i64 n2, .string t2] 82) (.cells #[.int .i64 2, .int .i64 n, .string t] 26)
  clear hc0
  obtain rfl | rfl | rfl | rfl | rfl | rfl : op = 7 ∨ op = 8 ∨ op = 9 ∨ op = 10 ∨ op = 11 ∨ op = 12 := by omega
  all_goals
    clear o1 o2
    go_enter Tryz.func68, Tryz.ntmps68
    go_wp2_with fail
    refine (HC.out _).mono ?_
    rintro e w1 ⟨rfl, hb1⟩
    have ha1 := ha0.on hb1
    have hz1 := hz0.on hb1
    replace hb0 := on hb0 hb1
    obtain ⟨c0, c1, c2, c3, _⟩ := ha1.four
    obtain ⟨z0, z1, z2, _⟩ := hz1.three
    clear ha0 hz0 hb1 HC
    go_wp2_with fail
    refine (HL.out _).mono ?_
    rintro e w2 ⟨rfl, hb2⟩
    replace hb0 := on hb0 hb2
    clear c0 c1 c2 c3 z0 z1 z2
    obtain ⟨c0, c1, c2, c3, _⟩ := (ha1.on hb2).four
    obtain ⟨z0, z1, z2, _⟩ := (hz1.on hb2).three
    have hx1 := (ha1.on hb2).1
    have hx2 := (hz1.on hb2).1
    clear hb2 HL ha1 hz1
    subst hb
    go_wp2
    go_ret
    exact ⟨rfl, on_alloc hb0 _⟩
end Go.Proofs.YtbjomidkeignjaaGreatDoor.Crt

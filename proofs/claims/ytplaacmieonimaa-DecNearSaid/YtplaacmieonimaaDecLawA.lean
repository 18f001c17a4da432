/- DecAdds, walked: sums, differences and other signs are the document's; what is added is taken away again. -/
import Derived.Test.YtplaacmieonimaaDecAlive
import Derived.Test.YtplaacmieonimaaDecRef
namespace Go.Proofs.Ytplaacmieonimaa.Dec
open Go.RowKit Kit Reg

/-- what a law's call answers -/
def LawEnd (w : World) : Ending → World → Prop := fun e w' => e = .returned (.bool true) ∧ Below w.heap.size w w'
theorem end_drew {w w1 w2 : World} {n : Nat} (h : Below w.heap.size w w1) (e : w2 = w1.drewN n) : Below w.heap.size w w2 := on h (drew_below e)
/-- the second of two blocks, behind a call -/
theorem second_block {w w1 w2 : World} {o : Obj} {cs : List Value} {ty : TypeId} (h1 : Below w.heap.size w w1) (hb : Below ((w1.alloc o).alloc (.cells cs.toArray ty)).heap.size ((w1.alloc o).alloc (.cells cs.toArray ty)) w2) :
    CellsAt w2 (w1.heap.size + 1) cs ∧ Hid (Below w.heap.size w w2) := by
  have h := CellsAt.new (w1.alloc o) cs ty
  rw [show (w1.alloc o).heap.size = w1.heap.size + 1 by simp] at h
  exact ⟨h.on hb, Lib.hid (on (on_alloc (on_alloc h1 _) _) hb)⟩
set_option maxRecDepth 100000 in
set_option maxHeartbeats 1000000 in
/-- the second number may not be -/
theorem adds_none (a b : Int) (a2 : a ≤ 9223372036854775807) (b2 : b ≤ 9223372036854775807) (hb : b < -9223372036854775807) (w : World) :
    Calls Try.prog 3 #[.int .i64 a, .int .i64 b] w (LawEnd w) := by
  have C1 := Lib.hid (fun w1 => add_c a b a2 b2 0 false (addD_b hb) w1)
  have R1 := Lib.hid (fun w1 => radd_c a b a2 b2 0 false (addD_b hb) w1)
  have C2 := Lib.hid (fun w1 => sub_c a b a2 b2 0 false (subD_out hb) w1)
  have C3 := Lib.hid (fun w1 => neg_c b b2 0 false (negD_out hb) w1)
  have M := Lib.hid (fun w1 => may_c b false (mayD_no hb) w1)
  have RM := Lib.hid (fun w1 => rmay_c b false (mayD_no hb) w1)
  clear hb
  go_enter Try.func3, Try.ntmps3
  go_wp2_with (go_at_call 7; refine (C1.out _).mono ?_; rintro e w' ⟨rfl, rfl⟩)
  refine (R1.out _).mono ?_
  rintro e w1 ⟨rfl, hb1⟩
  go_wp2_with (first
    | (go_at_call 9; refine (C2.out _).mono ?_; rintro e w' ⟨rfl, rfl⟩)
    | (go_at_call 10; refine (C3.out _).mono ?_; rintro e w' ⟨rfl, rfl⟩)
    | (go_at_call 12; refine (M.out _).mono ?_; rintro e w' ⟨rfl, rfl⟩)
    | (go_at_call 11; refine (RM.out _).mono ?_; rintro e w' ⟨rfl, rfl⟩)
    | (go_at_call 13; refine (alive_c _).mono ?_; rintro e w' ⟨rfl, q, rfl⟩))
  go_ret
  exact ⟨rfl, end_drew (on_alloc (on_alloc hb1 _) _) rfl⟩
set_option maxRecDepth 100000 in
set_option maxHeartbeats 1000000 in
/-- it may be, and there is no sum -/
theorem adds_out (a b : Int) (a2 : a ≤ 9223372036854775807) (b1 : -9223372036854775807 ≤ b) (b2 : b ≤ 9223372036854775807) (s : Int) (hs : addD a b = (s, false)) (w : World) :
    Calls Try.prog 3 #[.int .i64 a, .int .i64 b] w (LawEnd w) := by
  obtain ⟨d, k, hd⟩ : ∃ d k, addD a (-b) = (d, k) := ⟨_, _, rfl⟩
  have C1 := Lib.hid (fun w1 => add_c a b a2 b2 s false hs w1)
  have R1 := Lib.hid (fun w1 => radd_c a b a2 b2 s false hs w1)
  have C2 := Lib.hid (fun w1 => sub_c a b a2 b2 d k ((subD_in b1 b2).trans hd) w1)
  have R2 := Lib.hid (fun w1 => radd_c a (-b) a2 (by omega) d k hd w1)
  have C3 := Lib.hid (fun w1 => neg_c b b2 (-b) true (negD_in b1 b2) w1)
  have M := Lib.hid (fun w1 => may_c b true (mayD_yes b1) w1)
  have RM := Lib.hid (fun w1 => rmay_c b true (mayD_yes b1) w1)
  clear hs hd
  go_enter Try.func3, Try.ntmps3
  go_wp2_with (go_at_call 7; refine (C1.out _).mono ?_; rintro e w' ⟨rfl, rfl⟩)
  refine (R1.out _).mono ?_
  rintro e w1 ⟨rfl, hb1⟩
  go_wp2_with (first
    | (go_at_call 9; refine (C2.out _).mono ?_; rintro e w' ⟨rfl, rfl⟩)
    | (go_at_call 10; refine (C3.out _).mono ?_; rintro e w' ⟨rfl, rfl⟩)
    | (go_at_call 12; refine (M.out _).mono ?_; rintro e w' ⟨rfl, rfl⟩)
    | (go_at_call 11; refine (RM.out _).mono ?_; rintro e w' ⟨rfl, rfl⟩))
  refine (R2.out _).mono ?_
  rintro e w2 ⟨rfl, hb2⟩
  obtain ⟨hc, hw⟩ := second_block (cs := [.int .i64 0, .bool false]) (ty := 25) hb1 hb2
  obtain ⟨p0, p1, f0, f1⟩ := hc.two
  obtain ⟨e0, e1⟩ := two_set (u := .int .i64 d) (v := .bool k) p0 p1
  have hlt := hc.1
  have hle := hb1.size
  clear hb1 hb2 hc
  go_wp2_with (go_at_call 13; refine (alive_c _).mono ?_; rintro e w' ⟨rfl, q, rfl⟩)
  go_ret
  exact ⟨rfl, end_drew (set2 hw.out (by omega) _ _) rfl⟩
set_option maxRecDepth 100000 in
set_option maxHeartbeats 1000000 in
/-- there is a sum -/
theorem adds_in (a b : Int) (a1 : -9223372036854775807 ≤ a) (a2 : a ≤ 9223372036854775807) (b1 : -9223372036854775807 ≤ b) (b2 : b ≤ 9223372036854775807) (h1 : -9223372036854775807 ≤ a + b) (h2 : a + b ≤ 9223372036854775807) (w : World) :
    Calls Try.prog 3 #[.int .i64 a, .int .i64 b] w (LawEnd w) := by
  obtain ⟨d, k, hd⟩ : ∃ d k, addD a (-b) = (d, k) := ⟨_, _, rfl⟩
  have C1 := Lib.hid (fun w1 => add_c a b a2 b2 (a + b) true (addD_in a1 b1 h1 h2) w1)
  have R1 := Lib.hid (fun w1 => radd_c a b a2 b2 (a + b) true (addD_in a1 b1 h1 h2) w1)
  have C2 := Lib.hid (fun w1 => sub_c a b a2 b2 d k ((subD_in b1 b2).trans hd) w1)
  have R2 := Lib.hid (fun w1 => radd_c a (-b) a2 (by omega) d k hd w1)
  have C3 := Lib.hid (fun w1 => neg_c b b2 (-b) true (negD_in b1 b2) w1)
  have M := Lib.hid (fun w1 => may_c b true (mayD_yes b1) w1)
  have RM := Lib.hid (fun w1 => rmay_c b true (mayD_yes b1) w1)
  have C4 := Lib.hid (fun w1 => sub_c (a + b) b h2 b2 a true (by rw [subD_in b1 b2, addD_in h1 (by omega) (by omega) (by omega)]; congr 1; omega) w1)
  clear hd
  go_enter Try.func3, Try.ntmps3
  go_wp2_with (go_at_call 7; refine (C1.out _).mono ?_; rintro e w' ⟨rfl, rfl⟩)
  refine (R1.out _).mono ?_
  rintro e w1 ⟨rfl, hb1⟩
  go_wp2_with (first
    | (go_at_call 9; refine (C2.out _).mono ?_; rintro e w' ⟨rfl, rfl⟩)
    | (go_at_call 10; refine (C3.out _).mono ?_; rintro e w' ⟨rfl, rfl⟩)
    | (go_at_call 12; refine (M.out _).mono ?_; rintro e w' ⟨rfl, rfl⟩)
    | (go_at_call 11; refine (RM.out _).mono ?_; rintro e w' ⟨rfl, rfl⟩))
  refine (R2.out _).mono ?_
  rintro e w2 ⟨rfl, hb2⟩
  obtain ⟨hc, hw⟩ := second_block (cs := [.int .i64 0, .bool false]) (ty := 25) hb1 hb2
  obtain ⟨p0, p1, f0, f1⟩ := hc.two
  obtain ⟨e0, e1⟩ := two_set (u := .int .i64 d) (v := .bool k) p0 p1
  have hlt := hc.1
  have hle := hb1.size
  clear hb1 hb2 hc
  go_wp2_with (first
    | (go_at_call 9; refine (C4.out _).mono ?_; rintro e w' ⟨rfl, rfl⟩)
    | (go_at_call 13; refine (alive_c _).mono ?_; rintro e w' ⟨rfl, q, rfl⟩))
  go_ret
  exact ⟨rfl, end_drew (set2 hw.out (by omega) _ _) rfl⟩
theorem adds_law (a b : Int) (a2 : a ≤ 9223372036854775807) (b2 : b ≤ 9223372036854775807) (w : World) :
    Calls Try.prog 3 #[.int .i64 a, .int .i64 b] w (LawEnd w) := by
  by_cases hb : b < -9223372036854775807
  · exact adds_none a b a2 b2 hb w
  by_cases ha : a < -9223372036854775807
  · exact adds_out a b a2 (by omega) b2 0 (addD_a ha) w
  by_cases h : a + b < -9223372036854775807 ∨ 9223372036854775807 < a + b
  · exact adds_out a b a2 (by omega) b2 0 (addD_out h) w
  · exact adds_in a b (by omega) a2 (by omega) b2 (by omega) (by omega) w
end Go.Proofs.Ytplaacmieonimaa.Dec

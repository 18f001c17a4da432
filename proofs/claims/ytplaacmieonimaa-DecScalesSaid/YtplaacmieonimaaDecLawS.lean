/- DecScales, walked: products over numbers, products, quotients, and decimals of whole numbers are the document's. -/
import Derived.Test.YtplaacmieonimaaDecLawA
import Derived.Test.YtplaacmieonimaaDecRefScale
namespace Go.Proofs.Ytplaacmieonimaa.Dec
open Go.RowKit Kit Reg

set_option maxRecDepth 100000 in
set_option maxHeartbeats 1000000 in
theorem scales_law (a b c : Int) (a2 : a ≤ 9223372036854775807) (b2 : b ≤ 9223372036854775807) (c2 : c ≤ 9223372036854775807) (w : World) :
    Calls Try.prog 4 #[.int .i64 a, .int .i64 b, .int .i64 c] w (LawEnd w) := by
  obtain ⟨x, k, hx⟩ : ∃ x k, scaledD a b c = (x, k) := ⟨_, _, rfl⟩
  obtain ⟨m, l, hm⟩ : ∃ x k, scaledD a b 10000 = (x, k) := ⟨_, _, rfl⟩
  obtain ⟨d, j, hd⟩ : ∃ x k, scaledD a 10000 b = (x, k) := ⟨_, _, rfl⟩
  obtain ⟨o, i, ho⟩ : ∃ x k, scaledD a 10000 1 = (x, k) := ⟨_, _, rfl⟩
  have C1 := Lib.hid (fun w1 => scaled_c a b c a2 b2 c2 x k hx w1)
  have R1 := Lib.hid (fun w1 => rscaled_c a b c a2 b2 c2 x k hx w1)
  have C2 := Lib.hid (fun w1 => mul_c a b a2 b2 m l hm w1)
  have R2 := Lib.hid (fun w1 => rmul_c a b a2 b2 m l hm w1)
  have C3 := Lib.hid (fun w1 => div_c a b a2 b2 d j hd w1)
  have R3 := Lib.hid (fun w1 => rdiv_c a b a2 b2 d j hd w1)
  have C4 := Lib.hid (fun w1 => of_c a a2 o i ho w1)
  have R4 := Lib.hid (fun w1 => rscaled_c a 10000 1 a2 (by omega) (by omega) o i ho w1)
  clear hx hm hd ho a2 b2 c2
  go_enter Try.func4, Try.ntmps4
  go_wp2_with (go_at_call 14; refine (C1.out _).mono ?_; rintro e w' ⟨rfl, q1, rfl⟩)
  refine (R1.out _).mono ?_
  rintro e w1 ⟨rfl, hb1⟩
  have hw1 := Lib.hid (on (drew_below rfl) hb1)
  clear hb1
  go_wp2_with (go_at_call 16; refine (C2.out _).mono ?_; rintro e w' ⟨rfl, q2, rfl⟩)
  refine (R2.out _).mono ?_
  rintro e w2 ⟨rfl, hb2⟩
  have hA := (CellsAt.new w1 [.int .i64 x, .bool k] 25).on (on (drew_below rfl) hb2)
  have hw2 := Lib.hid (on (on_alloc hw1.out _) (on (drew_below rfl) hb2))
  clear hb2 hw1
  go_wp2_with (go_at_call 18; refine (C3.out _).mono ?_; rintro e w' ⟨rfl, q3, rfl⟩)
  refine (R3.out _).mono ?_
  rintro e w3 ⟨rfl, hb3⟩
  have hB := (CellsAt.new w2 [.int .i64 m, .bool l] 25).on (on (drew_below rfl) hb3)
  replace hA := (hA.on_alloc _).on (on (drew_below rfl) hb3)
  have hw3 := Lib.hid (on (on_alloc hw2.out _) (on (drew_below rfl) hb3))
  clear hb3 hw2
  go_wp2_with (go_at_call 20; refine (C4.out _).mono ?_; rintro e w' ⟨rfl, q4, rfl⟩)
  refine (R4.out _).mono ?_
  rintro e w4 ⟨rfl, hb4⟩
  have hC := (CellsAt.new w3 [.int .i64 d, .bool j] 25).on (on (drew_below rfl) hb4)
  replace hA := (hA.on_alloc _).on (on (drew_below rfl) hb4)
  replace hB := (hB.on_alloc _).on (on (drew_below rfl) hb4)
  have hw4 := Lib.hid (on (on_alloc hw3.out _) (on (drew_below rfl) hb4))
  clear hb4 hw3
  obtain ⟨p0, p1, _, _⟩ := hA.two
  obtain ⟨p2, p3, _, _⟩ := hB.two
  obtain ⟨p4, p5, _, _⟩ := hC.two
  have l1 := hA.1
  have l2 := hB.1
  have l3 := hC.1
  clear hA hB hC
  go_wp2_with (go_at_call 13; refine (alive_c _).mono ?_; rintro e w' ⟨rfl, q, rfl⟩)
  go_ret
  exact ⟨rfl, end_drew (on_alloc hw4.out _) rfl⟩
end Go.Proofs.Ytplaacmieonimaa.Dec

/- PowerChooses, walked: the product of all up to a number, and in how many ways some are chosen, are the document's. -/
import Derived.Test.YtdinbokbooikbaaPowLawT
import Derived.Test.YtdinbokbooikbaaPowTri
namespace Go.Proofs.Ytdinbokbooikbaa.Pow
open Go.RowKit Kit Dec Reg

set_option maxRecDepth 100000 in
set_option maxHeartbeats 1000000 in
theorem chooses_law (x y : Int) (x2 : x ≤ 9223372036854775807) (y2 : y ≤ 9223372036854775807) (w : World) :
    Calls Try.prog 6 #[.int .i64 x, .int .i64 y] w (LawEnd w) := by
  obtain ⟨⟨n, k⟩, hn⟩ : ∃ r, factD x = r := ⟨_, rfl⟩
  obtain ⟨⟨m, j⟩, hm⟩ : ∃ r, combD x y = r := ⟨_, rfl⟩
  have C1 := Lib.hid (fun w1 => fact_c x x2 n k hn w1)
  have R1 := Lib.hid (fun w1 => rfact_c x x2 n k hn w1)
  have C2 := Lib.hid (fun w1 => comb_c x y x2 y2 m j hm w1)
  have R2 := Lib.hid (fun w1 => rcomb_c x y x2 y2 m j hm w1)
  clear hn hm
  go_enter Try.func6, Try.ntmps6
  go_wp2_with fail
  refine (C1.out _).mono ?_
  rintro e w0 ⟨rfl, hd0⟩
  have hw0 := drawn_below hd0
  clear hd0 C1
  go_wp2_with fail
  refine (R1.out _).mono ?_
  rintro e w1 ⟨rfl, hb1⟩
  have hA := CellsAt.new w1 [.int .i64 n, .bool k] 25
  have hw := on_alloc (on hw0 hb1) (.cells #[.int .i64 n, .bool k] 25)
  obtain ⟨p0, p1, _, _⟩ := hA.two
  have l1 := hA.1
  clear hb1 hw0 hA R1
  by_cases hbig : 1000000 < x
  · replace hw := Lib.hid hw
    go_wp2_with fail
    refine (alive_c _).mono ?_
    rintro e w2 ⟨rfl, hd2⟩
    have hw2 := Lib.hid (on hw.out (drawn_below hd2))
    clear hd2
    go_wp2_with fail
    go_ret
    exact ⟨rfl, hw2.out⟩
  · go_wp2_with fail
    refine (C2.out _).mono ?_
    rintro e w2 ⟨rfl, hd2⟩
    have hw2 := on hw (drawn_below hd2)
    clear hd2 hw C2 p0 p1 l1
    go_wp2_with fail
    refine (R2.out _).mono ?_
    rintro e w3 ⟨rfl, hb3⟩
    have hB := CellsAt.new w3 [.int .i64 m, .bool j] 25
    have hw3 := Lib.hid (on_alloc (on hw2 hb3) (.cells #[.int .i64 m, .bool j] 25))
    obtain ⟨q0, q1, _, _⟩ := hB.two
    have l2 := hB.1
    clear hb3 hw2 hB R2
    go_wp2_with fail
    refine (alive_c _).mono ?_
    rintro e w4 ⟨rfl, hd4⟩
    have hw4 := Lib.hid (on hw3.out (drawn_below hd4))
    clear hd4 hw3
    go_wp2_with fail
    go_ret
    exact ⟨rfl, hw4.out⟩
end Go.Proofs.Ytdinbokbooikbaa.Pow

/- PowerTells, walked: any power of any decimal is the document's. -/
import Derived.Test.YtdinbokbooikbaaPowAlive
import Derived.Test.YtdinbokbooikbaaPowRefs
namespace Go.Proofs.Ytdinbokbooikbaa.Pow
open Go.RowKit Kit Dec Reg

theorem drawn_below {w w' : World} (h : Drawn w w') : Below w.heap.size w w' := by
  obtain ⟨q, rfl⟩ := h
  exact drew_below rfl
set_option maxRecDepth 100000 in
set_option maxHeartbeats 1000000 in
theorem tells_law (x n : Int) (x2 : x ≤ 9223372036854775807) (n2 : n ≤ 9223372036854775807) (w : World) :
    Calls Try.prog 3 #[.int .i64 x, .int .i64 n] w (LawEnd w) := by
  obtain ⟨⟨y, k⟩, hy⟩ : ∃ r, powerD x n = r := ⟨_, rfl⟩
  have C1 := Lib.hid (fun w1 => power_c x n x2 n2 y k hy w1)
  have R1 := Lib.hid (fun w1 => rpower_c x n x2 n2 y k hy w1)
  clear hy x2 n2
  go_enter Try.func3, Try.ntmps3
  go_wp2_with fail
  refine (C1.out _).mono ?_
  rintro e w0 ⟨rfl, hd0⟩
  have hw0 := drawn_below hd0
  clear hd0
  go_wp2_with fail
  refine (R1.out _).mono ?_
  rintro e w1 ⟨rfl, hb1⟩
  have hA := CellsAt.new w1 [.int .i64 y, .bool k] 25
  have hw := Lib.hid (on_alloc (on hw0 hb1) (.cells #[.int .i64 y, .bool k] 25))
  obtain ⟨p0, p1, _, _⟩ := hA.two
  have l1 := hA.1
  clear hb1 hw0 hA
  go_wp2_with fail
  refine (alive_c _).mono ?_
  rintro e w2 ⟨rfl, hd2⟩
  have hw2 := Lib.hid (on hw.out (drawn_below hd2))
  clear hd2
  go_wp2_with fail
  go_ret
  exact ⟨rfl, hw2.out⟩
end Go.Proofs.Ytdinbokbooikbaa.Pow

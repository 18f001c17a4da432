/- RoundSteps, walked: what is rounded to a step, to places, to whole numbers, is the document's. -/
import Derived.Test.YtdilnmobblkafaaRndAlive
import Derived.Test.YtdilnmobblkafaaRndRefs
namespace Go.Proofs.Ytdilnmobblkafaa.Rnd
open Go.RowKit Kit Dec Reg

set_option maxRecDepth 100000 in
set_option maxHeartbeats 1000000 in
theorem steps_law (x s m p : Int) (x2 : x ≤ 9223372036854775807) (s2 : s ≤ 9223372036854775807) (p2 : p ≤ 9223372036854775807) (w : World) :
    Calls Try.prog 3 #[.int .i64 x, .int .i64 s, .agg #[.int .i64 m, .int .i64 p]] w (LawEnd w) := by
  obtain ⟨⟨y, k⟩, hy⟩ : ∃ r, stepD x s m = r := ⟨_, rfl⟩
  obtain ⟨⟨z, j⟩, hz⟩ : ∃ r, placesD x p m = r := ⟨_, rfl⟩
  obtain ⟨⟨n, i⟩, hn⟩ : ∃ r, stepD x 10000 4 = r := ⟨_, rfl⟩
  have C1 := Lib.hid (fun w1 => step_c x s m x2 s2 y k hy w1)
  have R1 := Lib.hid (fun w1 => rstep_c x s m x2 s2 y k hy w1)
  have C2 := Lib.hid (fun w1 => places_c x p m x2 p2 z j hz w1)
  have R2 := Lib.hid (fun w1 => rplaces_c x p m x2 p2 z j hz w1)
  have C3 := Lib.hid (fun w1 => int_c x x2 n i hn w1)
  have R3 := Lib.hid (fun w1 => rstep_c x 10000 4 x2 (by omega) n i hn w1)
  clear hy hz hn x2 s2 p2
  go_enter Try.func3, Try.ntmps3
  go_wp2_with (go_at_call 6; refine (C1.out _).mono ?_; rintro e w' ⟨rfl, rfl⟩)
  refine (R1.out _).mono ?_
  rintro e w1 ⟨rfl, hb1⟩
  obtain ⟨hQ, hw⟩ := slot (cs := [.int .i64 m, .int .i64 p]) (ty := 22) hb1
  obtain ⟨q0, q1, _, _⟩ := hQ.two
  have lq := hQ.1
  replace hQ := Lib.hid hQ
  have hw1 := Lib.hid hw
  clear hb1 hw
  go_wp2_with (go_at_call 8; refine (C2.out _).mono ?_; rintro e w' ⟨rfl, rfl⟩)
  refine (R2.out _).mono ?_
  rintro e w2 ⟨rfl, hb2⟩
  have hA := (CellsAt.new w1 [.int .i64 y, .bool k] 26).on hb2
  have hw2 := Lib.hid (on (on_alloc hw1.out _) hb2)
  clear hb2 hw1 q0 q1 lq hQ
  go_wp2_with (go_at_call 10; refine (C3.out _).mono ?_; rintro e w' ⟨rfl, rfl⟩)
  refine (R3.out _).mono ?_
  rintro e w3 ⟨rfl, hb3⟩
  have hB := (CellsAt.new w2 [.int .i64 z, .bool j] 26).on hb3
  replace hA := (hA.on_alloc _).on hb3
  have hw3 := Lib.hid (on (on_alloc hw2.out _) hb3)
  clear hb3 hw2
  obtain ⟨p0, p1, _, _⟩ := hA.two
  obtain ⟨r0, r1, _, _⟩ := hB.two
  have l1 := hA.1
  have l2 := hB.1
  clear hA hB
  go_wp2_with (go_at_call 11; refine (alive_c _).mono ?_; rintro e w' ⟨rfl, rfl⟩)
  go_ret
  exact ⟨rfl, on_alloc hw3.out _⟩
end Go.Proofs.Ytdilnmobblkafaa.Rnd

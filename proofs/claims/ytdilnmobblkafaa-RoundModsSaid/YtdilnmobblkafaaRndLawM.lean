/- RoundMods, walked: what is left, quotients that are cut off, even and odd numbers are the document's. -/
import Derived.Test.YtdilnmobblkafaaRndAlive
import Derived.Test.YtdilnmobblkafaaRndROdd
namespace Go.Proofs.Ytdilnmobblkafaa.Rnd
open Go.RowKit Kit Dec Reg

theorem end_drew {w w1 w2 : World} {n : Nat} (h : Below w.heap.size w w1) (e : w2 = w1.drewN n) : Below w.heap.size w w2 := on h (drew_below e)
set_option maxRecDepth 100000 in
set_option maxHeartbeats 1000000 in
theorem mods_law (a b : Int) (a2 : a ≤ 9223372036854775807) (b2 : b ≤ 9223372036854775807) (w : World) :
    Calls Try.prog 5 #[.int .i64 a, .int .i64 b] w (LawEnd w) := by
  obtain ⟨⟨m, k⟩, hm⟩ : ∃ r, modD a b = r := ⟨_, rfl⟩
  obtain ⟨⟨q, j⟩, hq⟩ : ∃ r, quotD a b = r := ⟨_, rfl⟩
  obtain ⟨⟨v, i⟩, hv⟩ : ∃ r, stepD a 20000 3 = r := ⟨_, rfl⟩
  obtain ⟨⟨o, t⟩, ho⟩ : ∃ r, oddD a = r := ⟨_, rfl⟩
  have C1 := Lib.hid (fun w1 => mod_c a b a2 b2 m k hm w1)
  have R1 := Lib.hid (fun w1 => rmod_c a b a2 b2 m k hm w1)
  have C2 := Lib.hid (fun w1 => quot_c a b a2 q j hq w1)
  have R2 := Lib.hid (fun w1 => rquot_c a b a2 q j hq w1)
  have C3 := Lib.hid (fun w1 => even_c a a2 v i hv w1)
  have R3 := Lib.hid (fun w1 => rstep_c a 20000 3 a2 (by omega) v i hv w1)
  have C4 := Lib.hid (fun w1 => odd_c a a2 o t ho w1)
  have R4 := Lib.hid (fun w1 => rodd_c a a2 o t ho w1)
  clear hm hq hv ho a2 b2
  go_enter Try.func5, Try.ntmps5
  go_wp2_with (go_at_call 13; refine (C1.out _).mono ?_; rintro e w' ⟨rfl, rfl⟩)
  refine (R1.out _).mono ?_
  rintro e w1 ⟨rfl, hb1⟩
  have hw1 := Lib.hid hb1
  clear hb1
  go_wp2_with (go_at_call 15; refine (C2.out _).mono ?_; rintro e w' ⟨rfl, q2, rfl⟩)
  refine (R2.out _).mono ?_
  rintro e w2 ⟨rfl, hb2⟩
  have hA := (CellsAt.new w1 [.int .i64 m, .bool k] 26).on (on (drew_below rfl) hb2)
  have hw2 := Lib.hid (on (on_alloc hw1.out _) (on (drew_below rfl) hb2))
  clear hb2 hw1
  go_wp2_with (go_at_call 17; refine (C3.out _).mono ?_; rintro e w' ⟨rfl, rfl⟩)
  refine (R3.out _).mono ?_
  rintro e w3 ⟨rfl, hb3⟩
  have hB := (CellsAt.new w2 [.int .i64 q, .bool j] 26).on hb3
  replace hA := (hA.on_alloc _).on hb3
  have hw3 := Lib.hid (on (on_alloc hw2.out _) hb3)
  clear hb3 hw2
  go_wp2_with (go_at_call 18; refine (C4.out _).mono ?_; rintro e w' ⟨rfl, rfl⟩)
  refine (R4.out _).mono ?_
  rintro e w4 ⟨rfl, hb4⟩
  have hC := (CellsAt.new w3 [.int .i64 v, .bool i] 26).on hb4
  replace hA := (hA.on_alloc _).on hb4
  replace hB := (hB.on_alloc _).on hb4
  have hw4 := Lib.hid (on (on_alloc hw3.out _) hb4)
  clear hb4 hw3
  obtain ⟨p0, p1, _, _⟩ := hA.two
  obtain ⟨r0, r1, _, _⟩ := hB.two
  obtain ⟨c0, c1, _, _⟩ := hC.two
  have l1 := hA.1
  have l2 := hB.1
  have l3 := hC.1
  clear hA hB hC
  go_wp2_with (go_at_call 11; refine (alive_c _).mono ?_; rintro e w' ⟨rfl, rfl⟩)
  go_ret
  exact ⟨rfl, on_alloc hw4.out _⟩
end Go.Proofs.Ytdilnmobblkafaa.Rnd

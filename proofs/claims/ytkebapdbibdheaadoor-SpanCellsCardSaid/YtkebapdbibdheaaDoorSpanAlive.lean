/- That the statements' own check of life of package span answers yes: where the library's variables hold what they are laid. -/
import Derived.Test.YtkebapdbibdheaaDoorSpanRefCells
import Derived.Test.YtkebapdbibdheaaDoorSpanTextGo
namespace Go.Proofs.YtkebapdbibdheaaDoor.Span
open Go.RowKit Kit Reg Go.Proofs.YtkebapdbibdheaaDoor.Addr Cats

theorem ba_is : SpanIs [66, 50, 58, 65, 49] 1 1 0 0 true := .inl ⟨rfl, by decide +kernel, by decide +kernel⟩
theorem ab_text : textI 0 0 1 1 = [65, 49, 58, 66, 50] := by decide +kernel
theorem ba_text : textI 1 1 0 0 = [66, 50, 58, 65, 49] := by decide +kernel
theorem ba_cells : (if 1000 < 4 then [] else upto (cellAt 0 0 2) 4) = [(0, 0), (0, 1), (1, 0), (1, 1)] := by decide +kernel
set_option maxRecDepth 100000 in
set_option maxHeartbeats 4000000 in
theorem alive_c (w : World) (hL : Libs w) : Calls Tryd.prog 18 #[] w fun e w' => e = .returned (.bool true) ∧ Below w.heap.size w w' := by
  have HP := Lib.hid (fun w1 h => parse_c ⟨#[66, 50, 58, 65, 49]⟩ (by decide) w1 h)
  have HCs : Hid (∀ w1, Calls Tryd.prog 19 #[.agg #[.int .i64 1, .int .i64 1, .int .i64 0, .int .i64 0]] w1 (CellsEnd [(0, 0), (0, 1), (1, 0), (1, 1)] w1)) := fun w1 => by
    have h := cells_c 1 1 0 0 true 2 2 4 0 0 (by decide +kernel) (by decide +kernel) (by decide +kernel) (by decide +kernel) (by decide +kernel) rfl w1
    rwa [ba_cells] at h
  have HT : Hid (∀ w1, Libs w1 → Calls Tryd.prog 28 #[.agg #[.int .i64 1, .int .i64 1, .int .i64 0, .int .i64 0]] w1 fun e w' => e = .returned (.string ⟨#[66, 50, 58, 65, 49]⟩) ∧ Below w1.heap.size w1 w') := fun w1 h => by
    have h := text_c 1 1 0 0 w1 h
    rwa [ba_text] at h
  have HT2 : Hid (∀ w1, Libs w1 → Calls Tryd.prog 28 #[.agg #[.int .i64 0, .int .i64 0, .int .i64 1, .int .i64 1]] w1 fun e w' => e = .returned (.string ⟨#[65, 49, 58, 66, 50]⟩) ∧ Below w1.heap.size w1 w') := fun w1 h => by
    have h := text_c 0 0 1 1 w1 h
    rwa [ab_text] at h
  have HS := Lib.hid (fun w1 => straight_c 1 1 0 0 true 0 0 1 1 (by decide +kernel) (by decide +kernel) (by decide +kernel) (by decide +kernel) (by decide +kernel) w1)
  have HZ := Lib.hid (fun w1 => size_c 1 1 0 0 true 4 (by decide +kernel) (by decide +kernel) w1)
  have HE := Lib.hid hL
  clear hL
  go_enter Tryd.func18, Tryd.ntmps18
  go_wp2_with fail
  refine (HP.out _ HE.out).mono ?_
  rintro e w1 ⟨a, b, c, d, k, rfl, hl, hb1⟩
  obtain ⟨rfl, rfl, rfl, rfl, rfl⟩ := hl.unique ba_is
  clear hl
  have hx := CellsAt.new w1 [.int .i64 1, .int .i64 1, .int .i64 0, .int .i64 0] 25
  have hb0 := on_alloc hb1 (.cells #[.int .i64 1, .int .i64 1, .int .i64 0, .int .i64 0] 25)
  clear hb1
  go_wp2_with fail
  refine (HCs.out _).mono ?_
  rintro e w2 ⟨v, rfl, hv, hb2⟩
  replace hx := hx.on hb2
  replace hb0 := on hb0 hb2
  obtain ⟨A, cap, rfl, hnil | ⟨g, rfl, hg, hcs⟩⟩ := hv.row
  · cases hnil
  obtain ⟨g0, g1⟩ := hcs 0 _ rfl
  obtain ⟨g2, g3⟩ := hcs 1 _ rfl
  obtain ⟨x0, x1, x2, x3, _⟩ := hx.four
  have HE2 := Lib.hid (HE.out.grown hb0)
  simp only [List.length_cons, List.length_nil, Nat.zero_mul, Nat.one_mul, Nat.zero_add, Nat.reduceAdd] at g0 g1 g2 g3 ⊢
  clear hcs hv hb2
  go_wp2_with fail
  refine (HT.out _ HE2.out).mono ?_
  rintro e w3 ⟨rfl, hb3⟩
  replace hx := hx.on hb3
  replace hb0 := on hb0 hb3
  clear x0 x1 x2 x3 g0 g1 g2 g3 hb3
  obtain ⟨x0, x1, x2, x3, _⟩ := hx.four
  go_wp2_with fail
  refine (HS.out _).mono ?_
  rintro e w4 ⟨rfl, hb4⟩
  replace hx := hx.on hb4
  replace hb0 := on hb0 hb4
  have HE4 := Lib.hid (HE.out.grown hb0)
  clear x0 x1 x2 x3 hb4
  go_wp2_with fail
  refine (HT2.out _ HE4.out).mono ?_
  rintro e w5 ⟨rfl, hb5⟩
  replace hx := hx.on hb5
  replace hb0 := on hb0 hb5
  clear hb5
  obtain ⟨x0, x1, x2, x3, _⟩ := hx.four
  go_wp2_with fail
  refine (HZ.out _).mono ?_
  rintro e w6 ⟨rfl, hb6⟩
  replace hb0 := on hb0 hb6
  go_wp2
  go_ret
  exact ⟨rfl, hb0⟩
end Go.Proofs.YtkebapdbibdheaaDoor.Span

/- The laws' check of life. -/
import Derived.Test.YtmoednmgmmgjeaaDoorLexLex
import Derived.Test.YtmoednmgmmgjeaaDoorLexText
namespace Go.Proofs.YtmoednmgmmgjeaaDoor.Lex
open Go.RowKit Kit Reg Dec Dig

/-- what a law's call answers -/
def LawEnd (w : World) : Ending → World → Prop := fun e w' => e = .returned (.bool true) ∧ Below w.heap.size w w'
def lifeB : ByteArray := ⟨#[83, 85, 77, 40, 36, 65, 49, 44, 34, 97, 34, 34, 98, 34, 41, 60, 61, 49, 46, 53, 48]⟩
def lifeT : List Tok := [⟨3, 0, [83, 85, 77], 0⟩, ⟨4, 3, [40], 0⟩, ⟨3, 4, [36, 65, 49], 0⟩, ⟨4, 7, [44], 0⟩, ⟨2, 8, [97, 34, 98], 0⟩, ⟨4, 14, [41], 0⟩, ⟨4, 15, [60, 61], 0⟩, ⟨1, 17, [], 15000⟩, ⟨5, 21, [], 0⟩]
theorem life_lex : LexO lifeB.data.toList 0 lifeT := by
  refine .tok (m := 3) (by decide +kernel) (by decide +kernel) ?_
  refine .tok (m := 1) (by decide +kernel) (by decide +kernel) ?_
  refine .tok (m := 3) (by decide +kernel) (by decide +kernel) ?_
  refine .tok (m := 1) (by decide +kernel) (by decide +kernel) ?_
  refine .tok (m := 6) (by decide +kernel) (by decide +kernel) ?_
  refine .tok (m := 1) (by decide +kernel) (by decide +kernel) ?_
  refine .tok (m := 2) (by decide +kernel) (by decide +kernel) ?_
  refine .tok (m := 4) (by decide +kernel) (by decide +kernel) ?_
  exact .done _
theorem life_at : LexAt lifeB.data.toList 0 [] (.inl lifeT) := ⟨lifeT, by rw [List.drop_zero]; exact life_lex, rfl⟩
theorem life_fits : FitsT (lifeT.drop 6) := ⟨by decide, by decide +kernel⟩
theorem life_text : textT (lifeT.drop 6) = [60, 61, 32, 49, 46, 53] := by decide +kernel
set_option maxRecDepth 100000 in
set_option maxHeartbeats 4000000 in
theorem alive_c (w : World) (hL : LLibs w) : Calls Tryd.prog 5 #[] w (LawEnd w) := by
  have H1 := Lib.hid (fun w1 h => lex_c lifeB (by decide) (.inl lifeT) life_at w1 h)
  have H2 := Lib.hid (fun b o cap w1 h hL => textT_c (some ⟨b, o, none⟩) 3 cap (lifeT.drop 6) life_fits w1 h hL)
  rw [life_text] at H2
  have HL := Lib.hid hL
  clear hL
  go_enter Tryd.func5, Tryd.ntmps5
  go_wp2_with fail
  refine (H1.out _ HL.out).mono ?_
  rintro e w1 ⟨A, cap, rfl, ⟨hz, hcap⟩, hb1⟩
  have HL1 := Lib.hid (HL.out.grown hb1)
  obtain ⟨b, o, rfl, hbl, p0, p1, p2, p3⟩ := hz.at (k := 2) rfl
  obtain ⟨_, _, e4, _, q0, q1, q2, q3⟩ := hz.at (k := 4) rfl
  obtain ⟨_, _, e6, _, r0, r1, r2, r3⟩ := hz.at (k := 6) rfl
  obtain ⟨_, _, e7, _, s0, s1, s2, s3⟩ := hz.at (k := 7) rfl
  obtain ⟨_, _, e8, _, u0, u1, u2, u3⟩ := hz.at (k := 8) rfl
  simp only [Option.some.injEq, Addr.mk.injEq, and_true] at e4 e6 e7 e8
  obtain ⟨rfl, rfl⟩ := e4
  obtain ⟨rfl, rfl⟩ := e6
  obtain ⟨rfl, rfl⟩ := e7
  obtain ⟨rfl, rfl⟩ := e8
  have H3 := Lib.hid (fun cap => H2.out b (o + 6 * 4) cap w1 (hz.drop 6) HL1.out)
  have hcap9 : 9 ≤ cap := hcap
  dsimp only at p0 p1 p2 p3 q2 r2 s3 u0 u1 u2 u3
  clear hz hcap H1 H2 q0 q1 q3 r0 r1 r3 s0 s1 s2
  go_wp2_with fail
  refine (H3.out (cap - 6)).mono ?_
  rintro e w2 ⟨s, rfl, hs, hb2⟩
  obtain rfl : s = ⟨#[60, 61, 32, 49, 46, 53]⟩ := bytes_eq hs
  replace hb1 := on hb1 hb2
  clear p0 p1 p2 p3 q2 r2 s3 u0 u1 u2 u3 hb2 hs H3
  go_wp2
  go_ret
  exact ⟨rfl, hb1⟩
end Go.Proofs.YtmoednmgmmgjeaaDoor.Lex

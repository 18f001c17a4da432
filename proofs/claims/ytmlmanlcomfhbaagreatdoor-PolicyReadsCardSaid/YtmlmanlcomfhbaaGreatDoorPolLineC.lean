/- What the reference's line answers: for any line of at most 100000 bytes. -/
import Derived.Test.YtmlmanlcomfhbaaGreatDoorGo
import Derived.Test.YtmlmanlcomfhbaaGreatDoorPolLineZ
import Derived.Test.YtmlmanlcomfhbaaGreatDoorPolLineU
import Derived.Test.YtmlmanlcomfhbaaGreatDoorPolLineG
namespace Go.Proofs.YtmlmanlcomfhbaaGreatDoor.Pol
open Go.RowKit Kit Reg

theorem rline_c (B : Nat) (p : Pl) (t : ByteArray) (ht : t.size ≤ 100000) (A1 : Option Addr) (n1 c1 : Nat) (A2 : Option Addr) (n2 c2 : Nat) (A3 : Option Addr) (n3 c3 : Nat) (hz : p.zs.length = n1) (hu : p.us.length = n2) (hg : p.gs.length = n3)
    (m1 : n1 ≤ 100000) (m2 : n2 ≤ 100000) (m3 : n3 ≤ 100000) (w : World) (hB : B ≤ w.heap.size) (ho : Own B p (.slice A1 n1 c1) (.slice A2 n2 c2) (.slice A3 n3 c3) w) :
    Calls Tryz.prog 36 #[.agg #[.int .i64 p.rows, .int .i64 p.cols, .slice A1 n1 c1, .slice A2 n2 c2, .slice A3 n3 c3], .string t] w (LineEnd B t.data.toList p (.slice A1 n1 c1) (.slice A2 n2 c2) (.slice A3 n3 c3) w) := by
  by_cases h0 : t.size = 0
  · exact rline_none B p t ht A1 n1 c1 A2 n2 c2 A3 n3 c3 (.inl h0) w
  obtain ⟨k, hk⟩ : ∃ k, t.size = k + 1 := ⟨t.size - 1, by omega⟩
  cases hq : (((t[k]'(by omega)).toNat : Int) == 10) with
  | false => exact rline_none B p t ht A1 n1 c1 A2 n2 c2 A3 n3 c3 (.inr ⟨k, hk, hq⟩) w
  | true =>
    obtain ⟨xs, hx⟩ : ∃ xs, bs (wordsF (t.data.toList.take k)) = xs := ⟨_, rfl⟩
    have odd := rline_odd B p t ht A1 n1 c1 A2 n2 c2 A3 n3 c3 k hk hq xs hx
    match xs, hx, odd with
    | [], _, odd => exact odd (.inl ⟨by decide, by decide⟩) w
    | [_], _, odd => exact odd (.inl ⟨rfl, rfl⟩) w
    | [_, _], _, odd => exact odd (.inl ⟨rfl, rfl⟩) w
    | [x0, x1, x2], hx, odd =>
      cases h1 : (x0.toList == [103, 114, 105, 100]) with
      | true => exact rline_grid B p t ht A1 n1 c1 A2 n2 c2 A3 n3 c3 k hk hq x0 x1 x2 hx h1 w ho
      | false =>
        cases h2 : (x0.toList == [122, 111, 110, 101]) with
        | true => exact rline_zone B p t ht A1 n1 c1 A2 n2 c2 A3 n3 c3 k hk hq x0 x1 x2 hx h2 hz m1 w hB ho
        | false =>
          cases h3 : (x0.toList == [117, 115, 101, 114]) with
          | true => exact rline_user B p t ht A1 n1 c1 A2 n2 c2 A3 n3 c3 k hk hq x0 x1 x2 hx h3 hu m2 w hB ho
          | false => exact odd (.inr (.inl ⟨x0, x1, x2, rfl, h1, h2, h3⟩)) w
    | [x0, x1, x2, x3], hx, odd =>
      cases h1 : (x0.toList == [103, 114, 97, 110, 116]) with
      | true => exact rline_grant B p t ht A1 n1 c1 A2 n2 c2 A3 n3 c3 k hk hq x0 x1 x2 x3 hx h1 hg m3 w hB ho
      | false => exact odd (.inr (.inr ⟨x0, x1, x2, x3, rfl, h1⟩)) w
    | a :: b :: c :: d :: e :: r, _, odd =>
      refine odd (.inl ⟨?_, ?_⟩) w
      · rw [beq_eq_false_iff_ne]; simp only [List.length_cons]; omega
      · rw [beq_eq_false_iff_ne]; simp only [List.length_cons]; omega
end Go.Proofs.YtmlmanlcomfhbaaGreatDoor.Pol

/- Numbers among the arguments: a slice of them that reads as data reads as a list of numbers of 64 bits. -/
import Derived.Test.YtngnjphhjmhomaaOpenStrs
import Derived.Test.YtngnjphhjmhomaaOrdRows
namespace Go.Proofs.Ytngnjphhjmhomaa.Nums
open Go Go.ChangeShapes Go.WideShapes Go.RowKit Go.Deep Go.WideElems Go.ChangeAt

theorem cellsI64 : Try.prog.cellsOf 2 = 1 := by kernel_rfl
section
variable {H : Type} {enc : TypeId × Value → H} {w : World} {base : Nat} {spare : Nat → Bool} {held : Bool}
set_option maxRecDepth 100000 in
theorem num_cells {n : Nat} {cs : List Value} {x : DataW H × List MemPlace} (h : DataW.trod enc Try.prog w base spare held n 2 cs = some x) : ∃ a : Int, cs = [.int .i64 a] ∧ -9223372036854775808 ≤ a ∧ a ≤ 9223372036854775807 := by
  obtain ⟨a, e, _, hw⟩ := DataW.trod_int Try.underlying2 h
  simp only [Lit.wf, Bool.and_eq_true, decide_eq_true_eq] at hw
  refine ⟨a, e, ?_, ?_⟩
  · have := hw.1; simpa [IntKind.min, IntKind.signed, IntKind.bits] using this
  · have := hw.2; simp [IntKind.max, IntKind.signed, IntKind.bits] at this; omega
end
/-- one number as cells -/
def one (z : Int) : List Value := [.int .i64 z]
set_option maxRecDepth 100000 in
theorem nums_of_trod {H : Type} {enc : TypeId × Value → H} {W : World} {fuel : Nat} {A : Option Addr} {n c : Nat} {x : DataW H × List MemPlace}
    (h : DataW.trod enc Try.prog W 0 (fun _ => true) true fuel 22 [.slice A n c] = some x) : ∃ zs : List Int, n ≤ 9223372036854775807 ∧ Odr.NumsR W A n c zs := by
  obtain ⟨⟨hnil, hle⟩, zs, h1, h2, h3⟩ := Strs.rows_of_trod (m := 1) one (fun a => -9223372036854775808 ≤ a ∧ a ≤ 9223372036854775807) 0 Try.underlying22 cellsI64 (by decide) (fun _ => rfl) (fun {k cs y} hy => num_cells hy) h
  have hmax : n ≤ 9223372036854775807 := by
    rcases open_slice Try.underlying22 h with ⟨hcs, _⟩ | ⟨a, len, cap, q, k, D, Pl, hcs, _, hl, hmx, _⟩
    · simp only [List.cons.injEq, and_true, Value.slice.injEq] at hcs
      omega
    · simp only [List.cons.injEq, and_true, Value.slice.injEq] at hcs
      unfold maxLen at hmx
      omega
  refine ⟨zs, hmax, h1, hnil, h2, ?_⟩
  by_cases hn : n = 0
  · exact .inl (List.length_eq_zero_iff.1 (by omega))
  · obtain ⟨b, o, hA, hlt, hcell⟩ := h3 hn
    refine .inr ⟨b, o, hA, hlt, fun i z hz => ?_⟩
    have := hcell i z hz 0 _ rfl
    simpa using this
end Go.Proofs.Ytngnjphhjmhomaa.Nums

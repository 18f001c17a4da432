/- Two, and three, labels in an array by value, opened. -/
import Derived.Test.YteolenhgaekihaaOpenRight
namespace Go.Proofs.Yteolenhgaekihaa.Right
open Go Go.ChangeShapes Go.WideShapes Go.RowKit Go.Deep Go.WideElems
open Go.Proofs.Yteolenhgaekihaa.Cats (U)

theorem cellsLab : Try.prog.cellsOf 25 = 2 := by kernel_rfl
variable {H : Type} {enc : TypeId × Value → H} {w : World} {base : Nat} {spare : Nat → Bool} {held : Bool}
theorem labs2_of_trod {n : Nat} {cs : List Value} {x : DataW H × List MemPlace} (hc : Try.prog.cellsOf 43 = 4) (h : DataW.trod enc Try.prog w base spare held n 43 cs = some x) :
    ∃ (l : Int) (s : Nat) (j : Int) (r : Nat), cs = [.int .i64 l, .int .u64 s, .int .i64 j, .int .u64 r] ∧ U s ∧ U r := by
  obtain ⟨xs, m, _, _, hl, hx, hi⟩ := DataW.trod_array Try.underlying43 h
  rw [hc] at hl
  match cs, hl with
  | [a, b, c, d], _ =>
    have h0 := hi 0 (by decide)
    have h1 := hi 1 (by decide)
    rw [cellsLab, List.getElem?_eq_getElem (by omega)] at h0 h1
    obtain ⟨l, s, rfl, rfl, hs⟩ := label_of_trod h0
    obtain ⟨j, r, rfl, rfl, hr⟩ := label_of_trod h1
    exact ⟨l, s, j, r, rfl, hs, hr⟩
theorem labs3_of_trod {n : Nat} {cs : List Value} {x : DataW H × List MemPlace} (hc : Try.prog.cellsOf 51 = 6) (h : DataW.trod enc Try.prog w base spare held n 51 cs = some x) :
    ∃ (l : Int) (s : Nat) (j : Int) (r : Nat) (a : Int) (b : Nat), cs = [.int .i64 l, .int .u64 s, .int .i64 j, .int .u64 r, .int .i64 a, .int .u64 b] ∧ U s ∧ U r ∧ U b := by
  obtain ⟨xs, m, _, _, hl, hx, hi⟩ := DataW.trod_array Try.underlying51 h
  rw [hc] at hl
  match cs, hl with
  | [a, b, c, d, e, f], _ =>
    have h0 := hi 0 (by decide)
    have h1 := hi 1 (by decide)
    have h2 := hi 2 (by decide)
    rw [cellsLab, List.getElem?_eq_getElem (by omega)] at h0 h1 h2
    obtain ⟨l, s, rfl, rfl, hs⟩ := label_of_trod h0
    obtain ⟨j, r, rfl, rfl, hr⟩ := label_of_trod h1
    obtain ⟨k, q, rfl, rfl, hq⟩ := label_of_trod h2
    exact ⟨l, s, j, r, k, q, rfl, hs, hr, hq⟩
theorem okWide_array {P : Program} {t e : TypeId} {n : Nat} {W : World} {r : Reach} {b0 : Nat} {v : Value} (ht : P.underlying t = some (.array n e)) (h : Value.okWide P W r b0 t v) : ∃ cs, v = .agg cs ∧ cs.size = P.cellsOf t := by
  simp only [Value.okWide, ht] at h
  obtain ⟨cs, h1, h2, _⟩ := h
  exact ⟨cs, h1, h2⟩
end Go.Proofs.Yteolenhgaekihaa.Right

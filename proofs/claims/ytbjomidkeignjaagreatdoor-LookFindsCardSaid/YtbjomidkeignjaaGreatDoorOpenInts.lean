/- Two ints in an array by value, opened. -/
import Derived.Lib.SmallJoins
import Derived.Lib.LaidTab
import Derived.Deep.DeepHandedRow
import Derived.Test.YtbjomidkeignjaaGreatDoorKit
import Derived.Test.YtbjomidkeignjaaGreatDoorFrame
namespace Go.Proofs.YtbjomidkeignjaaGreatDoor.Arr
open Go Go.ChangeShapes Go.WideShapes Go.RowKit Go.Deep Go.WideElems Go.ChangeAt

theorem cellsInt : Tryz.prog.cellsOf 3 = 1 := by kernel_rfl
variable {H : Type} {enc : TypeId × Value → H} {w : World} {base : Nat} {spare : Nat → Bool} {held : Bool}
set_option maxRecDepth 100000 in
theorem int_of_trod {n : Nat} {v : Value} {x : DataW H × List MemPlace} (h : DataW.trod enc Tryz.prog w base spare held n 3 [v] = some x) : ∃ a : Int, v = .int .i64 a ∧ -9223372036854775808 ≤ a ∧ a ≤ 9223372036854775807 := by
  obtain ⟨a, e, _, hw⟩ := DataW.trod_int Tryz.underlying3 h
  refine ⟨a, by simpa using e, ?_⟩
  simp only [Lit.wf, Bool.and_eq_true, decide_eq_true_eq] at hw
  have h1 := hw.1
  have h2 := hw.2
  simp [IntKind.min, IntKind.max, IntKind.signed, IntKind.bits] at h1 h2
  omega
set_option maxRecDepth 100000 in
theorem ints2_of_trod {n : Nat} {cs : List Value} {x : DataW H × List MemPlace} (hc : Tryz.prog.cellsOf 27 = 2) (h : DataW.trod enc Tryz.prog w base spare held n 27 cs = some x) :
    ∃ a b : Int, cs = [.int .i64 a, .int .i64 b] ∧ (-9223372036854775808 ≤ a ∧ a ≤ 9223372036854775807) ∧ (-9223372036854775808 ≤ b ∧ b ≤ 9223372036854775807) := by
  obtain ⟨xs, m, _, _, hl, hx, hi⟩ := DataW.trod_array Tryz.underlying27 h
  rw [hc] at hl
  match cs, hl with
  | [u, v], _ =>
    have h0 := hi 0 (by decide)
    have h1 := hi 1 (by decide)
    rw [cellsInt, List.getElem?_eq_getElem (by omega)] at h0 h1
    obtain ⟨a, rfl, ha⟩ := int_of_trod h0
    obtain ⟨b, rfl, hb⟩ := int_of_trod h1
    exact ⟨a, b, rfl, ha, hb⟩
theorem okWide_array {P : Program} {t e : TypeId} {n : Nat} {W : World} {r : Reach} {b0 : Nat} {v : Value} (ht : P.underlying t = some (.array n e)) (h : Value.okWide P W r b0 t v) : ∃ cs, v = .agg cs ∧ cs.size = P.cellsOf t := by
  simp only [Value.okWide, ht] at h
  obtain ⟨cs, h1, h2, _⟩ := h
  exact ⟨cs, h1, h2⟩
end Go.Proofs.YtbjomidkeignjaaGreatDoor.Arr

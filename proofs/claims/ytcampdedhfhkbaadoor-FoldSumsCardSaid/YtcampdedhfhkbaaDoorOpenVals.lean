/- Values among the arguments: a slice of them that reads as data reads as a list of values of 64 bits. -/
import Derived.Test.YtcampdedhfhkbaaDoorOpenStrs
import Derived.Test.YtcampdedhfhkbaaDoorFldRows
namespace Go.Proofs.YtcampdedhfhkbaaDoor.Vals
open Go Go.ChangeShapes Go.WideShapes Go.RowKit Go.Deep Go.WideElems Go.ChangeAt

theorem cellsVal : Tryd.prog.cellsOf 27 = 3 := by kernel_rfl
theorem cellsInt : Tryd.prog.cellsOf 3 = 1 := by kernel_rfl
theorem cellsI64 : Tryd.prog.cellsOf 2 = 1 := by kernel_rfl
theorem list3 {α : Type} : ∀ {cs : List α}, cs.length = 3 → ∃ a b c, cs = [a, b, c]
  | [a, b, c], _ => ⟨a, b, c, rfl⟩
section
variable {H : Type} {enc : TypeId × Value → H} {w : World} {base : Nat} {spare : Nat → Bool} {held : Bool}
set_option maxRecDepth 100000 in
theorem int_cell {n : Nat} {v : Value} {x : DataW H × List MemPlace} (h : DataW.trod enc Tryd.prog w base spare held n 3 [v] = some x) : ∃ a : Int, v = .int .i64 a := by
  obtain ⟨a, e, _, _⟩ := DataW.trod_int Tryd.underlying3 h
  exact ⟨a, by simpa using e⟩
set_option maxRecDepth 100000 in
theorem i64_cell {n : Nat} {v : Value} {x : DataW H × List MemPlace} (h : DataW.trod enc Tryd.prog w base spare held n 2 [v] = some x) : ∃ a : Int, v = .int .i64 a ∧ -9223372036854775808 ≤ a ∧ a ≤ 9223372036854775807 := by
  obtain ⟨a, e, _, hw⟩ := DataW.trod_int Tryd.underlying2 h
  simp only [Lit.wf, Bool.and_eq_true, decide_eq_true_eq] at hw
  refine ⟨a, by simpa using e, ?_, ?_⟩
  · have := hw.1; simpa [IntKind.min, IntKind.signed, IntKind.bits] using this
  · have := hw.2; simp [IntKind.max, IntKind.signed, IntKind.bits] at this; omega
set_option maxRecDepth 100000 in
theorem val_of_trod {n : Nat} {cs : List Value} {x : DataW H × List MemPlace} (h : DataW.trod enc Tryd.prog w base spare held n 27 cs = some x) : ∃ z : Fld.Vl, cs = z.cells ∧ z.fits := by
  obtain ⟨y0, y1, y2, m, _, hl, h0, h1, h2⟩ := trod_struct3 Tryd.underlying27 h
  rw [cellsVal] at hl
  obtain ⟨a, b, c, rfl⟩ := list3 hl
  obtain ⟨k, rfl⟩ := int_cell h0
  obtain ⟨n, rfl, hn1, hn2⟩ := i64_cell h1
  obtain ⟨s, hs⟩ := Strs.str_cells h2
  have e : c = .string s := by simpa [cellsVal, Strs.cellsStr] using hs
  subst e
  exact ⟨⟨k, n, s⟩, rfl, hn1, hn2⟩
end
set_option maxRecDepth 100000 in
theorem vals_of_trod {H : Type} {enc : TypeId × Value → H} {W : World} {fuel : Nat} {A : Option Addr} {n c : Nat} {x : DataW H × List MemPlace}
    (h : DataW.trod enc Tryd.prog W 0 (fun _ => true) true fuel 22 [.slice A n c] = some x) : ∃ zs : List Fld.Vl, n ≤ 200 → Fld.ValsR W A n zs := by
  obtain ⟨_, zs, h1, h2, h3⟩ := Strs.rows_of_trod (m := 3) Fld.Vl.cells Fld.Vl.fits ⟨0, 0, ⟨#[]⟩⟩ Tryd.underlying22 cellsVal (by decide) (fun _ => rfl) (fun {k cs y} hy => val_of_trod hy) h
  exact ⟨zs, fun hn => ⟨h1, by omega, h2, h3⟩⟩
end Go.Proofs.YtcampdedhfhkbaaDoor.Vals

/- What strconv.Atoi answers, at every text of at most 2^48 bytes: the number, or an error that is not nil. Its condition: the library's two sentinels hold values of an interface. -/
import Derived.Test.YtmoednmgmmgjeaaDoorShelf
import Derived.WalkKit
import Derived.Lib.AtoiErrMem
namespace Go.Proofs.YtmoednmgmmgjeaaDoor.Cats
open Go.RowKit

/-- what lies in the two sentinels -/
def Errs (w : World) : Prop := (∃ ev, w.cell? ⟨5, 0, none⟩ = some ev ∧ (ev = .nilIface ∨ ∃ te pe, ev = .iface te pe)) ∧ (∃ ev, w.cell? ⟨6, 0, none⟩ = some ev ∧ (ev = .nilIface ∨ ∃ te pe, ev = .iface te pe))
theorem Errs.grown {w w' : World} (h : Errs w) (hb : Below w.heap.size w w') : Errs w' := by
  obtain ⟨⟨e1, h1, k1⟩, ⟨e2, h2, k2⟩⟩ := h
  exact ⟨⟨e1, (hb.cell (block_lt_of_cell h1)).trans h1, k1⟩, ⟨e2, (hb.cell (block_lt_of_cell h2)).trans h2, k2⟩⟩
/-- the number of a text; none: there is an error -/
def atoiO (l : List UInt8) : Option Int := match Lib.atoiAll l with | .ok v => some v | _ => none
def AtoiEnd (l : List UInt8) (w : World) (e : Ending) (w' : World) : Prop :=
  ((∃ v, atoiO l = some v ∧ e = .returned (.tuple #[.int .i64 v, .nilIface])) ∨ (atoiO l = none ∧ ∃ x t p, e = .returned (.tuple #[.int .i64 x, .iface t (.pointer (some p))]))) ∧ Below w.heap.size w w'
end Go.Proofs.YtmoednmgmmgjeaaDoor.Cats

/- What the reference's Right and Formula answer, out of what its one answers. Written by wip/gen22right.py. -/
import Derived.Test.YtcgpggknmhlnkaaDoorPs26
namespace Go.Proofs.YtcgpggknmhlnkaaDoor.Nod
open Go.RowKit Kit Reg
theorem ElsR.at {w : World} {A : Option Addr} {n : Nat} {L : List El} (h : ElsR w A n L) {i : Nat} {e : El} (he : L[i]? = some e) : ∃ b o, A = some ⟨b, o, none⟩ ∧ b < w.heap.size ∧ ∀ j x, e.cells[j]? = some x → w.cell? ⟨b, o + i * 14 + j, none⟩ = some x := by
  have hi := (List.getElem?_eq_some_iff.1 he).1
  obtain ⟨h1, h2⟩ := h
  obtain ⟨b, o, e1, hlt, hc⟩ := h2 (by omega)
  exact ⟨b, o, e1, hlt, hc i e he⟩
end Go.Proofs.YtcgpggknmhlnkaaDoor.Nod

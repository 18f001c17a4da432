/- A struct of two structs of two one-cell fields, by value, opened: the value written out, each cell with its reading. No function of the program is named here. -/
import Derived.Lib.SmallJoins
import Derived.Test.YtedpgcmmnmlpeaaRows
namespace Go.Proofs.Ytedpgcmmnmlpeaa.Pair
open Go Go.ChangeShapes Go.WideShapes Go.RowKit Go.Deep Go.WideElems Go.Maps

variable {H : Type} {enc : TypeId × Value → H} {P : Program} {w : World} {base : Nat} {spare : Nat → Bool} {held : Bool}
theorem open_pair {r : Reach} {b0 : Nat} {t te : TypeId} {f0 f1 g0 g1 : Field} {v : Value} {d : DataW H} {p : List MemPlace} (hs : P.underlying t = some (.struct #[f0, f1])) (hC : P.cellsOf t = 4)
    (hf : f0.type = te ∧ f1.type = te ∧ f0.offset = 0 ∧ f1.offset = 2) (he : P.underlying te = some (.struct #[g0, g1])) (hCe : P.cellsOf te = 2) (hg : g0.offset = 0 ∧ g1.offset = 1 ∧ P.cellsOf g0.type = 1 ∧ P.cellsOf g1.type = 1)
    (hv : Value.okWide P w r b0 t v) (h : DataW.Trod enc P w base spare held t v d p) :
    ∃ (v0 v1 v2 v3 : Value) (y0 y1 y2 y3 : DataW H × List MemPlace) (n m : Nat), v = .agg #[v0, v1, v2, v3] ∧ d = .agg [.agg [y0.1, y1.1], .agg [y2.1, y3.1]] ∧ p = (y0.2 ++ y1.2) ++ (y2.2 ++ y3.2) ∧
      DataW.trod enc P w base spare held n g0.type [v0] = some y0 ∧ DataW.trod enc P w base spare held n g1.type [v1] = some y1 ∧ DataW.trod enc P w base spare held m g0.type [v2] = some y2 ∧ DataW.trod enc P w base spare held m g1.type [v3] = some y3 := by
  obtain ⟨e0, e1, o0, o1⟩ := hf
  obtain ⟨q0, q1, k0, k1⟩ := hg
  obtain ⟨cs, rfl, hsz⟩ := okWide_struct hs hv
  obtain ⟨c0, c1, c2, c3, rfl⟩ := Joins.array4 (hsz.trans hC)
  obtain ⟨fuel, hf⟩ := h
  obtain ⟨y, z, n, hx, _, h0, h1⟩ := trod_struct2 hs hf
  rw [e0, o0, hCe] at h0
  rw [e1, o1, hCe] at h1
  simp only [Value.cells, List.drop_zero, List.take_succ_cons, List.take_zero, List.drop_succ_cons] at h0 h1
  obtain ⟨y0, y1, n', hy, _, r0, r1⟩ := trod_struct2 he h0
  obtain ⟨y2, y3, m', hz, _, r2, r3⟩ := trod_struct2 he h1
  rw [q0, k0] at r0 r2
  rw [q1, k1] at r1 r3
  simp only [Prod.mk.injEq] at hx
  subst hy hz
  exact ⟨c0, c1, c2, c3, y0, y1, y2, y3, n', m', rfl, hx.1, hx.2, by simpa using r0, by simpa using r1, by simpa using r2, by simpa using r3⟩
end Go.Proofs.Ytedpgcmmnmlpeaa.Pair

/- Memory of four and of five cells: read, and written anew. No function of the program is named here. -/
import Derived.Test.YtmoednmgmmgjeaaDoorKit
namespace Go.Proofs.YtmoednmgmmgjeaaDoor.Kit
open Go.RowKit Reg

theorem CellsAt.four {w : World} {b : Nat} {x y z u : Value} (h : CellsAt w b [x, y, z, u]) : w.cell? ⟨b, 0, none⟩ = some x ∧ w.cell? ⟨b, 1, none⟩ = some y ∧ w.cell? ⟨b, 2, none⟩ = some z ∧ w.cell? ⟨b, 3, none⟩ = some u ∧
    w.frozen? ⟨b, 0, none⟩ = false ∧ w.frozen? ⟨b, 1, none⟩ = false ∧ w.frozen? ⟨b, 2, none⟩ = false ∧ w.frozen? ⟨b, 3, none⟩ = false :=
  ⟨(h.2 0 x rfl).1, (h.2 1 y rfl).1, (h.2 2 z rfl).1, (h.2 3 u rfl).1, (h.2 0 x rfl).2, (h.2 1 y rfl).2, (h.2 2 z rfl).2, (h.2 3 u rfl).2⟩
theorem CellsAt.five {w : World} {b : Nat} {x y z u v : Value} (h : CellsAt w b [x, y, z, u, v]) : w.cell? ⟨b, 0, none⟩ = some x ∧ w.cell? ⟨b, 1, none⟩ = some y ∧ w.cell? ⟨b, 2, none⟩ = some z ∧ w.cell? ⟨b, 3, none⟩ = some u ∧ w.cell? ⟨b, 4, none⟩ = some v ∧
    w.frozen? ⟨b, 0, none⟩ = false ∧ w.frozen? ⟨b, 1, none⟩ = false ∧ w.frozen? ⟨b, 2, none⟩ = false ∧ w.frozen? ⟨b, 3, none⟩ = false ∧ w.frozen? ⟨b, 4, none⟩ = false :=
  ⟨(h.2 0 x rfl).1, (h.2 1 y rfl).1, (h.2 2 z rfl).1, (h.2 3 u rfl).1, (h.2 4 v rfl).1, (h.2 0 x rfl).2, (h.2 1 y rfl).2, (h.2 2 z rfl).2, (h.2 3 u rfl).2, (h.2 4 v rfl).2⟩
/-- the worlds behind stores into all cells of a block -/
abbrev put4 (w : World) (b : Nat) (x y z u : Value) : World := (((w.setCell ⟨b, 0, none⟩ x).setCell ⟨b, 1, none⟩ y).setCell ⟨b, 2, none⟩ z).setCell ⟨b, 3, none⟩ u
abbrev put5 (w : World) (b : Nat) (x y z u v : Value) : World := (put4 w b x y z u).setCell ⟨b, 4, none⟩ v
theorem CellsAt.set {w : World} {b : Nat} {cs : List Value} (h : CellsAt w b cs) {i : Nat} (hi : i < cs.length) (x : Value) : CellsAt (w.setCell ⟨b, i, none⟩ x) b (cs.set i x) := by
  refine ⟨by simpa using h.1, fun j y hj => ?_⟩
  rw [World.frozen?_setCell]
  by_cases hij : i = j
  · subst hij
    rw [List.getElem?_set_self hi] at hj
    simp only [Option.some.injEq] at hj
    subst hj
    obtain ⟨c, f⟩ := h.2 i cs[i] (List.getElem?_eq_getElem hi)
    exact ⟨World.cell?_setCell_same' _ _ _ (by rw [c]; rfl), f⟩
  · rw [List.getElem?_set_ne hij] at hj
    obtain ⟨c, f⟩ := h.2 j y hj
    refine ⟨?_, f⟩
    rw [World.cell?_setCell_other (h := by intro e; simp at e)]
    exact c
theorem CellsAt.put4 {w : World} {b : Nat} {a c d e : Value} (h : CellsAt w b [a, c, d, e]) (x y z u : Value) : CellsAt (put4 w b x y z u) b [x, y, z, u] :=
  (((h.set (i := 0) (by simp) x).set (i := 1) (by simp) y).set (i := 2) (by simp) z).set (i := 3) (by simp) u
theorem CellsAt.put5 {w : World} {b : Nat} {a c d e f : Value} (h : CellsAt w b [a, c, d, e, f]) (x y z u v : Value) : CellsAt (put5 w b x y z u v) b [x, y, z, u, v] :=
  ((((h.set (i := 0) (by simp) x).set (i := 1) (by simp) y).set (i := 2) (by simp) z).set (i := 3) (by simp) u).set (i := 4) (by simp) v
/-- a store into another block -/
theorem CellsAt.far {w : World} {b : Nat} {cs : List Value} (h : CellsAt w b cs) {p : Addr} (hp : p.block ≠ b) (x : Value) : CellsAt (w.setCell p x) b cs := by
  refine ⟨by simpa using h.1, fun i y hi => ?_⟩
  rw [World.cell?_setCell_other (h := by intro e; rw [e] at hp; exact hp rfl), World.frozen?_setCell]
  exact h.2 i y hi
theorem CellsAt.put4_far {w : World} {b : Nat} {cs : List Value} (h : CellsAt w b cs) {c : Nat} (hp : c ≠ b) (x y z u : Value) : CellsAt (Kit.put4 w c x y z u) b cs :=
  (((h.far (p := ⟨c, 0, none⟩) hp x).far (p := ⟨c, 1, none⟩) hp y).far (p := ⟨c, 2, none⟩) hp z).far (p := ⟨c, 3, none⟩) hp u
abbrev put2 (w : World) (b : Nat) (x y : Value) : World := (w.setCell ⟨b, 0, none⟩ x).setCell ⟨b, 1, none⟩ y
theorem CellsAt.put2 {w : World} {b : Nat} {a c : Value} (h : CellsAt w b [a, c]) (x y : Value) : CellsAt (put2 w b x y) b [x, y] := (h.set (i := 0) (by simp) x).set (i := 1) (by simp) y
theorem CellsAt.put2_far {w : World} {b : Nat} {cs : List Value} (h : CellsAt w b cs) {c : Nat} (hp : c ≠ b) (x y : Value) : CellsAt (Kit.put2 w c x y) b cs :=
  (h.far (p := ⟨c, 0, none⟩) hp x).far (p := ⟨c, 1, none⟩) hp y
abbrev put3 (w : World) (b : Nat) (x y z : Value) : World := ((w.setCell ⟨b, 0, none⟩ x).setCell ⟨b, 1, none⟩ y).setCell ⟨b, 2, none⟩ z
theorem CellsAt.put3 {w : World} {b : Nat} {a c d : Value} (h : CellsAt w b [a, c, d]) (x y z : Value) : CellsAt (Kit.put3 w b x y z) b [x, y, z] := ((h.set (i := 0) (by simp) x).set (i := 1) (by simp) y).set (i := 2) (by simp) z
theorem CellsAt.put3_far {w : World} {b : Nat} {cs : List Value} (h : CellsAt w b cs) {c : Nat} (hp : c ≠ b) (x y z : Value) : CellsAt (Kit.put3 w c x y z) b cs :=
  ((h.far (p := ⟨c, 0, none⟩) hp x).far (p := ⟨c, 1, none⟩) hp y).far (p := ⟨c, 2, none⟩) hp z
/-- new memory of a region, by its name -/
theorem NewCells.at {B b : Nat} {cs : List Value} {w : World} (h : Up (NewCells B cs (.pointer (some ⟨b, 0, none⟩))) w) : B ≤ b ∧ CellsAt w b cs := by
  obtain ⟨c, e, h1, h2⟩ := NewCells.up h
  simp only [Value.pointer.injEq, Option.some.injEq, Addr.mk.injEq, and_true] at e
  subst e
  exact ⟨h1, h2⟩
theorem put4_below {w w' : World} (hb : Below w.heap.size w w') {b : Nat} (hB : w.heap.size ≤ b) (x y z u : Value) : Below w.heap.size w (Kit.put4 w' b x y z u) :=
  (set3 hb hB x y z).setCell (p := ⟨b, 3, none⟩) hB u
theorem put5_below {w w' : World} (hb : Below w.heap.size w w') {b : Nat} (hB : w.heap.size ≤ b) (x y z u v : Value) : Below w.heap.size w (Kit.put5 w' b x y z u v) :=
  (put4_below hb hB x y z u).setCell (p := ⟨b, 4, none⟩) hB v
end Go.Proofs.YtmoednmgmmgjeaaDoor.Kit

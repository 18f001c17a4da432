/- Words that every stage's contracts use: memory that a call makes, cells that stay, results. No function of the program is named here.
   Memory of four and of five cells: read, and written anew. No function of the program is named here. -/
import Derived.Test.YtcgpggknmhlnkaaDoorRows
import Derived.WalkKit
import Derived.WalkSpells
import Derived.WalkLawsBesides
import Derived.Lib.Hide
import Derived.Deep.RegionHeld3
import Derived.Deep.DeepCutAuto
import Derived.Test.YtcgpggknmhlnkaaDoorPs02
namespace Go.Proofs.YtcgpggknmhlnkaaDoor.Kit
open Go.RowKit Reg
theorem below1 (w : World) (a : Obj) : Below w.heap.size w (w.alloc a) := (Below.refl _ _).alloc (Nat.le_refl _) a
theorem below2 (w : World) (a b : Obj) : Below w.heap.size w ((w.alloc a).alloc b) := (below1 w a).alloc (by simp) b
theorem below3 (w : World) (a b c : Obj) : Below w.heap.size w (((w.alloc a).alloc b).alloc c) := (below2 w a b).alloc (by simp; omega) c
theorem drew_below {w w' : World} {n : Nat} (h : w' = w.drewN n) : Below w.heap.size w w' := by subst h; exact ⟨rfl, rfl, rfl, Nat.le_refl _, fun _ _ => rfl⟩
/-- one call behind another -/
theorem on {w0 w w' : World} (h : Below w0.heap.size w0 w) (hb : Below w.heap.size w w') : Below w0.heap.size w0 w' := h.trans (hb.mono h.size)
theorem on_alloc {w0 w : World} (h : Below w0.heap.size w0 w) (o : Obj) : Below w0.heap.size w0 (w.alloc o) := h.alloc h.size o
/-- a cell stays behind a call, and behind new memory -/
theorem kept {w w' : World} (hb : Below w.heap.size w w') {p : Addr} {v : Value} (h : w.cell? p = some v) : w'.cell? p = some v := (hb.cell (block_lt_of_cell h)).trans h
/-- memory of these cells, that may be written -/
def CellsAt (w : World) (b : Nat) (cs : List Value) : Prop := b < w.heap.size ∧ ∀ i x, cs[i]? = some x → w.cell? ⟨b, i, none⟩ = some x ∧ w.frozen? ⟨b, i, none⟩ = false
theorem CellsAt.new (w : World) (cs : List Value) (ty : TypeId) : CellsAt (w.alloc (.cells cs.toArray ty)) w.heap.size cs := by
  refine ⟨by simp, fun i x hx => ⟨?_, World.frozen?_alloc_at _ _ _ _ rfl⟩⟩
  rw [World.cell?_alloc_at _ _ _ _ rfl]
  simpa using hx
theorem CellsAt.on {w w' : World} {b : Nat} {cs : List Value} (h : CellsAt w b cs) (hb : Below w.heap.size w w') : CellsAt w' b cs :=
  ⟨Nat.lt_of_lt_of_le h.1 hb.size, fun i x hx => by rw [hb.cell (p := ⟨b, i, none⟩) h.1, hb.frozen (p := ⟨b, i, none⟩) h.1]; exact h.2 i x hx⟩
theorem CellsAt.on_alloc {w : World} {b : Nat} {cs : List Value} (h : CellsAt w b cs) (o : Obj) : CellsAt (w.alloc o) b cs := h.on (below1 w o)
theorem CellsAt.one {w : World} {b : Nat} {x : Value} (h : CellsAt w b [x]) : w.cell? ⟨b, 0, none⟩ = some x ∧ w.frozen? ⟨b, 0, none⟩ = false := h.2 0 x rfl
theorem CellsAt.three {w : World} {b : Nat} {x y z : Value} (h : CellsAt w b [x, y, z]) : w.cell? ⟨b, 0, none⟩ = some x ∧ w.cell? ⟨b, 1, none⟩ = some y ∧ w.cell? ⟨b, 2, none⟩ = some z ∧
    w.frozen? ⟨b, 0, none⟩ = false ∧ w.frozen? ⟨b, 1, none⟩ = false ∧ w.frozen? ⟨b, 2, none⟩ = false :=
  ⟨(h.2 0 x rfl).1, (h.2 1 y rfl).1, (h.2 2 z rfl).1, (h.2 0 x rfl).2, (h.2 1 y rfl).2, (h.2 2 z rfl).2⟩
/-- all cells written anew -/
theorem two_set {w : World} {b : Nat} {x y u v : Value} (c0 : w.cell? ⟨b, 0, none⟩ = some x) (c1 : w.cell? ⟨b, 1, none⟩ = some y) :
    ((w.setCell ⟨b, 0, none⟩ u).setCell ⟨b, 1, none⟩ v).cell? ⟨b, 0, none⟩ = some u ∧ ((w.setCell ⟨b, 0, none⟩ u).setCell ⟨b, 1, none⟩ v).cell? ⟨b, 1, none⟩ = some v := by
  have h0 : (w.setCell ⟨b, 0, none⟩ u).cell? ⟨b, 0, none⟩ = some u := by simp [go_sem, c0]
  have h1 : (w.setCell ⟨b, 0, none⟩ u).cell? ⟨b, 1, none⟩ = some y := by simp [go_sem, c1]
  exact ⟨by simp [go_sem, h0], by simp [go_sem, h1]⟩
theorem three_set {w : World} {b : Nat} {x y z u v r : Value} (c0 : w.cell? ⟨b, 0, none⟩ = some x) (c1 : w.cell? ⟨b, 1, none⟩ = some y) (c2 : w.cell? ⟨b, 2, none⟩ = some z) :
    (((w.setCell ⟨b, 0, none⟩ u).setCell ⟨b, 1, none⟩ v).setCell ⟨b, 2, none⟩ r).cell? ⟨b, 0, none⟩ = some u ∧ (((w.setCell ⟨b, 0, none⟩ u).setCell ⟨b, 1, none⟩ v).setCell ⟨b, 2, none⟩ r).cell? ⟨b, 1, none⟩ = some v ∧
      (((w.setCell ⟨b, 0, none⟩ u).setCell ⟨b, 1, none⟩ v).setCell ⟨b, 2, none⟩ r).cell? ⟨b, 2, none⟩ = some r := by
  have h0 : (w.setCell ⟨b, 0, none⟩ u).cell? ⟨b, 0, none⟩ = some u := by simp [go_sem, c0]
  have h1 : (w.setCell ⟨b, 0, none⟩ u).cell? ⟨b, 1, none⟩ = some y := by simp [go_sem, c1]
  have h2 : (w.setCell ⟨b, 0, none⟩ u).cell? ⟨b, 2, none⟩ = some z := by simp [go_sem, c2]
  have h3 : ((w.setCell ⟨b, 0, none⟩ u).setCell ⟨b, 1, none⟩ v).cell? ⟨b, 0, none⟩ = some u := by simp [go_sem, h0]
  have h4 : ((w.setCell ⟨b, 0, none⟩ u).setCell ⟨b, 1, none⟩ v).cell? ⟨b, 1, none⟩ = some v := by simp [go_sem, h1]
  have h5 : ((w.setCell ⟨b, 0, none⟩ u).setCell ⟨b, 1, none⟩ v).cell? ⟨b, 2, none⟩ = some z := by simp [go_sem, h2]
  exact ⟨by simp [go_sem, h3], by simp [go_sem, h4], by simp [go_sem, h5]⟩
/-- the result's own memory, made as the call begins: behind what came after it, and behind its last store -/
theorem slot {w w' : World} {cs : List Value} {ty : TypeId} (hb : Below (w.alloc (.cells cs.toArray ty)).heap.size (w.alloc (.cells cs.toArray ty)) w') : CellsAt w' w.heap.size cs ∧ Below w.heap.size w w' :=
  ⟨(CellsAt.new w cs ty).on hb, on (below1 w _) hb⟩
theorem set1 {w w' : World} (hb : Below w.heap.size w w') {b : Nat} (hB : w.heap.size ≤ b) (u : Value) : Below w.heap.size w (w'.setCell ⟨b, 0, none⟩ u) := hb.setCell (p := ⟨b, 0, none⟩) hB u
theorem set2 {w w' : World} (hb : Below w.heap.size w w') {b : Nat} (hB : w.heap.size ≤ b) (u v : Value) : Below w.heap.size w ((w'.setCell ⟨b, 0, none⟩ u).setCell ⟨b, 1, none⟩ v) :=
  (set1 hb hB u).setCell (p := ⟨b, 1, none⟩) hB v
theorem set3 {w w' : World} (hb : Below w.heap.size w w') {b : Nat} (hB : w.heap.size ≤ b) (u v r : Value) : Below w.heap.size w (((w'.setCell ⟨b, 0, none⟩ u).setCell ⟨b, 1, none⟩ v).setCell ⟨b, 2, none⟩ r) :=
  (set2 hb hB u v).setCell (p := ⟨b, 2, none⟩) hB r
/-- what an operation of a region yields: new memory of these cells -/
def NewCells (B : Nat) (cs : List Value) (v : Value) (w : World) : Prop := ∃ b, v = .pointer (some ⟨b, 0, none⟩) ∧ B ≤ b ∧ CellsAt w b cs
theorem NewCells.mk (w : World) {B : Nat} (cs : List Value) (ty : TypeId) (hB : B ≤ w.heap.size) : Below w.heap.size w (w.alloc (.cells cs.toArray ty)) ∧ NewCells B cs (.pointer (some ⟨w.heap.size, 0, none⟩)) (w.alloc (.cells cs.toArray ty)) :=
  ⟨below1 _ _, w.heap.size, rfl, hB, CellsAt.new _ _ _⟩
theorem NewCells.up {B : Nat} {cs : List Value} {v : Value} {w : World} (h : Up (NewCells B cs v) w) : NewCells B cs v w := by
  obtain ⟨w1, ⟨b, hv, hB, hc⟩, hb⟩ := h
  exact ⟨b, hv, hB, hc.on hb⟩
/-- .. and a new slice of them -/
def NewSlice (cs : List Value) (v : Value) (w : World) : Prop := ∃ b, v = .slice (some ⟨b, 0, none⟩) cs.length cs.length ∧ CellsAt w b cs
theorem NewSlice.up {cs : List Value} {v : Value} {w : World} (h : Up (NewSlice cs v) w) : NewSlice cs v w := by
  obtain ⟨w1, ⟨b, hv, hc⟩, hb⟩ := h
  exact ⟨b, hv, hc.on hb⟩
theorem ret_bool {a b : Bool} (h : a = b) : Ending.returned (.bool a) = .returned (.bool b) := by rw [h]
theorem ret_i64 {a b : Int} (h : a = b) : Ending.returned (.int .i64 a) = .returned (.int .i64 b) := by rw [h]
end Go.Proofs.YtcgpggknmhlnkaaDoor.Kit
namespace Go.Proofs.YtcgpggknmhlnkaaDoor.Kit
open Go.RowKit Reg
theorem CellsAt.set {w : World} {b : Nat} {cs : List Value} (h : CellsAt w b cs) {i : Nat} (hi : i < cs.length) (x : Value) : CellsAt (w.setCell ⟨b, i, none⟩ x) b (cs.set i x) := by
  refine ⟨by simpa using h.1, fun j y hj => ?_⟩
  rw [World.frozen?_setCell]
  by_cases hij : i = j
  · subst hij
    rw [List.getElem?_set_self hi] at hj
    simp only [Option.some.injEq] at hj
    subst hj
    obtain ⟨c, f⟩ := h.2 i cs[i] (List.getElem?_eq_getElem hi)
    exact ⟨World.cell?_setCell_same' _ _ _ (by rw [c]; rfl), f⟩
  · rw [List.getElem?_set_ne hij] at hj
    obtain ⟨c, f⟩ := h.2 j y hj
    refine ⟨?_, f⟩
    rw [World.cell?_setCell_other (h := by intro e; simp at e)]
    exact c
/-- a store into another block -/
theorem CellsAt.far {w : World} {b : Nat} {cs : List Value} (h : CellsAt w b cs) {p : Addr} (hp : p.block ≠ b) (x : Value) : CellsAt (w.setCell p x) b cs := by
  refine ⟨by simpa using h.1, fun i y hi => ?_⟩
  rw [World.cell?_setCell_other (h := by intro e; rw [e] at hp; exact hp rfl), World.frozen?_setCell]
  exact h.2 i y hi
abbrev put2 (w : World) (b : Nat) (x y : Value) : World := (w.setCell ⟨b, 0, none⟩ x).setCell ⟨b, 1, none⟩ y
theorem CellsAt.put2 {w : World} {b : Nat} {a c : Value} (h : CellsAt w b [a, c]) (x y : Value) : CellsAt (put2 w b x y) b [x, y] := (h.set (i := 0) (by simp) x).set (i := 1) (by simp) y
theorem CellsAt.put2_far {w : World} {b : Nat} {cs : List Value} (h : CellsAt w b cs) {c : Nat} (hp : c ≠ b) (x y : Value) : CellsAt (Kit.put2 w c x y) b cs :=
  (h.far (p := ⟨c, 0, none⟩) hp x).far (p := ⟨c, 1, none⟩) hp y
/-- new memory of a region, by its name -/
theorem NewCells.at {B b : Nat} {cs : List Value} {w : World} (h : Up (NewCells B cs (.pointer (some ⟨b, 0, none⟩))) w) : B ≤ b ∧ CellsAt w b cs := by
  obtain ⟨c, e, h1, h2⟩ := NewCells.up h
  simp only [Value.pointer.injEq, Option.some.injEq, Addr.mk.injEq, and_true] at e
  subst e
  exact ⟨h1, h2⟩
end Go.Proofs.YtcgpggknmhlnkaaDoor.Kit

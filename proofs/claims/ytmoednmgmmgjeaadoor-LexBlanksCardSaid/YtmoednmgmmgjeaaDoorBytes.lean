/- Rows of bytes of one's own, and such a row as a text. No function of the program is named here. -/
import Derived.Test.YtmoednmgmmgjeaaDoorOwnRows
import Derived.Lib.UnsafeStr
import Derived.Laws.IdiomStrings
namespace Go.Proofs.YtmoednmgmmgjeaaDoor.Kit
open Go.RowKit Reg

theorem infoB : (Tryd.prog.info? 5).map (fun i => (i.zero, i.size, i.bytes)) = some (some (.int .u8 0), 1, 1) := by kernel_rfl
/-- a row of bytes of one's own, in a block at B or above -/
def OwnB (B : Nat) (v : Value) (l : List UInt8) (w : World) : Prop := w.ownsRow B 5 1 v l.length (Lib.byteCells l)
theorem OwnB.lit {B : Nat} {w : World} (hB : B ≤ w.heap.size) (b : UInt8) (x : Int) (hx : x = (b.toNat : Int)) : OwnB B (.slice (some ⟨w.heap.size, 0, none⟩) 1 1) [b] (w.alloc (.cells #[.int .u8 x] 5)) := by
  subst hx
  exact World.ownsRow_lit w #[.int .u8 (b.toNat : Int)] 1 hB (by decide) rfl
theorem OwnB.empty (B : Nat) (w : World) : OwnB B (.slice none 0 0) [] w := World.ownsRow_nil _ _ _ _
theorem OwnB.snoc {B : Nat} {w : World} {v : Value} {l : List UInt8} (b : UInt8) (x : Int) (hx : x = (b.toNat : Int)) (h : w.ownsRow B 5 1 v (l.length + 1) (Lib.byteCells l ++ [.int .u8 x])) : OwnB B v (l ++ [b]) w := by
  subst hx
  unfold OwnB
  rw [Lib.byteCells_append, List.length_append]
  exact h
theorem OwnB.on {B : Nat} {w w' : World} {v : Value} {l : List UInt8} (h : OwnB B v l w) (hb : Below w.heap.size w w') : OwnB B v l w' := own_on h hb
set_option maxRecDepth 100000 in
/-- such a row as a text -/
theorem OwnB.conv {B : Nat} {w : World} {v : Value} {l : List UInt8} (h : OwnB B v l w) : (convert 59 9 v).run Tryd.prog w = .ok (.string ⟨l.toArray⟩) w := by
  rcases h.2 with ⟨rfl, h0⟩ | ⟨g, cap, cur, rfl, _⟩
  · obtain rfl : l = [] := List.eq_nil_of_length_eq_zero h0
    rw [run_convert_bytes_string w _ _ _ _ 0 0 Tryd.underlying59 Tryd.underlying5 Tryd.underlying9]
    rfl
  · refine run_convert_bytes_back w _ _ _ ⟨g, 0, none⟩ cap l Tryd.underlying59 Tryd.underlying5 Tryd.underlying9 (fun j hj => ?_)
    exact World.ownsRow.cells h rfl j _ (by simp [Lib.byteCells, hj])
/-- what stays behind an append to such a row -/
theorem OwnB.below {B : Nat} {w0 w w' : World} {v : Value} {n : Nat} {xs : List Value} {o : Obj} (h : w.ownsRow B 5 1 v n xs) (hb : Below w0.heap.size w0 w) (hB : w0.heap.size ≤ B) (hg : (w.alloc o).grownBy w' v.ownBlock) : Below w0.heap.size w0 w' :=
  (on_alloc hb _).grown hg (by have := hb.size; simp; omega) (fun b e => Nat.le_trans hB (World.ownsRow.lt h b e).1)
end Go.Proofs.YtmoednmgmmgjeaaDoor.Kit

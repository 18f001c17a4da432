/- What the reference's Read of a decimal answers: for every text below 2^47 bytes. -/
import Derived.StillTailTactics
import Derived.Test.YtcampdedhfhkbaaDoorDigRef
import Derived.Test.YtcampdedhfhkbaaDoorKit4
namespace Go.Proofs.YtcampdedhfhkbaaDoor.Dig
open Go.RowKit Kit Dec

/-- the memory of a reader: the result's block, and the number's -/
def NumMem (w wr : World) (n : Int) (b : Bool) : Prop := Below w.heap.size w wr ∧ CellsAt wr w.heap.size [.int .i64 0, .bool false] ∧ CellsAt wr (w.heap.size + 1) [.int .i64 n, .bool b]
theorem NumMem.start (w : World) (n : Int) (b : Bool) : NumMem w ((w.alloc (.cells #[.int .i64 0, .bool false] 46)).alloc (.cells #[.int .i64 n, .bool b] 46)) n b := by
  refine ⟨below2 _ _ _, (CellsAt.new w [.int .i64 0, .bool false] _).on_alloc _, ?_⟩
  have h := CellsAt.new (w.alloc (.cells #[.int .i64 0, .bool false] 46)) [.int .i64 n, .bool b] 46
  rw [show (w.alloc (.cells #[.int .i64 0, .bool false] 46)).heap.size = w.heap.size + 1 by simp] at h
  exact h
theorem NumMem.on {w wr wr' : World} {q : Int} {b : Bool} (h : NumMem w wr q b) (hb : Below wr.heap.size wr wr') : NumMem w wr' q b :=
  ⟨Kit.on h.1 hb, h.2.1.on hb, h.2.2.on hb⟩
theorem NumMem.put {w wr : World} {q : Int} {b : Bool} (h : NumMem w wr q b) (n : Int) (k : Bool) : NumMem w (put2 wr (w.heap.size + 1) (.int .i64 n) (.bool k)) n k :=
  ⟨set2 h.1 (by omega) _ _, h.2.1.put2_far (by omega) _ _, h.2.2.put2 _ _⟩
theorem NumMem.put1 {w wr : World} {q : Int} {b : Bool} (h : NumMem w wr q b) (n : Int) : NumMem w (wr.setCell ⟨w.heap.size + 1, 0, none⟩ (.int .i64 n)) n b :=
  ⟨set1 h.1 (by omega) _, h.2.1.far (p := ⟨w.heap.size + 1, 0, none⟩) (by show w.heap.size + 1 ≠ w.heap.size; omega) _, h.2.2.set (i := 0) (by simp) _⟩
theorem drew_b (w : World) : Below w.heap.size w w.drew := ⟨rfl, rfl, rfl, Nat.le_refl _, fun _ _ => rfl⟩
theorem readB_none_end {neg : Bool} {l : List UInt8} {n : Int} {k : Bool} (h : readB neg l = (n, k)) (h2 : readB neg l = (0, false)) : n = 0 ∧ k = false := Prod.mk.inj (h.symm.trans h2)
end Go.Proofs.YtcampdedhfhkbaaDoor.Dig

/- Words for the statement LabelLattice's own walk: what the walk keeps of five labels. No condition; nothing of the law is proved here yet. -/
import Derived.Test.YtcgpggknmhlnkaaDoorPp18
import Derived.Lib.QuietBelow
import Derived.Deep.QuietTactic
import Derived.BigQuiet
import Derived.Deep.DeepCutAuto
namespace Go.Proofs.YtcgpggknmhlnkaaDoor.Cats
open Go.RowKit
def mayL (l : Int) : Bool := decide (0 ≤ l) && decide (l ≤ 15)

theorem hb_cell {B : Nat} {w w' : World} (h : Below B w w') (p : Addr) (hp : p.block < B) : w'.cell? p = w.cell? p := h.cell hp
/-- what the walk keeps of the three arguments, of their join and of their meet -/
def Labs (N A B C J M : Nat) (la lb lc lj lm : Int) (sa sb sc sj sm : Nat) (w0 W : World) : Prop :=
  Below w0.heap.size w0 W ∧ N ≤ W.heap.size ∧ W.cell? ⟨A, 0, none⟩ = some (.int .i64 la) ∧ W.cell? ⟨A, 1, none⟩ = some (.int .u64 sa) ∧ W.cell? ⟨B, 0, none⟩ = some (.int .i64 lb) ∧ W.cell? ⟨B, 1, none⟩ = some (.int .u64 sb) ∧ W.cell? ⟨C, 0, none⟩ = some (.int .i64 lc) ∧ W.cell? ⟨C, 1, none⟩ = some (.int .u64 sc) ∧ W.cell? ⟨J, 0, none⟩ = some (.int .i64 lj) ∧ W.cell? ⟨J, 1, none⟩ = some (.int .u64 sj) ∧ W.cell? ⟨M, 0, none⟩ = some (.int .i64 lm) ∧ W.cell? ⟨M, 1, none⟩ = some (.int .u64 sm)
theorem Labs.keep {N A B C J M : Nat} {la lb lc lj lm : Int} {sa sb sc sj sm : Nat} {w0 W W' : World} (h : Labs N A B C J M la lb lc lj lm sa sb sc sj sm w0 W) (hA : A < N) (hB : B < N) (hC : C < N) (hJ : J < N) (hM : M < N) (hb : Below W.heap.size W W') : Labs N A B C J M la lb lc lj lm sa sb sc sj sm w0 W' := by
  obtain ⟨h0, hN, a0, a1, b0, b1, c0, c1, j0, j1, m0, m1⟩ := h
  refine ⟨h0.trans (hb.mono h0.size), Nat.le_trans hN hb.size, ?_, ?_, ?_, ?_, ?_, ?_, ?_, ?_, ?_, ?_⟩
  · rw [hb.cell (p := ⟨A, 0, none⟩) (by simp; omega)]; exact a0
  · rw [hb.cell (p := ⟨A, 1, none⟩) (by simp; omega)]; exact a1
  · rw [hb.cell (p := ⟨B, 0, none⟩) (by simp; omega)]; exact b0
  · rw [hb.cell (p := ⟨B, 1, none⟩) (by simp; omega)]; exact b1
  · rw [hb.cell (p := ⟨C, 0, none⟩) (by simp; omega)]; exact c0
  · rw [hb.cell (p := ⟨C, 1, none⟩) (by simp; omega)]; exact c1
  · rw [hb.cell (p := ⟨J, 0, none⟩) (by simp; omega)]; exact j0
  · rw [hb.cell (p := ⟨J, 1, none⟩) (by simp; omega)]; exact j1
  · rw [hb.cell (p := ⟨M, 0, none⟩) (by simp; omega)]; exact m0
  · rw [hb.cell (p := ⟨M, 1, none⟩) (by simp; omega)]; exact m1
theorem three_boxes {w w1 : World} {x0 x1 y0 y1 z0 z1 : Value} {ty : TypeId}
    (b1 : Below (((w.alloc (.cells #[x0, x1] ty)).alloc (.cells #[y0, y1] ty)).alloc (.cells #[z0, z1] ty)).heap.size (((w.alloc (.cells #[x0, x1] ty)).alloc (.cells #[y0, y1] ty)).alloc (.cells #[z0, z1] ty)) w1) :
    w1.cell? ⟨w.heap.size, 0, none⟩ = some x0 ∧ w1.cell? ⟨w.heap.size, 1, none⟩ = some x1 ∧ w1.cell? ⟨w.heap.size + 1, 0, none⟩ = some y0 ∧ w1.cell? ⟨w.heap.size + 1, 1, none⟩ = some y1 ∧
      w1.cell? ⟨w.heap.size + 2, 0, none⟩ = some z0 ∧ w1.cell? ⟨w.heap.size + 2, 1, none⟩ = some z1 := by
  have e1 : w.heap.size + 1 = (w.alloc (.cells #[x0, x1] ty)).heap.size := by simp
  have e2 : w.heap.size + 2 = ((w.alloc (.cells #[x0, x1] ty)).alloc (.cells #[y0, y1] ty)).heap.size := by simp
  refine ⟨?_, ?_, ?_, ?_, ?_, ?_⟩
  · rw [hb_cell b1 _ (by first | (simp; done) | (simp; omega)), World.cell?_alloc_lt _ _ _ (by first | (simp; done) | (simp; omega)), World.cell?_alloc_lt _ _ _ (by simp), World.cell?_alloc_at _ _ _ _ rfl]; rfl
  · rw [hb_cell b1 _ (by first | (simp; done) | (simp; omega)), World.cell?_alloc_lt _ _ _ (by first | (simp; done) | (simp; omega)), World.cell?_alloc_lt _ _ _ (by simp), World.cell?_alloc_at _ _ _ _ rfl]; rfl
  · rw [hb_cell b1 _ (by first | (simp; done) | (simp; omega)), World.cell?_alloc_lt _ _ _ (by simp), World.cell?_alloc_at _ _ _ _ e1]; rfl
  · rw [hb_cell b1 _ (by first | (simp; done) | (simp; omega)), World.cell?_alloc_lt _ _ _ (by simp), World.cell?_alloc_at _ _ _ _ e1]; rfl
  · rw [hb_cell b1 _ (by first | (simp; done) | (simp; omega)), World.cell?_alloc_at _ _ _ _ e2]; rfl
  · rw [hb_cell b1 _ (by first | (simp; done) | (simp; omega)), World.cell?_alloc_at _ _ _ _ e2]; rfl
theorem Labs.start {w w1 w2 : World} {la lb lc lj lm : Int} {sa sb sc sj sm : Nat} {ty : TypeId}
    (b1 : Below (((w.alloc (.cells #[.int .i64 la, .int .u64 sa] ty)).alloc (.cells #[.int .i64 lb, .int .u64 sb] ty)).alloc (.cells #[.int .i64 lc, .int .u64 sc] ty)).heap.size (((w.alloc (.cells #[.int .i64 la, .int .u64 sa] ty)).alloc (.cells #[.int .i64 lb, .int .u64 sb] ty)).alloc (.cells #[.int .i64 lc, .int .u64 sc] ty)) w1)
    (b2 : Below (w1.alloc (.cells #[.int .i64 lj, .int .u64 sj] ty)).heap.size (w1.alloc (.cells #[.int .i64 lj, .int .u64 sj] ty)) w2) :
    Labs (w2.heap.size + 1) w.heap.size (w.heap.size + 1) (w.heap.size + 1 + 1) w1.heap.size w2.heap.size la lb lc lj lm sa sb sc sj sm w (w2.alloc (.cells #[.int .i64 lm, .int .u64 sm] ty)) := by
  obtain ⟨a0, a1, a2, a3, a4, a5⟩ := three_boxes b1
  have s1 := b1.size
  have s2 := b2.size
  simp at s1 s2
  have bw : Below w.heap.size w w1 := (below3 w _ _ _).trans (b1.mono (by simp; omega))
  have bw2 : Below w.heap.size w w2 := (bw.alloc bw.size _).trans (b2.mono (by simp; omega))
  have go1 : ∀ {p : Addr} {v : Value}, p.block < w1.heap.size → w1.cell? p = some v → (w2.alloc (.cells #[.int .i64 lm, .int .u64 sm] ty)).cell? p = some v := fun hp h => by
    rw [World.cell?_alloc_lt _ _ _ (by omega), hb_cell b2 _ (by simp; omega), World.cell?_alloc_lt _ _ _ hp, h]
  refine ⟨bw2.alloc bw2.size _, by simp, go1 (by simp; omega) a0, go1 (by simp; omega) a1, go1 (by simp; omega) a2, go1 (by simp; omega) a3, go1 (by simp; omega) a4, go1 (by simp; omega) a5, ?_, ?_, ?_, ?_⟩
  · rw [World.cell?_alloc_lt _ _ _ (by simp; omega), hb_cell b2 _ (by simp), World.cell?_alloc_at _ _ _ _ rfl]; rfl
  · rw [World.cell?_alloc_lt _ _ _ (by simp; omega), hb_cell b2 _ (by simp), World.cell?_alloc_at _ _ _ _ rfl]; rfl
  · rw [World.cell?_alloc_at _ _ _ _ rfl]; rfl
  · rw [World.cell?_alloc_at _ _ _ _ rfl]; rfl

end Go.Proofs.YtcgpggknmhlnkaaDoor.Cats

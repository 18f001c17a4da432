/- Words for the statement LabelLattice's own walk: what the walk keeps of five labels. No condition; nothing of the law is proved here yet.
   What the program's small functions on labels answer: for every label, whatever its level. -/
import Derived.Test.YtcgpggknmhlnkaaDoorPs17
import Derived.Lib.QuietBelow
import Derived.Deep.QuietTactic
import Derived.BigQuiet
import Derived.Deep.DeepCutAuto
namespace Go.Proofs.YtcgpggknmhlnkaaDoor.Cats
open Go.RowKit
def mayL (l : Int) : Bool := decide (0 ≤ l) && decide (l ≤ 15)

theorem hb_cell {B : Nat} {w w' : World} (h : Below B w w') (p : Addr) (hp : p.block < B) : w'.cell? p = w.cell? p := h.cell hp
/-- what the walk keeps of the three arguments, of their join and of their meet -/
def Labs (N A B C J M : Nat) (la lb lc lj lm : Int) (sa sb sc sj sm : Nat) (w0 W : World) : Prop :=
  Below w0.heap.size w0 W ∧ N ≤ W.heap.size ∧ W.cell? ⟨A, 0, none⟩ = some (.int .i64 la) ∧ W.cell? ⟨A, 1, none⟩ = some (.int .u64 sa) ∧ W.cell? ⟨B, 0, none⟩ = some (.int .i64 lb) ∧ W.cell? ⟨B, 1, none⟩ = some (.int .u64 sb) ∧ W.cell? ⟨C, 0, none⟩ = some (.int .i64 lc) ∧ W.cell? ⟨C, 1, none⟩ = some (.int .u64 sc) ∧ W.cell? ⟨J, 0, none⟩ = some (.int .i64 lj) ∧ W.cell? ⟨J, 1, none⟩ = some (.int .u64 sj) ∧ W.cell? ⟨M, 0, none⟩ = some (.int .i64 lm) ∧ W.cell? ⟨M, 1, none⟩ = some (.int .u64 sm)
theorem Labs.keep {N A B C J M : Nat} {la lb lc lj lm : Int} {sa sb sc sj sm : Nat} {w0 W W' : World} (h : Labs N A B C J M la lb lc lj lm sa sb sc sj sm w0 W) (hA : A < N) (hB : B < N) (hC : C < N) (hJ : J < N) (hM : M < N) (hb : Below W.heap.size W W') : Labs N A B C J M la lb lc lj lm sa sb sc sj sm w0 W' := by
  obtain ⟨h0, hN, a0, a1, b0, b1, c0, c1, j0, j1, m0, m1⟩ := h
  refine ⟨h0.trans (hb.mono h0.size), Nat.le_trans hN hb.size, ?_, ?_, ?_, ?_, ?_, ?_, ?_, ?_, ?_, ?_⟩
  · rw [hb.cell (p := ⟨A, 0, none⟩) (by simp; omega)]; exact a0
  · rw [hb.cell (p := ⟨A, 1, none⟩) (by simp; omega)]; exact a1
  · rw [hb.cell (p := ⟨B, 0, none⟩) (by simp; omega)]; exact b0
  · rw [hb.cell (p := ⟨B, 1, none⟩) (by simp; omega)]; exact b1
  · rw [hb.cell (p := ⟨C, 0, none⟩) (by simp; omega)]; exact c0
  · rw [hb.cell (p := ⟨C, 1, none⟩) (by simp; omega)]; exact c1
  · rw [hb.cell (p := ⟨J, 0, none⟩) (by simp; omega)]; exact j0
  · rw [hb.cell (p := ⟨J, 1, none⟩) (by simp; omega)]; exact j1
  · rw [hb.cell (p := ⟨M, 0, none⟩) (by simp; omega)]; exact m0
  · rw [hb.cell (p := ⟨M, 1, none⟩) (by simp; omega)]; exact m1
theorem three_boxes {w w1 : World} {x0 x1 y0 y1 z0 z1 : Value} {ty : TypeId}
    (b1 : Below (((w.alloc (.cells #[x0, x1] ty)).alloc (.cells #[y0, y1] ty)).alloc (.cells #[z0, z1] ty)).heap.size (((w.alloc (.cells #[x0, x1] ty)).alloc (.cells #[y0, y1] ty)).alloc (.cells #[z0, z1] ty)) w1) :
    w1.cell? ⟨w.heap.size, 0, none⟩ = some x0 ∧ w1.cell? ⟨w.heap.size, 1, none⟩ = some x1 ∧ w1.cell? ⟨w.heap.size + 1, 0, none⟩ = some y0 ∧ w1.cell? ⟨w.heap.size + 1, 1, none⟩ = some y1 ∧
      w1.cell? ⟨w.heap.size + 2, 0, none⟩ = some z0 ∧ w1.cell? ⟨w.heap.size + 2, 1, none⟩ = some z1 := by
  have e1 : w.heap.size + 1 = (w.alloc (.cells #[x0, x1] ty)).heap.size := by simp
  have e2 : w.heap.size + 2 = ((w.alloc (.cells #[x0, x1] ty)).alloc (.cells #[y0, y1] ty)).heap.size := by simp
  refine ⟨?_, ?_, ?_, ?_, ?_, ?_⟩
  · rw [hb_cell b1 _ (by first | (simp; done) | (simp; omega)), World.cell?_alloc_lt _ _ _ (by first | (simp; done) | (simp; omega)), World.cell?_alloc_lt _ _ _ (by simp), World.cell?_alloc_at _ _ _ _ rfl]; rfl
  · rw [hb_cell b1 _ (by first | (simp; done) | (simp; omega)), World.cell?_alloc_lt _ _ _ (by first | (simp; done) | (simp; omega)), World.cell?_alloc_lt _ _ _ (by simp), World.cell?_alloc_at _ _ _ _ rfl]; rfl
  · rw [hb_cell b1 _ (by first | (simp; done) | (simp; omega)), World.cell?_alloc_lt _ _ _ (by simp), World.cell?_alloc_at _ _ _ _ e1]; rfl
  · rw [hb_cell b1 _ (by first | (simp; done) | (simp; omega)), World.cell?_alloc_lt _ _ _ (by simp), World.cell?_alloc_at _ _ _ _ e1]; rfl
  · rw [hb_cell b1 _ (by first | (simp; done) | (simp; omega)), World.cell?_alloc_at _ _ _ _ e2]; rfl
  · rw [hb_cell b1 _ (by first | (simp; done) | (simp; omega)), World.cell?_alloc_at _ _ _ _ e2]; rfl
theorem Labs.start {w w1 w2 : World} {la lb lc lj lm : Int} {sa sb sc sj sm : Nat} {ty : TypeId}
    (b1 : Below (((w.alloc (.cells #[.int .i64 la, .int .u64 sa] ty)).alloc (.cells #[.int .i64 lb, .int .u64 sb] ty)).alloc (.cells #[.int .i64 lc, .int .u64 sc] ty)).heap.size (((w.alloc (.cells #[.int .i64 la, .int .u64 sa] ty)).alloc (.cells #[.int .i64 lb, .int .u64 sb] ty)).alloc (.cells #[.int .i64 lc, .int .u64 sc] ty)) w1)
    (b2 : Below (w1.alloc (.cells #[.int .i64 lj, .int .u64 sj] ty)).heap.size (w1.alloc (.cells #[.int .i64 lj, .int .u64 sj] ty)) w2) :
    Labs (w2.heap.size + 1) w.heap.size (w.heap.size + 1) (w.heap.size + 1 + 1) w1.heap.size w2.heap.size la lb lc lj lm sa sb sc sj sm w (w2.alloc (.cells #[.int .i64 lm, .int .u64 sm] ty)) := by
  obtain ⟨a0, a1, a2, a3, a4, a5⟩ := three_boxes b1
  have s1 := b1.size
  have s2 := b2.size
  simp at s1 s2
  have bw : Below w.heap.size w w1 := (below3 w _ _ _).trans (b1.mono (by simp; omega))
  have bw2 : Below w.heap.size w w2 := (bw.alloc bw.size _).trans (b2.mono (by simp; omega))
  have go1 : ∀ {p : Addr} {v : Value}, p.block < w1.heap.size → w1.cell? p = some v → (w2.alloc (.cells #[.int .i64 lm, .int .u64 sm] ty)).cell? p = some v := fun hp h => by
    rw [World.cell?_alloc_lt _ _ _ (by omega), hb_cell b2 _ (by simp; omega), World.cell?_alloc_lt _ _ _ hp, h]
  refine ⟨bw2.alloc bw2.size _, by simp, go1 (by simp; omega) a0, go1 (by simp; omega) a1, go1 (by simp; omega) a2, go1 (by simp; omega) a3, go1 (by simp; omega) a4, go1 (by simp; omega) a5, ?_, ?_, ?_, ?_⟩
  · rw [World.cell?_alloc_lt _ _ _ (by simp; omega), hb_cell b2 _ (by simp), World.cell?_alloc_at _ _ _ _ rfl]; rfl
  · rw [World.cell?_alloc_lt _ _ _ (by simp; omega), hb_cell b2 _ (by simp), World.cell?_alloc_at _ _ _ _ rfl]; rfl
  · rw [World.cell?_alloc_at _ _ _ _ rfl]; rfl
  · rw [World.cell?_alloc_at _ _ _ _ rfl]; rfl

end Go.Proofs.YtcgpggknmhlnkaaDoor.Cats
namespace Go.Proofs.YtcgpggknmhlnkaaDoor.Cats
open Go.RowKit
theorem mayL_yes {l : Int} (h0 : 0 ≤ l) (h1 : l ≤ 15) : mayL l = true := by simp [mayL, h0, h1]
theorem mayL_neg {l : Int} (h : l < 0) : mayL l = false := by simp [mayL]; omega
theorem mayL_big {l : Int} (h : 15 < l) : mayL l = false := by simp [mayL]; omega
set_option maxRecDepth 100000 in
set_option maxHeartbeats 1000000 in
theorem lmay_c (l : Int) (s : Nat) (b : Bool) (hb : mayL l = b) (w : World) : Calls Tryd.prog 54 #[.agg #[.int .i64 l, .int .u64 s]] w fun e w' => e = .returned (.bool b) ∧ Below w.heap.size w w' := by
  have HB := Lib.hid hb
  clear hb
  by_cases h0 : 0 ≤ l
  · by_cases h1 : l ≤ 15
    · go_enter Tryd.func54, Tryd.ntmps54
      go_wp2
      go_ret
      exact ⟨ret_bool (by rw [← HB.out, mayL_yes h0 h1]), below1 _ _⟩
    · go_enter Tryd.func54, Tryd.ntmps54
      go_wp2
      go_ret
      exact ⟨ret_bool (by rw [← HB.out, mayL_big (by omega)]), below1 _ _⟩
  · have hd : decide (0 ≤ l) = false := by simpa using h0
    go_enter Tryd.func54, Tryd.ntmps54
    go_wp2
    go_ret
    exact ⟨ret_bool (by rw [← HB.out, mayL_neg (by omega)]), below1 _ _⟩

set_option maxRecDepth 100000 in
set_option maxHeartbeats 1000000 in
theorem ltop_c (w : World) : Calls Tryd.prog 45 #[] w fun e w' => e = .returned (.agg #[.int .i64 15, .int .u64 (allN : Nat)]) ∧ Below w.heap.size w w' := by
  go_enter Tryd.func45, Tryd.ntmps45
  go_wp2
  exact bodyPost_ret (v := .agg #[.int .i64 15, .int .u64 (allN : Nat)]) (by simp [results, Tryd.results45, go_sem, allN]) rfl ⟨rfl, below1 _ _⟩

/-- a slice, nil too, that reads as a list of labels -/
def LabsR (w : World) (A : Option Addr) (n : Nat) (ls : List (Int × Nat)) : Prop :=
  ls.length = n ∧ n ≤ 140737488355328 ∧ (∀ x ∈ ls, U x.2) ∧ (n ≠ 0 → ∃ b o, A = some ⟨b, o, none⟩ ∧ b < w.heap.size ∧ ∀ k x, ls[k]? = some x → w.cell? ⟨b, o + k * 2, none⟩ = some (.int .i64 x.1) ∧ w.cell? ⟨b, o + k * 2 + 1, none⟩ = some (.int .u64 x.2))
theorem LabsR.grown {w w' : World} {A : Option Addr} {n : Nat} {ls : List (Int × Nat)} {B : Nat} (h : LabsR w A n ls) (hb : Below B w w') (hB : w.heap.size ≤ B) : LabsR w' A n ls := by
  obtain ⟨h1, h2, hu, h3⟩ := h
  refine ⟨h1, h2, hu, fun hn => ?_⟩
  obtain ⟨b, o, rfl, hlt, hc⟩ := h3 hn
  refine ⟨b, o, rfl, Nat.lt_of_lt_of_le hlt hb.size, fun k x hk => ?_⟩
  rw [hb.cell (p := ⟨b, o + k * 2, none⟩) (by simp; omega), hb.cell (p := ⟨b, o + k * 2 + 1, none⟩) (by simp; omega)]
  exact hc k x hk
/-- what the loop keeps: after k labels the variable holds their join -/
def AllAt (J : Nat) (w1 wr : World) (r : Int × Nat) : Prop :=
  Below J w1 wr ∧ J < wr.heap.size ∧ wr.cell? ⟨J, 0, none⟩ = some (.int .i64 r.1) ∧ wr.cell? ⟨J, 1, none⟩ = some (.int .u64 r.2) ∧ wr.frozen? ⟨J, 0, none⟩ = false ∧ wr.frozen? ⟨J, 1, none⟩ = false
theorem slot_kept2 {w w2 : World} {x y : Value} {ty : TypeId} (hb : Below (w.heap.size + 1) (w.alloc (.cells #[x, y] ty)) w2) :
    w2.cell? ⟨w.heap.size, 0, none⟩ = some x ∧ w2.cell? ⟨w.heap.size, 1, none⟩ = some y ∧ w2.frozen? ⟨w.heap.size, 0, none⟩ = false ∧ w2.frozen? ⟨w.heap.size, 1, none⟩ = false ∧ w.heap.size < w2.heap.size := by
  refine ⟨?_, ?_, ?_, ?_, ?_⟩
  · rw [hb.cell (p := ⟨w.heap.size, 0, none⟩) (by simp), World.cell?_alloc_at _ _ _ _ rfl]; rfl
  · rw [hb.cell (p := ⟨w.heap.size, 1, none⟩) (by simp), World.cell?_alloc_at _ _ _ _ rfl]; rfl
  · rw [hb.frozen (p := ⟨w.heap.size, 0, none⟩) (by simp)]; exact World.frozen?_alloc_at _ _ _ _ rfl
  · rw [hb.frozen (p := ⟨w.heap.size, 1, none⟩) (by simp)]; exact World.frozen?_alloc_at _ _ _ _ rfl
  · have := hb.size; simp at this; omega
theorem below_set2 {w w2 : World} {o : Obj} (hb : Below (w.heap.size + 1) (w.alloc o) w2) (u v : Value) : Below w.heap.size w ((w2.setCell ⟨w.heap.size, 0, none⟩ u).setCell ⟨w.heap.size, 1, none⟩ v) :=
  (((below1 w o).trans (Below.mono (B' := w.heap.size) hb (by omega))).setCell (p := ⟨w.heap.size, 0, none⟩) (Nat.le_refl _) u).setCell (p := ⟨w.heap.size, 1, none⟩) (Nat.le_refl _) v
theorem AllAt.start {w1 : World} {x y : Int} {s : Nat} {ty : TypeId} (_h : x = y) : AllAt w1.heap.size w1 (w1.alloc (.cells #[.int .i64 y, .int .u64 s] ty)) (y, s) := by
  refine ⟨below1 _ _, by simp, ?_, ?_, World.frozen?_alloc_at _ _ _ _ rfl, World.frozen?_alloc_at _ _ _ _ rfl⟩
  · rw [World.cell?_alloc_at _ _ _ _ rfl]; rfl
  · rw [World.cell?_alloc_at _ _ _ _ rfl]; rfl
theorem AllAt.put {J : Nat} {w1 w3 : World} {x : Int} {s : Nat} {u v : Value} (hB : Below J w1 w3) (hz : J < w3.heap.size) (t0 : ((w3.setCell ⟨J, 0, none⟩ u).setCell ⟨J, 1, none⟩ v).cell? ⟨J, 0, none⟩ = some (.int .i64 x))
    (t1 : ((w3.setCell ⟨J, 0, none⟩ u).setCell ⟨J, 1, none⟩ v).cell? ⟨J, 1, none⟩ = some (.int .u64 s)) (g0 : w3.frozen? ⟨J, 0, none⟩ = false) (g1 : w3.frozen? ⟨J, 1, none⟩ = false) : AllAt J w1 ((w3.setCell ⟨J, 0, none⟩ u).setCell ⟨J, 1, none⟩ v) (x, s) :=
  ⟨(hB.setCell (p := ⟨J, 0, none⟩) (Nat.le_refl _) u).setCell (p := ⟨J, 1, none⟩) (Nat.le_refl _) v, by simpa [World.setCell] using hz, t0, t1, by simpa [go_sem] using g0, by simpa [go_sem] using g1⟩
end Go.Proofs.YtcgpggknmhlnkaaDoor.Cats

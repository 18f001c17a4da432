/- Words for the statement LabelLattice's own walk: what the walk keeps of five labels. No condition; nothing of the law is proved here yet.
   What the program's small functions on labels answer: for every label, whatever its level.
   What the program's Text of a label answers: for every label.
   What strings.Cut answers at a separator of one byte: for every text within the form's reach. -/
import Derived.Lib.QuietBelow
import Derived.Deep.QuietTactic
import Derived.BigQuiet
import Derived.Deep.DeepCutAuto
import Derived.Test.YtmlmanlcomfhbaaGreatDoorLabRefParse
import Derived.Test.YtmlmanlcomfhbaaGreatDoorGd
namespace Go.Proofs.YtmlmanlcomfhbaaGreatDoor.Cats
open Go.RowKit

def mayL (l : Int) : Bool := decide (0 ≤ l) && decide (l ≤ 15)

theorem hb_cell {B : Nat} {w w' : World} (h : Below B w w') (p : Addr) (hp : p.block < B) : w'.cell? p = w.cell? p := h.cell hp
/-- what the walk keeps of the three arguments, of their join and of their meet -/
def Labs (N A B C J M : Nat) (la lb lc lj lm : Int) (sa sb sc sj sm : Nat) (w0 W : World) : Prop :=
  Below w0.heap.size w0 W ∧ N ≤ W.heap.size ∧ W.cell? ⟨A, 0, none⟩ = some (.int .i64 la) ∧ W.cell? ⟨A, 1, none⟩ = some (.int .u64 sa) ∧ W.cell? ⟨B, 0, none⟩ = some (.int .i64 lb) ∧ W.cell? ⟨B, 1, none⟩ = some (.int .u64 sb) ∧ W.cell? ⟨C, 0, none⟩ = some (.int .i64 lc) ∧ W.cell? ⟨C, 1, none⟩ = some (.int .u64 sc) ∧ W.cell? ⟨J, 0, none⟩ = some (.int .i64 lj) ∧ W.cell? ⟨J, 1, none⟩ = some (.int .u64 sj) ∧ W.cell? ⟨M, 0, none⟩ = some (.int .i64 lm) ∧ W.cell? ⟨M, 1, none⟩ = some (.int .u64 sm)
theorem Labs.keep {N A B C J M : Nat} {la lb lc lj lm : Int} {sa sb sc sj sm : Nat} {w0 W W' : World} (h : Labs N A B C J M la lb lc lj lm sa sb sc sj sm w0 W) (hA : A < N) (hB : B < N) (hC : C < N) (hJ : J < N) (hM : M < N) (hb : Below W.heap.size W W') : Labs N A B C J M la lb lc lj lm sa sb sc sj sm w0 W' := by
  obtain ⟨h0, hN, a0, a1, b0, b1, c0, c1, j0, j1, m0, m1⟩ := h
  refine ⟨h0.trans (hb.mono h0.size), Nat.le_trans hN hb.size, ?_, ?_, ?_, ?_, ?_, ?_, ?_, ?_, ?_, ?_⟩
  · rw [hb.cell (p := ⟨A, 0, none⟩) (by simp; omega)]; exact a0
  · rw [hb.cell (p := ⟨A, 1, none⟩) (by simp; omega)]; exact a1
  · rw [hb.cell (p := ⟨B, 0, none⟩) (by simp; omega)]; exact b0
  · rw [hb.cell (p := ⟨B, 1, none⟩) (by simp; omega)]; exact b1
  · rw [hb.cell (p := ⟨C, 0, none⟩) (by simp; omega)]; exact c0
  · rw [hb.cell (p := ⟨C, 1, none⟩) (by simp; omega)]; exact c1
  · rw [hb.cell (p := ⟨J, 0, none⟩) (by simp; omega)]; exact j0
  · rw [hb.cell (p := ⟨J, 1, none⟩) (by simp; omega)]; exact j1
  · rw [hb.cell (p := ⟨M, 0, none⟩) (by simp; omega)]; exact m0
  · rw [hb.cell (p := ⟨M, 1, none⟩) (by simp; omega)]; exact m1
theorem three_boxes {w w1 : World} {x0 x1 y0 y1 z0 z1 : Value} {ty : TypeId}
    (b1 : Below (((w.alloc (.cells #[x0, x1] ty)).alloc (.cells #[y0, y1] ty)).alloc (.cells #[z0, z1] ty)).heap.size (((w.alloc (.cells #[x0, x1] ty)).alloc (.cells #[y0, y1] ty)).alloc (.cells #[z0, z1] ty)) w1) :
    w1.cell? ⟨w.heap.size, 0, none⟩ = some x0 ∧ w1.cell? ⟨w.heap.size, 1, none⟩ = some x1 ∧ w1.cell? ⟨w.heap.size + 1, 0, none⟩ = some y0 ∧ w1.cell? ⟨w.heap.size + 1, 1, none⟩ = some y1 ∧
      w1.cell? ⟨w.heap.size + 2, 0, none⟩ = some z0 ∧ w1.cell? ⟨w.heap.size + 2, 1, none⟩ = some z1 := by
  have e1 : w.heap.size + 1 = (w.alloc (.cells #[x0, x1] ty)).heap.size := by simp
  have e2 : w.heap.size + 2 = ((w.alloc (.cells #[x0, x1] ty)).alloc (.cells #[y0, y1] ty)).heap.size := by simp
  refine ⟨?_, ?_, ?_, ?_, ?_, ?_⟩
  · rw [hb_cell b1 _ (by first | (simp; done) | (simp; omega)), World.cell?_alloc_lt _ _ _ (by first | (simp; done) | (simp; omega)), World.cell?_alloc_lt _ _ _ (by simp), World.cell?_alloc_at _ _ _ _ rfl]; rfl
  · rw [hb_cell b1 _ (by first | (simp; done) | (simp; omega)), World.cell?_alloc_lt _ _ _ (by first | (simp; done) | (simp; omega)), World.cell?_alloc_lt _ _ _ (by simp), World.cell?_alloc_at _ _ _ _ rfl]; rfl
  · rw [hb_cell b1 _ (by first | (simp; done) | (simp; omega)), World.cell?_alloc_lt _ _ _ (by simp), World.cell?_alloc_at _ _ _ _ e1]; rfl
  · rw [hb_cell b1 _ (by first | (simp; done) | (simp; omega)), World.cell?_alloc_lt _ _ _ (by simp), World.cell?_alloc_at _ _ _ _ e1]; rfl
  · rw [hb_cell b1 _ (by first | (simp; done) | (simp; omega)), World.cell?_alloc_at _ _ _ _ e2]; rfl
  · rw [hb_cell b1 _ (by first | (simp; done) | (simp; omega)), World.cell?_alloc_at _ _ _ _ e2]; rfl
theorem pre_boxes {w w1 w2 : World} {x0 x1 y0 y1 z0 z1 u0 u1 : Value} {ty : TypeId}
    (b1 : Below (((w.alloc (.cells #[x0, x1] ty)).alloc (.cells #[y0, y1] ty)).alloc (.cells #[z0, z1] ty)).heap.size (((w.alloc (.cells #[x0, x1] ty)).alloc (.cells #[y0, y1] ty)).alloc (.cells #[z0, z1] ty)) w1)
    (b2 : Below (w1.alloc (.cells #[u0, u1] ty)).heap.size (w1.alloc (.cells #[u0, u1] ty)) w2) :
    (∀ o, (w2.alloc o).cell? ⟨w.heap.size, 0, none⟩ = some x0) ∧ (∀ o, (w2.alloc o).cell? ⟨w.heap.size, 1, none⟩ = some x1) ∧ (∀ o, (w2.alloc o).cell? ⟨w.heap.size + 1, 0, none⟩ = some y0) ∧ (∀ o, (w2.alloc o).cell? ⟨w.heap.size + 1, 1, none⟩ = some y1) ∧
      (∀ o, (w2.alloc o).cell? ⟨w.heap.size + 1 + 1, 0, none⟩ = some z0) ∧ (∀ o, (w2.alloc o).cell? ⟨w.heap.size + 1 + 1, 1, none⟩ = some z1) ∧ (∀ o, (w2.alloc o).cell? ⟨w1.heap.size, 0, none⟩ = some u0) ∧ (∀ o, (w2.alloc o).cell? ⟨w1.heap.size, 1, none⟩ = some u1) := by
  obtain ⟨a0, a1, a2, a3, a4, a5⟩ := three_boxes b1
  have s1 := b1.size
  have s2 := b2.size
  simp at s1 s2
  have go1 : ∀ {p : Addr} {v : Value}, p.block < w1.heap.size → w1.cell? p = some v → ∀ o, (w2.alloc o).cell? p = some v := fun hp h o => by
    rw [World.cell?_alloc_lt _ _ _ (by omega), hb_cell b2 _ (by simp; omega), World.cell?_alloc_lt _ _ _ hp, h]
  refine ⟨go1 (by simp; omega) a0, go1 (by simp; omega) a1, go1 (by simp; omega) a2, go1 (by simp; omega) a3, go1 (by simp; omega) a4, go1 (by simp; omega) a5, fun o => ?_, fun o => ?_⟩
  · rw [World.cell?_alloc_lt _ _ _ (by simp; omega), hb_cell b2 _ (by simp), World.cell?_alloc_at _ _ _ _ rfl]; rfl
  · rw [World.cell?_alloc_lt _ _ _ (by simp; omega), hb_cell b2 _ (by simp), World.cell?_alloc_at _ _ _ _ rfl]; rfl
theorem Labs.start {w w1 w2 : World} {la lb lc lj lm : Int} {sa sb sc sj sm : Nat} {ty : TypeId}
    (b1 : Below (((w.alloc (.cells #[.int .i64 la, .int .u64 sa] ty)).alloc (.cells #[.int .i64 lb, .int .u64 sb] ty)).alloc (.cells #[.int .i64 lc, .int .u64 sc] ty)).heap.size (((w.alloc (.cells #[.int .i64 la, .int .u64 sa] ty)).alloc (.cells #[.int .i64 lb, .int .u64 sb] ty)).alloc (.cells #[.int .i64 lc, .int .u64 sc] ty)) w1)
    (b2 : Below (w1.alloc (.cells #[.int .i64 lj, .int .u64 sj] ty)).heap.size (w1.alloc (.cells #[.int .i64 lj, .int .u64 sj] ty)) w2) :
    Labs (w2.heap.size + 1) w.heap.size (w.heap.size + 1) (w.heap.size + 1 + 1) w1.heap.size w2.heap.size la lb lc lj lm sa sb sc sj sm w (w2.alloc (.cells #[.int .i64 lm, .int .u64 sm] ty)) := by
  obtain ⟨a0, a1, a2, a3, a4, a5⟩ := three_boxes b1
  have s1 := b1.size
  have s2 := b2.size
  simp at s1 s2
  have bw : Below w.heap.size w w1 := (below3 w _ _ _).trans (b1.mono (by simp; omega))
  have bw2 : Below w.heap.size w w2 := (bw.alloc bw.size _).trans (b2.mono (by simp; omega))
  have go1 : ∀ {p : Addr} {v : Value}, p.block < w1.heap.size → w1.cell? p = some v → (w2.alloc (.cells #[.int .i64 lm, .int .u64 sm] ty)).cell? p = some v := fun hp h => by
    rw [World.cell?_alloc_lt _ _ _ (by omega), hb_cell b2 _ (by simp; omega), World.cell?_alloc_lt _ _ _ hp, h]
  refine ⟨bw2.alloc bw2.size _, by simp, go1 (by simp; omega) a0, go1 (by simp; omega) a1, go1 (by simp; omega) a2, go1 (by simp; omega) a3, go1 (by simp; omega) a4, go1 (by simp; omega) a5, ?_, ?_, ?_, ?_⟩
  · rw [World.cell?_alloc_lt _ _ _ (by simp; omega), hb_cell b2 _ (by simp), World.cell?_alloc_at _ _ _ _ rfl]; rfl
  · rw [World.cell?_alloc_lt _ _ _ (by simp; omega), hb_cell b2 _ (by simp), World.cell?_alloc_at _ _ _ _ rfl]; rfl
  · rw [World.cell?_alloc_at _ _ _ _ rfl]; rfl
  · rw [World.cell?_alloc_at _ _ _ _ rfl]; rfl

end Go.Proofs.YtmlmanlcomfhbaaGreatDoor.Cats
namespace Go.Proofs.YtmlmanlcomfhbaaGreatDoor.Cats
open Go.RowKit

theorem mayL_yes {l : Int} (h0 : 0 ≤ l) (h1 : l ≤ 15) : mayL l = true := by simp [mayL, h0, h1]
theorem mayL_neg {l : Int} (h : l < 0) : mayL l = false := by simp [mayL]; omega
theorem mayL_big {l : Int} (h : 15 < l) : mayL l = false := by simp [mayL]; omega
set_option maxRecDepth 100000 in
set_option maxHeartbeats 1000000 in
theorem lmay_c (l : Int) (s : Nat) (b : Bool) (hb : mayL l = b) (w : World) : Calls Tryz.prog 48 #[.agg #[.int .i64 l, .int .u64 s]] w fun e w' => e = .returned (.bool b) ∧ Below w.heap.size w w' := by
  have HB := Lib.hid hb
  clear hb
  by_cases h0 : 0 ≤ l
  · by_cases h1 : l ≤ 15
    · go_enter Tryz.func48, Tryz.ntmps48
      go_wp2
      go_ret
      exact ⟨ret_bool (by rw [← HB.out, mayL_yes h0 h1]), below1 _ _⟩
    · go_enter Tryz.func48, Tryz.ntmps48
      go_wp2
      go_ret
      exact ⟨ret_bool (by rw [← HB.out, mayL_big (by omega)]), below1 _ _⟩
  · have hd : decide (0 ≤ l) = false := by simpa using h0
    go_enter Tryz.func48, Tryz.ntmps48
    go_wp2
    go_ret
    exact ⟨ret_bool (by rw [← HB.out, mayL_neg (by omega)]), below1 _ _⟩

theorem joinI_max (a b : Int) : max a b = joinI a b := by unfold joinI; split <;> omega
theorem meetI_min (a b : Int) : min a b = meetI a b := by unfold meetI; split <;> omega
theorem or_int (a b : Nat) (ha : U a) (hb : U b) : bits .or .u64 (a : Int) (b : Int) = ((a ||| b : Nat) : Int) := u64_or_nat a b ha hb
theorem and_int (a b : Nat) (ha : U a) (hb : U b) : bits .and .u64 (a : Int) (b : Int) = ((a &&& b : Nat) : Int) := u64_and_nat a b ha hb
theorem pair_eq {a b c d : Int} (h : a = c) (k : b = d) : Value.agg #[.int .i64 a, .int .u64 b] = Value.agg #[.int .i64 c, .int .u64 d] := by rw [h, k]
theorem ret_pair {a b c d : Int} (h : a = c) (k : b = d) : Ending.returned (.agg #[.int .i64 a, .int .u64 b]) = .returned (.agg #[.int .i64 c, .int .u64 d]) := by rw [h, k]
set_option maxRecDepth 100000 in
set_option maxHeartbeats 1000000 in
theorem ltop_c (w : World) : Calls Tryz.prog 49 #[] w fun e w' => e = .returned (.agg #[.int .i64 15, .int .u64 (allN : Nat)]) ∧ Below w.heap.size w w' := by
  go_enter Tryz.func49, Tryz.ntmps49
  go_wp2
  exact bodyPost_ret (v := .agg #[.int .i64 15, .int .u64 (allN : Nat)]) (by simp [results, Tryz.results49, go_sem, allN]) rfl ⟨rfl, below1 _ _⟩

/-- a slice, nil too, that reads as a list of labels -/
def LabsR (w : World) (A : Option Addr) (n : Nat) (ls : List (Int × Nat)) : Prop :=
  ls.length = n ∧ n ≤ 140737488355328 ∧ (∀ x ∈ ls, U x.2) ∧ (n ≠ 0 → ∃ b o, A = some ⟨b, o, none⟩ ∧ b < w.heap.size ∧ ∀ k x, ls[k]? = some x → w.cell? ⟨b, o + k * 2, none⟩ = some (.int .i64 x.1) ∧ w.cell? ⟨b, o + k * 2 + 1, none⟩ = some (.int .u64 x.2))
theorem LabsR.grown {w w' : World} {A : Option Addr} {n : Nat} {ls : List (Int × Nat)} {B : Nat} (h : LabsR w A n ls) (hb : Below B w w') (hB : w.heap.size ≤ B) : LabsR w' A n ls := by
  obtain ⟨h1, h2, hu, h3⟩ := h
  refine ⟨h1, h2, hu, fun hn => ?_⟩
  obtain ⟨b, o, rfl, hlt, hc⟩ := h3 hn
  refine ⟨b, o, rfl, Nat.lt_of_lt_of_le hlt hb.size, fun k x hk => ?_⟩
  rw [hb.cell (p := ⟨b, o + k * 2, none⟩) (by simp; omega), hb.cell (p := ⟨b, o + k * 2 + 1, none⟩) (by simp; omega)]
  exact hc k x hk
/-- the join of the bottom and some labels -/
def allF (ls : List (Int × Nat)) : Int × Nat := ls.foldl (fun a x => (joinI a.1 x.1, a.2 ||| x.2)) (0, 0)
theorem allF_snoc (ls : List (Int × Nat)) (x : Int × Nat) : allF (ls ++ [x]) = (joinI (allF ls).1 x.1, (allF ls).2 ||| x.2) := by simp [allF, List.foldl_append]
theorem allF_U : ∀ (ls : List (Int × Nat)) (a : Int × Nat), U a.2 → (∀ x ∈ ls, U x.2) → U (ls.foldl (fun a x => (joinI a.1 x.1, a.2 ||| x.2)) a).2
  | [], _, ha, _ => ha
  | x :: r, a, ha, h => allF_U r _ (U_or ha (h x (by simp))) fun y hy => h y (by simp [hy])
/-- what the loop keeps: after k labels the variable holds their join -/
def AllAt (J : Nat) (w1 wr : World) (r : Int × Nat) : Prop :=
  Below J w1 wr ∧ J < wr.heap.size ∧ wr.cell? ⟨J, 0, none⟩ = some (.int .i64 r.1) ∧ wr.cell? ⟨J, 1, none⟩ = some (.int .u64 r.2) ∧ wr.frozen? ⟨J, 0, none⟩ = false ∧ wr.frozen? ⟨J, 1, none⟩ = false
theorem slot_kept2 {w w2 : World} {x y : Value} {ty : TypeId} (hb : Below (w.heap.size + 1) (w.alloc (.cells #[x, y] ty)) w2) :
    w2.cell? ⟨w.heap.size, 0, none⟩ = some x ∧ w2.cell? ⟨w.heap.size, 1, none⟩ = some y ∧ w2.frozen? ⟨w.heap.size, 0, none⟩ = false ∧ w2.frozen? ⟨w.heap.size, 1, none⟩ = false ∧ w.heap.size < w2.heap.size := by
  refine ⟨?_, ?_, ?_, ?_, ?_⟩
  · rw [hb.cell (p := ⟨w.heap.size, 0, none⟩) (by simp), World.cell?_alloc_at _ _ _ _ rfl]; rfl
  · rw [hb.cell (p := ⟨w.heap.size, 1, none⟩) (by simp), World.cell?_alloc_at _ _ _ _ rfl]; rfl
  · rw [hb.frozen (p := ⟨w.heap.size, 0, none⟩) (by simp)]; exact World.frozen?_alloc_at _ _ _ _ rfl
  · rw [hb.frozen (p := ⟨w.heap.size, 1, none⟩) (by simp)]; exact World.frozen?_alloc_at _ _ _ _ rfl
  · have := hb.size; simp at this; omega
theorem below_set2 {w w2 : World} {o : Obj} (hb : Below (w.heap.size + 1) (w.alloc o) w2) (u v : Value) : Below w.heap.size w ((w2.setCell ⟨w.heap.size, 0, none⟩ u).setCell ⟨w.heap.size, 1, none⟩ v) :=
  (((below1 w o).trans (Below.mono (B' := w.heap.size) hb (by omega))).setCell (p := ⟨w.heap.size, 0, none⟩) (Nat.le_refl _) u).setCell (p := ⟨w.heap.size, 1, none⟩) (Nat.le_refl _) v
theorem AllAt.start {w1 : World} {x y : Int} {s : Nat} {ty : TypeId} (_h : x = y) : AllAt w1.heap.size w1 (w1.alloc (.cells #[.int .i64 y, .int .u64 s] ty)) (y, s) := by
  refine ⟨below1 _ _, by simp, ?_, ?_, World.frozen?_alloc_at _ _ _ _ rfl, World.frozen?_alloc_at _ _ _ _ rfl⟩
  · rw [World.cell?_alloc_at _ _ _ _ rfl]; rfl
  · rw [World.cell?_alloc_at _ _ _ _ rfl]; rfl
theorem AllAt.put {J : Nat} {w1 w3 : World} {x : Int} {s : Nat} {u v : Value} (hB : Below J w1 w3) (hz : J < w3.heap.size) (t0 : ((w3.setCell ⟨J, 0, none⟩ u).setCell ⟨J, 1, none⟩ v).cell? ⟨J, 0, none⟩ = some (.int .i64 x))
    (t1 : ((w3.setCell ⟨J, 0, none⟩ u).setCell ⟨J, 1, none⟩ v).cell? ⟨J, 1, none⟩ = some (.int .u64 s)) (g0 : w3.frozen? ⟨J, 0, none⟩ = false) (g1 : w3.frozen? ⟨J, 1, none⟩ = false) : AllAt J w1 ((w3.setCell ⟨J, 0, none⟩ u).setCell ⟨J, 1, none⟩ v) (x, s) :=
  ⟨(hB.setCell (p := ⟨J, 0, none⟩) (Nat.le_refl _) u).setCell (p := ⟨J, 1, none⟩) (Nat.le_refl _) v, by simpa [World.setCell] using hz, t0, t1, by simpa [go_sem] using g0, by simpa [go_sem] using g1⟩
end Go.Proofs.YtmlmanlcomfhbaaGreatDoor.Cats
namespace Go.Proofs.YtmlmanlcomfhbaaGreatDoor.Cats
open Go.RowKit

theorem box_kept {w w1 : World} {x y : Value} {ty : TypeId} (hb : Below (w.alloc (.cells #[x, y] ty)).heap.size (w.alloc (.cells #[x, y] ty)) w1) :
    w1.cell? ⟨w.heap.size, 0, none⟩ = some x ∧ w1.cell? ⟨w.heap.size, 1, none⟩ = some y ∧ w.heap.size < w1.heap.size ∧ Below w.heap.size w w1 := by
  obtain ⟨c0, c1, _, _, hz⟩ := slot_kept2 (w := w) (hb.mono (by simp))
  exact ⟨c0, c1, hz, (below1 w _).trans (Below.mono (B' := w.heap.size) hb (by simp))⟩
set_option maxRecDepth 100000 in
set_option maxHeartbeats 1000000 in
theorem ltext_out (l : Int) (s : Nat) (h : mayL l = false) (w : World) : Calls Tryz.prog 29 #[.agg #[.int .i64 l, .int .u64 s]] w fun e w' => e = .returned (.string ⟨#[]⟩) ∧ Below w.heap.size w w' := by
  have Hm := Lib.hid (fun w1 => lmay_c l s false h w1)
  clear h
  go_enter Tryz.func29, Tryz.ntmps29
  go_wp2_with fail
  refine (Hm.out _).mono ?_
  rintro e w1 ⟨rfl, hb0⟩
  obtain ⟨_, _, _, hb⟩ := box_kept (w := w) hb0
  clear hb0
  go_wp2
  go_ret
  exact ⟨rfl, hb⟩
set_option maxRecDepth 100000 in
set_option maxHeartbeats 2000000 in
theorem ltext_top (l : Int) (s : Nat) (h : mayL l = true) (hl : (l == 15) = true) (hs : ((s : Int) == (allN : Int)) = true) (w : World) : Calls Tryz.prog 29 #[.agg #[.int .i64 l, .int .u64 s]] w fun e w' => e = .returned (.string ⟨#[116, 111, 112]⟩) ∧ Below w.heap.size w w' := by
  have Hm := Lib.hid (fun w1 => lmay_c l s true h w1)
  have Ht := Lib.hid (fun w1 => ltop_c w1)
  clear h
  generalize allN = N at *
  go_enter Tryz.func29, Tryz.ntmps29
  go_wp2_with fail
  refine (Hm.out _).mono ?_
  rintro e w1 ⟨rfl, hb0⟩
  obtain ⟨c0, c1, hz, hbw⟩ := box_kept (w := w) hb0
  clear hb0
  go_wp2_with fail
  go_region_held3 (fun w' => w'.cell? ⟨w.heap.size, 0, none⟩ = some (.int .i64 l) ∧ w'.cell? ⟨w.heap.size, 1, none⟩ = some (.int .u64 s))
    (first | go_keep | (go_split_ands; refine ⟨?_, ?_⟩ <;> (rw [hb.cell (by simp; omega)]; assumption)))
    (first | (go_at_call 49; refine (Ht.out _).mono ?_; rintro e w' ⟨rfl, hb⟩))
  have hb1 : Below w.heap.size w w' := hbw.drew.trans (Below.mono (B' := w.heap.size) hb (by simp; omega))
  clear hb
  go_wp2
  go_ret
  exact ⟨rfl, hb1⟩

/-- the region behind Top's call, and the digits -/
theorem ltext_split {k s N : Nat} (h : ¬ ((k : Int) = 15 ∧ s = N)) : ((k : Int) == 15) = false ∨ (((k : Int) == 15) = true ∧ ((s : Int) == (N : Int)) = false) := by
  by_cases h1 : (k : Int) = 15
  · exact .inr ⟨by simpa using h1, by rw [cast_beq]; simpa using fun e => h ⟨h1, e⟩⟩
  · exact .inl (by simpa using h1)
set_option maxRecDepth 100000 in
set_option maxHeartbeats 4000000 in
theorem ltext_in (k s : Nat) (h1 : k ≤ 15) (hsU : U s) (hnt : ¬ ((k : Int) = 15 ∧ s = allN)) (w : World) : Calls Tryz.prog 29 #[.agg #[.int .i64 k, .int .u64 s]] w fun e w' => e = .returned (.string ⟨(if s = 0 then digs k else digs k ++ 58 :: textL s).toArray⟩) ∧ Below w.heap.size w w' := by
  have Hm := Lib.hid (fun w1 => lmay_c (k : Int) s true (mayL_yes (by omega) (by omega)) w1)
  have Ht := Lib.hid (fun w1 => ltop_c w1)
  have Hd := Lib.hid (fun w1 => itoa_c k (by omega) w1)
  have Hx := Lib.hid (fun w1 => text_c s hsU w1)
  have hdl := digs_length k
  have htl := textL_length s
  have hsp := ltext_split hnt
  clear hsU hnt
  generalize allN = N at *
  rcases hsp with hne | ⟨hne, hne2⟩
  all_goals
    by_cases hz0 : s = 0
    · have hs2 : ((s : Int) == 0) = true := by simp [hz0]
      rw [if_pos hz0]
      clear hz0
      go_enter Tryz.func29, Tryz.ntmps29
      go_wp2_with fail
      refine (Hm.out _).mono ?_
      rintro e w1 ⟨rfl, hb0⟩
      obtain ⟨c0, c1, hz, hbw⟩ := box_kept (w := w) hb0
      clear hb0
      go_wp2_with fail
      go_region_held3 (fun w' => w'.cell? ⟨w.heap.size, 0, none⟩ = some (.int .i64 k) ∧ w'.cell? ⟨w.heap.size, 1, none⟩ = some (.int .u64 s))
        (first | go_keep | (go_split_ands; refine ⟨?_, ?_⟩ <;> (rw [hb.cell (by simp; omega)]; assumption)))
        (first | (go_at_call 49; refine (Ht.out _).mono ?_; rintro e w' ⟨rfl, hb⟩))
      have hb1 : Below w.heap.size w w' := hbw.drew.trans (Below.mono (B' := w.heap.size) hb (by simp; omega))
      clear hb
      go_wp2_with fail
      refine (Hd.out _).mono ?_
      rintro e w2 ⟨rfl, rfl⟩
      go_wp2
      go_ret
      exact ⟨rfl, hb1⟩
    · have hs2 : ((s : Int) == 0) = false := by simp [hz0]
      rw [if_neg hz0]
      clear hz0
      go_enter Tryz.func29, Tryz.ntmps29
      go_wp2_with fail
      refine (Hm.out _).mono ?_
      rintro e w1 ⟨rfl, hb0⟩
      obtain ⟨c0, c1, hz, hbw⟩ := box_kept (w := w) hb0
      clear hb0
      go_wp2_with fail
      go_region_held3 (fun w' => w'.cell? ⟨w.heap.size, 0, none⟩ = some (.int .i64 k) ∧ w'.cell? ⟨w.heap.size, 1, none⟩ = some (.int .u64 s))
        (first | go_keep | (go_split_ands; refine ⟨?_, ?_⟩ <;> (rw [hb.cell (by simp; omega)]; assumption)))
        (first | (go_at_call 49; refine (Ht.out _).mono ?_; rintro e w' ⟨rfl, hb⟩))
      have hb1 : Below w.heap.size w w' := hbw.drew.trans (Below.mono (B' := w.heap.size) hb (by simp; omega))
      clear hb
      go_wp2_with fail
      refine (Hd.out _).mono ?_
      rintro e w2 ⟨rfl, rfl⟩
      go_wp2_with fail
      refine (Hx.out _).mono ?_
      rintro e w4 ⟨rfl, hb4⟩
      have hb5 := hb1.trans (hb4.mono hb1.size)
      clear hb4
      go_wp2
      go_ret
      exact ⟨congrArg (fun x => Ending.returned (.string x)) (mk_three (digs k) [58] (textL s)), hb5⟩
theorem ltext_c (l : Int) (s : Nat) (hs : U s) (w : World) : Calls Tryz.prog 29 #[.agg #[.int .i64 l, .int .u64 s]] w fun e w' => e = .returned (.string ⟨(labT l s).toArray⟩) ∧ Below w.heap.size w w' := by
  unfold labT
  by_cases ho : l < 0 ∨ 15 < l
  · rw [if_pos ho]
    exact ltext_out l s (by rcases ho with h | h; exact mayL_neg h; exact mayL_big h) w
  · rw [if_neg ho]
    obtain ⟨k, rfl⟩ := Int.eq_ofNat_of_zero_le (show 0 ≤ l by omega)
    by_cases ht : (k : Int) = 15 ∧ s = allN
    · rw [if_pos ht]
      exact ltext_top k s (mayL_yes (by omega) (by omega)) (by simpa using ht.1) (by rw [cast_beq]; simpa using ht.2) w
    · rw [if_neg ht, Int.toNat_natCast]
      exact ltext_in k s (by omega) hs ht w
end Go.Proofs.YtmlmanlcomfhbaaGreatDoor.Cats
namespace Go.Proofs.YtmlmanlcomfhbaaGreatDoor.Cats
open Go.RowKit

/-- what stands ahead of the first byte c, and what stands behind it -/
def cutAt (c : UInt8) : List UInt8 → Option (List UInt8 × List UInt8)
  | [] => none
  | x :: r => if x = c then some ([], r) else (cutAt c r).map fun p => (x :: p.1, p.2)
theorem cutAt_index (c : UInt8) (l : List UInt8) : (Lib.indexByte l c = -1 ∧ cutAt c l = none) ∨ ∃ i : Nat, Lib.indexByte l c = i ∧ i + 1 ≤ l.length ∧ cutAt c l = some (l.take i, l.drop (i + 1)) := by
  induction l with
  | nil => exact .inl ⟨rfl, rfl⟩
  | cons x r ih =>
    unfold Lib.indexByte cutAt
    by_cases hc : x = c
    · subst hc
      exact .inr ⟨0, by simp, by simp, by simp⟩
    · have hb : (x == c) = false := by simpa using hc
      rcases ih with ⟨h1, h2⟩ | ⟨i, h1, h2, h3⟩
      · exact .inl ⟨by simp [hb, h1], by simp [hc, h2]⟩
      · refine .inr ⟨i + 1, ?_, by simp; omega, by simp [hc, h3]⟩
        rw [h1]
        have : ((i : Int) == -1) = false := by simp
        simp [hb, this]
theorem cutAt_none {c : UInt8} {w : List UInt8} (h : c ∉ w) : cutAt c w = none := by
  induction w with
  | nil => rfl
  | cons x r ih =>
    unfold cutAt
    rw [if_neg (fun e => h (by simp [e])), ih fun hb => h (by simp [hb])]
    rfl
theorem cutAt_some {c : UInt8} {w : List UInt8} (r : List UInt8) (h : c ∉ w) : cutAt c (w ++ c :: r) = some (w, r) := by
  induction w with
  | nil => simp [cutAt]
  | cons x y ih =>
    rw [List.cons_append]
    unfold cutAt
    rw [if_neg (fun e => h (by simp [e])), ih fun hb => h (by simp [hb])]
    rfl
theorem of_cutAt {c : UInt8} {l a b : List UInt8} (h : cutAt c l = some (a, b)) : l = a ++ c :: b ∧ c ∉ a := by
  induction l generalizing a b with
  | nil => simp [cutAt] at h
  | cons x r ih =>
    unfold cutAt at h
    by_cases hc : x = c
    · simp only [hc, if_true, Option.some.injEq, Prod.mk.injEq] at h
      obtain ⟨rfl, rfl⟩ := h
      simp [hc]
    · simp only [hc, if_false, Option.map_eq_some_iff] at h
      obtain ⟨⟨p, q⟩, h1, h2⟩ := h
      simp only [Prod.mk.injEq] at h2
      obtain ⟨rfl, rfl⟩ := h2
      obtain ⟨h3, h4⟩ := ih h1
      exact ⟨by rw [h3]; rfl, by simp only [List.mem_cons, not_or]; exact ⟨fun e => hc e.symm, h4⟩⟩

set_option maxRecDepth 100000 in
set_option maxHeartbeats 400000 in
theorem lcutB_hit (s : ByteArray) (c : UInt8) (i : Nat) (hi : Lib.indexByte s.data.toList c = i) (hr : i + 1 ≤ s.size) (hs : s.size ≤ 9223372036854775807) (w : World) :
    Calls Tryz.prog 76 #[.string s, .string ⟨#[c]⟩] w fun e w' => e = .returned (.tuple #[.string (s.extract 0 i), .string (s.extract (i + 1) s.size), .bool true]) ∧ Drawn w w' := by
  have HI := Lib.hid hi
  clear hi
  have c1 : (0 : Int) ≤ ↑i := by omega
  have c2 : (↑i : Int) ≤ ↑s.size := by omega
  have c3 : (0 : Int) ≤ ↑i + 1 := by omega
  have c4 : (↑i + 1 : Int) ≤ ↑s.size := by omega
  go_enter Tryz.func76, Tryz.ntmps76
  go_wp2_with (go_at_call 99; refine (Tryz.stringslite_Index_one s c _).mono ?_; rintro e w' ⟨rfl, rfl⟩; rw [HI.out])
  go_region
  all_goals (try go_wp2)
  all_goals go_ret3
  all_goals exact ⟨rfl, 1, rfl⟩
set_option maxRecDepth 100000 in
set_option maxHeartbeats 400000 in
theorem lcutB_miss (s : ByteArray) (c : UInt8) (hi : Lib.indexByte s.data.toList c = -1) (w : World) :
    Calls Tryz.prog 76 #[.string s, .string ⟨#[c]⟩] w fun e w' => e = .returned (.tuple #[.string s, .string ⟨#[]⟩, .bool false]) ∧ Drawn w w' := by
  have HI := Lib.hid hi
  clear hi
  go_enter Tryz.func76, Tryz.ntmps76
  go_wp2_with (go_at_call 99; refine (Tryz.stringslite_Index_one s c _).mono ?_; rintro e w' ⟨rfl, rfl⟩; rw [HI.out])
  go_ret3
  exact ⟨rfl, 0, rfl⟩
/-- how the cut goes, in lists -/
def CutsAt (c : UInt8) (l a b : List UInt8) (f : Bool) : Prop := (cutAt c l = some (a, b) ∧ f = true) ∨ (cutAt c l = none ∧ a = l ∧ b = [] ∧ f = false)
def CutsEnd (c : UInt8) (l : List UInt8) (w : World) (e : Ending) (w' : World) : Prop :=
  ∃ sa sb f, e = .returned (.tuple #[.string sa, .string sb, .bool f]) ∧ CutsAt c l sa.data.toList sb.data.toList f ∧ Drawn w w'
theorem lcutB_c (s : ByteArray) (c : UInt8) (hs : s.size ≤ 9223372036854775807) (w : World) :
    Calls Tryz.prog 76 #[.string s, .string ⟨#[c]⟩] w (CutsEnd c s.data.toList w) := by
  rcases cutAt_index c s.data.toList with ⟨h1, h2⟩ | ⟨i, h1, h2, h3⟩
  · exact (lcutB_miss s c h1 w).mono fun e w' ⟨he, hw⟩ => ⟨_, _, _, he, .inr ⟨h2, rfl, rfl, rfl⟩, hw⟩
  · rw [← Lib.size_eq] at h2
    refine (lcutB_hit s c i h1 h2 hs w).mono fun e w' ⟨he, hw⟩ => ⟨_, _, _, he, .inl ⟨?_, rfl⟩, hw⟩
    rw [h3, Lib.extract_eq, Lib.extract_eq, Lib.size_eq]
    simp only [List.drop_zero, Nat.sub_zero]
    rw [List.take_of_length_le (l := List.drop (i + 1) s.data.toList) (by simp)]
set_option maxRecDepth 100000 in
set_option maxHeartbeats 400000 in
theorem cutB_c (s : ByteArray) (c : UInt8) (hs : s.size ≤ 9223372036854775807) (w : World) :
    Calls Tryz.prog 54 #[.string s, .string ⟨#[c]⟩] w (CutsEnd c s.data.toList w) := by
  go_enter Tryz.func54, Tryz.ntmps54
  go_wp2_with (go_at_call 76; refine (lcutB_c s c hs _).mono ?_; rintro e w' ⟨sa, sb, f, rfl, hc, hw⟩)
  go_ret3
  exact ⟨_, _, _, rfl, hc, hw⟩
end Go.Proofs.YtmlmanlcomfhbaaGreatDoor.Cats

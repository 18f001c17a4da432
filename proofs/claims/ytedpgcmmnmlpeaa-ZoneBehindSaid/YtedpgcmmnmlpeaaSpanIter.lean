/- The function that All of a span answers, run: it hands on the span's cells row by row, as long as it is told to go on: whatever the loop's body, as long as that keeps the function's variables. -/
import Derived.RangeFuncNested
import Derived.RangeFuncBound
import Derived.RangeFuncCalls
import Derived.RangeFuncLeaves
import Derived.Shelf.Abstract
import Derived.Shelf.RegionOpen
import Derived.OwnWalkIn
import Derived.TacticsInMore
import Derived.LoopNIn
import Derived.LoopIn
import Derived.Maps.AppendAt
import Derived.Test.YtedpgcmmnmlpeaaSpanAll
namespace Go.Proofs.Ytedpgcmmnmlpeaa.Span
open Go.RowKit Go.Shelf Kit Reg Go.Proofs.Ytedpgcmmnmlpeaa.Addr
attribute [local go_sem] Oper.semAt_some

/-- what has come when k rounds are over -/
def upto {α : Type} (f : Nat → α) (k : Nat) : List α := (List.range k).map f
theorem upto_succ {α : Type} (f : Nat → α) (k : Nat) : upto f (k + 1) = upto f k ++ [f k] := by simp [upto, List.range_succ]
theorem upto_length {α : Type} (f : Nat → α) (k : Nat) : (upto f k).length = k := by simp [upto]
/-- the cell of this number, row by row -/
def cellAt (p q : Int) (C : Nat) (m : Nat) : Int × Int := (p + (m / C : Nat), q + (m % C : Nat))
theorem cellAt_at (p q : Int) {C k j : Nat} (h : j < C) : cellAt p q C (k * C + j) = (p + k, q + j) := by
  have h1 : (k * C + j) / C = k := by rw [Nat.mul_comm, Nat.mul_add_div (by omega), Nat.div_eq_of_lt h, Nat.add_zero]
  have h2 : (k * C + j) % C = j := by rw [Nat.mul_comm, Nat.mul_add_mod, Nat.mod_eq_of_lt h]
  rw [cellAt, h1, h2]
/-- what a round has to keep: the function's own variables -/
def KeepV (x y z : Nat) (R C p q : Int) (A B : World) : Prop := Vars A x y z R C p q → Vars B x y z R C p q
/-- a cell as a value -/
def encs (c : Int × Int) : Array Value := #[.agg #[.int .i64 c.1, .int .i64 c.2]]

set_option maxRecDepth 100000 in
set_option maxHeartbeats 4000000 in
theorem iter_in (F : Fence) (n : Nat) (hF : F.fn 37) (hro : F.round = none) (hn : 1 ≤ n) (l x y z R C : Nat) (p q : Int) (hR : R ≤ 999) (hC : C ≤ 702) (hp : 0 ≤ p ∧ p ≤ 998) (hq : 0 ≤ q ∧ q ≤ 701)
    (J Jx : List (Int × Int) → World → Prop)
    (hY : ∀ pre c W, J pre W → pre.length < R * C → YieldAt F (n - 1) Try.prog l (encs c) W fun e W' =>
      (e = .returned (.bool true) ∧ J (pre ++ [c]) W' ∧ KeepV x y z R C p q W W') ∨ (e = .returned (.bool false) ∧ Jx (pre ++ [c]) W'))
    (W : World) (hv : Vars W x y z R C p q) (h0 : J [] W) :
    CallsIn F n Try.prog 37 #[.func (.yield l) #[] #[], .pointer (some ⟨x, 0, none⟩), .pointer (some ⟨y, 0, none⟩), .pointer (some ⟨z, 0, none⟩)] W fun e W' => (∃ v, e = .returned v) ∧
      ((∃ ys, ys = upto (cellAt p q C) (R * C) ∧ J ys W') ∨ (∃ pre, (∃ k, k ≤ R * C ∧ pre = upto (cellAt p q C) k) ∧ Jx pre W')) := by
  obtain ⟨p0, p1⟩ := hp
  obtain ⟨q0, q1⟩ := hq
  obtain ⟨x0, _⟩ := hv.1.one
  refine callsIn_of_wp Try.func37 rfl hF ?_ hro
  simp only [Try.ntmps37, List.size_toArray, List.length_cons, List.length_nil, Nat.reduceAdd, Nat.reduceSub, Array.replicate_succ, Array.replicate_zero, List.push_toArray, List.append_toArray, List.nil_append, List.cons_append]
  gi_wp2
  gi_loopw [8] (fun i wr => ∃ k : Nat, k ≤ R ∧ i = .int .i64 k ∧ J (upto (cellAt p q C) (k * C)) wr ∧ Vars wr x y z R C p q) (fun i _ => R - (intOf i).toNat)
  case atStart => exact ⟨0, Nat.zero_le _, rfl, by rw [Nat.zero_mul]; exact h0, hv⟩
  case round =>
    obtain ⟨k, hk, rfl, hJs, hvs⟩ := hrel
    by_cases hlt : k < R
    · obtain ⟨y0, _⟩ := hvs.2.1.one
      gi_wp2
      gi_loopw [12] (fun i wr => ∃ j : Nat, j ≤ C ∧ i = .int .i64 j ∧ J (upto (cellAt p q C) (k * C + j)) wr ∧ Vars wr x y z R C p q) (fun i _ => C - (intOf i).toNat)
      case atStart => exact ⟨0, Nat.zero_le _, rfl, hJs, hvs⟩
      case round =>
        obtain ⟨j, hj, rfl, hJs, hvs⟩ := hrel
        by_cases hjl : j < C
        · obtain ⟨z0, z1, _⟩ := hvs.2.2.two
          have hlen : k * C + j < R * C := Nat.lt_of_lt_of_le (Nat.add_lt_add_left hjl _) (by rw [← Nat.succ_mul]; exact Nat.mul_le_mul_right C hlt)
          obtain ⟨fn, tmps, assign, body, hy, hRd⟩ := hY _ (p + k, q + j) _ hJs (by rw [upto_length]; exact hlen)
          rw [show upto (cellAt p q C) (k * C + j) ++ [(p + k, q + j)] = upto (cellAt p q C) (k * C + (j + 1)) by rw [← Nat.add_assoc, upto_succ, cellAt_at p q hjl]] at hRd
          simp only [encs] at hy
          gi_wp2
          refine hRd.mono ?_
          rintro e W3 (⟨rfl, hJ3, hk3⟩ | ⟨rfl, hJx3⟩)
          · gi_wp2
            go_roundw
            case rel => exact ⟨j + 1, by omega, by simp, hJ3, hk3 hvs⟩
            case measure => simp [intOf]; omega
          · gi_wp2
            refine bodyPost_ret (results_none rfl _ _ _) rfl ?_
            exact ⟨⟨_, rfl⟩, .inr ⟨_, ⟨k * C + (j + 1), by omega, rfl⟩, hJx3⟩⟩
        · obtain rfl : j = C := by omega
          gi_wp2
          go_roundw
          case rel => exact ⟨k + 1, by omega, by simp, by rw [Nat.succ_mul]; exact hJs, hvs⟩
          case measure => simp [intOf]; omega
    · obtain rfl : k = R := by omega
      gi_wp2
      go_end0
      exact ⟨⟨_, rfl⟩, .inl ⟨_, rfl, hJs⟩⟩
theorem keepV_t {x y z : Nat} {R C p q : Int} {A B D : World} (h : KeepV x y z R C p q A B) (k : KeepV x y z R C p q B D) : KeepV x y z R C p q A D := fun a => k (h a)
/-- cells stay where another block turns -/
theorem CellsAt.grownBy {A B : World} {b : Nat} {cs : List Value} {row : Option Nat} (h : CellsAt A b cs) (hg : A.grownBy B row) (hne : some b ≠ row) : CellsAt B b cs := by
  have hb := hg.block b h.1 hne
  exact ⟨Nat.lt_of_lt_of_le h.1 hg.size, fun i v hi => ⟨(World.cell?_of_block (a := ⟨b, i, none⟩) hb).trans (h.2 i v hi).1, (World.frozen?_of_block (a := ⟨b, i, none⟩) hb).trans (h.2 i v hi).2⟩⟩
theorem Vars.grownBy {A B : World} {x y z : Nat} {R C p q : Int} {row : Option Nat} (h : Vars A x y z R C p q) (hg : A.grownBy B row) (hx : some x ≠ row) (hy : some y ≠ row) (hz : some z ≠ row) : Vars B x y z R C p q :=
  ⟨CellsAt.grownBy h.1 hg hx, CellsAt.grownBy h.2.1 hg hy, CellsAt.grownBy h.2.2 hg hz⟩
/-- cells are none of a block that is no cells -/
theorem CellsAt.own {A B : World} {b : Nat} {cs : List Value} {row : Option Nat} (hcs : cs ≠ []) (h : CellsAt A b cs) (hg : A.grownBy B row) (hr : ∀ r, row = some r → ∃ o : Obj, A.heap[r]? = some o ∧ o.isCells = false) : CellsAt B b cs := by
  refine CellsAt.grownBy h hg fun e => ?_
  obtain ⟨o, ho, hc⟩ := hr b e.symm
  obtain ⟨u, us, rfl⟩ := List.exists_cons_of_ne_nil hcs
  have := (h.2 0 u rfl).1
  simp only [World.cell?] at this
  rw [ho] at this
  cases o <;> simp [Obj.isCells] at hc this
theorem keepV_b {x y z : Nat} {R C p q : Int} {w : World} (hv : x < w.heap.size ∧ y < w.heap.size ∧ z < w.heap.size) (W : World) (l : Nat) (o o' : Obj) (hl : w.heap.size ≤ l) (_ : W.heap[l]? = some o) (_ : o.isCells = false) (_ : o.isWalk = false) : KeepV x y z R C p q W (W.putObj l o') :=
  fun h => h.grownBy (grownBy_putObj' W l o') (by intro e; simp at e; omega) (by intro e; simp at e; omega) (by intro e; simp at e; omega)
/-- the function keeps the contract of an iterator -/
theorem iter_stops (F : Fence) (n : Nat) (hF : F.fn 37) (hro : F.round = none) (hn : 1 ≤ n) (x y z R C : Nat) (p q : Int) (hR : R ≤ 999) (hC : C ≤ 702) (hp : 0 ≤ p ∧ p ≤ 998) (hq : 0 ≤ q ∧ q ≤ 701)
    (w : World) (hv : Vars w x y z R C p q) :
    SeqStopsK F n Try.prog 37 #[.pointer (some ⟨x, 0, none⟩), .pointer (some ⟨y, 0, none⟩), .pointer (some ⟨z, 0, none⟩)] encs (KeepV x y z R C p q)
      (fun ys => ys = upto (cellAt p q C) (R * C)) (fun pre => ∃ k, k ≤ R * C ∧ pre = upto (cellAt p q C) k) (R * C) w := fun l J Jx W hW _ _ hY h0 =>
  iter_in F n hF hro hn l x y z R C p q hR hC hp hq J Jx hY W (hv.on hW) h0
end Go.Proofs.Ytedpgcmmnmlpeaa.Span

/- What the reference's root answers: the greatest decimal whose square is not above a number, bit by bit.
   What the reference's Step answers.
   What the reference's Odd answers.
   What the reference's Pieces, Join, Mid, Right, Find, Reverse, First answer: for every text of at most a million bytes.
   What the reference's Join, Mid, Right, Reverse answer: for every text of at most a million bytes.
   What the reference's Combin answers: the triangle, row by row.
   What the program's Rept and Put answer (over the landed text of package text): for texts of at most 400 bytes.
   What the reference's functions of two numbers answer. Written by wip/gen20b.py.
   The program's functions of one number, and of two. Written by wip/gen21d.py. -/
import Derived.Test.YtebjedbppiphgaaGreatDoorKtu20
import Derived.Test.YtebjedbppiphgaaGreatDoorKtu37
import Derived.Test.YtebjedbppiphgaaGreatDoorKtu24
import Derived.Test.YtebjedbppiphgaaGreatDoorKtu27
import Derived.Test.YtebjedbppiphgaaGreatDoorKtu17
import Derived.Test.YtebjedbppiphgaaGreatDoorKtu10
import Derived.Test.YtebjedbppiphgaaGreatDoorKtu19
import Derived.Test.YtebjedbppiphgaaGreatDoorKtu21
import Derived.Lib.BufferWrite
import Derived.Laws.MakeOwn
import Derived.Laws.CopyOwn
import Derived.Maps.AppendAt
import Derived.Laws.OwnMore
import Derived.Deep.Onto
import Derived.Test.YtebjedbppiphgaaGreatDoorKtu22
import Derived.Test.YtebjedbppiphgaaGreatDoorKtu12
import Derived.Test.YtebjedbppiphgaaGreatDoorKtu09
import Derived.Test.YtebjedbppiphgaaGreatDoorKtu13
import Derived.Test.YtebjedbppiphgaaGreatDoorKtu23
import Derived.BigQuiet
namespace Go.Proofs.YtebjedbppiphgaaGreatDoor.Cal
open Go.RowKit Kit Reg Dec Dig Val Fld Go.Proofs.YtebjedbppiphgaaGreatDoor.Pow
/-- a root, behind so many bits -/
def SqR (N k a : Nat) : Prop := a * a ≤ N ∧ N < (a + 2 ^ (41 - k)) * (a + 2 ^ (41 - k)) ∧ a + 2 ^ (41 - k) ≤ 2199023255552
theorem SqR.start {N : Nat} (h : N < 4835703278458516698824704) : SqR N 0 0 := by
  refine ⟨Nat.zero_le _, ?_, by decide⟩
  have e : (0 + 2 ^ (41 - 0)) * (0 + 2 ^ (41 - 0)) = 4835703278458516698824704 := by decide
  rw [e]; exact h
theorem SqR.done {N a : Nat} (h : SqR N 41 a) : RootOf a N := ⟨h.1, h.2.1⟩
theorem rbit_next {k : Nat} (hk : k < 41) : 2 ^ (41 - k) = 2 ^ (40 - k) + 2 ^ (40 - k) ∧ 41 - (k + 1) = 40 - k := by
  refine ⟨?_, by omega⟩
  rw [show 41 - k = (40 - k) + 1 by omega, Nat.pow_succ]; omega
theorem SqR.take {N k a : Nat} (h : SqR N k a) (hk : k < 41) (h2 : (a + 2 ^ (40 - k)) * (a + 2 ^ (40 - k)) ≤ N) : SqR N (k + 1) (a + 2 ^ (40 - k)) := by
  obtain ⟨e1, e2⟩ := rbit_next hk
  obtain ⟨h1, h3, h4⟩ := h
  unfold SqR
  rw [e2]
  rw [e1, ← Nat.add_assoc] at h3 h4
  exact ⟨h2, h3, h4⟩
end Go.Proofs.YtebjedbppiphgaaGreatDoor.Cal
namespace Go.Proofs.YtebjedbppiphgaaGreatDoor.Rnd
open Go.RowKit Kit Dec Reg
theorem Fl.room {x s q l : Int} (h : Fl x s q l) (x1 : -9223372036854775807 ≤ x) (x2 : x ≤ 9223372036854775807) (s2 : s ≤ 9223372036854775807) (hl : 0 < l) : -9223372036854775807 ≤ q ∧ q + 1 ≤ 9223372036854775807 := by
  have h1 := h.eq
  have h3 := h.ls
  constructor
  · by_cases hq : -9223372036854775807 ≤ q
    · exact hq
    · exfalso
      have g := Int.mul_le_mul_of_nonneg_right (show q ≤ -9223372036854775808 by omega) (show 0 ≤ s by omega)
      omega
  · by_cases hq : q + 1 ≤ 9223372036854775807
    · exact hq
    · exfalso
      have g := Int.mul_le_mul_of_nonneg_right (show 9223372036854775807 ≤ q by omega) (show 0 ≤ s by omega)
      omega
end Go.Proofs.YtebjedbppiphgaaGreatDoor.Rnd
namespace Go.Proofs.YtebjedbppiphgaaGreatDoor.Rnd
open Go.RowKit Kit Dec Reg
theorem giveD_room {x n : Int} {k : Bool} (h : giveD true x = (n, k)) : -9223372036854775807 ≤ n ∧ n ≤ 9223372036854775807 := by
  by_cases h1 : x < -9223372036854775807 ∨ 9223372036854775807 < x
  · rw [giveD_out (.inr h1)] at h
    obtain ⟨rfl, _⟩ := Prod.mk.inj h
    omega
  · rw [giveD_in (by omega) (by omega)] at h
    obtain ⟨rfl, _⟩ := Prod.mk.inj h
    omega
end Go.Proofs.YtebjedbppiphgaaGreatDoor.Rnd
namespace Go.Proofs.YtebjedbppiphgaaGreatDoor.Run
open Go.RowKit Kit Reg
/-- texts, as a row of one's own and as a slice that is read -/
def strs (ws : List (List UInt8)) : List Value := ws.map fun w => .string ⟨w.toArray⟩
def OwnS (B : Nat) (v : Value) (ws : List (List UInt8)) (w : World) : Prop := w.ownsRow B 9 1 v ws.length (strs ws)
theorem OwnS.on {B : Nat} {v : Value} {ws : List (List UInt8)} {w w' : World} (h : OwnS B v ws w) (hb : Below w.heap.size w w') : OwnS B v ws w' := own_on h hb
def StrsR (w : World) (A : Option Addr) (ws : List (List UInt8)) : Prop := ws = [] ∨ ∃ g, A = some ⟨g, 0, none⟩ ∧ g < w.heap.size ∧ ∀ i n, ws[i]? = some n → w.cell? ⟨g, i, none⟩ = some (.string ⟨n.toArray⟩)
theorem StrsR.on {w w' : World} {A : Option Addr} {ws : List (List UInt8)} (h : StrsR w A ws) (hb : Below w.heap.size w w') : StrsR w' A ws := by
  rcases h with h | ⟨g, hA, hg, h⟩
  · exact .inl h
  · exact .inr ⟨g, hA, Nat.lt_of_lt_of_le hg hb.size, fun i c hc => (hb.cell (p := ⟨g, i, none⟩) hg).trans (h i c hc)⟩
theorem OwnS.strs {B : Nat} {v : Value} {ws : List (List UInt8)} {w : World} (h : OwnS B v ws w) (n : Nat) (hn : ws.length = n) : ∃ A cap, v = .slice A n cap ∧ StrsR w A ws ∧ n ≤ cap := by
  subst hn
  have h0 := h
  rcases h.2 with ⟨rfl, h1⟩ | ⟨g, cap, cur, rfl, hb, hg, hcap, hrest⟩
  · exact ⟨_, _, by rw [h1], .inl (List.eq_nil_of_length_eq_zero h1), by omega⟩
  · refine ⟨_, _, rfl, .inr ⟨g, rfl, (Array.getElem?_eq_some_iff.1 hg).1, fun i c hc => ?_⟩, hcap⟩
    have hi : i < ws.length := (List.getElem?_eq_some_iff.1 hc).1
    exact (World.ownsRow.cellAt h0 i (by omega)).trans (by simp [Run.strs, hc])
theorem str_is {t : ByteArray} {l : List UInt8} (h : t.data.toList = l) : t = ⟨l.toArray⟩ := bytes_eq (by simp [h])

end Go.Proofs.YtebjedbppiphgaaGreatDoor.Run
namespace Go.Proofs.YtebjedbppiphgaaGreatDoor.Run
open Go.RowKit Kit Reg
theorem flat_snoc {L : List (List UInt8)} {k : Nat} {x : List UInt8} (h : L[k]? = some x) : (L.take (k + 1)).flatten = (L.take k).flatten ++ x := by
  rw [List.take_add_one, h]
  simp
theorem flat_le (L : List (List UInt8)) (k : Nat) : (L.take k).flatten.length ≤ L.flatten.length := by
  have h2 : L.flatten = (L.take k).flatten ++ (L.drop k).flatten := by rw [← List.flatten_append, List.take_append_drop]
  rw [h2, List.length_append]
  omega
theorem flat_part {L : List (List UInt8)} {k : Nat} {x : List UInt8} (h : L[k]? = some x) : (L.take k).flatten.length + x.length ≤ L.flatten.length := by
  have := flat_le L (k + 1)
  rw [flat_snoc h, List.length_append] at this
  exact this
end Go.Proofs.YtebjedbppiphgaaGreatDoor.Run
namespace Go.Proofs.YtebjedbppiphgaaGreatDoor.Pow
open Go.RowKit Kit Dec Reg
/-- their cells, one behind the other -/
def flat (cs : List (Int × Bool)) : List Value := cs.flatMap fun c => [.int .i64 c.1, .bool c.2]
theorem flat_snoc (cs : List (Int × Bool)) (c : Int × Bool) : flat (cs ++ [c]) = flat cs ++ [.int .i64 c.1, .bool c.2] := by simp [flat]
theorem flat_at : ∀ (cs : List (Int × Bool)) (i : Nat) (c : Int × Bool), cs[i]? = some c → (flat cs)[i * 2]? = some (.int .i64 c.1) ∧ (flat cs)[i * 2 + 1]? = some (.bool c.2)
  | [], _, _, h => by simp at h
  | d :: r, 0, c, h => by
    simp only [List.getElem?_cons_zero, Option.some.injEq] at h
    subst h
    simp [flat]
  | d :: r, i + 1, c, h => by
    have h2 := flat_at r i c (by simpa using h)
    rw [show (i + 1) * 2 = i * 2 + 1 + 1 by omega]
    simpa [flat] using h2
/-- a slice of its own that holds these -/
def OwnRow (B : Nat) (v : Value) (cs : List (Int × Bool)) (w : World) : Prop := w.ownsRow B 55 2 v cs.length (flat cs)
theorem OwnRow.row {B : Nat} {v : Value} {cs : List (Int × Bool)} {w : World} (h : OwnRow B v cs w) (h0 : 0 < cs.length) :
    ∃ g cap, v = .slice (some ⟨g, 0, none⟩) cs.length cap ∧ g < w.heap.size ∧ ∀ i c, cs[i]? = some c → w.cell? ⟨g, i * 2, none⟩ = some (.int .i64 c.1) ∧ w.cell? ⟨g, i * 2 + 1, none⟩ = some (.bool c.2) := by
  have h9 := h
  rcases h.2 with ⟨rfl, h1⟩ | ⟨g, cap, cur, rfl, hb, hg, hrest⟩
  · omega
  · refine ⟨g, cap, rfl, (Array.getElem?_eq_some_iff.1 hg).1, fun i c hc => ?_⟩
    have hi : i < cs.length := (List.getElem?_eq_some_iff.1 hc).1
    obtain ⟨f1, f2⟩ := flat_at cs i c hc
    exact ⟨(World.ownsRow.cellAt h9 (i * 2) (by omega)).trans f1, (World.ownsRow.cellAt h9 (i * 2 + 1) (by omega)).trans f2⟩
/-- a row that is read: its block lies below what is made since -/
structure RowAt (w : World) (C g : Nat) (cs : List (Int × Bool)) : Prop where
  lt : g < C
  le : C ≤ w.heap.size
  at_ : ∀ i c, cs[i]? = some c → w.cell? ⟨g, i * 2, none⟩ = some (.int .i64 c.1) ∧ w.cell? ⟨g, i * 2 + 1, none⟩ = some (.bool c.2)
theorem RowAt.on {w w' : World} {C g : Nat} {cs : List (Int × Bool)} (h : RowAt w C g cs) (hb : Below w.heap.size w w') : RowAt w' C g cs :=
  ⟨h.lt, Nat.le_trans h.le hb.size, fun i c hc => ⟨(hb.cell (p := ⟨g, i * 2, none⟩) (Nat.lt_of_lt_of_le h.lt h.le)).trans (h.at_ i c hc).1, (hb.cell (p := ⟨g, i * 2 + 1, none⟩) (Nat.lt_of_lt_of_le h.lt h.le)).trans (h.at_ i c hc).2⟩⟩
theorem RowAt.up {w : World} {C g : Nat} {cs : List (Int × Bool)} (h : RowAt w C g cs) : RowAt w w.heap.size g cs := ⟨Nat.lt_of_lt_of_le h.lt h.le, Nat.le_refl _, h.at_⟩
theorem RowAt.grownBy {A B : World} {C g : Nat} {cs : List (Int × Bool)} {row : Option Nat} (h : RowAt A C g cs) (hg : A.grownBy B row) (hne : some g ≠ row) : RowAt B C g cs := by
  have hb := hg.block g (Nat.lt_of_lt_of_le h.lt h.le) hne
  exact ⟨h.lt, Nat.le_trans h.le hg.size, fun i c hc => ⟨(World.cell?_of_block (a := ⟨g, i * 2, none⟩) hb).trans (h.at_ i c hc).1, (World.cell?_of_block (a := ⟨g, i * 2 + 1, none⟩) hb).trans (h.at_ i c hc).2⟩⟩
theorem cells_grown {A B : World} {b : Nat} {cs : List Value} {row : Option Nat} (h : CellsAt A b cs) (hg : A.grownBy B row) (hne : some b ≠ row) : CellsAt B b cs := by
  have hb := hg.block b h.1 hne
  exact ⟨Nat.lt_of_lt_of_le h.1 hg.size, fun i v hi => ⟨(World.cell?_of_block (a := ⟨b, i, none⟩) hb).trans (h.2 i v hi).1, (World.frozen?_of_block (a := ⟨b, i, none⟩) hb).trans (h.2 i v hi).2⟩⟩
theorem below_none {A B : World} (hb : Below A.heap.size A B) : A.grownBy B none := ⟨hb.os, hb.tape, hb.output, hb.size, fun k hk _ => hb.block k hk⟩
theorem OwnRow.on {B : Nat} {v : Value} {cs : List (Int × Bool)} {w w' : World} (h : OwnRow B v cs w) (hb : Below w.heap.size w w') : OwnRow B v cs w' :=
  World.ownsRow.kept h (below_none hb) (by
    rcases h.2 with ⟨rfl, _⟩ | ⟨g, cap, cur, rfl, _⟩
    · exact .inl rfl
    · exact .inr (by simp [Value.ownBlock]))
end Go.Proofs.YtebjedbppiphgaaGreatDoor.Pow
namespace Go.Proofs.YtebjedbppiphgaaGreatDoor.Txt
open Go.RowKit Kit Reg
/-- what the library's variables hold: the table of powers, and some number in bytealg.MaxLen -/
def PLibs (w : World) : Prop := Dig.Libs w ∧ ∃ m, w.cell? ⟨0, 0, none⟩ = some (.int .i64 m)
theorem PLibs.grown {w w' : World} (h : PLibs w) (hb : Below w.heap.size w w') : PLibs w' := ⟨h.1.grown hb, h.2.elim fun m hm => ⟨m, kept hb hm⟩⟩
end Go.Proofs.YtebjedbppiphgaaGreatDoor.Txt
namespace Go.Proofs.YtebjedbppiphgaaGreatDoor.Cal
open Go.RowKit Kit Reg Dec Dig Val Fld
theorem third (w : World) (o p : Obj) (cs : List Value) (ty : TypeId) : CellsAt (((w.alloc o).alloc p).alloc (.cells cs.toArray ty)) (w.heap.size + 2) cs ∧ Below w.heap.size w (((w.alloc o).alloc p).alloc (.cells cs.toArray ty)) := by
  have h := CellsAt.new ((w.alloc o).alloc p) cs ty
  rw [show ((w.alloc o).alloc p).heap.size = w.heap.size + 2 by simp] at h
  exact ⟨h, below3 w o p _⟩
end Go.Proofs.YtebjedbppiphgaaGreatDoor.Cal
namespace Go.Proofs.YtebjedbppiphgaaGreatDoor.Cal
open Go.RowKit Kit Reg Dec Dig Val Fld
theorem two_b {F : Nat} {args : Array Value} {n : Int} {k : Bool} {w : World} (h : Calls Tryz.prog F args w (Two n k w)) : Calls Tryz.prog F args w fun e w' => e = .returned (.tuple #[.int .i64 n, .bool k]) ∧ Below w.heap.size w w' := h.mono fun _ _ ⟨he, hw⟩ => ⟨he, by subst hw; exact Below.refl _ _⟩
theorem drawn_b {F : Nat} {args : Array Value} {n : Int} {k : Bool} {w : World} (h : Calls Tryz.prog F args w (TwoD n k w)) : Calls Tryz.prog F args w fun e w' => e = .returned (.tuple #[.int .i64 n, .bool k]) ∧ Below w.heap.size w w' := h.mono fun _ _ ⟨he, hw⟩ => ⟨he, drawn_below hw⟩
theorem got_v (n : Int) (k : Bool) (w : World) : Calls Tryz.prog 43 #[.int .i64 n, .bool k] w (IsV (gV (n, k)) w) := by
  obtain ⟨⟨a, b⟩, hg⟩ : ∃ q, gotV n k = q := ⟨_, rfl⟩
  have e : gV (n, k) = ⟨a, b, ⟨#[]⟩⟩ := by unfold gV; dsimp only; rw [hg]
  rw [e]
  exact got_c n k a b hg w
theorem num_v (x : Int) (h1 : -9223372036854775807 ≤ x) (w : World) (_h2 : x ≤ 9223372036854775807) : Calls Tryz.prog 23 #[.int .i64 x] w (IsV (nV x) w) := num_in_c x (decide_eq_true h1) w
theorem divided_div (a b : Int) (a2 : a ≤ 9223372036854775807) (b2 : b ≤ 9223372036854775807) (w : World) : Calls Tryz.prog 81 #[.int .i64 a, .int .i64 b, .func (.func 82) #[] #[]] w (IsV (if b = 0 then fV 1 else gV (scaledD a 10000 b)) w) := by
  by_cases h : b = 0
  · subst h
    rw [if_pos rfl]
    exact divided_zero a _ w
  · rw [if_neg h]
    obtain ⟨⟨n, k⟩, hs⟩ : ∃ q, scaledD a 10000 b = q := ⟨_, rfl⟩
    rw [hs]
    exact divided_some a b h _ (enters (fn := Tryz.f82) (by kernel_rfl) (by kernel_rfl) rfl) n k (fun w1 => drawn_b (div_c a b a2 b2 n k hs w1)) w
end Go.Proofs.YtebjedbppiphgaaGreatDoor.Cal

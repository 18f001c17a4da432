/- What the reference's Fits, Gcd, Lcm, Fact on decimals answer: for every number of 64 bits.
   What the reference's root answers: the greatest decimal whose square is not above a number, bit by bit.
   What the reference's Step answers.
   What the reference's Odd answers.
   What the reference's Pieces, Join, Mid, Right, Find, Reverse, First answer: for every text of at most a million bytes.
   What the reference's Join, Mid, Right, Reverse answer: for every text of at most a million bytes.
   What the reference's functions of one number answer. Written by wip/gen20a.py.
   What the reference's Combin answers: the triangle, row by row. -/
import Derived.Test.YtebjedbppiphgaaGreatDoorKop41
import Derived.Test.YtebjedbppiphgaaGreatDoorKop19
import Derived.Test.YtebjedbppiphgaaGreatDoorKop29
import Derived.Test.YtebjedbppiphgaaGreatDoorKop32
import Derived.Test.YtebjedbppiphgaaGreatDoorKop16
import Derived.Test.YtebjedbppiphgaaGreatDoorKop09
import Derived.Test.YtebjedbppiphgaaGreatDoorKop18
import Derived.Test.YtebjedbppiphgaaGreatDoorKop20
import Derived.Lib.BufferWrite
import Derived.Laws.MakeOwn
import Derived.Laws.CopyOwn
import Derived.Maps.AppendAt
import Derived.Laws.OwnMore
import Derived.Deep.Onto
namespace Go.Proofs.YtebjedbppiphgaaGreatDoor.Pow
open Go.RowKit Kit Dec Reg
set_option maxRecDepth 100000 in
set_option maxHeartbeats 1000000 in
theorem fits_c (r x : Nat) (hr : r ≤ 9223372036854775807) (hx : x ≤ 9223372036854775807) (b : Bool) (hb : decide (r * r ≤ x * 10000) = b) (w : World) :
    Calls Tryz.prog 251 #[.int .i64 r, .int .i64 x] w fun e w' => e = .returned (.bool b) ∧ Below w.heap.size w w' := by
  subst hb
  have M := Lib.hid (fun w1 => rtimes_c r r _ _ (by omega) (by omega) rfl rfl w1)
  have M2 : Hid (∀ w1, Calls Tryz.prog 199 #[.int .u64 x, .int .u64 10000] w1 fun e w' => e = .returned (.agg #[.int .u64 ((x * 10000 / 18446744073709551616 : Nat) : Int), .int .u64 ((x * 10000 % 18446744073709551616 : Nat) : Int)]) ∧ Below w1.heap.size w1 w') := Lib.hid (fun w1 => rtimes_c x 10000 _ _ (by omega) (by omega) rfl rfl w1)
  have e1 := halves (r * r)
  have e2 := halves (x * 10000)
  have l1 : r * r % 18446744073709551616 < 18446744073709551616 := Nat.mod_lt _ (by omega)
  have l2 : x * 10000 % 18446744073709551616 < 18446744073709551616 := Nat.mod_lt _ (by omega)
  rw [e1, e2]
  generalize r * r / 18446744073709551616 = H at *
  generalize r * r % 18446744073709551616 = L at *
  generalize x * 10000 / 18446744073709551616 = I at *
  generalize x * 10000 % 18446744073709551616 = J at *
  clear e1 e2
  have hcase : (H < I ∧ decide (H * 18446744073709551616 + L ≤ I * 18446744073709551616 + J) = true) ∨ (I < H ∧ decide (H * 18446744073709551616 + L ≤ I * 18446744073709551616 + J) = false) ∨
      (H = I ∧ decide (H * 18446744073709551616 + L ≤ I * 18446744073709551616 + J) = decide (L ≤ J)) := by
    rcases Nat.lt_trichotomy H I with h | h | h
    · exact .inl ⟨h, decide_eq_true (by omega)⟩
    · exact .inr (.inr ⟨h, decide_eq_decide.2 (by omega)⟩)
    · exact .inr (.inl ⟨h, decide_eq_false (by omega)⟩)
  clear l1 l2
  obtain ⟨bb, hbb⟩ : ∃ bb, decide (H * 18446744073709551616 + L ≤ I * 18446744073709551616 + J) = bb := ⟨_, rfl⟩
  rw [hbb] at hcase ⊢
  clear hbb
  go_enter Tryz.func251, Tryz.ntmps251
  go_wp2_with fail
  refine (M.out _).mono ?_
  rintro e w1 ⟨rfl, hb1⟩
  have hA := CellsAt.new w1 [.int .u64 H, .int .u64 L] 159
  have hb := on_alloc hb1 (.cells #[.int .u64 H, .int .u64 L] 159)
  clear hb1
  have hlt := hA.1
  go_wp2_with fail
  refine (M2.out _).mono ?_
  rintro e w2 ⟨rfl, hb2⟩
  have hB := CellsAt.new w2 [.int .u64 I, .int .u64 J] 159
  replace hA := (hA.on hb2).on_alloc (.cells #[.int .u64 I, .int .u64 J] 159)
  replace hb := Lib.hid (on_alloc (Kit.on hb hb2) (.cells #[.int .u64 I, .int .u64 J] 159))
  obtain ⟨a0, a1, _, _⟩ := hA.two
  obtain ⟨b0, b1, _, _⟩ := hB.two
  clear hb2 M M2
  have k1 := hA.1
  have k2 := hB.1
  clear hA hB
  rcases hcase with ⟨h, rfl⟩ | ⟨h, rfl⟩ | ⟨rfl, rfl⟩
  · go_wp2_with fail
    go_ret
    exact ⟨rfl, hb.out⟩
  · have t1 : decide (H < I) = false := decide_eq_false (by omega)
    have t2 : (H == I) = false := by simp; omega
    have t3 : ((H : Int) == (I : Int)) = false := by simp; omega
    go_wp2_with fail
    go_ret
    exact ⟨rfl, hb.out⟩
  · go_wp2_with fail
    go_ret
    exact ⟨rfl, hb.out⟩
end Go.Proofs.YtebjedbppiphgaaGreatDoor.Pow
namespace Go.Proofs.YtebjedbppiphgaaGreatDoor.Cal
open Go.RowKit Kit Reg Dec Dig Val Fld Go.Proofs.YtebjedbppiphgaaGreatDoor.Pow
/-- a root, behind so many bits -/
def SqR (N k a : Nat) : Prop := a * a ≤ N ∧ N < (a + 2 ^ (41 - k)) * (a + 2 ^ (41 - k)) ∧ a + 2 ^ (41 - k) ≤ 2199023255552
theorem SqR.start {N : Nat} (h : N < 4835703278458516698824704) : SqR N 0 0 := by
  refine ⟨Nat.zero_le _, ?_, by decide⟩
  have e : (0 + 2 ^ (41 - 0)) * (0 + 2 ^ (41 - 0)) = 4835703278458516698824704 := by decide
  rw [e]; exact h
theorem SqR.done {N a : Nat} (h : SqR N 41 a) : RootOf a N := ⟨h.1, h.2.1⟩
theorem rbit_next {k : Nat} (hk : k < 41) : 2 ^ (41 - k) = 2 ^ (40 - k) + 2 ^ (40 - k) ∧ 41 - (k + 1) = 40 - k := by
  refine ⟨?_, by omega⟩
  rw [show 41 - k = (40 - k) + 1 by omega, Nat.pow_succ]; omega
theorem SqR.take {N k a : Nat} (h : SqR N k a) (hk : k < 41) (h2 : (a + 2 ^ (40 - k)) * (a + 2 ^ (40 - k)) ≤ N) : SqR N (k + 1) (a + 2 ^ (40 - k)) := by
  obtain ⟨e1, e2⟩ := rbit_next hk
  obtain ⟨h1, h3, h4⟩ := h
  unfold SqR
  rw [e2]
  rw [e1, ← Nat.add_assoc] at h3 h4
  exact ⟨h2, h3, h4⟩
end Go.Proofs.YtebjedbppiphgaaGreatDoor.Cal
namespace Go.Proofs.YtebjedbppiphgaaGreatDoor.Rnd
open Go.RowKit Kit Dec Reg
theorem Fl.room {x s q l : Int} (h : Fl x s q l) (x1 : -9223372036854775807 ≤ x) (x2 : x ≤ 9223372036854775807) (s2 : s ≤ 9223372036854775807) (hl : 0 < l) : -9223372036854775807 ≤ q ∧ q + 1 ≤ 9223372036854775807 := by
  have h1 := h.eq
  have h3 := h.ls
  constructor
  · by_cases hq : -9223372036854775807 ≤ q
    · exact hq
    · exfalso
      have g := Int.mul_le_mul_of_nonneg_right (show q ≤ -9223372036854775808 by omega) (show 0 ≤ s by omega)
      omega
  · by_cases hq : q + 1 ≤ 9223372036854775807
    · exact hq
    · exfalso
      have g := Int.mul_le_mul_of_nonneg_right (show 9223372036854775807 ≤ q by omega) (show 0 ≤ s by omega)
      omega
end Go.Proofs.YtebjedbppiphgaaGreatDoor.Rnd
namespace Go.Proofs.YtebjedbppiphgaaGreatDoor.Rnd
open Go.RowKit Kit Dec Reg
theorem giveD_room {x n : Int} {k : Bool} (h : giveD true x = (n, k)) : -9223372036854775807 ≤ n ∧ n ≤ 9223372036854775807 := by
  by_cases h1 : x < -9223372036854775807 ∨ 9223372036854775807 < x
  · rw [giveD_out (.inr h1)] at h
    obtain ⟨rfl, _⟩ := Prod.mk.inj h
    omega
  · rw [giveD_in (by omega) (by omega)] at h
    obtain ⟨rfl, _⟩ := Prod.mk.inj h
    omega
end Go.Proofs.YtebjedbppiphgaaGreatDoor.Rnd
namespace Go.Proofs.YtebjedbppiphgaaGreatDoor.Run
open Go.RowKit Kit Reg
/-- texts, as a row of one's own and as a slice that is read -/
def strs (ws : List (List UInt8)) : List Value := ws.map fun w => .string ⟨w.toArray⟩
def OwnS (B : Nat) (v : Value) (ws : List (List UInt8)) (w : World) : Prop := w.ownsRow B 9 1 v ws.length (strs ws)
theorem OwnS.on {B : Nat} {v : Value} {ws : List (List UInt8)} {w w' : World} (h : OwnS B v ws w) (hb : Below w.heap.size w w') : OwnS B v ws w' := own_on h hb
def StrsR (w : World) (A : Option Addr) (ws : List (List UInt8)) : Prop := ws = [] ∨ ∃ g, A = some ⟨g, 0, none⟩ ∧ g < w.heap.size ∧ ∀ i n, ws[i]? = some n → w.cell? ⟨g, i, none⟩ = some (.string ⟨n.toArray⟩)
theorem StrsR.on {w w' : World} {A : Option Addr} {ws : List (List UInt8)} (h : StrsR w A ws) (hb : Below w.heap.size w w') : StrsR w' A ws := by
  rcases h with h | ⟨g, hA, hg, h⟩
  · exact .inl h
  · exact .inr ⟨g, hA, Nat.lt_of_lt_of_le hg hb.size, fun i c hc => (hb.cell (p := ⟨g, i, none⟩) hg).trans (h i c hc)⟩
theorem OwnS.strs {B : Nat} {v : Value} {ws : List (List UInt8)} {w : World} (h : OwnS B v ws w) (n : Nat) (hn : ws.length = n) : ∃ A cap, v = .slice A n cap ∧ StrsR w A ws ∧ n ≤ cap := by
  subst hn
  have h0 := h
  rcases h.2 with ⟨rfl, h1⟩ | ⟨g, cap, cur, rfl, hb, hg, hcap, hrest⟩
  · exact ⟨_, _, by rw [h1], .inl (List.eq_nil_of_length_eq_zero h1), by omega⟩
  · refine ⟨_, _, rfl, .inr ⟨g, rfl, (Array.getElem?_eq_some_iff.1 hg).1, fun i c hc => ?_⟩, hcap⟩
    have hi : i < ws.length := (List.getElem?_eq_some_iff.1 hc).1
    exact (World.ownsRow.cellAt h0 i (by omega)).trans (by simp [Run.strs, hc])
def lenOf : Value → Nat | .string b => b.size | _ => 0
theorem str_is {t : ByteArray} {l : List UInt8} (h : t.data.toList = l) : t = ⟨l.toArray⟩ := bytes_eq (by simp [h])

end Go.Proofs.YtebjedbppiphgaaGreatDoor.Run
namespace Go.Proofs.YtebjedbppiphgaaGreatDoor.Run
open Go.RowKit Kit Reg
theorem flat_snoc {L : List (List UInt8)} {k : Nat} {x : List UInt8} (h : L[k]? = some x) : (L.take (k + 1)).flatten = (L.take k).flatten ++ x := by
  rw [List.take_add_one, h]
  simp
theorem flat_le (L : List (List UInt8)) (k : Nat) : (L.take k).flatten.length ≤ L.flatten.length := by
  have h2 : L.flatten = (L.take k).flatten ++ (L.drop k).flatten := by rw [← List.flatten_append, List.take_append_drop]
  rw [h2, List.length_append]
  omega
theorem flat_part {L : List (List UInt8)} {k : Nat} {x : List UInt8} (h : L[k]? = some x) : (L.take k).flatten.length + x.length ≤ L.flatten.length := by
  have := flat_le L (k + 1)
  rw [flat_snoc h, List.length_append] at this
  exact this
set_option maxRecDepth 100000 in
set_option maxHeartbeats 2000000 in
theorem rjoin_c (A : Option Addr) (cap c : Nat) (L : List (List UInt8)) (hc : L.length = c) (hc9 : c ≤ 1000000) (h9 : L.flatten.length ≤ 1000000) (w : World) (h : StrsR w A L) :
    Calls Tryz.prog 302 #[.slice A c cap] w fun e w' => e = .returned (.string ⟨L.flatten.toArray⟩) ∧ w = w' := by
  have H := Lib.hid h
  have HC := Lib.hid hc
  have HF : Hid (∀ k x, L[k]? = some x → (L.take k).flatten.length + x.length ≤ 1000000) := Lib.hid fun k x hx => Nat.le_trans (flat_part hx) h9
  have HE : Hid (L.flatten = (L.take c).flatten) := Lib.hid (by rw [List.take_of_length_le (by omega)])
  clear h hc h9
  go_enter Tryz.func302, Tryz.ntmps302
  go_wp2
  go_loopw [3, 4] (fun o i wr => ∃ (k : Nat) (x : ByteArray), k ≤ c ∧ i = .int .i64 k ∧ o = .string x ∧ Hid (x.data.toList = (L.take k).flatten) ∧ w = wr) (fun _ i _ => c - (intOf i).toNat)
  case atStart => exact ⟨0, _, Nat.zero_le _, rfl, rfl, Lib.hid (by simp), rfl⟩
  case round =>
    obtain ⟨k, x, hk, rfl, rfl, hx, rfl⟩ := hrel
    by_cases hlt : k < c
    · obtain ⟨p, hp⟩ : ∃ p, L[k]? = some p := ⟨_, List.getElem?_eq_getElem (by rw [HC.out]; exact hlt)⟩
      have hne : L ≠ [] := by intro e; have := HC.out; rw [e] at this; simp at this; omega
      obtain ⟨g, rfl, hg, hc1⟩ := H.out.resolve_left hne
      have x0 := hc1 k p hp
      have hb := HF.out k p hp
      rw [← hx.out, ← Lib.size_eq] at hb
      have hps : (⟨p.toArray⟩ : ByteArray).size = p.length := by rw [ByteArray.size, List.size_toArray]
      rw [← hps] at hb
      have HN : Hid ((x ++ ⟨p.toArray⟩).data.toList = (L.take (k + 1)).flatten) := Lib.hid (by rw [flat_snoc hp, ← hx.out]; simp)
      clear hc1 hp hps
      generalize (⟨p.toArray⟩ : ByteArray) = y at *
      go_wp2
      go_roundw
      case rel => exact ⟨k + 1, x ++ y, by omega, by go_num, rfl, HN, by first | rfl | trivial⟩
      case measure => simp [intOf]; omega
    · obtain rfl : k = c := by omega
      have hX := str_is hx.out
      rw [← HE.out] at hX
      clear hx
      go_wp2
      go_ret
      exact ⟨by rw [hX]; rfl, rfl⟩
end Go.Proofs.YtebjedbppiphgaaGreatDoor.Run
namespace Go.Proofs.YtebjedbppiphgaaGreatDoor.Cal
open Go.RowKit Kit Reg Dec Dig Val Fld
theorem gV_eq {n : Int} {k : Bool} {a b : Int} (h : gotV n k = (a, b)) : gV (n, k) = ⟨a, b, ⟨#[]⟩⟩ := by
  unfold gV
  dsimp only
  rw [h]
end Go.Proofs.YtebjedbppiphgaaGreatDoor.Cal
namespace Go.Proofs.YtebjedbppiphgaaGreatDoor.Pow
open Go.RowKit Kit Dec Reg
/-- their cells, one behind the other -/
def flat (cs : List (Int × Bool)) : List Value := cs.flatMap fun c => [.int .i64 c.1, .bool c.2]
theorem flat_snoc (cs : List (Int × Bool)) (c : Int × Bool) : flat (cs ++ [c]) = flat cs ++ [.int .i64 c.1, .bool c.2] := by simp [flat]
theorem flat_at : ∀ (cs : List (Int × Bool)) (i : Nat) (c : Int × Bool), cs[i]? = some c → (flat cs)[i * 2]? = some (.int .i64 c.1) ∧ (flat cs)[i * 2 + 1]? = some (.bool c.2)
  | [], _, _, h => by simp at h
  | d :: r, 0, c, h => by
    simp only [List.getElem?_cons_zero, Option.some.injEq] at h
    subst h
    simp [flat]
  | d :: r, i + 1, c, h => by
    have h2 := flat_at r i c (by simpa using h)
    rw [show (i + 1) * 2 = i * 2 + 1 + 1 by omega]
    simpa [flat] using h2
/-- a slice of its own that holds these -/
def OwnRow (B : Nat) (v : Value) (cs : List (Int × Bool)) (w : World) : Prop := w.ownsRow B 55 2 v cs.length (flat cs)
theorem OwnRow.row {B : Nat} {v : Value} {cs : List (Int × Bool)} {w : World} (h : OwnRow B v cs w) (h0 : 0 < cs.length) :
    ∃ g cap, v = .slice (some ⟨g, 0, none⟩) cs.length cap ∧ g < w.heap.size ∧ ∀ i c, cs[i]? = some c → w.cell? ⟨g, i * 2, none⟩ = some (.int .i64 c.1) ∧ w.cell? ⟨g, i * 2 + 1, none⟩ = some (.bool c.2) := by
  have h9 := h
  rcases h.2 with ⟨rfl, h1⟩ | ⟨g, cap, cur, rfl, hb, hg, hrest⟩
  · omega
  · refine ⟨g, cap, rfl, (Array.getElem?_eq_some_iff.1 hg).1, fun i c hc => ?_⟩
    have hi : i < cs.length := (List.getElem?_eq_some_iff.1 hc).1
    obtain ⟨f1, f2⟩ := flat_at cs i c hc
    exact ⟨(World.ownsRow.cellAt h9 (i * 2) (by omega)).trans f1, (World.ownsRow.cellAt h9 (i * 2 + 1) (by omega)).trans f2⟩
/-- a row that is read: its block lies below what is made since -/
structure RowAt (w : World) (C g : Nat) (cs : List (Int × Bool)) : Prop where
  lt : g < C
  le : C ≤ w.heap.size
  at_ : ∀ i c, cs[i]? = some c → w.cell? ⟨g, i * 2, none⟩ = some (.int .i64 c.1) ∧ w.cell? ⟨g, i * 2 + 1, none⟩ = some (.bool c.2)
theorem RowAt.on {w w' : World} {C g : Nat} {cs : List (Int × Bool)} (h : RowAt w C g cs) (hb : Below w.heap.size w w') : RowAt w' C g cs :=
  ⟨h.lt, Nat.le_trans h.le hb.size, fun i c hc => ⟨(hb.cell (p := ⟨g, i * 2, none⟩) (Nat.lt_of_lt_of_le h.lt h.le)).trans (h.at_ i c hc).1, (hb.cell (p := ⟨g, i * 2 + 1, none⟩) (Nat.lt_of_lt_of_le h.lt h.le)).trans (h.at_ i c hc).2⟩⟩
theorem RowAt.up {w : World} {C g : Nat} {cs : List (Int × Bool)} (h : RowAt w C g cs) : RowAt w w.heap.size g cs := ⟨Nat.lt_of_lt_of_le h.lt h.le, Nat.le_refl _, h.at_⟩
theorem RowAt.grownBy {A B : World} {C g : Nat} {cs : List (Int × Bool)} {row : Option Nat} (h : RowAt A C g cs) (hg : A.grownBy B row) (hne : some g ≠ row) : RowAt B C g cs := by
  have hb := hg.block g (Nat.lt_of_lt_of_le h.lt h.le) hne
  exact ⟨h.lt, Nat.le_trans h.le hg.size, fun i c hc => ⟨(World.cell?_of_block (a := ⟨g, i * 2, none⟩) hb).trans (h.at_ i c hc).1, (World.cell?_of_block (a := ⟨g, i * 2 + 1, none⟩) hb).trans (h.at_ i c hc).2⟩⟩
theorem cells_grown {A B : World} {b : Nat} {cs : List Value} {row : Option Nat} (h : CellsAt A b cs) (hg : A.grownBy B row) (hne : some b ≠ row) : CellsAt B b cs := by
  have hb := hg.block b h.1 hne
  exact ⟨Nat.lt_of_lt_of_le h.1 hg.size, fun i v hi => ⟨(World.cell?_of_block (a := ⟨b, i, none⟩) hb).trans (h.2 i v hi).1, (World.frozen?_of_block (a := ⟨b, i, none⟩) hb).trans (h.2 i v hi).2⟩⟩
theorem below_none {A B : World} (hb : Below A.heap.size A B) : A.grownBy B none := ⟨hb.os, hb.tape, hb.output, hb.size, fun k hk _ => hb.block k hk⟩
theorem OwnRow.on {B : Nat} {v : Value} {cs : List (Int × Bool)} {w w' : World} (h : OwnRow B v cs w) (hb : Below w.heap.size w w') : OwnRow B v cs w' :=
  World.ownsRow.kept h (below_none hb) (by
    rcases h.2 with ⟨rfl, _⟩ | ⟨g, cap, cur, rfl, _⟩
    · exact .inl rfl
    · exact .inr (by simp [Value.ownBlock]))
end Go.Proofs.YtebjedbppiphgaaGreatDoor.Pow

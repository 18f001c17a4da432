/- What the reference's Digit, more, whole, Text on decimals as text answer.
   What the reference's Read of a decimal answers: for every text below 2^47 bytes.
   Rows of bytes of one's own, and such a row as a text. No function of the program is named here.
   What the reference's Plain, upper, marked answer. -/
import Derived.Test.YtcgpggknmhlnkaaDoorPs29
import Derived.Test.YtcgpggknmhlnkaaDoorPs19
import Derived.Test.YtcgpggknmhlnkaaDoorPs03
import Derived.StillTailTactics
import Derived.Test.YtcgpggknmhlnkaaDoorPs04
import Derived.Lib.UnsafeStr
import Derived.Laws.IdiomStrings
import Derived.Test.YtcgpggknmhlnkaaDoorPs22
namespace Go.Proofs.YtcgpggknmhlnkaaDoor.Dig
open Go.RowKit Kit Dec
/-- the digits laid so far -/
def LaidD (N m : Nat) (T : ByteArray) : Prop := (if m = 0 then [] else Lib.decDigits m) ++ T.data.toList = Lib.decDigits N
theorem LaidD.size {N m : Nat} {T : ByteArray} (h : LaidD N m T) (hN : N < 18446744073709551616) : T.size ≤ 20 := by
  have := congrArg List.length h
  rw [List.length_append, len] at this
  have h2 := dd_len 19 N (by omega)
  omega
theorem digs_step (m : Nat) : (if m / 10 = 0 then [] else Lib.decDigits (m / 10)) ++ [dg (m % 10)] = Lib.decDigits m := by
  by_cases h : m < 10
  · rw [if_pos (by omega), dd_small h, Nat.mod_eq_of_lt h]; rfl
  · rw [if_neg (by omega), ← dd_big h]
theorem LaidD.first (N : Nat) {T : ByteArray} (h : T.data.toList = [dg (N % 10)]) : LaidD N (N / 10) T := by
  unfold LaidD
  rw [h]; exact digs_step N
theorem LaidD.next {N m : Nat} {T U : ByteArray} (h : LaidD N m T) (hm : 0 < m) (hU : U.data.toList = dg (m % 10) :: T.data.toList) : LaidD N (m / 10) U := by
  unfold LaidD at h ⊢
  rw [if_neg (by omega)] at h
  rw [hU, ← h, ← digs_step m, List.append_assoc]
  rfl
end Go.Proofs.YtcgpggknmhlnkaaDoor.Dig
namespace Go.Proofs.YtcgpggknmhlnkaaDoor.Dig
open Go.RowKit Kit Dec
/-- the memory of a reader: the result's block, and the number's -/
def NumMem (w wr : World) (n : Int) (b : Bool) : Prop := Below w.heap.size w wr ∧ CellsAt wr w.heap.size [.int .i64 0, .bool false] ∧ CellsAt wr (w.heap.size + 1) [.int .i64 n, .bool b]
theorem NumMem.on {w wr wr' : World} {q : Int} {b : Bool} (h : NumMem w wr q b) (hb : Below wr.heap.size wr wr') : NumMem w wr' q b :=
  ⟨Kit.on h.1 hb, h.2.1.on hb, h.2.2.on hb⟩
theorem NumMem.put {w wr : World} {q : Int} {b : Bool} (h : NumMem w wr q b) (n : Int) (k : Bool) : NumMem w (put2 wr (w.heap.size + 1) (.int .i64 n) (.bool k)) n k :=
  ⟨set2 h.1 (by omega) _ _, h.2.1.put2_far (by omega) _ _, h.2.2.put2 _ _⟩
end Go.Proofs.YtcgpggknmhlnkaaDoor.Dig
namespace Go.Proofs.YtcgpggknmhlnkaaDoor.Kit
open Go.RowKit Reg
/-- a row of bytes of one's own, in a block at B or above -/
def OwnB (B : Nat) (v : Value) (l : List UInt8) (w : World) : Prop := w.ownsRow B 5 1 v l.length (Lib.byteCells l)
theorem OwnB.lit {B : Nat} {w : World} (hB : B ≤ w.heap.size) (b : UInt8) (x : Int) (hx : x = (b.toNat : Int)) : OwnB B (.slice (some ⟨w.heap.size, 0, none⟩) 1 1) [b] (w.alloc (.cells #[.int .u8 x] 5)) := by
  subst hx
  exact World.ownsRow_lit w #[.int .u8 (b.toNat : Int)] 1 hB (by decide) rfl
theorem OwnB.empty (B : Nat) (w : World) : OwnB B (.slice none 0 0) [] w := World.ownsRow_nil _ _ _ _
theorem OwnB.on {B : Nat} {w w' : World} {v : Value} {l : List UInt8} (h : OwnB B v l w) (hb : Below w.heap.size w w') : OwnB B v l w' := own_on h hb
/-- what stays behind an append to such a row -/
theorem OwnB.below {B : Nat} {w0 w w' : World} {v : Value} {n : Nat} {xs : List Value} {o : Obj} (h : w.ownsRow B 5 1 v n xs) (hb : Below w0.heap.size w0 w) (hB : w0.heap.size ≤ B) (hg : (w.alloc o).grownBy w' v.ownBlock) : Below w0.heap.size w0 w' :=
  (on_alloc hb _).grown hg (by have := hb.size; simp; omega) (fun b e => Nat.le_trans hB (World.ownsRow.lt h b e).1)
end Go.Proofs.YtcgpggknmhlnkaaDoor.Kit
namespace Go.Proofs.YtcgpggknmhlnkaaDoor.Lex
open Go.RowKit Kit Dec Dig
open Val (quoteL quoteL_skip quoteL_mark)
theorem plain_iff (b : UInt8) : plainB b = true ↔ 32 ≤ b.toNat ∧ b.toNat ≠ 127 := by
  unfold plainB
  rw [Bool.and_eq_true, decide_eq_true_eq, Bool.not_eq_true', beq_eq_false_iff_ne]
  refine and_congr_right fun _ => not_congr ⟨fun h => by rw [h]; rfl, fun h => UInt8.toNat_inj.1 h⟩
/-- where a reader of marks stands -/
def MarkAt (R : List UInt8) (j : Nat) (O : List UInt8) : Prop := markL R = (markL (R.drop j)).map (fun p => (O ++ p.1, j + p.2))
theorem MarkAt.start (R : List UInt8) : MarkAt R 0 [] := by
  unfold MarkAt
  rw [List.drop_zero]
  cases markL R with
  | none => rfl
  | some p => rw [Option.map_some, List.nil_append, Nat.zero_add]
theorem mark_bad {b : UInt8} (h : plainB b = false) (r : List UInt8) : markL (b :: r) = none := by unfold markL; exact if_pos h
theorem drop_at {R : List UInt8} {j : Nat} {b : UInt8} (h : R[j]? = some b) : R.drop j = b :: R.drop (j + 1) := by
  obtain ⟨hj, hb⟩ := List.getElem?_eq_some_iff.1 h
  rw [List.drop_eq_getElem_cons hj, hb]
theorem MarkAt.bad {R : List UInt8} {j : Nat} {O : List UInt8} {b : UInt8} (h : MarkAt R j O) (hb : R[j]? = some b) (hp : plainB b = false) : markL R = none := by
  unfold MarkAt at h
  rw [h, drop_at hb, mark_bad hp]
  rfl
theorem MarkAt.out {R : List UInt8} {j : Nat} {O : List UInt8} (h : MarkAt R j O) (hb : R.length ≤ j) : markL R = none := by
  unfold MarkAt at h
  rw [h, List.drop_eq_nil_of_le hb]
  rfl
end Go.Proofs.YtcgpggknmhlnkaaDoor.Lex

/- What the program's Reverse answers (over the landed text of package runes): for every text of at most a million bytes.
   How many bytes the first rune has: what the reference's Size answers: for every text of at most a million bytes.
   What the reference's Pieces, Join, Mid, Right, Find, Reverse, First answer: for every text of at most a million bytes.
   What the reference's Join, Mid, Right, Reverse answer: for every text of at most a million bytes.
   What the reference's functions of one number answer. Written by wip/gen20a.py.
   What the reference's Combin answers: the triangle, row by row.
   What the program's Rept and Put answer (over the landed text of package text): for texts of at most 400 bytes.
   What the reference's functions of two numbers answer. Written by wip/gen20b.py. -/
import Derived.Test.YtebjedbppiphgaaGreatDoorKfa16
import Derived.Test.YtebjedbppiphgaaGreatDoorKfa19
import Derived.Lib.BufferWrite
import Derived.Laws.MakeOwn
import Derived.Laws.CopyOwn
import Derived.Test.YtebjedbppiphgaaGreatDoorKfa35
import Derived.Test.YtebjedbppiphgaaGreatDoorKfa24
import Derived.Maps.AppendAt
import Derived.Laws.OwnMore
import Derived.Deep.Onto
import Derived.Test.YtebjedbppiphgaaGreatDoorKfa21
import Derived.Test.YtebjedbppiphgaaGreatDoorKfa09
import Derived.Test.YtebjedbppiphgaaGreatDoorKfa07
import Derived.Test.YtebjedbppiphgaaGreatDoorKfa14
import Derived.Test.YtebjedbppiphgaaGreatDoorKfa10
import Derived.BigQuiet
namespace Go.Proofs.YtebjedbppiphgaaGreatDoor.Run
open Go.RowKit Kit
def zeros (n : Nat) : List Value := List.replicate n (.int .u8 0)
theorem zeros_len (n : Nat) : (zeros n).length = n := List.length_replicate
theorem made_zeros (n : Nat) : madeCells #[.int .u8 0] n = (zeros n).toArray := by
  apply Array.ext
  · simp [madeCells, zeros]
  · intro i h1 h2
    simp only [size_madeCells] at h1
    simp [madeCells, zeros, Nat.mod_one]
/-- the row, once the runes ahead of a place lie in it -/
def rowAt (l : List UInt8) (k p : Nat) : List Value := zeros (l.length - p) ++ Lib.byteCells ((ps l).take k).reverse.flatten
theorem row_zero (l : List UInt8) : rowAt l 0 0 = zeros l.length := by simp [rowAt, Lib.byteCells]
theorem row_len (l : List UInt8) (k p : Nat) (h : offL l k = p) : (rowAt l k p).length = l.length := by
  have h2 : (((ps l).take k).reverse.flatten).length = p := by
    rw [← h, offL, List.length_flatten, List.length_flatten, List.map_reverse, List.sum_reverse]
  have := off_le l k
  rw [rowAt, List.length_append, zeros_len, Lib.byteCells_length, h2]
  omega
theorem row_step (l : List UInt8) (k p q x : Nat) (t : List UInt8) (hk : k < (ps l).length) (hp : offL l k = p) (hq : offL l (k + 1) = q) (ht : t = leftL (l.drop p) 1) (hx : x + q = l.length) :
    (rowAt l k p).take x ++ Lib.byteCells t ++ (rowAt l k p).drop (x + t.length) = rowAt l (k + 1) q ∧ t.length + p = q := by
  have h1 := ps_at hk
  have h2 := off_step hk
  have h3 := sz_pos (drop_ne hk)
  rw [hp] at h1 h2 h3
  have e : t = (l.drop p).take (szL (l.drop p)) := by
    rw [ht, leftL, off_cons (by rw [← hp]; exact drop_ne hk), off_zero, Nat.add_zero]
  have htl : t.length = szL (l.drop p) := by rw [e, List.length_take]; omega
  have hle := off_le l (k + 1)
  refine ⟨?_, by omega⟩
  have hz : l.length - p = x + t.length := by omega
  rw [rowAt, hz, List.drop_left' (zeros_len _), List.take_append_of_le_length (by rw [zeros_len]; omega)]
  rw [rowAt, show l.length - q = x by omega, List.take_add_one, h1, ← e]
  have hzz : (zeros (x + t.length)).take x = zeros x := by rw [zeros, List.take_replicate, Nat.min_eq_left (by omega)]; rfl
  rw [hzz, List.reverse_append]
  simp only [Option.toList_some, List.reverse_cons, List.reverse_nil, List.nil_append, List.flatten_append, List.flatten_cons, List.flatten_nil, List.append_nil]
  rw [Lib.byteCells_append, List.append_assoc]
theorem row_end (l : List UInt8) (k p : Nat) (hk : (ps l).length ≤ k) (hp : offL l k = p) : rowAt l k p = Lib.byteCells (revL l) := by
  rw [← hp, off_end hk, rowAt, Nat.sub_self, List.take_of_length_le hk]
  rfl
/-- 'copy' by its run -/
theorem wpList_copy_run {P : Program} {w : World} {ops : Array Oper} {rest : List Oper} {o : Oper} {a : Act} {Q : Exit → Act → World → Prop} (hgd : o.guard = none) (d s : Operand) (dT sT : TypeId)
    (ho : o.op = .call { callee := .builtin .copy, args := #[d, s], argTypes := #[dT, sT] }) (dv sv : Value) (hd : a.eval d = dv) (hs : a.eval s = sv) (r : Value) (w2 : World)
    (hrun : (Builtin.copy_ #[dT, sT] o.type #[dv, sv]).run P w = .ok r w2) (h : wpList P ops Q rest (a.put o.dst r) w2) : wpList P ops Q (o :: rest) a w := by
  refine wpList_plain hgd fun K hK => ?_
  unfold Oper.wp
  simp [execOp, ho, resolve, invoke, builtin, hd, hs, hrun, Result.andThen]
  exact hK _ _ h
theorem infoU : (Tryz.prog.info? 5).map (·.size) = some 1 := by kernel_rfl
theorem make_u8 (n : Nat) (hn : n ≤ 1000000) (w : World) : (Instr.makeSlice 50 (.int .i64 (n : Int)) (.int .i64 (n : Int))).run Tryz.prog w = .ok (.slice (some ⟨w.heap.size, 0, none⟩) n n) (w.alloc (.cells (zeros n).toArray 5)) := by
  obtain ⟨i, hin, hz, h1, h2⟩ := info_parts infoB
  rw [run_make (P := Tryz.prog) w 50 5 i (.int .u8 0) Tryz.underlying50 hin hz .i64 .i64 n n (by omega) (Int.le_refl _) (by rw [h2]; omega) (by omega), h1]
  simp only [Int.toNat_natCast, Nat.mul_one]
  rw [show (Value.int IntKind.u8 0).cells = #[.int .u8 0] from rfl, made_zeros]

theorem iterPos_of {w : World} {b p : Nat} {s : ByteArray} (h : w.heap[b]? = some (.stringIter s p)) : w.iterPos b = p := by simp [World.iterPos, h]
theorem iterAt_other {w : World} {b c : Nat} {s : ByteArray} {p : Nat} (h : b ≠ c) : (w.iterAt c s p).heap[b]? = w.heap[b]? := by
  simp [World.iterAt, Ne.symm h]
/-- a row of bytes as a text -/
theorem conv_row {w : World} {b : Nat} {l : List UInt8} (n : Nat) (hn : l.length = n) (h : w.heap[b]? = some (.cells (Lib.byteCells l).toArray 5 (0, 0))) :
    (convert 50 9 (.slice (some ⟨b, 0, none⟩) n n)).run Tryz.prog w = .ok (.string ⟨l.toArray⟩) w := by
  subst hn
  refine run_convert_bytes_back w _ _ _ ⟨b, 0, none⟩ l.length l Tryz.underlying50 Tryz.underlying5 Tryz.underlying9 (fun j hj => ?_)
  rw [show ((⟨b, 0, none⟩ : Addr).add j) = ⟨b, j, none⟩ by unfold Addr.add; split <;> simp_all]
  simp [World.cell?, h, Lib.byteCells, hj]
set_option maxRecDepth 100000 in
set_option maxHeartbeats 4000000 in
theorem reverse_c (s : ByteArray) (l : List UInt8) (hs : s.data.toList = l) (h9 : s.size ≤ 1000000) (w : World) :
    Calls Tryz.prog 107 #[.string s] w fun e w' => e = .returned (.string ⟨(revL l).toArray⟩) ∧ Below w.heap.size w w' := by
  have hl := len_of hs
  have h0 := off_zero l
  have HN := Lib.hid (fun w b k p hk hb h => next_at Tryz.prog w b s l hs k p hk hb h)
  have HE : Hid (∀ k, ¬ offL l k < s.size → (ps l).length ≤ k) := Lib.hid fun k hk => by
    have := off_lt l k
    omega
  have HL : Hid (∀ p, ∀ w, Calls Tryz.prog 114 #[.string (s.extract p s.size), .int .i64 1] w fun e w' => ∃ t, e = .returned (.string t) ∧ t.data.toList = leftL (l.drop p) 1 ∧ Below w.heap.size w w') := Lib.hid fun p w =>
    left_c (s.extract p s.size) (l.drop p) (by rw [ext_drop, hs]) (by rw [ByteArray.size_extract]; omega) 1 (by omega) w
  have hmk := make_u8 s.size h9
  have hr0 : (w.alloc (.cells (rowAt l 0 0).toArray 5)).heap[w.heap.size]? = some (.cells (rowAt l 0 0).toArray 5 (0, 0)) := by
    show (w.heap.push _)[w.heap.size]? = _
    simp
  rw [row_zero, hl] at hr0
  have hr1 : Hid (((w.alloc (.cells (zeros s.size).toArray 5)).iter s 0).heap[w.heap.size]? = some (.cells (rowAt l 0 0).toArray 5 (0, 0))) := Lib.hid (by
    rw [row_zero, hl, ← hr0]
    exact (iter_below _ s 0).block _ (by simp))
  have hi1 : Hid (((w.alloc (.cells (zeros s.size).toArray 5)).iter s 0).heap[w.heap.size + 1]? = some (.stringIter s 0)) := Lib.hid (by
    have := World.iter_heap (w.alloc (.cells (zeros s.size).toArray 5)) s 0
    simpa using this)
  have hb1 : Below w.heap.size w ((w.alloc (.cells (zeros s.size).toArray 5)).iter s 0) := on_alloc (below1 w _) _
  have HS := Lib.hid hs
  clear hr0 hs
  go_enter Tryz.func107, Tryz.ntmps107
  go_wp2
  go_loopw [4, 5] (fun _ _ wr => ∃ (k p : Nat), Hid (offL l k = p) ∧ p ≤ s.size ∧ Hid (wr.heap[w.heap.size]? = some (.cells (rowAt l k p).toArray 5 (0, 0))) ∧ Hid (wr.heap[w.heap.size + 1]? = some (.stringIter s p)) ∧ Below w.heap.size w wr) (fun _ _ wr => s.size - wr.iterPos (w.heap.size + 1))
  case atStart => exact ⟨0, 0, Lib.hid h0, Nat.zero_le _, hr1, hi1, hb1⟩
  case round =>
    clear hr1 hi1 hb1 hmk
    obtain ⟨k, p, hp, hps, hr, hi, hb⟩ := hrel
    have hlt1 : w.heap.size < wr.heap.size := (Array.getElem?_eq_some_iff.1 hr.out).1
    have hlt2 : w.heap.size + 1 < wr.heap.size := (Array.getElem?_eq_some_iff.1 hi.out).1
    by_cases hlt : p < s.size
    · obtain ⟨hkn, q, v, hq, hpq, hqs, _, hnx⟩ := HN.out wr _ k p hp.out hi.out hlt
      have hb2 : Below w.heap.size w (wr.iterAt (w.heap.size + 1) s q) := Lib.below_iterAt hb (by omega) s q
      have hi2 := Lib.iterAt_heap wr (w.heap.size + 1) s p q hi.out
      have hr2 : (wr.iterAt (w.heap.size + 1) s q).heap[w.heap.size]? = some (.cells (rowAt l k p).toArray 5 (0, 0)) := by
        rw [iterAt_other (by omega)]; exact hr.out
      have hM := iterPos_of hi.out
      have HI := Lib.hid hi2
      have HR := Lib.hid hr2
      have HQ := Lib.hid hq
      clear hi2 hr2 hi hr hq
      generalize wr.iterAt (w.heap.size + 1) s q = w3 at *
      go_wp2_with fail
      refine (HL.out p _).mono ?_
      rintro e w4 ⟨t, rfl, ht, hb4⟩
      have hi4 := (hb4.block _ (Array.getElem?_eq_some_iff.1 HI.out).1).trans HI.out
      have hr4 := (hb4.block _ (Array.getElem?_eq_some_iff.1 HR.out).1).trans HR.out
      obtain ⟨x, hx⟩ : ∃ x, x + q = s.size := ⟨s.size - q, by omega⟩
      obtain ⟨y, hy⟩ : ∃ y, y + p = s.size := ⟨s.size - p, by omega⟩
      obtain ⟨hst, htl⟩ := row_step l k p q x t.data.toList hkn hp.out HQ.out ht (by omega)
      have hrl := row_len l k p hp.out
      rw [← Lib.size_eq] at hst htl
      have hcopy := fun ty => Lib.run_copy_row_string (P := Tryz.prog) w4 50 9 ty 5 w.heap.size x q q t (rowAt l k p).toArray 5 Tryz.underlying50 infoU hr4 (by omega) (by simp; omega)
      simp only [hst] at hcopy
      have hb5 := below_setRow (on hb2 hb4) (Nat.le_refl w.heap.size) (rowAt l (k + 1) q).toArray
      have hr5 := Lib.hid (setRow_heap w4 w.heap.size _ (rowAt l (k + 1) q).toArray _ _ hr4)
      have hi5 := (setRow_other w4 w.heap.size (w.heap.size + 1) (rowAt l (k + 1) q).toArray (by omega)).trans hi4
      have hM5 := iterPos_of hi5
      have HI5 := Lib.hid hi5
      generalize w4.setRow w.heap.size (rowAt l (k + 1) q).toArray = w5 at *
      have hx1 : (s.size : Int) - p = y := by omega
      have hx2 : (y : Int) - t.size = x := by omega
      have hxl : x < s.size := by omega
      have hxq : s.size - x = q := by omega
      clear hst htl hrl hr4 hi4 hi5 ht HI HR hb2 hb4 hb HN HL HE HS hp hnx
      go_wp2_with (at_builtin; refine wpList_copy_run rfl _ _ _ _ rfl _ _ rfl rfl _ _ (hcopy _) ?_)
      go_roundw
      case rel => exact ⟨k + 1, q, HQ, hqs, hr5, HI5, hb5⟩
      case measure => omega
    · have hnx := fun ty => Lib.run_next_end_at (P := Tryz.prog) wr (w.heap.size + 1) s p ty hi.out hlt
      have hE := HE.out k (by rw [hp.out]; exact hlt)
      have hrr := hr.out
      rw [row_end l k p hE hp.out] at hrr
      have hcv := conv_row s.size (by rw [rev_len, hl]) hrr
      clear hrr hr hi
      go_wp2
      go_ret
      exact ⟨rfl, hb⟩
end Go.Proofs.YtebjedbppiphgaaGreatDoor.Run
namespace Go.Proofs.YtebjedbppiphgaaGreatDoor.Run
open Go.RowKit Kit
def loN (a k : Nat) : Nat := if k = 1 then (if a = 224 then 160 else if a = 240 then 144 else 128) else 128
def hiN (a k : Nat) : Nat := if k = 1 then (if a = 237 then 159 else if a = 244 then 143 else 191) else 191
def okN (l : List UInt8) (k : Nat) : Prop := loN (atN l 0) k ≤ atN l k ∧ atN l k ≤ hiN (atN l 0) k
theorem ok_one {l : List UInt8} (h : okN l 1) : 128 ≤ atN l 1 ∧ atN l 1 ≤ 191 ∧ (atN l 0 = 224 → 160 ≤ atN l 1) ∧ (atN l 0 = 237 → atN l 1 ≤ 159) ∧ (atN l 0 = 240 → 144 ≤ atN l 1) ∧ (atN l 0 = 244 → atN l 1 ≤ 143) := by
  unfold okN loN hiN at h
  rw [if_pos rfl, if_pos rfl] at h
  generalize atN l 0 = a at *
  generalize atN l 1 = b at *
  obtain ⟨h1, h2⟩ := h
  refine ⟨?_, ?_, ?_, ?_, ?_, ?_⟩
  · repeat' split at h1
    all_goals omega
  · repeat' split at h2
    all_goals omega
  · rintro rfl
    rw [if_pos rfl] at h1
    exact h1
  · rintro rfl
    rw [if_pos rfl] at h2
    exact h2
  · rintro rfl
    rw [if_neg (by decide), if_pos rfl] at h1
    exact h1
  · rintro rfl
    rw [if_neg (by decide), if_pos rfl] at h2
    exact h2
end Go.Proofs.YtebjedbppiphgaaGreatDoor.Run
namespace Go.Proofs.YtebjedbppiphgaaGreatDoor.Run
open Go.RowKit Kit Reg
/-- texts, as a row of one's own and as a slice that is read -/
def strs (ws : List (List UInt8)) : List Value := ws.map fun w => .string ⟨w.toArray⟩
def OwnS (B : Nat) (v : Value) (ws : List (List UInt8)) (w : World) : Prop := w.ownsRow B 9 1 v ws.length (strs ws)
theorem OwnS.on {B : Nat} {v : Value} {ws : List (List UInt8)} {w w' : World} (h : OwnS B v ws w) (hb : Below w.heap.size w w') : OwnS B v ws w' := own_on h hb
def StrsR (w : World) (A : Option Addr) (ws : List (List UInt8)) : Prop := ws = [] ∨ ∃ g, A = some ⟨g, 0, none⟩ ∧ g < w.heap.size ∧ ∀ i n, ws[i]? = some n → w.cell? ⟨g, i, none⟩ = some (.string ⟨n.toArray⟩)
theorem StrsR.on {w w' : World} {A : Option Addr} {ws : List (List UInt8)} (h : StrsR w A ws) (hb : Below w.heap.size w w') : StrsR w' A ws := by
  rcases h with h | ⟨g, hA, hg, h⟩
  · exact .inl h
  · exact .inr ⟨g, hA, Nat.lt_of_lt_of_le hg hb.size, fun i c hc => (hb.cell (p := ⟨g, i, none⟩) hg).trans (h i c hc)⟩
theorem OwnS.strs {B : Nat} {v : Value} {ws : List (List UInt8)} {w : World} (h : OwnS B v ws w) (n : Nat) (hn : ws.length = n) : ∃ A cap, v = .slice A n cap ∧ StrsR w A ws ∧ n ≤ cap := by
  subst hn
  have h0 := h
  rcases h.2 with ⟨rfl, h1⟩ | ⟨g, cap, cur, rfl, hb, hg, hcap, hrest⟩
  · exact ⟨_, _, by rw [h1], .inl (List.eq_nil_of_length_eq_zero h1), by omega⟩
  · refine ⟨_, _, rfl, .inr ⟨g, rfl, (Array.getElem?_eq_some_iff.1 hg).1, fun i c hc => ?_⟩, hcap⟩
    have hi : i < ws.length := (List.getElem?_eq_some_iff.1 hc).1
    exact (World.ownsRow.cellAt h0 i (by omega)).trans (by simp [Run.strs, hc])
theorem str_is {t : ByteArray} {l : List UInt8} (h : t.data.toList = l) : t = ⟨l.toArray⟩ := bytes_eq (by simp [h])

end Go.Proofs.YtebjedbppiphgaaGreatDoor.Run
namespace Go.Proofs.YtebjedbppiphgaaGreatDoor.Run
open Go.RowKit Kit Reg
theorem flat_snoc {L : List (List UInt8)} {k : Nat} {x : List UInt8} (h : L[k]? = some x) : (L.take (k + 1)).flatten = (L.take k).flatten ++ x := by
  rw [List.take_add_one, h]
  simp
theorem flat_le (L : List (List UInt8)) (k : Nat) : (L.take k).flatten.length ≤ L.flatten.length := by
  have h2 : L.flatten = (L.take k).flatten ++ (L.drop k).flatten := by rw [← List.flatten_append, List.take_append_drop]
  rw [h2, List.length_append]
  omega
theorem flat_part {L : List (List UInt8)} {k : Nat} {x : List UInt8} (h : L[k]? = some x) : (L.take k).flatten.length + x.length ≤ L.flatten.length := by
  have := flat_le L (k + 1)
  rw [flat_snoc h, List.length_append] at this
  exact this
end Go.Proofs.YtebjedbppiphgaaGreatDoor.Run
namespace Go.Proofs.YtebjedbppiphgaaGreatDoor.Cal
open Go.RowKit Kit Reg Dec Dig Val Fld
theorem enc_len (n : Nat) : 1 ≤ (Run.encL n).length ∧ (Run.encL n).length ≤ 4 := by
  unfold Run.encL
  repeat' split
  all_goals (simp)
theorem single_len (n : Int) : (Run.singleL n).length ≤ 256 := by
  unfold Run.singleL
  split
  · have := (enc_len n.toNat).2; omega
  · exact Nat.zero_le _
end Go.Proofs.YtebjedbppiphgaaGreatDoor.Cal
namespace Go.Proofs.YtebjedbppiphgaaGreatDoor.Pow
open Go.RowKit Kit Dec Reg
/-- their cells, one behind the other -/
def flat (cs : List (Int × Bool)) : List Value := cs.flatMap fun c => [.int .i64 c.1, .bool c.2]
theorem flat_snoc (cs : List (Int × Bool)) (c : Int × Bool) : flat (cs ++ [c]) = flat cs ++ [.int .i64 c.1, .bool c.2] := by simp [flat]
theorem flat_at : ∀ (cs : List (Int × Bool)) (i : Nat) (c : Int × Bool), cs[i]? = some c → (flat cs)[i * 2]? = some (.int .i64 c.1) ∧ (flat cs)[i * 2 + 1]? = some (.bool c.2)
  | [], _, _, h => by simp at h
  | d :: r, 0, c, h => by
    simp only [List.getElem?_cons_zero, Option.some.injEq] at h
    subst h
    simp [flat]
  | d :: r, i + 1, c, h => by
    have h2 := flat_at r i c (by simpa using h)
    rw [show (i + 1) * 2 = i * 2 + 1 + 1 by omega]
    simpa [flat] using h2
/-- a slice of its own that holds these -/
def OwnRow (B : Nat) (v : Value) (cs : List (Int × Bool)) (w : World) : Prop := w.ownsRow B 55 2 v cs.length (flat cs)
theorem OwnRow.row {B : Nat} {v : Value} {cs : List (Int × Bool)} {w : World} (h : OwnRow B v cs w) (h0 : 0 < cs.length) :
    ∃ g cap, v = .slice (some ⟨g, 0, none⟩) cs.length cap ∧ g < w.heap.size ∧ ∀ i c, cs[i]? = some c → w.cell? ⟨g, i * 2, none⟩ = some (.int .i64 c.1) ∧ w.cell? ⟨g, i * 2 + 1, none⟩ = some (.bool c.2) := by
  have h9 := h
  rcases h.2 with ⟨rfl, h1⟩ | ⟨g, cap, cur, rfl, hb, hg, hrest⟩
  · omega
  · refine ⟨g, cap, rfl, (Array.getElem?_eq_some_iff.1 hg).1, fun i c hc => ?_⟩
    have hi : i < cs.length := (List.getElem?_eq_some_iff.1 hc).1
    obtain ⟨f1, f2⟩ := flat_at cs i c hc
    exact ⟨(World.ownsRow.cellAt h9 (i * 2) (by omega)).trans f1, (World.ownsRow.cellAt h9 (i * 2 + 1) (by omega)).trans f2⟩
/-- a row that is read: its block lies below what is made since -/
structure RowAt (w : World) (C g : Nat) (cs : List (Int × Bool)) : Prop where
  lt : g < C
  le : C ≤ w.heap.size
  at_ : ∀ i c, cs[i]? = some c → w.cell? ⟨g, i * 2, none⟩ = some (.int .i64 c.1) ∧ w.cell? ⟨g, i * 2 + 1, none⟩ = some (.bool c.2)
theorem RowAt.on {w w' : World} {C g : Nat} {cs : List (Int × Bool)} (h : RowAt w C g cs) (hb : Below w.heap.size w w') : RowAt w' C g cs :=
  ⟨h.lt, Nat.le_trans h.le hb.size, fun i c hc => ⟨(hb.cell (p := ⟨g, i * 2, none⟩) (Nat.lt_of_lt_of_le h.lt h.le)).trans (h.at_ i c hc).1, (hb.cell (p := ⟨g, i * 2 + 1, none⟩) (Nat.lt_of_lt_of_le h.lt h.le)).trans (h.at_ i c hc).2⟩⟩
theorem RowAt.up {w : World} {C g : Nat} {cs : List (Int × Bool)} (h : RowAt w C g cs) : RowAt w w.heap.size g cs := ⟨Nat.lt_of_lt_of_le h.lt h.le, Nat.le_refl _, h.at_⟩
theorem RowAt.grownBy {A B : World} {C g : Nat} {cs : List (Int × Bool)} {row : Option Nat} (h : RowAt A C g cs) (hg : A.grownBy B row) (hne : some g ≠ row) : RowAt B C g cs := by
  have hb := hg.block g (Nat.lt_of_lt_of_le h.lt h.le) hne
  exact ⟨h.lt, Nat.le_trans h.le hg.size, fun i c hc => ⟨(World.cell?_of_block (a := ⟨g, i * 2, none⟩) hb).trans (h.at_ i c hc).1, (World.cell?_of_block (a := ⟨g, i * 2 + 1, none⟩) hb).trans (h.at_ i c hc).2⟩⟩
theorem cells_grown {A B : World} {b : Nat} {cs : List Value} {row : Option Nat} (h : CellsAt A b cs) (hg : A.grownBy B row) (hne : some b ≠ row) : CellsAt B b cs := by
  have hb := hg.block b h.1 hne
  exact ⟨Nat.lt_of_lt_of_le h.1 hg.size, fun i v hi => ⟨(World.cell?_of_block (a := ⟨b, i, none⟩) hb).trans (h.2 i v hi).1, (World.frozen?_of_block (a := ⟨b, i, none⟩) hb).trans (h.2 i v hi).2⟩⟩
theorem below_none {A B : World} (hb : Below A.heap.size A B) : A.grownBy B none := ⟨hb.os, hb.tape, hb.output, hb.size, fun k hk _ => hb.block k hk⟩
theorem OwnRow.on {B : Nat} {v : Value} {cs : List (Int × Bool)} {w w' : World} (h : OwnRow B v cs w) (hb : Below w.heap.size w w') : OwnRow B v cs w' :=
  World.ownsRow.kept h (below_none hb) (by
    rcases h.2 with ⟨rfl, _⟩ | ⟨g, cap, cur, rfl, _⟩
    · exact .inl rfl
    · exact .inr (by simp [Value.ownBlock]))
end Go.Proofs.YtebjedbppiphgaaGreatDoor.Pow
namespace Go.Proofs.YtebjedbppiphgaaGreatDoor.Txt
open Go.RowKit Kit Reg
/-- what the library's variables hold: the table of powers, and some number in bytealg.MaxLen -/
def PLibs (w : World) : Prop := Dig.Libs w ∧ ∃ m, w.cell? ⟨0, 0, none⟩ = some (.int .i64 m)
theorem PLibs.grown {w w' : World} (h : PLibs w) (hb : Below w.heap.size w w') : PLibs w' := ⟨h.1.grown hb, h.2.elim fun m hm => ⟨m, kept hb hm⟩⟩
theorem cutsBlank : CutsBlank := fun s w hs => (Tryz.strings_TrimSuffix s ⟨#[32]⟩ w (by omega)).mono fun e w' ⟨he, hw⟩ => ⟨by rw [he], hw.symm⟩
end Go.Proofs.YtebjedbppiphgaaGreatDoor.Txt
namespace Go.Proofs.YtebjedbppiphgaaGreatDoor.Cal
open Go.RowKit Kit Reg Dec Dig Val Fld
theorem third (w : World) (o p : Obj) (cs : List Value) (ty : TypeId) : CellsAt (((w.alloc o).alloc p).alloc (.cells cs.toArray ty)) (w.heap.size + 2) cs ∧ Below w.heap.size w (((w.alloc o).alloc p).alloc (.cells cs.toArray ty)) := by
  have h := CellsAt.new ((w.alloc o).alloc p) cs ty
  rw [show ((w.alloc o).alloc p).heap.size = w.heap.size + 2 by simp] at h
  exact ⟨h, below3 w o p _⟩
end Go.Proofs.YtebjedbppiphgaaGreatDoor.Cal

/- What the reference's Digit, more, whole, Text on decimals as text answer.
   What the reference's Read of a decimal answers: for every text below 2^47 bytes.
   Rows of bytes of one's own, and such a row as a text. No function of the program is named here.
   What the reference's Plain, upper, marked answer.
   What package value's small functions answer: FaultText, Bad, Num, Str, Bool, Got: for every input. -/
import Derived.Test.YtcgpggknmhlnkaaGreatDoorPt29
import Derived.Test.YtcgpggknmhlnkaaGreatDoorPt21
import Derived.Test.YtcgpggknmhlnkaaGreatDoorPt03
import Derived.StillTailTactics
import Derived.Test.YtcgpggknmhlnkaaGreatDoorPt04
import Derived.Lib.UnsafeStr
import Derived.Laws.IdiomStrings
import Derived.Test.YtcgpggknmhlnkaaGreatDoorPt23
namespace Go.Proofs.YtcgpggknmhlnkaaGreatDoor.Dig
open Go.RowKit Kit Dec
/-- a slice of one byte, as a string -/
theorem conv_one (w : World) (x : Int) :
    (convert 85 9 (.slice (some ⟨w.heap.size, 0, none⟩) 1 1)).run Tryz.prog (w.alloc (.cells #[.int .u8 x] 5)) = .ok (.string ⟨#[UInt8.ofNat x.toNat]⟩) (w.alloc (.cells #[.int .u8 x] 5)) := by
  rw [run_convert_bytes_string _ _ _ _ _ _ _ Tryz.underlying85 Tryz.underlying5 Tryz.underlying9]
  refine (run_bytesToString _ _ 1 1 [x] ?_).trans ?_
  · have hc : (w.alloc (.cells #[.int .u8 x] 5)).cell? ⟨w.heap.size, 0, none⟩ = some (.int .u8 x) := by
      rw [World.cell?_alloc_at _ _ _ _ rfl]; rfl
    simp [loadCells, loadCellsFrom, hc, Addr.add]
  · rfl
/-- the digits laid so far -/
def LaidD (N m : Nat) (T : ByteArray) : Prop := (if m = 0 then [] else Lib.decDigits m) ++ T.data.toList = Lib.decDigits N
theorem LaidD.size {N m : Nat} {T : ByteArray} (h : LaidD N m T) (hN : N < 18446744073709551616) : T.size ≤ 20 := by
  have := congrArg List.length h
  rw [List.length_append, len] at this
  have h2 := dd_len 19 N (by omega)
  omega
theorem digs_step (m : Nat) : (if m / 10 = 0 then [] else Lib.decDigits (m / 10)) ++ [dg (m % 10)] = Lib.decDigits m := by
  by_cases h : m < 10
  · rw [if_pos (by omega), dd_small h, Nat.mod_eq_of_lt h]; rfl
  · rw [if_neg (by omega), ← dd_big h]
theorem LaidD.first (N : Nat) {T : ByteArray} (h : T.data.toList = [dg (N % 10)]) : LaidD N (N / 10) T := by
  unfold LaidD
  rw [h]; exact digs_step N
theorem LaidD.next {N m : Nat} {T U : ByteArray} (h : LaidD N m T) (hm : 0 < m) (hU : U.data.toList = dg (m % 10) :: T.data.toList) : LaidD N (m / 10) U := by
  unfold LaidD at h ⊢
  rw [if_neg (by omega)] at h
  rw [hU, ← h, ← digs_step m, List.append_assoc]
  rfl
end Go.Proofs.YtcgpggknmhlnkaaGreatDoor.Dig
namespace Go.Proofs.YtcgpggknmhlnkaaGreatDoor.Dig
open Go.RowKit Kit Dec
/-- the memory of a reader: the result's block, and the number's -/
def NumMem (w wr : World) (n : Int) (b : Bool) : Prop := Below w.heap.size w wr ∧ CellsAt wr w.heap.size [.int .i64 0, .bool false] ∧ CellsAt wr (w.heap.size + 1) [.int .i64 n, .bool b]
theorem NumMem.on {w wr wr' : World} {q : Int} {b : Bool} (h : NumMem w wr q b) (hb : Below wr.heap.size wr wr') : NumMem w wr' q b :=
  ⟨Kit.on h.1 hb, h.2.1.on hb, h.2.2.on hb⟩
theorem NumMem.put {w wr : World} {q : Int} {b : Bool} (h : NumMem w wr q b) (n : Int) (k : Bool) : NumMem w (put2 wr (w.heap.size + 1) (.int .i64 n) (.bool k)) n k :=
  ⟨set2 h.1 (by omega) _ _, h.2.1.put2_far (by omega) _ _, h.2.2.put2 _ _⟩
end Go.Proofs.YtcgpggknmhlnkaaGreatDoor.Dig
namespace Go.Proofs.YtcgpggknmhlnkaaGreatDoor.Kit
open Go.RowKit Reg
/-- a row of bytes of one's own, in a block at B or above -/
def OwnB (B : Nat) (v : Value) (l : List UInt8) (w : World) : Prop := w.ownsRow B 5 1 v l.length (Lib.byteCells l)
theorem OwnB.lit {B : Nat} {w : World} (hB : B ≤ w.heap.size) (b : UInt8) (x : Int) (hx : x = (b.toNat : Int)) : OwnB B (.slice (some ⟨w.heap.size, 0, none⟩) 1 1) [b] (w.alloc (.cells #[.int .u8 x] 5)) := by
  subst hx
  exact World.ownsRow_lit w #[.int .u8 (b.toNat : Int)] 1 hB (by decide) rfl
theorem OwnB.empty (B : Nat) (w : World) : OwnB B (.slice none 0 0) [] w := World.ownsRow_nil _ _ _ _
theorem OwnB.on {B : Nat} {w w' : World} {v : Value} {l : List UInt8} (h : OwnB B v l w) (hb : Below w.heap.size w w') : OwnB B v l w' := own_on h hb
set_option maxRecDepth 100000 in
/-- such a row as a text -/
theorem OwnB.conv {B : Nat} {w : World} {v : Value} {l : List UInt8} (h : OwnB B v l w) : (convert 85 9 v).run Tryz.prog w = .ok (.string ⟨l.toArray⟩) w := by
  rcases h.2 with ⟨rfl, h0⟩ | ⟨g, cap, cur, rfl, _⟩
  · obtain rfl : l = [] := List.eq_nil_of_length_eq_zero h0
    rw [run_convert_bytes_string w _ _ _ _ 0 0 Tryz.underlying85 Tryz.underlying5 Tryz.underlying9]
    rfl
  · refine run_convert_bytes_back w _ _ _ ⟨g, 0, none⟩ cap l Tryz.underlying85 Tryz.underlying5 Tryz.underlying9 (fun j hj => ?_)
    exact World.ownsRow.cells h rfl j _ (by simp [Lib.byteCells, hj])
/-- what stays behind an append to such a row -/
theorem OwnB.below {B : Nat} {w0 w w' : World} {v : Value} {n : Nat} {xs : List Value} {o : Obj} (h : w.ownsRow B 5 1 v n xs) (hb : Below w0.heap.size w0 w) (hB : w0.heap.size ≤ B) (hg : (w.alloc o).grownBy w' v.ownBlock) : Below w0.heap.size w0 w' :=
  (on_alloc hb _).grown hg (by have := hb.size; simp; omega) (fun b e => Nat.le_trans hB (World.ownsRow.lt h b e).1)
end Go.Proofs.YtcgpggknmhlnkaaGreatDoor.Kit
namespace Go.Proofs.YtcgpggknmhlnkaaGreatDoor.Lex
open Go.RowKit Kit Dec Dig
open Val (quoteL quoteL_skip quoteL_mark)
theorem plain_iff (b : UInt8) : plainB b = true ↔ 32 ≤ b.toNat ∧ b.toNat ≠ 127 := by
  unfold plainB
  rw [Bool.and_eq_true, decide_eq_true_eq, Bool.not_eq_true', beq_eq_false_iff_ne]
  refine and_congr_right fun _ => not_congr ⟨fun h => by rw [h]; rfl, fun h => UInt8.toNat_inj.1 h⟩
theorem bool_of {p : Prop} {b c : Bool} (h : b = true ↔ p) (hb : b = c) : (p ∧ c = true) ∨ (¬ p ∧ c = false) := by
  cases c with
  | true => exact .inl ⟨h.1 hb, rfl⟩
  | false => exact .inr ⟨fun hp => by (rw [h.2 hp] at hb; cases hb), rfl⟩
set_option maxRecDepth 100000 in
set_option maxHeartbeats 400000 in
theorem rplain_c (b : UInt8) (c : Bool) (hc : plainB b = c) (w : World) : Calls Tryz.prog 30 #[.int .u8 (b.toNat : Int)] w fun e w' => e = .returned (.bool c) ∧ w = w' := by
  rcases bool_of (plain_iff b) hc with ⟨h, rfl⟩ | ⟨h, rfl⟩
  · obtain ⟨h1, h2⟩ := h
    have d1 : decide (32 ≤ (b.toNat : Int)) = true := decide_eq_true (by omega)
    have d2 : ((b.toNat : Int) == 127) = false := beq_eq_false_iff_ne.2 (by omega)
    clear h1 h2 hc
    go_enter Tryz.func30, Tryz.ntmps30
    go_wp2
    go_ret
    first | exact ⟨rfl, rfl⟩ | exact ⟨by simp [bne, d2], rfl⟩
  · by_cases h1 : 32 ≤ b.toNat
    · have d1 : decide (32 ≤ (b.toNat : Int)) = true := decide_eq_true (by omega)
      have d2 : ((b.toNat : Int) == 127) = true := beq_iff_eq.2 (by omega)
      clear h h1 hc
      go_enter Tryz.func30, Tryz.ntmps30
      go_wp2
      go_ret
      first | exact ⟨rfl, rfl⟩ | exact ⟨by simp [bne, d2], rfl⟩
    · have d1 : decide (32 ≤ (b.toNat : Int)) = false := decide_eq_false (by omega)
      clear h h1 hc
      go_enter Tryz.func30, Tryz.ntmps30
      go_wp2
      go_ret
      exact ⟨rfl, rfl⟩
/-- where a reader of marks stands -/
def MarkAt (R : List UInt8) (j : Nat) (O : List UInt8) : Prop := markL R = (markL (R.drop j)).map (fun p => (O ++ p.1, j + p.2))
theorem MarkAt.start (R : List UInt8) : MarkAt R 0 [] := by
  unfold MarkAt
  rw [List.drop_zero]
  cases markL R with
  | none => rfl
  | some p => rw [Option.map_some, List.nil_append, Nat.zero_add]
theorem mark_bad {b : UInt8} (h : plainB b = false) (r : List UInt8) : markL (b :: r) = none := by unfold markL; exact if_pos h
theorem drop_at {R : List UInt8} {j : Nat} {b : UInt8} (h : R[j]? = some b) : R.drop j = b :: R.drop (j + 1) := by
  obtain ⟨hj, hb⟩ := List.getElem?_eq_some_iff.1 h
  rw [List.drop_eq_getElem_cons hj, hb]
theorem MarkAt.bad {R : List UInt8} {j : Nat} {O : List UInt8} {b : UInt8} (h : MarkAt R j O) (hb : R[j]? = some b) (hp : plainB b = false) : markL R = none := by
  unfold MarkAt at h
  rw [h, drop_at hb, mark_bad hp]
  rfl
theorem MarkAt.out {R : List UInt8} {j : Nat} {O : List UInt8} (h : MarkAt R j O) (hb : R.length ≤ j) : markL R = none := by
  unfold MarkAt at h
  rw [h, List.drop_eq_nil_of_le hb]
  rfl
end Go.Proofs.YtcgpggknmhlnkaaGreatDoor.Lex
namespace Go.Proofs.YtcgpggknmhlnkaaGreatDoor.Val
open Go.RowKit Kit Dec Dig
/-- one value -/
def ValIs (k n : Int) (s : ByteArray) (w : World) : Ending → World → Prop := fun e w' => e = .returned (.agg #[.int .i64 k, .int .i64 n, .string s]) ∧ Below w.heap.size w w'
theorem codes (c : Int) : (c < 1 ∨ 7 < c) ∨ c = 1 ∨ c = 2 ∨ c = 3 ∨ c = 4 ∨ c = 5 ∨ c = 6 ∨ c = 7 := by omega
set_option maxRecDepth 100000 in
set_option maxHeartbeats 1000000 in
theorem fault_c (c : Int) (w : World) : Calls Tryz.prog 61 #[.int .i64 c] w fun e w' => e = .returned (.string ⟨(faultL c).toArray⟩) ∧ w = w' := by
  rcases codes c with h | rfl | rfl | rfl | rfl | rfl | rfl | rfl
  · have h1 : (c == 1) = false := by simp; omega
    have h2 : (c == 2) = false := by simp; omega
    have h3 : (c == 3) = false := by simp; omega
    have h4 : (c == 4) = false := by simp; omega
    have h5 : (c == 5) = false := by simp; omega
    have h6 : (c == 6) = false := by simp; omega
    have h7 : (c == 7) = false := by simp; omega
    rw [fault_out h]
    clear h
    go_enter Tryz.func61, Tryz.ntmps61
    go_wp2
    go_ret
    exact ⟨rfl, rfl⟩
  all_goals
    go_enter Tryz.func61, Tryz.ntmps61
    go_wp2
    go_ret
    exact ⟨rfl, rfl⟩
set_option maxRecDepth 100000 in
set_option maxHeartbeats 1000000 in
theorem bad_c (c : Int) (w : World) : Calls Tryz.prog 50 #[.int .i64 c] w (ValIs 4 (badV c) ⟨#[]⟩ w) := by
  have HF := Lib.hid (fun w1 => fault_c c w1)
  rcases codes c with h | rfl | rfl | rfl | rfl | rfl | rfl | rfl
  · rw [fault_out h] at HF
    rw [bad_out h]
    clear h
    go_enter Tryz.func50, Tryz.ntmps50
    go_wp2_with (go_at_call 61; refine (HF.out _).mono ?_; rintro e w' ⟨rfl, rfl⟩)
    exact bodyPost_ret (v := .agg #[.int .i64 4, .int .i64 2, .string ⟨#[]⟩]) (by simp [results, Tryz.results50, go_sem]) rfl ⟨rfl, below1 _ _⟩
  all_goals
    rw [bad_in (by omega) (by omega)]
    simp only [faultL, Int.reduceEq, if_true, if_false] at HF
    go_enter Tryz.func50, Tryz.ntmps50
    go_wp2_with (go_at_call 61; refine (HF.out _).mono ?_; rintro e w' ⟨rfl, rfl⟩)
    exact bodyPost_ret (by simp [results, Tryz.results50, go_sem]) rfl ⟨rfl, below1 _ _⟩
set_option maxRecDepth 100000 in
set_option maxHeartbeats 400000 in
theorem num_in_c (x : Int) (h : mayD x = true) (w : World) : Calls Tryz.prog 47 #[.int .i64 x] w (ValIs 1 x ⟨#[]⟩ w) := by
  have HM := Lib.hid (fun w1 => may_c x true h w1)
  clear h
  go_enter Tryz.func47, Tryz.ntmps47
  go_wp2_with (go_at_call 60; refine (HM.out _).mono ?_; rintro e w' ⟨rfl, rfl⟩)
  exact bodyPost_ret (v := .agg #[.int .i64 1, .int .i64 x, .string ⟨#[]⟩]) (by simp [results, Tryz.results47, go_sem]) rfl ⟨rfl, below1 _ _⟩
set_option maxRecDepth 100000 in
set_option maxHeartbeats 400000 in
theorem num_out_c (x : Int) (h : mayD x = false) (w : World) : Calls Tryz.prog 47 #[.int .i64 x] w (ValIs 4 4 ⟨#[]⟩ w) := by
  have HM := Lib.hid (fun w1 => may_c x false h w1)
  have HB := Lib.hid (fun w1 => bad_c 4 w1)
  rw [bad_in (by omega) (by omega)] at HB
  clear h
  go_enter Tryz.func47, Tryz.ntmps47
  go_wp2_with (go_at_call 60; refine (HM.out _).mono ?_; rintro e w' ⟨rfl, rfl⟩)
  refine (HB.out _).mono ?_
  rintro e w1 ⟨rfl, hb⟩
  obtain ⟨hA, hb1⟩ := slot hb
  obtain ⟨p0, p1, p2, q0, q1, q2⟩ := hA.three
  obtain ⟨z0, z1, z2⟩ := three_set (u := .int .i64 4) (v := .int .i64 4) (r := .string ⟨#[]⟩) p0 p1 p2
  have hb2 := set3 hb1 (Nat.le_refl _) (.int .i64 4) (.int .i64 4) (.string ⟨#[]⟩)
  clear hA hb hb1
  go_wp2
  exact bodyPost_ret (v := .agg #[.int .i64 4, .int .i64 4, .string ⟨#[]⟩]) (by simp [results, Tryz.results47, go_sem, z0, z1, z2]) rfl ⟨rfl, hb2⟩
theorem num_c (x k n : Int) (h : numV x = (k, n)) (w : World) : Calls Tryz.prog 47 #[.int .i64 x] w (ValIs k n ⟨#[]⟩ w) := by
  cases hm : mayD x
  · obtain ⟨rfl, rfl⟩ := Prod.mk.inj ((num_out hm).symm.trans h); exact num_out_c x hm w
  · obtain ⟨rfl, rfl⟩ := Prod.mk.inj ((num_in hm).symm.trans h); exact num_in_c x hm w
set_option maxRecDepth 100000 in
set_option maxHeartbeats 400000 in
theorem str_in_c (t : ByteArray) (h : t.size ≤ 256) (w : World) : Calls Tryz.prog 48 #[.string t] w (ValIs 2 0 t w) := by
  have d0 : decide (256 < t.size) = false := decide_eq_false (by omega)
  go_enter Tryz.func48, Tryz.ntmps48
  go_wp2
  exact bodyPost_ret (v := .agg #[.int .i64 2, .int .i64 0, .string t]) (by simp [results, Tryz.results48, go_sem]) rfl ⟨rfl, below1 _ _⟩
set_option maxRecDepth 100000 in
set_option maxHeartbeats 400000 in
theorem str_out_c (t : ByteArray) (h : 256 < t.size) (w : World) : Calls Tryz.prog 48 #[.string t] w (ValIs 4 2 ⟨#[]⟩ w) := by
  have d0 : decide (256 < t.size) = true := decide_eq_true h
  have HB := Lib.hid (fun w1 => bad_c 2 w1)
  rw [bad_in (by omega) (by omega)] at HB
  go_enter Tryz.func48, Tryz.ntmps48
  go_wp2_with fail
  refine (HB.out _).mono ?_
  rintro e w1 ⟨rfl, hb⟩
  obtain ⟨hA, hb1⟩ := slot hb
  obtain ⟨p0, p1, p2, q0, q1, q2⟩ := hA.three
  obtain ⟨z0, z1, z2⟩ := three_set (u := .int .i64 4) (v := .int .i64 2) (r := .string ⟨#[]⟩) p0 p1 p2
  have hb2 := set3 hb1 (Nat.le_refl _) (.int .i64 4) (.int .i64 2) (.string ⟨#[]⟩)
  clear hA hb hb1
  go_wp2
  exact bodyPost_ret (v := .agg #[.int .i64 4, .int .i64 2, .string ⟨#[]⟩]) (by simp [results, Tryz.results48, go_sem, z0, z1, z2]) rfl ⟨rfl, hb2⟩
theorem str_c (t : ByteArray) (k n : Int) (s : ByteArray) (h : strV t = (k, n, s)) (w : World) : Calls Tryz.prog 48 #[.string t] w (ValIs k n s w) := by
  by_cases hm : t.size ≤ 256
  · obtain ⟨rfl, h2⟩ := Prod.mk.inj ((str_in hm).symm.trans h); obtain ⟨rfl, rfl⟩ := Prod.mk.inj h2; exact str_in_c t hm w
  · obtain ⟨rfl, h2⟩ := Prod.mk.inj ((str_out (by omega)).symm.trans h); obtain ⟨rfl, rfl⟩ := Prod.mk.inj h2; exact str_out_c t (by omega) w
set_option maxRecDepth 100000 in
set_option maxHeartbeats 400000 in
theorem bool_c (b : Bool) (w : World) : Calls Tryz.prog 49 #[.bool b] w (ValIs 3 (if b then 1 else 0) ⟨#[]⟩ w) := by
  cases b
  all_goals
    go_enter Tryz.func49, Tryz.ntmps49
    go_wp2
    exact bodyPost_ret (by simp [results, Tryz.results49, go_sem]) rfl ⟨rfl, below1 _ _⟩
end Go.Proofs.YtcgpggknmhlnkaaGreatDoor.Val

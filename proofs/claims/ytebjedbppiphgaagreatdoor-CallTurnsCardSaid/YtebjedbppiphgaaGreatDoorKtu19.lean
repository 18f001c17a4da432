/- What the program's Count, begin, Left, Right, Mid, Find, First answer (over the landed text of package runes): for every text of at most a million bytes.
   What the program's Find, First, Single answer (over the landed text of package runes): for every text of at most a million bytes.
   Powers, roots, divisors, and in how many ways some are chosen, in integers alone. No function of the program is named here. -/
import Derived.Test.YtebjedbppiphgaaGreatDoorKtu18
import Derived.Lib.OthersKept
import Derived.LoopTactic
import Derived.WalkSmall
import Derived.Laws.Runes
import Derived.Test.YtebjedbppiphgaaGreatDoorKtu10
namespace Go.Proofs.YtebjedbppiphgaaGreatDoor.Run
open Go.RowKit Kit
theorem ext_take (t : ByteArray) (k : Nat) : (t.extract 0 k).data.toList = t.data.toList.take k := by
  rw [Lib.extract_data, List.drop_zero, Nat.sub_zero]
theorem ext_drop (t : ByteArray) (k : Nat) : (t.extract k t.size).data.toList = t.data.toList.drop k := by
  rw [Lib.extract_data, List.take_of_length_le (by rw [List.length_drop, Lib.size_eq]; omega)]
theorem bytes_eq {a b : ByteArray} (h : a.data.toList = b.data.toList) : a = b := ByteArray.ext (Array.toList_inj.1 h)
theorem len_of {s : ByteArray} {l : List UInt8} (hs : s.data.toList = l) : l.length = s.size := by rw [← hs]; exact (Lib.size_eq s).symm
theorem toList_eq (a b : ByteArray) : (a.toList == b.toList) = decide (a.data.toList = b.data.toList) := by
  rw [Lib.toList_data, Lib.toList_data]
  by_cases h : a.data.toList = b.data.toList
  · rw [decide_eq_true h, beq_iff_eq]; exact h
  · rw [decide_eq_false h, beq_eq_false_iff_ne]; exact h
theorem iter_below (w : World) (s : ByteArray) (p : Nat) : Below w.heap.size w (w.iter s p) := below1 w _
/-- a step of a range over a text: from one rune to the next one -/
theorem next_in (P : Program) (w : World) (s : ByteArray) (l : List UInt8) (hs : s.data.toList = l) (k p : Nat) (hk : offL l k = p) (h : p < s.size) :
    k < (ps l).length ∧ ∃ q v, offL l (k + 1) = q ∧ p < q ∧ q ≤ s.size ∧ v = valL (l.drop p) ∧
      ∀ ty, (Instr.next (.pointer (some ⟨w.heap.size, 0, none⟩)) true ty).run P (w.iter s p) = .ok (.tuple #[.bool true, .int .i64 p, .int .i32 v]) (w.iter s q) := by
  have hl := len_of hs
  have hkn : k < (ps l).length := (off_lt l k).2 (by omega)
  have h1 := off_step hkn
  have h2 := sz_pos (drop_ne hkn)
  have h3 := off_le l (k + 1)
  refine ⟨hkn, _, _, rfl, by omega, by omega, rfl, fun ty => ?_⟩
  rw [run_next_any w s p ty h, decode_is s p h, hs, h1, hk]
set_option maxRecDepth 100000 in
set_option maxHeartbeats 2000000 in
theorem count_c (s : ByteArray) (l : List UInt8) (hs : s.data.toList = l) (h9 : s.size ≤ 1000000) (n : Nat) (hn : (ps l).length = n) (w : World) :
    Calls Tryz.prog 102 #[.string s] w fun e w' => e = .returned (.int .i64 n) ∧ Below w.heap.size w w' := by
  have hl := len_of hs
  have hlen := ps_len l
  have h0 := off_zero l
  have HN := Lib.hid (fun w k p hk h => next_in Tryz.prog w s l hs k p hk h)
  have HE : Hid (∀ k, ¬ offL l k < s.size → k ≤ n → k = n) := Lib.hid fun k hk hk2 => by
    have := off_lt l k
    omega
  go_enter Tryz.func102, Tryz.ntmps102
  go_wp2
  go_loopw [3] (fun m w' => ∃ (k p : Nat), k ≤ n ∧ Hid (offL l k = p) ∧ w' = w.iter s p ∧ m = .int .i64 k) (fun _ w' => s.size - w'.iterPos w.heap.size)
  case atStart => exact ⟨0, 0, by omega, Lib.hid h0, rfl, rfl⟩
  case round =>
    obtain ⟨k, p, hk, hp, rfl, rfl⟩ := hrel
    by_cases hlt : p < s.size
    · obtain ⟨hkn, q, v, hq, hpq, hqs, _, hnx⟩ := HN.out w k p hp.out hlt
      have HQ := Lib.hid hq
      clear hq
      go_wp2
      go_roundw
      case rel => exact ⟨k + 1, q, by omega, HQ, rfl, by go_num⟩
      case measure => simp; omega
    · have hnx := fun ty => run_next_end (P := Tryz.prog) w s p ty hlt
      obtain rfl : k = n := HE.out k (by rw [hp.out]; exact hlt) hk
      go_wp2
      go_ret
      exact ⟨rfl, iter_below _ _ _⟩
set_option maxRecDepth 100000 in
set_option maxHeartbeats 2000000 in
theorem hasPrefix_in (s t : ByteArray) (b : Bool) (hb : preB s.data.toList t.data.toList = b) (_h9 : s.size ≤ 1000000) (_h8 : t.size ≤ 1000000) (w : World) :
    Calls Tryz.prog 279 #[.string s, .string t] w fun e w' => e = .returned (.bool b) ∧ w = w' := by
  by_cases hle : t.size ≤ s.size
  · have hq : ((s.extract 0 t.size).toList == t.toList) = b := by rw [toList_eq, ext_take, Lib.size_eq t, ← hb, preB]
    go_enter Tryz.func279, Tryz.ntmps279
    clear hb
    cases b <;> (go_wp2; go_ret; exact ⟨rfl, rfl⟩)
  · obtain rfl : false = b := by
      rw [← hb, preB]
      symm
      apply decide_eq_false
      intro e
      have := congrArg List.length e
      rw [List.length_take, ← Lib.size_eq, ← Lib.size_eq] at this
      omega
    go_enter Tryz.func279, Tryz.ntmps279
    go_wp2
    go_ret
    exact ⟨rfl, rfl⟩
set_option maxRecDepth 100000 in
set_option maxHeartbeats 2000000 in
theorem hasPrefix_c (s t : ByteArray) (b : Bool) (hb : preB s.data.toList t.data.toList = b) (h9 : s.size ≤ 1000000) (h8 : t.size ≤ 1000000) (w : World) :
    Calls Tryz.prog 218 #[.string s, .string t] w fun e w' => e = .returned (.bool b) ∧ w = w' := by
  have HC := Lib.hid (fun w => hasPrefix_in s t b hb h9 h8 w)
  clear hb
  go_enter Tryz.func218, Tryz.ntmps218
  go_wp2_with fail
  refine (HC.out _).mono ?_
  rintro e w1 ⟨rfl, rfl⟩
  go_wp2
  go_ret
  exact ⟨rfl, rfl⟩
end Go.Proofs.YtebjedbppiphgaaGreatDoor.Run
namespace Go.Proofs.YtebjedbppiphgaaGreatDoor.Run
open Go.RowKit Kit
/-- is a needle at the rune of a place? -/
def hitB (n l : List UInt8) (k : Nat) : Bool := preB (l.drop (offL l k)) n
/-- what a search has to answer -/
def FindIs (n l : List UInt8) : Option Nat → Prop
  | some k => (n = [] ∧ k = 0) ∨ (n ≠ [] ∧ k < (ps l).length ∧ hitB n l k = true ∧ ∀ j, j < k → hitB n l j = false)
  | none => n ≠ [] ∧ ∀ j, j < (ps l).length → hitB n l j = false
theorem FindIs.unique {n l : List UInt8} : ∀ {a b : Option Nat}, FindIs n l a → FindIs n l b → a = b
  | none, none, _, _ => rfl
  | none, some k, h1, h2 => by
    rcases h2 with ⟨h, _⟩ | ⟨_, h, h3, _⟩
    · exact absurd h h1.1
    · rw [h1.2 k h] at h3; cases h3
  | some k, none, h2, h1 => by
    rcases h2 with ⟨h, _⟩ | ⟨_, h, h3, _⟩
    · exact absurd h h1.1
    · rw [h1.2 k h] at h3; cases h3
  | some k, some j, h1, h2 => by
    rcases h1 with ⟨h, rfl⟩ | ⟨h, h3, h4, h5⟩
    · rcases h2 with ⟨_, rfl⟩ | ⟨h6, _⟩
      · rfl
      · exact absurd h h6
    · rcases h2 with ⟨h6, _⟩ | ⟨_, h6, h7, h8⟩
      · exact absurd h6 h
      · rcases Nat.lt_trichotomy k j with hlt | rfl | hlt
        · rw [h8 k hlt] at h4; cases h4
        · rfl
        · rw [h5 j hlt] at h7; cases h7
/-- a search's answer as two results -/
def foundV : Option Nat → Value
  | some k => .tuple #[.int .i64 k, .bool true]
  | none => .tuple #[.int .i64 0, .bool false]

set_option maxRecDepth 100000 in
set_option maxHeartbeats 2000000 in
theorem find_c (t s : ByteArray) (n l : List UInt8) (ht : t.data.toList = n) (hs : s.data.toList = l) (h8 : t.size ≤ 1000000) (h9 : s.size ≤ 1000000) (w : World) :
    Calls Tryz.prog 110 #[.string t, .string s] w fun e w' => ∃ r, e = .returned (foundV r) ∧ FindIs n l r ∧ Below w.heap.size w w' := by
  have hl := len_of hs
  have hlen := ps_len l
  have h0 := off_zero l
  by_cases hn : n = []
  · have e0 : (t.toList == []) = true := by rw [Lib.toList_data, ht, hn]; rfl
    clear hs ht
    go_enter Tryz.func110, Tryz.ntmps110
    go_wp2
    exact bodyPost_ret (v := .tuple #[.int .i64 0, .bool true]) (by simp [results, Tryz.results110, go_sem]) rfl ⟨some 0, rfl, .inl ⟨hn, rfl⟩, Below.refl _ _⟩
  · have e0 : (t.toList == []) = false := by rw [Lib.toList_data, ht]; simpa using hn
    have HN := Lib.hid (fun w k p hk h => next_in Tryz.prog w s l hs k p hk h)
    have HE : Hid (∀ k, ¬ offL l k < s.size → (ps l).length ≤ k) := Lib.hid fun k hk => by
      have := off_lt l k
      omega
    have HP : Hid (∀ k p, offL l k = p → ∀ b, hitB n l k = b → ∀ w, Calls Tryz.prog 218 #[.string (s.extract p s.size), .string t] w fun e w' => e = .returned (.bool b) ∧ w = w') := Lib.hid fun k p hk b hb w => by
      refine hasPrefix_c _ _ b ?_ ?_ h8 w
      · rw [ext_drop, hs, ht, ← hk]; exact hb
      · rw [ByteArray.size_extract]; omega
    clear hs ht
    go_enter Tryz.func110, Tryz.ntmps110
    go_wp2
    go_loopw [6, 7] (fun m _ w' => ∃ (k p : Nat), k ≤ s.size ∧ Hid (offL l k = p) ∧ w' = w.iter s p ∧ m = .int .i64 k ∧ Hid (∀ j, j < k → hitB n l j = false)) (fun _ _ w' => s.size - w'.iterPos w.heap.size)
    case atStart => exact ⟨0, 0, by omega, Lib.hid h0, rfl, rfl, Lib.hid fun j hj => absurd hj (by omega)⟩
    case round =>
      obtain ⟨k, p, hk, hp, rfl, rfl, hno⟩ := hrel
      by_cases hlt : p < s.size
      · obtain ⟨hkn, q, v, hq, hpq, hqs, _, hnx⟩ := HN.out w k p hp.out hlt
        have HQ := Lib.hid hq
        obtain ⟨b, hb⟩ : ∃ b, hitB n l k = b := ⟨_, rfl⟩
        have HC := Lib.hid (HP.out k p hp.out b hb)
        have HK := Lib.hid hb
        clear hq hb
        go_wp2_with fail
        refine (HC.out _).mono ?_
        rintro e w1 ⟨rfl, rfl⟩
        cases b with
        | true =>
          go_wp2
          exact bodyPost_ret (v := .tuple #[.int .i64 k, .bool true]) (by simp [results, Tryz.results110, go_sem]) rfl ⟨some k, rfl, .inr ⟨hn, hkn, HK.out, hno.out⟩, iter_below _ _ _⟩
        | false =>
          go_wp2
          go_roundw
          case rel =>
            refine ⟨k + 1, q, by omega, HQ, rfl, by go_num, Lib.hid fun j hj => ?_⟩
            rcases Nat.lt_or_ge j k with h | h
            · exact hno.out j h
            · obtain rfl : j = k := by omega
              exact HK.out
          case measure => simp; omega
      · have hnx := fun ty => run_next_end (P := Tryz.prog) w s p ty hlt
        have hE := HE.out k (by rw [hp.out]; exact hlt)
        go_wp2
        exact bodyPost_ret (v := .tuple #[.int .i64 0, .bool false]) (by simp [results, Tryz.results110, go_sem]) rfl ⟨none, rfl, ⟨hn, fun j hj => hno.out j (by omega)⟩, iter_below _ _ _⟩
end Go.Proofs.YtebjedbppiphgaaGreatDoor.Run
namespace Go.Proofs.YtebjedbppiphgaaGreatDoor.Pow
open Dec
theorem giveD_room (b : Bool) (x : Int) : -9223372036854775807 ≤ (giveD b x).1 ∧ (giveD b x).1 ≤ 9223372036854775807 := by
  unfold giveD
  split
  · rename_i h
    simp only [Bool.and_eq_true, okD, decide_eq_true_eq] at h
    exact h.2
  · exact ⟨by simp, by simp⟩
theorem giveD_no {b : Bool} {x n : Int} (h : giveD b x = (n, false)) : n = 0 := by
  unfold giveD at h
  split at h
  · cases h
  · cases h; rfl
/-- a whole number from one on to another one -/
def wholeIn (x f t : Int) : Bool := wholeD x && (decide (f ≤ unitsD x) && decide (unitsD x ≤ t))
theorem whole_units {x : Int} (h : wholeD x = true) : x = unitsD x * 10000 ∧ -9223372036854775807 ≤ x := by
  unfold wholeD at h
  simp only [Bool.and_eq_true, mayD, decide_eq_true_eq] at h
  obtain ⟨h1, h2⟩ := h
  rw [unitsD, if_neg (by omega)]
  by_cases hx : 0 ≤ x
  · obtain ⟨e1, e2⟩ := cut_pos hx
    rw [e2] at h2
    rw [e1]
    exact ⟨by omega, h1⟩
  · obtain ⟨e1, e2⟩ := cut_neg (x := x) (by omega)
    rw [e2] at h2
    rw [e1]
    exact ⟨by omega, h1⟩
theorem wholeIn_yes {x f t : Int} (h : wholeIn x f t = true) : x = unitsD x * 10000 ∧ f ≤ unitsD x ∧ unitsD x ≤ t ∧ wholeD x = true := by
  unfold wholeIn at h
  simp only [Bool.and_eq_true, decide_eq_true_eq] at h
  exact ⟨(whole_units h.1).1, h.2.1, h.2.2, h.1⟩
/-- one, so many times multiplied, each time rounded -/
def mulsD (x : Int) : Nat → Int × Bool
  | 0 => (10000, true)
  | k + 1 => if (mulsD x k).2 then scaledD (mulsD x k).1 x 10000 else (0, false)
theorem mulsD_room (x : Int) (k : Nat) : -9223372036854775807 ≤ (mulsD x k).1 ∧ (mulsD x k).1 ≤ 9223372036854775807 := by
  cases k with
  | zero => simp [mulsD]
  | succ k =>
    unfold mulsD
    split
    · exact giveD_room _ _
    · simp
theorem mulsD_next {x p n : Int} {k : Nat} {b : Bool} (h : mulsD x k = (p, true)) (hn : scaledD p x 10000 = (n, b)) : mulsD x (k + 1) = (n, b) := by
  rw [mulsD, h]; exact hn
theorem mulsD_no {x p : Int} {k : Nat} (h : mulsD x k = (p, false)) : p = 0 := by
  cases k with
  | zero => simp [mulsD] at h
  | succ k =>
    unfold mulsD at h
    split at h
    · exact giveD_no h
    · cases h; rfl
theorem mulsD_stop {x p : Int} {k t : Nat} (hk : k ≤ t) (h : mulsD x k = (p, false)) : mulsD x t = (0, false) := by
  obtain ⟨d, rfl⟩ : ∃ d, t = k + d := ⟨t - k, by omega⟩
  clear hk
  induction d with
  | zero =>
    have := mulsD_no h
    subst this
    exact h
  | succ d ih =>
    rw [← Nat.add_assoc, mulsD, ih]; rfl
/-- a power -/
def powerD (x n : Int) : Int × Bool :=
  if mayD x && wholeIn n (-1000) 1000 then
    (if 0 ≤ n then mulsD x (unitsD n).natAbs else if (mulsD x (unitsD n).natAbs).2 then scaledD 10000 10000 (mulsD x (unitsD n).natAbs).1 else (0, false))
  else (0, false)
theorem powerD_none {x n : Int} (h : mayD x = false ∨ wholeIn n (-1000) 1000 = false) : powerD x n = (0, false) := by
  unfold powerD
  rw [if_neg]
  rcases h with h | h
  · rw [h]; simp
  · rw [h]; simp
theorem powerD_up {x n : Int} (h : mayD x = true) (h2 : wholeIn n (-1000) 1000 = true) (h3 : 0 ≤ n) : powerD x n = mulsD x (unitsD n).natAbs := by
  rw [powerD, h, h2, Bool.and_self, if_pos rfl, if_pos h3]
theorem powerD_down {x n : Int} (h : mayD x = true) (h2 : wholeIn n (-1000) 1000 = true) (h3 : n < 0) :
    powerD x n = if (mulsD x (unitsD n).natAbs).2 then scaledD 10000 10000 (mulsD x (unitsD n).natAbs).1 else (0, false) := by
  rw [powerD, h, h2, Bool.and_self, if_pos rfl, if_neg (by omega)]

/-- the greatest number whose square is not above another one -/
def RootOf (r N : Nat) : Prop := r * r ≤ N ∧ N < (r + 1) * (r + 1)
/-- a root, behind so many bits -/
def SqAt (N k a : Nat) : Prop := a * a ≤ N ∧ N < (a + 2 ^ (39 - k)) * (a + 2 ^ (39 - k)) ∧ a + 2 ^ (39 - k) ≤ 549755813888
theorem SqAt.start {N : Nat} (h : N < 302231454903657293676544) : SqAt N 0 0 := by
  refine ⟨Nat.zero_le _, ?_, by decide⟩
  have e : (0 + 2 ^ (39 - 0)) * (0 + 2 ^ (39 - 0)) = 302231454903657293676544 := by decide
  rw [e]; exact h
theorem SqAt.done {N a : Nat} (h : SqAt N 39 a) : RootOf a N := ⟨h.1, h.2.1⟩
theorem bit_next {k : Nat} (hk : k < 39) : 2 ^ (39 - k) = 2 ^ (38 - k) + 2 ^ (38 - k) ∧ 39 - (k + 1) = 38 - k := by
  refine ⟨?_, by omega⟩
  rw [show 39 - k = (38 - k) + 1 by omega, Nat.pow_succ]; omega
theorem SqAt.take {N k a : Nat} (h : SqAt N k a) (hk : k < 39) (h2 : (a + 2 ^ (38 - k)) * (a + 2 ^ (38 - k)) ≤ N) : SqAt N (k + 1) (a + 2 ^ (38 - k)) := by
  obtain ⟨e1, e2⟩ := bit_next hk
  obtain ⟨h1, h3, h4⟩ := h
  unfold SqAt
  rw [e2]
  rw [e1, ← Nat.add_assoc] at h3 h4
  exact ⟨h2, h3, h4⟩
/-- a whole number from 0 on -/
def cntD (x : Int) : Bool := decide (0 ≤ x) && wholeD x
end Go.Proofs.YtebjedbppiphgaaGreatDoor.Pow

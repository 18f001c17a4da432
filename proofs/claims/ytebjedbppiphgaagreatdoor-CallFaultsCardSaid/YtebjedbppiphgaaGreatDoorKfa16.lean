/- What the program's Count, begin, Left, Right, Mid, Find, First answer (over the landed text of package runes): for every text of at most a million bytes.
   What the program's Find, First, Single answer (over the landed text of package runes): for every text of at most a million bytes. -/
import Derived.Test.YtebjedbppiphgaaGreatDoorKfa15
import Derived.Lib.OthersKept
import Derived.LoopTactic
import Derived.WalkSmall
import Derived.Laws.Runes
namespace Go.Proofs.YtebjedbppiphgaaGreatDoor.Run
open Go.RowKit Kit
theorem ext_take (t : ByteArray) (k : Nat) : (t.extract 0 k).data.toList = t.data.toList.take k := by
  rw [Lib.extract_data, List.drop_zero, Nat.sub_zero]
theorem ext_drop (t : ByteArray) (k : Nat) : (t.extract k t.size).data.toList = t.data.toList.drop k := by
  rw [Lib.extract_data, List.take_of_length_le (by rw [List.length_drop, Lib.size_eq]; omega)]
theorem bytes_eq {a b : ByteArray} (h : a.data.toList = b.data.toList) : a = b := ByteArray.ext (Array.toList_inj.1 h)
theorem len_of {s : ByteArray} {l : List UInt8} (hs : s.data.toList = l) : l.length = s.size := by rw [← hs]; exact (Lib.size_eq s).symm
theorem toList_eq (a b : ByteArray) : (a.toList == b.toList) = decide (a.data.toList = b.data.toList) := by
  rw [Lib.toList_data, Lib.toList_data]
  by_cases h : a.data.toList = b.data.toList
  · rw [decide_eq_true h, beq_iff_eq]; exact h
  · rw [decide_eq_false h, beq_eq_false_iff_ne]; exact h
theorem iter_below (w : World) (s : ByteArray) (p : Nat) : Below w.heap.size w (w.iter s p) := below1 w _
/-- a step of a range over a text: from one rune to the next one -/
theorem next_in (P : Program) (w : World) (s : ByteArray) (l : List UInt8) (hs : s.data.toList = l) (k p : Nat) (hk : offL l k = p) (h : p < s.size) :
    k < (ps l).length ∧ ∃ q v, offL l (k + 1) = q ∧ p < q ∧ q ≤ s.size ∧ v = valL (l.drop p) ∧
      ∀ ty, (Instr.next (.pointer (some ⟨w.heap.size, 0, none⟩)) true ty).run P (w.iter s p) = .ok (.tuple #[.bool true, .int .i64 p, .int .i32 v]) (w.iter s q) := by
  have hl := len_of hs
  have hkn : k < (ps l).length := (off_lt l k).2 (by omega)
  have h1 := off_step hkn
  have h2 := sz_pos (drop_ne hkn)
  have h3 := off_le l (k + 1)
  refine ⟨hkn, _, _, rfl, by omega, by omega, rfl, fun ty => ?_⟩
  rw [run_next_any w s p ty h, decode_is s p h, hs, h1, hk]
/-- .. in whatever world -/
theorem next_at (P : Program) (w : World) (b : Nat) (s : ByteArray) (l : List UInt8) (hs : s.data.toList = l) (k p : Nat) (hk : offL l k = p) (hb : w.heap[b]? = some (.stringIter s p)) (h : p < s.size) :
    k < (ps l).length ∧ ∃ q v, offL l (k + 1) = q ∧ p < q ∧ q ≤ s.size ∧ v = valL (l.drop p) ∧
      ∀ ty, (Instr.next (.pointer (some ⟨b, 0, none⟩)) true ty).run P w = .ok (.tuple #[.bool true, .int .i64 p, .int .i32 v]) (w.iterAt b s q) := by
  have hl := len_of hs
  have hkn : k < (ps l).length := (off_lt l k).2 (by omega)
  have h1 := off_step hkn
  have h2 := sz_pos (drop_ne hkn)
  have h3 := off_le l (k + 1)
  refine ⟨hkn, _, _, rfl, by omega, by omega, rfl, fun ty => ?_⟩
  rw [Lib.run_next_any_at w b s p ty hb h, decode_is s p h, hs, h1, hk]

set_option maxRecDepth 100000 in
set_option maxHeartbeats 2000000 in
theorem count_c (s : ByteArray) (l : List UInt8) (hs : s.data.toList = l) (h9 : s.size ≤ 1000000) (n : Nat) (hn : (ps l).length = n) (w : World) :
    Calls Tryz.prog 102 #[.string s] w fun e w' => e = .returned (.int .i64 n) ∧ Below w.heap.size w w' := by
  have hl := len_of hs
  have hlen := ps_len l
  have h0 := off_zero l
  have HN := Lib.hid (fun w k p hk h => next_in Tryz.prog w s l hs k p hk h)
  have HE : Hid (∀ k, ¬ offL l k < s.size → k ≤ n → k = n) := Lib.hid fun k hk hk2 => by
    have := off_lt l k
    omega
  go_enter Tryz.func102, Tryz.ntmps102
  go_wp2
  go_loopw [3] (fun m w' => ∃ (k p : Nat), k ≤ n ∧ Hid (offL l k = p) ∧ w' = w.iter s p ∧ m = .int .i64 k) (fun _ w' => s.size - w'.iterPos w.heap.size)
  case atStart => exact ⟨0, 0, by omega, Lib.hid h0, rfl, rfl⟩
  case round =>
    obtain ⟨k, p, hk, hp, rfl, rfl⟩ := hrel
    by_cases hlt : p < s.size
    · obtain ⟨hkn, q, v, hq, hpq, hqs, _, hnx⟩ := HN.out w k p hp.out hlt
      have HQ := Lib.hid hq
      clear hq
      go_wp2
      go_roundw
      case rel => exact ⟨k + 1, q, by omega, HQ, rfl, by go_num⟩
      case measure => simp; omega
    · have hnx := fun ty => run_next_end (P := Tryz.prog) w s p ty hlt
      obtain rfl : k = n := HE.out k (by rw [hp.out]; exact hlt) hk
      go_wp2
      go_ret
      exact ⟨rfl, iter_below _ _ _⟩
set_option maxRecDepth 100000 in
set_option maxHeartbeats 2000000 in
theorem begin_c (s : ByteArray) (l : List UInt8) (hs : s.data.toList = l) (_h9 : s.size ≤ 1000000) (n : Int) (hn : n ≤ 9223372036854775807) (m : Nat) (hm : offL l n.toNat = m) (w : World) :
    Calls Tryz.prog 223 #[.string s, .int .i64 n] w fun e w' => e = .returned (.int .i64 m) ∧ Below w.heap.size w w' := by
  have hl := len_of hs
  have hlen := ps_len l
  have h0 := off_zero l
  have HN := Lib.hid (fun w k p hk h => next_in Tryz.prog w s l hs k p hk h)
  have HE : Hid (∀ k, ¬ offL l k < s.size → k ≤ n.toNat → s.size = m) := Lib.hid fun k hk hk2 => by
    have h1 := off_lt l k
    rw [← hm, ← hl, off_end]
    omega
  have HM : Hid (∀ k, k ≤ n.toNat → n - k < 1 → offL l k = m) := Lib.hid fun k h1 h2 => by
    rw [← hm]
    congr 1
    omega
  clear hm
  go_enter Tryz.func223, Tryz.ntmps223
  go_wp2
  go_loopw [1, 5] (fun m _ w' => ∃ (k p : Nat) (j : Int), k ≤ n.toNat ∧ Hid (offL l k = p) ∧ w' = w.iter s p ∧ m = .int .i64 j ∧ j = n - k) (fun _ _ w' => s.size - w'.iterPos w.heap.size)
  case atStart => exact ⟨0, 0, n, by omega, Lib.hid h0, rfl, rfl, by omega⟩
  case round =>
    obtain ⟨k, p, j, hk, hp, rfl, rfl, hj⟩ := hrel
    by_cases hlt : p < s.size
    · obtain ⟨hkn, q, v, hq, hpq, hqs, _, hnx⟩ := HN.out w k p hp.out hlt
      have HQ := Lib.hid hq
      have HJ := Lib.hid hj
      clear hq hj
      by_cases h1 : j < 1
      · obtain rfl : p = m := by rw [← hp.out]; exact HM.out k hk (by rw [← HJ.out]; exact h1)
        go_wp2
        go_ret
        exact ⟨rfl, iter_below _ _ _⟩
      · have hj2 := HJ.out
        have hjn : j ≤ 9223372036854775807 := by omega
        clear hj2
        go_wp2
        go_roundw
        case rel => exact ⟨k + 1, q, j - 1, by have := HJ.out; omega, HQ, rfl, by go_num, by have := HJ.out; omega⟩
        case measure => simp; omega
    · have hnx := fun ty => run_next_end (P := Tryz.prog) w s p ty hlt
      have hE := HE.out k (by rw [hp.out]; exact hlt) hk
      subst hE
      clear hj
      go_wp2
      go_ret
      exact ⟨rfl, iter_below _ _ _⟩
set_option maxRecDepth 100000 in
set_option maxHeartbeats 2000000 in
theorem left_c (s : ByteArray) (l : List UInt8) (hs : s.data.toList = l) (h9 : s.size ≤ 1000000) (n : Int) (hn : n ≤ 9223372036854775807) (w : World) :
    Calls Tryz.prog 114 #[.string s, .int .i64 n] w fun e w' => ∃ t, e = .returned (.string t) ∧ t.data.toList = leftL l n.toNat ∧ Below w.heap.size w w' := by
  have hl := len_of hs
  obtain ⟨m, hm⟩ : ∃ m, offL l n.toNat = m := ⟨_, rfl⟩
  have hle := off_le l n.toNat
  rw [hm, hl] at hle
  have HB := Lib.hid (fun w => begin_c s l hs h9 n hn m hm w)
  have HM := Lib.hid hm
  clear hm
  go_enter Tryz.func114, Tryz.ntmps114
  go_wp2_with fail
  refine (HB.out _).mono ?_
  rintro e w1 ⟨rfl, hb1⟩
  go_wp2
  go_ret
  exact ⟨_, rfl, by rw [ext_take, hs, leftL, HM.out], hb1⟩
set_option maxRecDepth 100000 in
set_option maxHeartbeats 2000000 in
theorem hasPrefix_in (s t : ByteArray) (b : Bool) (hb : preB s.data.toList t.data.toList = b) (_h9 : s.size ≤ 1000000) (_h8 : t.size ≤ 1000000) (w : World) :
    Calls Tryz.prog 279 #[.string s, .string t] w fun e w' => e = .returned (.bool b) ∧ w = w' := by
  by_cases hle : t.size ≤ s.size
  · have hq : ((s.extract 0 t.size).toList == t.toList) = b := by rw [toList_eq, ext_take, Lib.size_eq t, ← hb, preB]
    go_enter Tryz.func279, Tryz.ntmps279
    clear hb
    cases b <;> (go_wp2; go_ret; exact ⟨rfl, rfl⟩)
  · obtain rfl : false = b := by
      rw [← hb, preB]
      symm
      apply decide_eq_false
      intro e
      have := congrArg List.length e
      rw [List.length_take, ← Lib.size_eq, ← Lib.size_eq] at this
      omega
    go_enter Tryz.func279, Tryz.ntmps279
    go_wp2
    go_ret
    exact ⟨rfl, rfl⟩
set_option maxRecDepth 100000 in
set_option maxHeartbeats 2000000 in
theorem hasPrefix_c (s t : ByteArray) (b : Bool) (hb : preB s.data.toList t.data.toList = b) (h9 : s.size ≤ 1000000) (h8 : t.size ≤ 1000000) (w : World) :
    Calls Tryz.prog 218 #[.string s, .string t] w fun e w' => e = .returned (.bool b) ∧ w = w' := by
  have HC := Lib.hid (fun w => hasPrefix_in s t b hb h9 h8 w)
  clear hb
  go_enter Tryz.func218, Tryz.ntmps218
  go_wp2_with fail
  refine (HC.out _).mono ?_
  rintro e w1 ⟨rfl, rfl⟩
  go_wp2
  go_ret
  exact ⟨rfl, rfl⟩
end Go.Proofs.YtebjedbppiphgaaGreatDoor.Run
namespace Go.Proofs.YtebjedbppiphgaaGreatDoor.Run
open Go.RowKit Kit
/-- is a needle at the rune of a place? -/
def hitB (n l : List UInt8) (k : Nat) : Bool := preB (l.drop (offL l k)) n
/-- what a search has to answer -/
def FindIs (n l : List UInt8) : Option Nat → Prop
  | some k => (n = [] ∧ k = 0) ∨ (n ≠ [] ∧ k < (ps l).length ∧ hitB n l k = true ∧ ∀ j, j < k → hitB n l j = false)
  | none => n ≠ [] ∧ ∀ j, j < (ps l).length → hitB n l j = false
theorem FindIs.unique {n l : List UInt8} : ∀ {a b : Option Nat}, FindIs n l a → FindIs n l b → a = b
  | none, none, _, _ => rfl
  | none, some k, h1, h2 => by
    rcases h2 with ⟨h, _⟩ | ⟨_, h, h3, _⟩
    · exact absurd h h1.1
    · rw [h1.2 k h] at h3; cases h3
  | some k, none, h2, h1 => by
    rcases h2 with ⟨h, _⟩ | ⟨_, h, h3, _⟩
    · exact absurd h h1.1
    · rw [h1.2 k h] at h3; cases h3
  | some k, some j, h1, h2 => by
    rcases h1 with ⟨h, rfl⟩ | ⟨h, h3, h4, h5⟩
    · rcases h2 with ⟨_, rfl⟩ | ⟨h6, _⟩
      · rfl
      · exact absurd h h6
    · rcases h2 with ⟨h6, _⟩ | ⟨_, h6, h7, h8⟩
      · exact absurd h6 h
      · rcases Nat.lt_trichotomy k j with hlt | rfl | hlt
        · rw [h8 k hlt] at h4; cases h4
        · rfl
        · rw [h5 j hlt] at h7; cases h7
/-- a search's answer as two results -/
def foundV : Option Nat → Value
  | some k => .tuple #[.int .i64 k, .bool true]
  | none => .tuple #[.int .i64 0, .bool false]

set_option maxRecDepth 100000 in
set_option maxHeartbeats 2000000 in
theorem find_c (t s : ByteArray) (n l : List UInt8) (ht : t.data.toList = n) (hs : s.data.toList = l) (h8 : t.size ≤ 1000000) (h9 : s.size ≤ 1000000) (w : World) :
    Calls Tryz.prog 110 #[.string t, .string s] w fun e w' => ∃ r, e = .returned (foundV r) ∧ FindIs n l r ∧ Below w.heap.size w w' := by
  have hl := len_of hs
  have hlen := ps_len l
  have h0 := off_zero l
  by_cases hn : n = []
  · have e0 : (t.toList == []) = true := by rw [Lib.toList_data, ht, hn]; rfl
    clear hs ht
    go_enter Tryz.func110, Tryz.ntmps110
    go_wp2
    exact bodyPost_ret (v := .tuple #[.int .i64 0, .bool true]) (by simp [results, Tryz.results110, go_sem]) rfl ⟨some 0, rfl, .inl ⟨hn, rfl⟩, Below.refl _ _⟩
  · have e0 : (t.toList == []) = false := by rw [Lib.toList_data, ht]; simpa using hn
    have HN := Lib.hid (fun w k p hk h => next_in Tryz.prog w s l hs k p hk h)
    have HE : Hid (∀ k, ¬ offL l k < s.size → (ps l).length ≤ k) := Lib.hid fun k hk => by
      have := off_lt l k
      omega
    have HP : Hid (∀ k p, offL l k = p → ∀ b, hitB n l k = b → ∀ w, Calls Tryz.prog 218 #[.string (s.extract p s.size), .string t] w fun e w' => e = .returned (.bool b) ∧ w = w') := Lib.hid fun k p hk b hb w => by
      refine hasPrefix_c _ _ b ?_ ?_ h8 w
      · rw [ext_drop, hs, ht, ← hk]; exact hb
      · rw [ByteArray.size_extract]; omega
    clear hs ht
    go_enter Tryz.func110, Tryz.ntmps110
    go_wp2
    go_loopw [6, 7] (fun m _ w' => ∃ (k p : Nat), k ≤ s.size ∧ Hid (offL l k = p) ∧ w' = w.iter s p ∧ m = .int .i64 k ∧ Hid (∀ j, j < k → hitB n l j = false)) (fun _ _ w' => s.size - w'.iterPos w.heap.size)
    case atStart => exact ⟨0, 0, by omega, Lib.hid h0, rfl, rfl, Lib.hid fun j hj => absurd hj (by omega)⟩
    case round =>
      obtain ⟨k, p, hk, hp, rfl, rfl, hno⟩ := hrel
      by_cases hlt : p < s.size
      · obtain ⟨hkn, q, v, hq, hpq, hqs, _, hnx⟩ := HN.out w k p hp.out hlt
        have HQ := Lib.hid hq
        obtain ⟨b, hb⟩ : ∃ b, hitB n l k = b := ⟨_, rfl⟩
        have HC := Lib.hid (HP.out k p hp.out b hb)
        have HK := Lib.hid hb
        clear hq hb
        go_wp2_with fail
        refine (HC.out _).mono ?_
        rintro e w1 ⟨rfl, rfl⟩
        cases b with
        | true =>
          go_wp2
          exact bodyPost_ret (v := .tuple #[.int .i64 k, .bool true]) (by simp [results, Tryz.results110, go_sem]) rfl ⟨some k, rfl, .inr ⟨hn, hkn, HK.out, hno.out⟩, iter_below _ _ _⟩
        | false =>
          go_wp2
          go_roundw
          case rel =>
            refine ⟨k + 1, q, by omega, HQ, rfl, by go_num, Lib.hid fun j hj => ?_⟩
            rcases Nat.lt_or_ge j k with h | h
            · exact hno.out j h
            · obtain rfl : j = k := by omega
              exact HK.out
          case measure => simp; omega
      · have hnx := fun ty => run_next_end (P := Tryz.prog) w s p ty hlt
        have hE := HE.out k (by rw [hp.out]; exact hlt)
        go_wp2
        exact bodyPost_ret (v := .tuple #[.int .i64 0, .bool false]) (by simp [results, Tryz.results110, go_sem]) rfl ⟨none, rfl, ⟨hn, fun j hj => hno.out j (by omega)⟩, iter_below _ _ _⟩
set_option maxRecDepth 100000 in
set_option maxHeartbeats 2000000 in
theorem first_c (s : ByteArray) (l : List UInt8) (hs : s.data.toList = l) (hne : l ≠ []) (v : Nat) (hv : valL l = v) (w : World) :
    Calls Tryz.prog 108 #[.string s] w fun e w' => e = .returned (.tuple #[.int .i32 v, .bool true]) ∧ Below w.heap.size w w' := by
  have hl := len_of hs
  have hpos : 0 < s.size := by have := List.length_pos_iff.2 hne; omega
  obtain ⟨_, q, v2, hq, _, _, hv2, hnx⟩ := next_in Tryz.prog w s l hs 0 0 (off_zero l) hpos
  rw [List.drop_zero, hv] at hv2
  subst hv2
  clear hq hs hv
  go_enter Tryz.func108, Tryz.ntmps108
  go_wp2
  go_loopw [5] (fun _ w' => w' = w.iter s 0) (fun _ w' => 0)
  case atStart => rfl
  case round =>
    obtain rfl := hrel
    go_wp2
    exact bodyPost_ret (v := .tuple #[.int .i32 v2, .bool true]) (by simp [results, Tryz.results108, go_sem]) rfl ⟨rfl, iter_below _ _ _⟩
set_option maxRecDepth 100000 in
set_option maxHeartbeats 2000000 in
theorem first_none (s : ByteArray) (hs : s.size = 0) (w : World) :
    Calls Tryz.prog 108 #[.string s] w fun e w' => e = .returned (.tuple #[.int .i32 0, .bool false]) ∧ Below w.heap.size w w' := by
  have hnx := fun ty => run_next_end (P := Tryz.prog) w s 0 ty (by omega)
  go_enter Tryz.func108, Tryz.ntmps108
  go_wp2
  go_loopw [5] (fun _ w' => w' = w.iter s 0) (fun _ w' => 0)
  case atStart => rfl
  case round =>
    obtain rfl := hrel
    go_wp2
    exact bodyPost_ret (v := .tuple #[.int .i32 0, .bool false]) (by simp [results, Tryz.results108, go_sem]) rfl ⟨rfl, iter_below _ _ _⟩
/-- is a number a rune? -/
def runeB (n : Int) : Bool := decide (1 ≤ n ∧ n ≤ 1114111 ∧ ¬ (55296 ≤ n ∧ n ≤ 57343))
/-- a rune's bytes -/
def encL (n : Nat) : List UInt8 :=
  if n < 128 then [UInt8.ofNat n]
  else if n < 2048 then [UInt8.ofNat (192 + n / 64), UInt8.ofNat (128 + n % 64)]
  else if n < 65536 then [UInt8.ofNat (224 + n / 4096), UInt8.ofNat (128 + n / 64 % 64), UInt8.ofNat (128 + n % 64)]
  else [UInt8.ofNat (240 + n / 262144), UInt8.ofNat (128 + n / 4096 % 64), UInt8.ofNat (128 + n / 64 % 64), UInt8.ofNat (128 + n % 64)]
def singleL (n : Int) : List UInt8 := if runeB n = true then encL n.toNat else []
theorem encode_is (n : Int) (h : runeB n = true) : (Utf8.encode n).data.toList = encL n.toNat := by
  simp only [runeB, decide_eq_true_eq] at h
  have hv : Utf8.valid n = true := by
    simp only [Utf8.valid, Bool.or_eq_true, Bool.and_eq_true, decide_eq_true_eq]
    omega
  unfold Utf8.encode encL
  rw [hv]
  simp only [if_true]
  repeat' split
  all_goals rfl
set_option maxRecDepth 100000 in
set_option maxHeartbeats 2000000 in
theorem validRune_c (r : Int) (b : Bool) (hb : decide ((0 ≤ r ∧ r < 55296) ∨ (57343 < r ∧ r ≤ 1114111)) = b) (w : World) : Calls Tryz.prog 271 #[.int .i32 r] w fun e w' => e = .returned (.bool b) ∧ w' = w := by
  have HB := Lib.hid hb
  clear hb
  go_enter Tryz.func271, Tryz.ntmps271
  go_wp2
  all_goals (go_ret; refine ⟨ret_bool ?_, rfl⟩; rw [← HB.out]; first | exact (decide_eq_true (by omega)).symm | exact (decide_eq_false (by omega)).symm)
set_option maxRecDepth 100000 in
set_option maxHeartbeats 2000000 in
theorem single_c (n : Int) (b : Bool) (hb : runeB n = b) (w : World) :
    Calls Tryz.prog 208 #[.int .i64 n] w fun e w' => ∃ t, e = .returned (.tuple #[.string t, .bool b]) ∧ t.data.toList = singleL n ∧ w = w' := by
  have hw : n < 1 ∨ (¬ n < 1 ∧ 1114111 < n) ∨ ((¬ n < 1 ∧ ¬ 1114111 < n) ∧ 55296 ≤ n ∧ n ≤ 57343) ∨ ((¬ n < 1 ∧ ¬ 1114111 < n) ∧ ¬ (55296 ≤ n ∧ n ≤ 57343)) := by omega
  rcases hw with h1 | ⟨h1, h2⟩ | ⟨⟨h1, h2⟩, h3⟩ | ⟨⟨h1, h2⟩, h3⟩
  · obtain rfl : false = b := by rw [← hb, runeB]; exact (decide_eq_false (by omega)).symm
    have HE : Hid ([] = singleL n) := Lib.hid (by rw [singleL, if_neg (by rw [hb]; simp)])
    clear hb
    have d1 : decide (n < 1) = true := by simpa using h1
    go_enter Tryz.func208, Tryz.ntmps208
    go_wp2
    exact bodyPost_ret (v := .tuple #[.string ⟨#[]⟩, .bool false]) (by simp [results, Tryz.results208, go_sem]) rfl ⟨_, rfl, HE.out, rfl⟩
  · obtain rfl : false = b := by rw [← hb, runeB]; exact (decide_eq_false (by omega)).symm
    have HE : Hid ([] = singleL n) := Lib.hid (by rw [singleL, if_neg (by rw [hb]; simp)])
    clear hb
    have d1 : decide (n < 1) = false := by simpa using h1
    have d2 : decide (1114111 < n) = true := by simpa using h2
    go_enter Tryz.func208, Tryz.ntmps208
    go_wp2
    exact bodyPost_ret (v := .tuple #[.string ⟨#[]⟩, .bool false]) (by simp [results, Tryz.results208, go_sem]) rfl ⟨_, rfl, HE.out, rfl⟩
  · obtain rfl : false = b := by rw [← hb, runeB]; exact (decide_eq_false (by omega)).symm
    have HE : Hid ([] = singleL n) := Lib.hid (by rw [singleL, if_neg (by rw [hb]; simp)])
    have HV := Lib.hid (fun w => validRune_c n false (decide_eq_false (by omega)) w)
    clear hb
    have d1 : decide (n < 1) = false := by simpa using h1
    have d2 : decide (1114111 < n) = false := by simpa using h2
    go_enter Tryz.func208, Tryz.ntmps208
    go_wp2_with fail
    refine (HV.out _).mono ?_
    rintro e w1 ⟨rfl, rfl⟩
    go_wp2
    exact bodyPost_ret (v := .tuple #[.string ⟨#[]⟩, .bool false]) (by simp [results, Tryz.results208, go_sem]) rfl ⟨_, rfl, HE.out, rfl⟩
  · obtain rfl : true = b := by rw [← hb, runeB]; exact (decide_eq_true (by omega)).symm
    have HE : Hid ((Utf8.encode n).data.toList = singleL n) := Lib.hid (by rw [singleL, if_pos hb, encode_is n hb])
    have HV := Lib.hid (fun w => validRune_c n true (decide_eq_true (by omega)) w)
    clear hb
    have d1 : decide (n < 1) = false := by simpa using h1
    have d2 : decide (1114111 < n) = false := by simpa using h2
    have hcv := fun w1 => run_convert_int_string (P := Tryz.prog) w1 21 9 .i32 n (by kernel_rfl) Tryz.underlying9
    generalize Utf8.encode n = E at *
    go_enter Tryz.func208, Tryz.ntmps208
    go_wp2_with fail
    refine (HV.out _).mono ?_
    rintro e w1 ⟨rfl, rfl⟩
    go_wp2
    exact bodyPost_ret (v := .tuple #[.string E, .bool true]) (by simp [results, Tryz.results208, go_sem]) rfl ⟨_, rfl, HE.out, rfl⟩
end Go.Proofs.YtebjedbppiphgaaGreatDoor.Run

/- What the program's Count, begin, Left, Right, Mid, Find, First answer (over the landed text of package runes): for every text of at most a million bytes. -/
import Derived.Test.YtkbibkadofeamaaRunMath
import Derived.Lib.OthersKept
import Derived.LoopTactic
import Derived.WalkSmall
namespace Go.Proofs.Ytkbibkadofeamaa.Run
open Go.RowKit Kit

theorem ext_take (t : ByteArray) (k : Nat) : (t.extract 0 k).data.toList = t.data.toList.take k := by
  rw [Lib.extract_data, List.drop_zero, Nat.sub_zero]
theorem ext_drop (t : ByteArray) (k : Nat) : (t.extract k t.size).data.toList = t.data.toList.drop k := by
  rw [Lib.extract_data, List.take_of_length_le (by rw [List.length_drop, Lib.size_eq]; omega)]
theorem bytes_eq {a b : ByteArray} (h : a.data.toList = b.data.toList) : a = b := ByteArray.ext (Array.toList_inj.1 h)
theorem len_of {s : ByteArray} {l : List UInt8} (hs : s.data.toList = l) : l.length = s.size := by rw [← hs]; exact (Lib.size_eq s).symm
theorem toList_eq (a b : ByteArray) : (a.toList == b.toList) = decide (a.data.toList = b.data.toList) := by
  rw [Lib.toList_data, Lib.toList_data]
  by_cases h : a.data.toList = b.data.toList
  · rw [decide_eq_true h, beq_iff_eq]; exact h
  · rw [decide_eq_false h, beq_eq_false_iff_ne]; exact h
theorem iter_below (w : World) (s : ByteArray) (p : Nat) : Below w.heap.size w (w.iter s p) := below1 w _
/-- a step of a range over a text: from one rune to the next one -/
theorem next_in (P : Program) (w : World) (s : ByteArray) (l : List UInt8) (hs : s.data.toList = l) (k p : Nat) (hk : offL l k = p) (h : p < s.size) :
    k < (ps l).length ∧ ∃ q v, offL l (k + 1) = q ∧ p < q ∧ q ≤ s.size ∧ v = valL (l.drop p) ∧
      ∀ ty, (Instr.next (.pointer (some ⟨w.heap.size, 0, none⟩)) true ty).run P (w.iter s p) = .ok (.tuple #[.bool true, .int .i64 p, .int .i32 v]) (w.iter s q) := by
  have hl := len_of hs
  have hkn : k < (ps l).length := (off_lt l k).2 (by omega)
  have h1 := off_step hkn
  have h2 := sz_pos (drop_ne hkn)
  have h3 := off_le l (k + 1)
  refine ⟨hkn, _, _, rfl, by omega, by omega, rfl, fun ty => ?_⟩
  rw [run_next_any w s p ty h, decode_is s p h, hs, h1, hk]
/-- .. in whatever world -/
theorem next_at (P : Program) (w : World) (b : Nat) (s : ByteArray) (l : List UInt8) (hs : s.data.toList = l) (k p : Nat) (hk : offL l k = p) (hb : w.heap[b]? = some (.stringIter s p)) (h : p < s.size) :
    k < (ps l).length ∧ ∃ q v, offL l (k + 1) = q ∧ p < q ∧ q ≤ s.size ∧ v = valL (l.drop p) ∧
      ∀ ty, (Instr.next (.pointer (some ⟨b, 0, none⟩)) true ty).run P w = .ok (.tuple #[.bool true, .int .i64 p, .int .i32 v]) (w.iterAt b s q) := by
  have hl := len_of hs
  have hkn : k < (ps l).length := (off_lt l k).2 (by omega)
  have h1 := off_step hkn
  have h2 := sz_pos (drop_ne hkn)
  have h3 := off_le l (k + 1)
  refine ⟨hkn, _, _, rfl, by omega, by omega, rfl, fun ty => ?_⟩
  rw [Lib.run_next_any_at w b s p ty hb h, decode_is s p h, hs, h1, hk]

set_option maxRecDepth 100000 in
set_option maxHeartbeats 2000000 in
theorem count_c (s : ByteArray) (l : List UInt8) (hs : s.data.toList = l) (h9 : s.size ≤ 1000000) (n : Nat) (hn : (ps l).length = n) (w : World) :
    Calls Try.prog 8 #[.string s] w fun e w' => e = .returned (.int .i64 n) ∧ Below w.heap.size w w' := by
  have hl := len_of hs
  have hlen := ps_len l
  have h0 := off_zero l
  have HN := Lib.hid (fun w k p hk h => next_in Try.prog w s l hs k p hk h)
  have HE : Hid (∀ k, ¬ offL l k < s.size → k ≤ n → k = n) := Lib.hid fun k hk hk2 => by
    have := off_lt l k
    omega
  go_enter Try.func8, Try.ntmps8
  go_wp2
  go_loopw [3] (fun m w' => ∃ (k p : Nat), k ≤ n ∧ Hid (offL l k = p) ∧ w' = w.iter s p ∧ m = .int .i64 k) (fun _ w' => s.size - w'.iterPos w.heap.size)
  case atStart => exact ⟨0, 0, by omega, Lib.hid h0, rfl, rfl⟩
  case round =>
    obtain ⟨k, p, hk, hp, rfl, rfl⟩ := hrel
    by_cases hlt : p < s.size
    · obtain ⟨hkn, q, v, hq, hpq, hqs, _, hnx⟩ := HN.out w k p hp.out hlt
      have HQ := Lib.hid hq
      clear hq
      go_wp2
      go_roundw
      case rel => exact ⟨k + 1, q, by omega, HQ, rfl, by go_num⟩
      case measure => simp; omega
    · have hnx := fun ty => run_next_end (P := Try.prog) w s p ty hlt
      obtain rfl : k = n := HE.out k (by rw [hp.out]; exact hlt) hk
      go_wp2
      go_ret
      exact ⟨rfl, iter_below _ _ _⟩
set_option maxRecDepth 100000 in
set_option maxHeartbeats 2000000 in
theorem begin_c (s : ByteArray) (l : List UInt8) (hs : s.data.toList = l) (_h9 : s.size ≤ 1000000) (n : Int) (hn : n ≤ 9223372036854775807) (m : Nat) (hm : offL l n.toNat = m) (w : World) :
    Calls Try.prog 24 #[.string s, .int .i64 n] w fun e w' => e = .returned (.int .i64 m) ∧ Below w.heap.size w w' := by
  have hl := len_of hs
  have hlen := ps_len l
  have h0 := off_zero l
  have HN := Lib.hid (fun w k p hk h => next_in Try.prog w s l hs k p hk h)
  have HE : Hid (∀ k, ¬ offL l k < s.size → k ≤ n.toNat → s.size = m) := Lib.hid fun k hk hk2 => by
    have h1 := off_lt l k
    rw [← hm, ← hl, off_end]
    omega
  have HM : Hid (∀ k, k ≤ n.toNat → n - k < 1 → offL l k = m) := Lib.hid fun k h1 h2 => by
    rw [← hm]
    congr 1
    omega
  clear hm
  go_enter Try.func24, Try.ntmps24
  go_wp2
  go_loopw [1, 5] (fun m _ w' => ∃ (k p : Nat) (j : Int), k ≤ n.toNat ∧ Hid (offL l k = p) ∧ w' = w.iter s p ∧ m = .int .i64 j ∧ j = n - k) (fun _ _ w' => s.size - w'.iterPos w.heap.size)
  case atStart => exact ⟨0, 0, n, by omega, Lib.hid h0, rfl, rfl, by omega⟩
  case round =>
    obtain ⟨k, p, j, hk, hp, rfl, rfl, hj⟩ := hrel
    by_cases hlt : p < s.size
    · obtain ⟨hkn, q, v, hq, hpq, hqs, _, hnx⟩ := HN.out w k p hp.out hlt
      have HQ := Lib.hid hq
      have HJ := Lib.hid hj
      clear hq hj
      by_cases h1 : j < 1
      · obtain rfl : p = m := by rw [← hp.out]; exact HM.out k hk (by rw [← HJ.out]; exact h1)
        go_wp2
        go_ret
        exact ⟨rfl, iter_below _ _ _⟩
      · have hj2 := HJ.out
        have hjn : j ≤ 9223372036854775807 := by omega
        clear hj2
        go_wp2
        go_roundw
        case rel => exact ⟨k + 1, q, j - 1, by have := HJ.out; omega, HQ, rfl, by go_num, by have := HJ.out; omega⟩
        case measure => simp; omega
    · have hnx := fun ty => run_next_end (P := Try.prog) w s p ty hlt
      have hE := HE.out k (by rw [hp.out]; exact hlt) hk
      subst hE
      clear hj
      go_wp2
      go_ret
      exact ⟨rfl, iter_below _ _ _⟩
set_option maxRecDepth 100000 in
set_option maxHeartbeats 2000000 in
theorem left_c (s : ByteArray) (l : List UInt8) (hs : s.data.toList = l) (h9 : s.size ≤ 1000000) (n : Int) (hn : n ≤ 9223372036854775807) (w : World) :
    Calls Try.prog 10 #[.string s, .int .i64 n] w fun e w' => ∃ t, e = .returned (.string t) ∧ t.data.toList = leftL l n.toNat ∧ Below w.heap.size w w' := by
  have hl := len_of hs
  obtain ⟨m, hm⟩ : ∃ m, offL l n.toNat = m := ⟨_, rfl⟩
  have hle := off_le l n.toNat
  rw [hm, hl] at hle
  have HB := Lib.hid (fun w => begin_c s l hs h9 n hn m hm w)
  have HM := Lib.hid hm
  clear hm
  go_enter Try.func10, Try.ntmps10
  go_wp2_with fail
  refine (HB.out _).mono ?_
  rintro e w1 ⟨rfl, hb1⟩
  go_wp2
  go_ret
  exact ⟨_, rfl, by rw [ext_take, hs, leftL, HM.out], hb1⟩
set_option maxRecDepth 100000 in
set_option maxHeartbeats 2000000 in
theorem right_c (s : ByteArray) (l : List UInt8) (hs : s.data.toList = l) (h9 : s.size ≤ 1000000) (n : Int) (hn0 : -9223372036854775808 ≤ n) (hn : n ≤ 9223372036854775807) (w : World) :
    Calls Try.prog 12 #[.string s, .int .i64 n] w fun e w' => ∃ t, e = .returned (.string t) ∧ t.data.toList = rightL l n.toNat ∧ Below w.heap.size w w' := by
  have hl := len_of hs
  have hlen := ps_len l
  obtain ⟨c, hc⟩ : ∃ c, (ps l).length = c := ⟨_, rfl⟩
  obtain ⟨y, hy, hyb⟩ : ∃ y : Int, ((n < 0 ∧ y = c) ∨ (¬ n < 0 ∧ (c : Int) - n = y)) ∧ y ≤ 9223372036854775807 ∧ y.toNat = c - n.toNat := by
    by_cases h : n < 0
    · exact ⟨c, .inl ⟨h, rfl⟩, by omega, by omega⟩
    · exact ⟨c - n, .inr ⟨h, rfl⟩, by omega, by omega⟩
  obtain ⟨m, hm⟩ : ∃ m, offL l y.toNat = m := ⟨_, rfl⟩
  have hle := off_le l y.toNat
  rw [hm, hl] at hle
  have HC := Lib.hid (fun w => count_c s l hs h9 c hc w)
  have HB := Lib.hid (fun w => begin_c s l hs h9 y hyb.1 m hm w)
  have HM : Hid (s.data.toList.drop m = rightL l n.toNat) := Lib.hid (by rw [hs, rightL, hc, ← hyb.2, hm])
  rw [hc] at hlen
  clear hm hc hyb hs
  rcases hy with ⟨h, rfl⟩ | ⟨h, hy⟩
  all_goals
    go_enter Try.func12, Try.ntmps12
    go_wp2_with fail
    refine (HC.out _).mono ?_
    rintro e w1 ⟨rfl, hb1⟩
    go_wp2_with fail
    refine (HB.out _).mono ?_
    rintro e w2 ⟨rfl, hb2⟩
    go_wp2
    go_ret
    exact ⟨_, rfl, by rw [ext_drop, HM.out], on hb1 hb2⟩
set_option maxRecDepth 100000 in
set_option maxHeartbeats 2000000 in
theorem mid_c (s : ByteArray) (l : List UInt8) (hs : s.data.toList = l) (h9 : s.size ≤ 1000000) (f n : Int) (hf : f ≤ 9223372036854775807) (hn : n ≤ 9223372036854775807) (w : World) :
    Calls Try.prog 14 #[.string s, .int .i64 f, .int .i64 n] w fun e w' => ∃ t, e = .returned (.string t) ∧ t.data.toList = midL l f n ∧ Below w.heap.size w w' := by
  have hl := len_of hs
  obtain ⟨m, hm⟩ : ∃ m, offL l f.toNat = m := ⟨_, rfl⟩
  have hle := off_le l f.toNat
  rw [hm, hl] at hle
  have HB := Lib.hid (fun w => begin_c s l hs h9 f hf m hm w)
  have HL := Lib.hid (fun w => left_c (s.extract m s.size) (l.drop m) (by rw [ext_drop, hs]) (by rw [ByteArray.size_extract]; omega) n hn w)
  have HM := Lib.hid hm
  clear hm
  go_enter Try.func14, Try.ntmps14
  by_cases h1 : f < 0
  · go_wp2
    go_ret
    exact ⟨_, rfl, by rw [midL, if_pos h1], Below.refl _ _⟩
  · go_wp2_with fail
    refine (HB.out _).mono ?_
    rintro e w1 ⟨rfl, hb1⟩
    go_wp2_with fail
    refine (HL.out _).mono ?_
    rintro e w2 ⟨t, rfl, ht, hb2⟩
    go_wp2
    go_ret
    exact ⟨_, rfl, by rw [midL, if_neg (by omega), HM.out, ht], on hb1 hb2⟩
set_option maxRecDepth 100000 in
set_option maxHeartbeats 2000000 in
theorem hasPrefix_in (s t : ByteArray) (b : Bool) (hb : preB s.data.toList t.data.toList = b) (_h9 : s.size ≤ 1000000) (_h8 : t.size ≤ 1000000) (w : World) :
    Calls Try.prog 28 #[.string s, .string t] w fun e w' => e = .returned (.bool b) ∧ w = w' := by
  by_cases hle : t.size ≤ s.size
  · have hq : ((s.extract 0 t.size).toList == t.toList) = b := by rw [toList_eq, ext_take, Lib.size_eq t, ← hb, preB]
    go_enter Try.func28, Try.ntmps28
    clear hb
    cases b <;> (go_wp2; go_ret; exact ⟨rfl, rfl⟩)
  · obtain rfl : false = b := by
      rw [← hb, preB]
      symm
      apply decide_eq_false
      intro e
      have := congrArg List.length e
      rw [List.length_take, ← Lib.size_eq, ← Lib.size_eq] at this
      omega
    go_enter Try.func28, Try.ntmps28
    go_wp2
    go_ret
    exact ⟨rfl, rfl⟩
set_option maxRecDepth 100000 in
set_option maxHeartbeats 2000000 in
theorem hasPrefix_c (s t : ByteArray) (b : Bool) (hb : preB s.data.toList t.data.toList = b) (h9 : s.size ≤ 1000000) (h8 : t.size ≤ 1000000) (w : World) :
    Calls Try.prog 26 #[.string s, .string t] w fun e w' => e = .returned (.bool b) ∧ w = w' := by
  have HC := Lib.hid (fun w => hasPrefix_in s t b hb h9 h8 w)
  clear hb
  go_enter Try.func26, Try.ntmps26
  go_wp2_with fail
  refine (HC.out _).mono ?_
  rintro e w1 ⟨rfl, rfl⟩
  go_wp2
  go_ret
  exact ⟨rfl, rfl⟩
end Go.Proofs.Ytkbibkadofeamaa.Run

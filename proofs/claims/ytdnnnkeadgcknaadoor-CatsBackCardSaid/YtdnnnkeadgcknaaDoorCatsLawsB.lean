/- What the statement CatsBack answers: yes, for every set and every text. -/
import Derived.Test.YtdnnnkeadgcknaaDoorCatsRefParse
namespace Go.Proofs.YtdnnnkeadgcknaaDoor.Cats
open Go.RowKit

set_option maxHeartbeats 2000000 in
theorem back_no (s S : Nat) (t : ByteArray) (X : List UInt8) (ht : t.size ≤ 300)
    (htext : Hid (∀ w, Calls Tryd.prog 23 #[.int .u64 s] w fun e w' => e = .returned (.string ⟨X.toArray⟩) ∧ Below w.heap.size w w'))
    (hrtext : Hid (∀ w, Calls Tryd.prog 25 #[.int .u64 s] w fun e w' => e = .returned (.string ⟨X.toArray⟩) ∧ Below w.heap.size w w'))
    (hparse1 : Hid (∀ w, Calls Tryd.prog 22 #[.string ⟨X.toArray⟩] w fun e w' => e = .returned (.tuple #[.int .u64 s, .bool true]) ∧ Drawn w w'))
    (hparse2 : Hid (∀ w, Calls Tryd.prog 22 #[.string t] w fun e w' => e = .returned (.tuple #[.int .u64 S, .bool false]) ∧ Drawn w w'))
    (hrparse : Hid (∀ w, Calls Tryd.prog 24 #[.string t] w fun e w' => e = .returned (.agg #[.int .u64 S, .bool false]) ∧ Below w.heap.size w w')) (w : World) :
    Calls Tryd.prog 6 #[.int .u64 s, .string t] w fun e w' => e = .returned (.bool true) ∧ Below w.heap.size w w' := by
  have hd300 : decide (300 < (t.size : Int)) = false := by simp; omega
  go_enter Tryd.func6, Tryd.ntmps6
  go_wp2_with fail
  refine (htext.out _).mono ?_
  rintro e w1 ⟨rfl, b1⟩
  go_wp2_with fail
  refine (hparse1.out _).mono ?_
  rintro e w2 ⟨rfl, d2⟩
  have b2 := b1.trans (d2.below.mono b1.size)
  clear b1 d2
  go_wp2_with fail
  refine (hparse2.out _).mono ?_
  rintro e w3 ⟨rfl, d3⟩
  have b3 := b2.trans (d3.below.mono b2.size)
  clear b2 d3
  go_wp2_with fail
  refine (hrparse.out _).mono ?_
  rintro e w4 ⟨rfl, b4'⟩
  have b4 := b3.trans (b4'.mono b3.size)
  clear b3 b4'
  go_wp2_with fail
  refine (htext.out _).mono ?_
  rintro e w5 ⟨rfl, b5'⟩
  obtain ⟨c0, c1, _, _, hz⟩ := slot_kept (w := w4) b5'
  have b5 := (b4.alloc b4.size _).trans (b5'.mono (by have := b4.size; simp; omega))
  clear b4 b5'
  go_wp2_with fail
  refine (hrtext.out _).mono ?_
  rintro e w6 ⟨rfl, b6'⟩
  have e0 := (b6'.cell (p := ⟨w4.heap.size, 0, none⟩) hz).trans c0
  have e1 := (b6'.cell (p := ⟨w4.heap.size, 1, none⟩) hz).trans c1
  have b6 := b5.trans (b6'.mono b5.size)
  clear b5 b6' c0 c1
  go_wp2_with fail
  refine (alive_c _).mono ?_
  rintro e w8 ⟨rfl, b8⟩
  go_wp2
  go_ret
  exact ⟨rfl, b6.trans (b8.mono b6.size)⟩

set_option maxHeartbeats 2000000 in
theorem back_yes (s S : Nat) (t : ByteArray) (X : List UInt8) (ht : t.size ≤ 300)
    (htext : Hid (∀ w, Calls Tryd.prog 23 #[.int .u64 s] w fun e w' => e = .returned (.string ⟨X.toArray⟩) ∧ Below w.heap.size w w'))
    (hrtext : Hid (∀ w, Calls Tryd.prog 25 #[.int .u64 s] w fun e w' => e = .returned (.string ⟨X.toArray⟩) ∧ Below w.heap.size w w'))
    (hparse1 : Hid (∀ w, Calls Tryd.prog 22 #[.string ⟨X.toArray⟩] w fun e w' => e = .returned (.tuple #[.int .u64 s, .bool true]) ∧ Drawn w w'))
    (hparse2 : Hid (∀ w, Calls Tryd.prog 22 #[.string t] w fun e w' => e = .returned (.tuple #[.int .u64 S, .bool true]) ∧ Drawn w w'))
    (hrparse : Hid (∀ w, Calls Tryd.prog 24 #[.string t] w fun e w' => e = .returned (.agg #[.int .u64 S, .bool true]) ∧ Below w.heap.size w w'))
    (Y : List UInt8) (hY : (Y == t.toList) = true) (htext2 : Hid (∀ w, Calls Tryd.prog 23 #[.int .u64 S] w fun e w' => e = .returned (.string ⟨Y.toArray⟩) ∧ Below w.heap.size w w')) (w : World) :
    Calls Tryd.prog 6 #[.int .u64 s, .string t] w fun e w' => e = .returned (.bool true) ∧ Below w.heap.size w w' := by
  have hd300 : decide (300 < (t.size : Int)) = false := by simp; omega
  go_enter Tryd.func6, Tryd.ntmps6
  go_wp2_with fail
  refine (htext.out _).mono ?_
  rintro e w1 ⟨rfl, b1⟩
  go_wp2_with fail
  refine (hparse1.out _).mono ?_
  rintro e w2 ⟨rfl, d2⟩
  have b2 := b1.trans (d2.below.mono b1.size)
  clear b1 d2
  go_wp2_with fail
  refine (hparse2.out _).mono ?_
  rintro e w3 ⟨rfl, d3⟩
  have b3 := b2.trans (d3.below.mono b2.size)
  clear b2 d3
  go_wp2_with fail
  refine (hrparse.out _).mono ?_
  rintro e w4 ⟨rfl, b4'⟩
  have b4 := b3.trans (b4'.mono b3.size)
  clear b3 b4'
  go_wp2_with fail
  refine (htext.out _).mono ?_
  rintro e w5 ⟨rfl, b5'⟩
  obtain ⟨c0, c1, _, _, hz⟩ := slot_kept (w := w4) b5'
  have b5 := (b4.alloc b4.size _).trans (b5'.mono (by have := b4.size; simp; omega))
  clear b4 b5'
  go_wp2_with fail
  refine (hrtext.out _).mono ?_
  rintro e w6 ⟨rfl, b6'⟩
  have e0 := (b6'.cell (p := ⟨w4.heap.size, 0, none⟩) hz).trans c0
  have e1 := (b6'.cell (p := ⟨w4.heap.size, 1, none⟩) hz).trans c1
  have b6 := b5.trans (b6'.mono b5.size)
  clear b5 b6' c0 c1
  go_wp2_with fail
  refine (htext2.out _).mono ?_
  rintro e w7 ⟨rfl, b7'⟩
  have b7 := b6.trans (b7'.mono b6.size)
  clear b7'
  go_wp2_with fail
  refine (alive_c _).mono ?_
  rintro e w8 ⟨rfl, b8⟩
  go_wp2
  go_ret
  exact ⟨rfl, b7.trans (b8.mono b7.size)⟩

theorem back_big (s : Nat) (t : ByteArray) (ht : 300 < t.size) (w : World) : Calls Tryd.prog 6 #[.int .u64 s, .string t] w fun e w' => e = .returned (.bool true) ∧ Below w.heap.size w w' := by
  have hd300 : decide (300 < (t.size : Int)) = true := by simp; omega
  go_enter Tryd.func6, Tryd.ntmps6
  go_wp2_with fail
  refine (alive_c _).mono ?_
  rintro e w8 ⟨rfl, b8⟩
  go_wp2
  go_ret
  exact ⟨rfl, b8⟩
theorem back_law (s : Nat) (t : ByteArray) (hs : U s) (_hm : t.size ≤ maxLen) (w : World) : Calls Tryd.prog 6 #[.int .u64 s, .string t] w fun e w' => e = .returned (.bool true) ∧ Below w.heap.size w w' := by
  by_cases ht : t.size ≤ 300
  · have htext := Lib.hid (fun w1 => text_c s hs w1)
    have hrtext := Lib.hid (fun w1 => rtext_c s hs w1)
    have hl := textL_length s
    have hp1 : Hid (∀ w1, Calls Tryd.prog 22 #[.string ⟨(textL s).toArray⟩] w1 fun e w' => e = .returned (.tuple #[.int .u64 s, .bool true]) ∧ Drawn w1 w') := Lib.hid fun w1 => by
      refine (parse_c ⟨(textL s).toArray⟩ (by rw [Lib.size_eq]; show (textL s).length ≤ _; omega) w1).mono fun e w' h => ?_
      unfold ParseEnd at h
      rw [show (ByteArray.mk (textL s).toArray).data.toList = textL s from rfl, parse_text hs] at h
      exact h
    have hp2 := fun w1 => parse_c t (by omega) w1
    have hp3 := fun w1 => rparse_core t ht w1
    unfold ParseEnd at hp2
    cases h : parseF t.data.toList with
    | mk S b =>
      rw [h] at hp2 hp3
      cases b
      · exact back_no s S t (textL s) ht htext hrtext hp1 (Lib.hid hp2) (Lib.hid hp3) w
      · obtain ⟨h1, h2⟩ := text_parse h
        exact back_yes s S t (textL s) ht htext hrtext hp1 (Lib.hid hp2) (Lib.hid hp3) (textL S) (by rw [h1, Lib.toList_data]; simp) (Lib.hid fun w1 => text_c S h2 w1) w
  · exact back_big s t (by omega) w
end Go.Proofs.YtdnnnkeadgcknaaDoor.Cats

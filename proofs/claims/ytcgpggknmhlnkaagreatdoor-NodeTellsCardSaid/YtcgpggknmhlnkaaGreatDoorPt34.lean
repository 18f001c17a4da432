/- What the program's Text of a label answers: for every label.
   What strings.Cut answers at a separator of one byte: for every text within the form's reach. -/
import Derived.Test.YtcgpggknmhlnkaaGreatDoorPt33
import Derived.Test.YtcgpggknmhlnkaaGreatDoorPt13
namespace Go.Proofs.YtcgpggknmhlnkaaGreatDoor.Cats
open Go.RowKit
theorem box_kept {w w1 : World} {x y : Value} {ty : TypeId} (hb : Below (w.alloc (.cells #[x, y] ty)).heap.size (w.alloc (.cells #[x, y] ty)) w1) :
    w1.cell? ⟨w.heap.size, 0, none⟩ = some x ∧ w1.cell? ⟨w.heap.size, 1, none⟩ = some y ∧ w.heap.size < w1.heap.size ∧ Below w.heap.size w w1 := by
  obtain ⟨c0, c1, _, _, hz⟩ := slot_kept2 (w := w) (hb.mono (by simp))
  exact ⟨c0, c1, hz, (below1 w _).trans (Below.mono (B' := w.heap.size) hb (by simp))⟩
set_option maxRecDepth 100000 in
set_option maxHeartbeats 1000000 in
theorem ltext_out (l : Int) (s : Nat) (h : mayL l = false) (w : World) : Calls Tryz.prog 66 #[.agg #[.int .i64 l, .int .u64 s]] w fun e w' => e = .returned (.string ⟨#[]⟩) ∧ Below w.heap.size w w' := by
  have Hm := Lib.hid (fun w1 => lmay_c l s false h w1)
  clear h
  go_enter Tryz.func66, Tryz.ntmps66
  go_wp2_with fail
  refine (Hm.out _).mono ?_
  rintro e w1 ⟨rfl, hb0⟩
  obtain ⟨_, _, _, hb⟩ := box_kept (w := w) hb0
  clear hb0
  go_wp2
  go_ret
  exact ⟨rfl, hb⟩
set_option maxRecDepth 100000 in
set_option maxHeartbeats 2000000 in
theorem ltext_top (l : Int) (s : Nat) (h : mayL l = true) (hl : (l == 15) = true) (hs : ((s : Int) == (allN : Int)) = true) (w : World) : Calls Tryz.prog 66 #[.agg #[.int .i64 l, .int .u64 s]] w fun e w' => e = .returned (.string ⟨#[116, 111, 112]⟩) ∧ Below w.heap.size w w' := by
  have Hm := Lib.hid (fun w1 => lmay_c l s true h w1)
  have Ht := Lib.hid (fun w1 => ltop_c w1)
  clear h
  generalize allN = N at *
  go_enter Tryz.func66, Tryz.ntmps66
  go_wp2_with fail
  refine (Hm.out _).mono ?_
  rintro e w1 ⟨rfl, hb0⟩
  obtain ⟨c0, c1, hz, hbw⟩ := box_kept (w := w) hb0
  clear hb0
  go_wp2_with fail
  go_region_held3 (fun w' => w'.cell? ⟨w.heap.size, 0, none⟩ = some (.int .i64 l) ∧ w'.cell? ⟨w.heap.size, 1, none⟩ = some (.int .u64 s))
    (first | go_keep | (go_split_ands; refine ⟨?_, ?_⟩ <;> (rw [hb.cell (by simp; omega)]; assumption)))
    (first | (go_at_call 62; refine (Ht.out _).mono ?_; rintro e w' ⟨rfl, hb⟩))
  have hb1 : Below w.heap.size w w' := hbw.drew.trans (Below.mono (B' := w.heap.size) hb (by simp; omega))
  clear hb
  go_wp2
  go_ret
  exact ⟨rfl, hb1⟩

/-- the region behind Top's call, and the digits -/
theorem ltext_split {k s N : Nat} (h : ¬ ((k : Int) = 15 ∧ s = N)) : ((k : Int) == 15) = false ∨ (((k : Int) == 15) = true ∧ ((s : Int) == (N : Int)) = false) := by
  by_cases h1 : (k : Int) = 15
  · exact .inr ⟨by simpa using h1, by rw [cast_beq]; simpa using fun e => h ⟨h1, e⟩⟩
  · exact .inl (by simpa using h1)
set_option maxRecDepth 100000 in
set_option maxHeartbeats 4000000 in
theorem ltext_in (k s : Nat) (h1 : k ≤ 15) (hsU : U s) (hnt : ¬ ((k : Int) = 15 ∧ s = allN)) (w : World) : Calls Tryz.prog 66 #[.agg #[.int .i64 k, .int .u64 s]] w fun e w' => e = .returned (.string ⟨(if s = 0 then digs k else digs k ++ 58 :: textL s).toArray⟩) ∧ Below w.heap.size w w' := by
  have Hm := Lib.hid (fun w1 => lmay_c (k : Int) s true (mayL_yes (by omega) (by omega)) w1)
  have Ht := Lib.hid (fun w1 => ltop_c w1)
  have Hd := Lib.hid (fun w1 => itoa_c k (by omega) w1)
  have Hx := Lib.hid (fun w1 => text_c s hsU w1)
  have hdl := digs_length k
  have htl := textL_length s
  have hsp := ltext_split hnt
  clear hsU hnt
  generalize allN = N at *
  rcases hsp with hne | ⟨hne, hne2⟩
  all_goals
    by_cases hz0 : s = 0
    · have hs2 : ((s : Int) == 0) = true := by simp [hz0]
      rw [if_pos hz0]
      clear hz0
      go_enter Tryz.func66, Tryz.ntmps66
      go_wp2_with fail
      refine (Hm.out _).mono ?_
      rintro e w1 ⟨rfl, hb0⟩
      obtain ⟨c0, c1, hz, hbw⟩ := box_kept (w := w) hb0
      clear hb0
      go_wp2_with fail
      go_region_held3 (fun w' => w'.cell? ⟨w.heap.size, 0, none⟩ = some (.int .i64 k) ∧ w'.cell? ⟨w.heap.size, 1, none⟩ = some (.int .u64 s))
        (first | go_keep | (go_split_ands; refine ⟨?_, ?_⟩ <;> (rw [hb.cell (by simp; omega)]; assumption)))
        (first | (go_at_call 62; refine (Ht.out _).mono ?_; rintro e w' ⟨rfl, hb⟩))
      have hb1 : Below w.heap.size w w' := hbw.drew.trans (Below.mono (B' := w.heap.size) hb (by simp; omega))
      clear hb
      go_wp2_with fail
      refine (Hd.out _).mono ?_
      rintro e w2 ⟨rfl, rfl⟩
      go_wp2
      go_ret
      exact ⟨rfl, hb1⟩
    · have hs2 : ((s : Int) == 0) = false := by simp [hz0]
      rw [if_neg hz0]
      clear hz0
      go_enter Tryz.func66, Tryz.ntmps66
      go_wp2_with fail
      refine (Hm.out _).mono ?_
      rintro e w1 ⟨rfl, hb0⟩
      obtain ⟨c0, c1, hz, hbw⟩ := box_kept (w := w) hb0
      clear hb0
      go_wp2_with fail
      go_region_held3 (fun w' => w'.cell? ⟨w.heap.size, 0, none⟩ = some (.int .i64 k) ∧ w'.cell? ⟨w.heap.size, 1, none⟩ = some (.int .u64 s))
        (first | go_keep | (go_split_ands; refine ⟨?_, ?_⟩ <;> (rw [hb.cell (by simp; omega)]; assumption)))
        (first | (go_at_call 62; refine (Ht.out _).mono ?_; rintro e w' ⟨rfl, hb⟩))
      have hb1 : Below w.heap.size w w' := hbw.drew.trans (Below.mono (B' := w.heap.size) hb (by simp; omega))
      clear hb
      go_wp2_with fail
      refine (Hd.out _).mono ?_
      rintro e w2 ⟨rfl, rfl⟩
      go_wp2_with fail
      refine (Hx.out _).mono ?_
      rintro e w4 ⟨rfl, hb4⟩
      have hb5 := hb1.trans (hb4.mono hb1.size)
      clear hb4
      go_wp2
      go_ret
      exact ⟨congrArg (fun x => Ending.returned (.string x)) (mk_three (digs k) [58] (textL s)), hb5⟩
theorem ltext_c (l : Int) (s : Nat) (hs : U s) (w : World) : Calls Tryz.prog 66 #[.agg #[.int .i64 l, .int .u64 s]] w fun e w' => e = .returned (.string ⟨(labT l s).toArray⟩) ∧ Below w.heap.size w w' := by
  unfold labT
  by_cases ho : l < 0 ∨ 15 < l
  · rw [if_pos ho]
    exact ltext_out l s (by rcases ho with h | h; exact mayL_neg h; exact mayL_big h) w
  · rw [if_neg ho]
    obtain ⟨k, rfl⟩ := Int.eq_ofNat_of_zero_le (show 0 ≤ l by omega)
    by_cases ht : (k : Int) = 15 ∧ s = allN
    · rw [if_pos ht]
      exact ltext_top k s (mayL_yes (by omega) (by omega)) (by simpa using ht.1) (by rw [cast_beq]; simpa using ht.2) w
    · rw [if_neg ht, Int.toNat_natCast]
      exact ltext_in k s (by omega) hs ht w
end Go.Proofs.YtcgpggknmhlnkaaGreatDoor.Cats
namespace Go.Proofs.YtcgpggknmhlnkaaGreatDoor.Cats
open Go.RowKit
/-- what stands ahead of the first byte c, and what stands behind it -/
def cutAt (c : UInt8) : List UInt8 → Option (List UInt8 × List UInt8)
  | [] => none
  | x :: r => if x = c then some ([], r) else (cutAt c r).map fun p => (x :: p.1, p.2)
theorem cutAt_index (c : UInt8) (l : List UInt8) : (Lib.indexByte l c = -1 ∧ cutAt c l = none) ∨ ∃ i : Nat, Lib.indexByte l c = i ∧ i + 1 ≤ l.length ∧ cutAt c l = some (l.take i, l.drop (i + 1)) := by
  induction l with
  | nil => exact .inl ⟨rfl, rfl⟩
  | cons x r ih =>
    unfold Lib.indexByte cutAt
    by_cases hc : x = c
    · subst hc
      exact .inr ⟨0, by simp, by simp, by simp⟩
    · have hb : (x == c) = false := by simpa using hc
      rcases ih with ⟨h1, h2⟩ | ⟨i, h1, h2, h3⟩
      · exact .inl ⟨by simp [hb, h1], by simp [hc, h2]⟩
      · refine .inr ⟨i + 1, ?_, by simp; omega, by simp [hc, h3]⟩
        rw [h1]
        have : ((i : Int) == -1) = false := by simp
        simp [hb, this]
theorem cutAt_none {c : UInt8} {w : List UInt8} (h : c ∉ w) : cutAt c w = none := by
  induction w with
  | nil => rfl
  | cons x r ih =>
    unfold cutAt
    rw [if_neg (fun e => h (by simp [e])), ih fun hb => h (by simp [hb])]
    rfl
theorem cutAt_some {c : UInt8} {w : List UInt8} (r : List UInt8) (h : c ∉ w) : cutAt c (w ++ c :: r) = some (w, r) := by
  induction w with
  | nil => simp [cutAt]
  | cons x y ih =>
    rw [List.cons_append]
    unfold cutAt
    rw [if_neg (fun e => h (by simp [e])), ih fun hb => h (by simp [hb])]
    rfl
theorem of_cutAt {c : UInt8} {l a b : List UInt8} (h : cutAt c l = some (a, b)) : l = a ++ c :: b ∧ c ∉ a := by
  induction l generalizing a b with
  | nil => simp [cutAt] at h
  | cons x r ih =>
    unfold cutAt at h
    by_cases hc : x = c
    · simp only [hc, if_true, Option.some.injEq, Prod.mk.injEq] at h
      obtain ⟨rfl, rfl⟩ := h
      simp [hc]
    · simp only [hc, if_false, Option.map_eq_some_iff] at h
      obtain ⟨⟨p, q⟩, h1, h2⟩ := h
      simp only [Prod.mk.injEq] at h2
      obtain ⟨rfl, rfl⟩ := h2
      obtain ⟨h3, h4⟩ := ih h1
      exact ⟨by rw [h3]; rfl, by simp only [List.mem_cons, not_or]; exact ⟨fun e => hc e.symm, h4⟩⟩

set_option maxRecDepth 100000 in
set_option maxHeartbeats 400000 in
theorem lcutB_hit (s : ByteArray) (c : UInt8) (i : Nat) (hi : Lib.indexByte s.data.toList c = i) (hr : i + 1 ≤ s.size) (hs : s.size ≤ 9223372036854775807) (w : World) :
    Calls Tryz.prog 71 #[.string s, .string ⟨#[c]⟩] w fun e w' => e = .returned (.tuple #[.string (s.extract 0 i), .string (s.extract (i + 1) s.size), .bool true]) ∧ Drawn w w' := by
  have HI := Lib.hid hi
  clear hi
  have c1 : (0 : Int) ≤ ↑i := by omega
  have c2 : (↑i : Int) ≤ ↑s.size := by omega
  have c3 : (0 : Int) ≤ ↑i + 1 := by omega
  have c4 : (↑i + 1 : Int) ≤ ↑s.size := by omega
  go_enter Tryz.func71, Tryz.ntmps71
  go_wp2_with (go_at_call 80; refine (Tryz.stringslite_Index_one s c _).mono ?_; rintro e w' ⟨rfl, rfl⟩; rw [HI.out])
  go_region
  all_goals (try go_wp2)
  all_goals go_ret3
  all_goals exact ⟨rfl, 1, rfl⟩
set_option maxRecDepth 100000 in
set_option maxHeartbeats 400000 in
theorem lcutB_miss (s : ByteArray) (c : UInt8) (hi : Lib.indexByte s.data.toList c = -1) (w : World) :
    Calls Tryz.prog 71 #[.string s, .string ⟨#[c]⟩] w fun e w' => e = .returned (.tuple #[.string s, .string ⟨#[]⟩, .bool false]) ∧ Drawn w w' := by
  have HI := Lib.hid hi
  clear hi
  go_enter Tryz.func71, Tryz.ntmps71
  go_wp2_with (go_at_call 80; refine (Tryz.stringslite_Index_one s c _).mono ?_; rintro e w' ⟨rfl, rfl⟩; rw [HI.out])
  go_ret3
  exact ⟨rfl, 0, rfl⟩
/-- how the cut goes, in lists -/
def CutsAt (c : UInt8) (l a b : List UInt8) (f : Bool) : Prop := (cutAt c l = some (a, b) ∧ f = true) ∨ (cutAt c l = none ∧ a = l ∧ b = [] ∧ f = false)
def CutsEnd (c : UInt8) (l : List UInt8) (w : World) (e : Ending) (w' : World) : Prop :=
  ∃ sa sb f, e = .returned (.tuple #[.string sa, .string sb, .bool f]) ∧ CutsAt c l sa.data.toList sb.data.toList f ∧ Drawn w w'
theorem lcutB_c (s : ByteArray) (c : UInt8) (hs : s.size ≤ 9223372036854775807) (w : World) :
    Calls Tryz.prog 71 #[.string s, .string ⟨#[c]⟩] w (CutsEnd c s.data.toList w) := by
  rcases cutAt_index c s.data.toList with ⟨h1, h2⟩ | ⟨i, h1, h2, h3⟩
  · exact (lcutB_miss s c h1 w).mono fun e w' ⟨he, hw⟩ => ⟨_, _, _, he, .inr ⟨h2, rfl, rfl, rfl⟩, hw⟩
  · rw [← Lib.size_eq] at h2
    refine (lcutB_hit s c i h1 h2 hs w).mono fun e w' ⟨he, hw⟩ => ⟨_, _, _, he, .inl ⟨?_, rfl⟩, hw⟩
    rw [h3, Lib.extract_eq, Lib.extract_eq, Lib.size_eq]
    simp only [List.drop_zero, Nat.sub_zero]
    rw [List.take_of_length_le (l := List.drop (i + 1) s.data.toList) (by simp)]
set_option maxRecDepth 100000 in
set_option maxHeartbeats 400000 in
theorem cutB_c (s : ByteArray) (c : UInt8) (hs : s.size ≤ 9223372036854775807) (w : World) :
    Calls Tryz.prog 63 #[.string s, .string ⟨#[c]⟩] w (CutsEnd c s.data.toList w) := by
  go_enter Tryz.func63, Tryz.ntmps63
  go_wp2_with (go_at_call 71; refine (lcutB_c s c hs _).mono ?_; rintro e w' ⟨sa, sb, f, rfl, hc, hw⟩)
  go_ret3
  exact ⟨_, _, _, rfl, hc, hw⟩
end Go.Proofs.YtcgpggknmhlnkaaGreatDoor.Cats

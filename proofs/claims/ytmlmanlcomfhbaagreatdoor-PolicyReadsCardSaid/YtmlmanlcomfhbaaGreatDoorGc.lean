/- Labels as text, in plain lists: two labels that may be are never told by one text. No program is named here.
   What the reference's small functions on labels answer: for every two labels.
   What the reference's Text of a label answers: for every label. -/
import Derived.Deep.RegionHeld3
import Derived.Test.YtmlmanlcomfhbaaGreatDoorGdd
namespace Go.Proofs.YtmlmanlcomfhbaaGreatDoor.Cats

/-- the set of all categories -/
def allN : Nat := 18446744073709551615
theorem U_all : U allN := by unfold U allN; omega
/-- a label as text -/
def labT (l : Int) (s : Nat) : List UInt8 :=
  if l < 0 ∨ 15 < l then [] else if l = 15 ∧ s = allN then [116, 111, 112] else if s = 0 then digs l.toNat else digs l.toNat ++ 58 :: textL s
/-- what a reader of labels' texts has to answer -/
def LabIs (t : List UInt8) (l : Int) (s : Nat) (b : Bool) : Prop :=
  (b = true ∧ 0 ≤ l ∧ l ≤ 15 ∧ U s ∧ labT l s = t) ∨ (b = false ∧ l = 0 ∧ s = 0 ∧ ∀ (k : Nat) (r : Nat), k ≤ 15 → U r → labT (k : Int) r ≠ t)
theorem labT_nat {k s : Nat} (hk : k ≤ 15) : labT (k : Int) s = if k = 15 ∧ s = allN then [116, 111, 112] else if s = 0 then digs k else digs k ++ 58 :: textL s := by
  unfold labT
  rw [if_neg (by omega), Int.toNat_natCast]
  by_cases h : k = 15 ∧ s = allN
  · rw [if_pos h, if_pos ⟨by omega, h.2⟩]
  · rw [if_neg h, if_neg fun h2 => h ⟨by omega, h2.2⟩]
theorem digs_clean : ∀ k, k < 64 → (58 : UInt8) ∉ digs k ∧ (116 : UInt8) ∉ digs k ∧ digs k ≠ [] := by decide +kernel
theorem digs_inj : ∀ a, a < 16 → ∀ b, b < 16 → digs a = digs b → a = b := by decide +kernel
theorem textL_inj {a b : Nat} (ha : U a) (hb : U b) (h : textL a = textL b) : a = b := by
  have h1 := parse_text ha
  have h2 := parse_text hb
  rw [h, h2] at h1
  simp only [Prod.mk.injEq, and_true] at h1
  exact h1.symm
/-- the text ahead of the first colon -/
theorem cut_at {a b x y : List UInt8} (ha : (58 : UInt8) ∉ a) (hb : (58 : UInt8) ∉ b) (h : a ++ 58 :: x = b ++ 58 :: y) : a = b ∧ x = y := by
  induction a generalizing b with
  | nil =>
    cases b with
    | nil => simpa using h
    | cons c r =>
      simp only [List.nil_append, List.cons_append, List.cons.injEq] at h
      exact absurd (by simp [h.1]) hb
  | cons c r ih =>
    cases b with
    | nil =>
      simp only [List.nil_append, List.cons_append, List.cons.injEq] at h
      exact absurd (by simp [h.1]) ha
    | cons d q =>
      simp only [List.cons_append, List.cons.injEq] at h
      obtain ⟨h1, h2⟩ := ih (fun hh => ha (by simp [hh])) (fun hh => hb (by simp [hh])) h.2
      exact ⟨by rw [h.1, h1], h2⟩
theorem labT_inj {k j s r : Nat} (hk : k ≤ 15) (hj : j ≤ 15) (hs : U s) (hr : U r) (h : labT (k : Int) s = labT (j : Int) r) : k = j ∧ s = r := by
  rw [labT_nat hk, labT_nat hj] at h
  obtain ⟨ck, tk, _⟩ := digs_clean k (by omega)
  obtain ⟨cj, tj, _⟩ := digs_clean j (by omega)
  have top_ne : ∀ (a : List UInt8), (116 : UInt8) ∉ a → [116, 111, 112] ≠ a := fun a ha e => ha (by rw [← e]; simp)
  have top_ne2 : ∀ (a x : List UInt8), (116 : UInt8) ∉ a → a ≠ [] → [116, 111, 112] ≠ a ++ 58 :: x := by
    intro a x ha hne e
    cases a with
    | nil => exact hne rfl
    | cons c q =>
      simp only [List.cons_append, List.cons.injEq] at e
      exact ha (by simp [← e.1])
  have colon : ∀ (a b x : List UInt8), (58 : UInt8) ∉ a → a ≠ b ++ 58 :: x := fun a b x ha e => ha (by rw [e]; simp)
  by_cases h1 : k = 15 ∧ s = allN
  · rw [if_pos h1] at h
    by_cases h2 : j = 15 ∧ r = allN
    · omega
    · rw [if_neg h2] at h
      by_cases h3 : r = 0
      · rw [if_pos h3] at h; exact absurd h (top_ne _ tj)
      · rw [if_neg h3] at h; exact absurd h (top_ne2 _ _ tj (digs_clean j (by omega)).2.2)
  · rw [if_neg h1] at h
    by_cases h2 : j = 15 ∧ r = allN
    · rw [if_pos h2] at h
      by_cases h3 : s = 0
      · rw [if_pos h3] at h; exact absurd h.symm (top_ne _ tk)
      · rw [if_neg h3] at h; exact absurd h.symm (top_ne2 _ _ tk (digs_clean k (by omega)).2.2)
    · rw [if_neg h2] at h
      by_cases h3 : s = 0
      · rw [if_pos h3] at h
        by_cases h4 : r = 0
        · rw [if_pos h4] at h
          exact ⟨digs_inj k (by omega) j (by omega) h, by omega⟩
        · rw [if_neg h4] at h; exact absurd h (colon _ _ _ ck)
      · rw [if_neg h3] at h
        by_cases h4 : r = 0
        · rw [if_pos h4] at h; exact absurd h.symm (colon _ _ _ cj)
        · rw [if_neg h4] at h
          obtain ⟨h5, h6⟩ := cut_at ck cj h
          exact ⟨digs_inj k (by omega) j (by omega) h5, textL_inj hs hr h6⟩
theorem LabIs.unique {t : List UInt8} {l l' : Int} {s s' : Nat} {b b' : Bool} (h : LabIs t l s b) (h' : LabIs t l' s' b') : l = l' ∧ s = s' ∧ b = b' := by
  rcases h with ⟨rfl, h0, h1, hu, ht⟩ | ⟨rfl, rfl, rfl, hn⟩
  · rcases h' with ⟨rfl, h0', h1', hu', ht'⟩ | ⟨rfl, _, _, hn'⟩
    · obtain ⟨k, rfl⟩ := Int.eq_ofNat_of_zero_le h0
      obtain ⟨j, rfl⟩ := Int.eq_ofNat_of_zero_le h0'
      obtain ⟨e1, e2⟩ := labT_inj (by omega) (by omega) hu hu' (ht.trans ht'.symm)
      exact ⟨by rw [e1], e2, rfl⟩
    · obtain ⟨k, rfl⟩ := Int.eq_ofNat_of_zero_le h0
      exact absurd ht (hn' k s (by omega) hu)
  · rcases h' with ⟨rfl, h0', h1', hu', ht'⟩ | ⟨rfl, rfl, rfl, _⟩
    · obtain ⟨j, rfl⟩ := Int.eq_ofNat_of_zero_le h0'
      exact absurd ht' (hn j s' (by omega) hu')
    · exact ⟨rfl, rfl, rfl⟩

/-- the reference's rounds: no level below n tells t -/
def NoneBelow (t : List UInt8) (n : Nat) : Prop := t ≠ [116, 111, 112] ∧ ∀ k, k < n → k ≤ 15 → ∀ r, U r → labT (k : Int) r ≠ t
theorem NoneBelow.zero {t : List UInt8} (h : t ≠ [116, 111, 112]) : NoneBelow t 0 := ⟨h, fun k hk => by omega⟩
theorem NoneBelow.done {t : List UInt8} (h : NoneBelow t 16) : LabIs t 0 0 false := .inr ⟨rfl, rfl, rfl, fun k r hk hr => h.2 k (by omega) hk r hr⟩
theorem NoneBelow.bare {t : List UInt8} {n : Nat} (hn : n ≤ 15) (h : t = digs n) : LabIs t (n : Int) 0 true := by
  refine .inl ⟨rfl, by omega, by omega, U_zero, ?_⟩
  rw [labT_nat hn, if_neg (by unfold allN; omega), if_pos rfl, h]
theorem NoneBelow.next {t : List UInt8} {n : Nat} (h : NoneBelow t n) (hn : n ≤ 15) (hno : ∀ r, U r → r ≠ 0 → ¬ (n = 15 ∧ r = allN) → t ≠ digs n ++ 58 :: textL r) (hd : t ≠ digs n) : NoneBelow t (n + 1) := by
  refine ⟨h.1, fun k hk hk15 r hr => ?_⟩
  by_cases hkn : k < n
  · exact h.2 k hkn hk15 r hr
  · obtain rfl : k = n := by omega
    rw [labT_nat hn]
    by_cases h1 : k = 15 ∧ r = allN
    · rw [if_pos h1]; exact fun e => h.1 e.symm
    · rw [if_neg h1]
      by_cases h2 : r = 0
      · rw [if_pos h2]; exact fun e => hd e.symm
      · rw [if_neg h2]; exact fun e => hno r hr h2 h1 e.symm
/-- a round in which the text does not go on as it would have to -/
theorem NoneBelow.odd {t : List UInt8} {n : Nat} (h : NoneBelow t n) (hn : n ≤ 15) (hd : t ≠ digs n) (hno : ∀ x, t ≠ digs n ++ 58 :: x) : NoneBelow t (n + 1) := h.next hn (fun _ _ _ _ => hno _) hd
theorem NoneBelow.bad {t x : List UInt8} {n S : Nat} (h : NoneBelow t n) (hn : n ≤ 15) (hd : t ≠ digs n) (hx : t = digs n ++ 58 :: x) (hp : parseF x = (S, false)) : NoneBelow t (n + 1) :=
  h.next hn (fun r hr _ _ e => by
    have e2 : x = textL r := by
      rw [hx] at e
      simpa using e
    rw [e2, parse_text hr] at hp
    simp at hp) hd
theorem NoneBelow.other {t x : List UInt8} {n S : Nat} (h : NoneBelow t n) (hn : n ≤ 15) (hd : t ≠ digs n) (hx : t = digs n ++ 58 :: x) (hp : parseF x = (S, true)) (hne : labT (n : Int) S ≠ t) : NoneBelow t (n + 1) :=
  h.next hn (fun r hr h0 h15 e => by
    have e2 : x = textL r := by
      rw [hx] at e
      simpa using e
    rw [e2, parse_text hr] at hp
    simp only [Prod.mk.injEq, and_true] at hp
    subst hp
    apply hne
    rw [labT_nat hn, if_neg h15, if_neg h0, e]) hd
theorem NoneBelow.found {t x : List UInt8} {n S : Nat} (hn : n ≤ 15) (hp : parseF x = (S, true)) (he : labT (n : Int) S = t) : LabIs t (n : Int) S true :=
  .inl ⟨rfl, by omega, by omega, (text_parse hp).2, he⟩
end Go.Proofs.YtmlmanlcomfhbaaGreatDoor.Cats
namespace Go.Proofs.YtmlmanlcomfhbaaGreatDoor.Cats
open Go.RowKit

theorem below1 (w : World) (a : Obj) : Below w.heap.size w (w.alloc a) := (Below.refl _ _).alloc (Nat.le_refl _) a
theorem below2 (w : World) (a b : Obj) : Below w.heap.size w ((w.alloc a).alloc b) := (below1 w a).alloc (by simp) b
theorem below3 (w : World) (a b c : Obj) : Below w.heap.size w (((w.alloc a).alloc b).alloc c) := (below2 w a b).alloc (by simp; omega) c
theorem below4 (w : World) (a b c d : Obj) : Below w.heap.size w ((((w.alloc a).alloc b).alloc c).alloc d) := (below3 w a b c).alloc (by simp; omega) d
def belowL (l1 : Int) (s1 : Nat) (l2 : Int) (s2 : Nat) : Bool := decide (l1 ≤ l2) && withinB s1 s2
def joinI (a b : Int) : Int := if a < b then b else a
def meetI (a b : Int) : Int := if b < a then b else a
def EvAt (k q : Nat) : Prop := q + 1 = 2 ^ k
theorem EvAt.U {k q : Nat} (h : EvAt k q) (hk : k ≤ 64) : U q := by
  have : 2 ^ k ≤ 2 ^ 64 := Nat.pow_le_pow_right (by decide) hk
  unfold EvAt at h
  exact U.of (by omega)
theorem EvAt.next {k q : Nat} (h : EvAt k q) : EvAt (k + 1) (q * 2 + 1) := by
  unfold EvAt at *
  rw [Nat.pow_succ]
  omega
theorem EvAt.done {q : Nat} (h : EvAt 64 q) : q = allN := by unfold EvAt at h; unfold allN; omega
theorem ev_slot (q : Nat) (h : U (q * 2 + 1)) : Value.int .u64 (IntKind.u64.wrap (IntKind.u64.wrap ((q : Int) * 2) + 1)) = .int .u64 ((q * 2 + 1 : Nat) : Int) := by
  have h2 : U (q * 2) := by unfold U at *; omega
  rw [dbl_u64 q h2, show ((q * 2 : Nat) : Int) + 1 = ((q * 2 + 1 : Nat) : Int) from rfl, wrap_small h]
set_option maxRecDepth 100000 in
set_option maxHeartbeats 1000000 in
theorem every_c (w : World) : Calls Tryz.prog 74 #[] w fun e w' => e = .returned (.int .u64 (allN : Nat)) ∧ w = w' := by
  go_enter Tryz.func74, Tryz.ntmps74
  go_wp2
  go_loop [1, 2] (fun s i => ∃ k q : Nat, k ≤ 64 ∧ i = .int .i64 k ∧ EvAt k q ∧ s = .int .u64 q) (fun _ i => 64 - (intOf i).toNat)
  case atStart => exact ⟨0, 0, by omega, rfl, rfl, rfl⟩
  case round =>
    obtain ⟨k, q, hk, rfl, hq, rfl⟩ := hrel
    by_cases hlt : k < 64
    · go_wp2
      go_round
      case rel => exact ⟨k + 1, q * 2 + 1, by omega, by go_num, hq.next, ev_slot q (hq.next.U (by omega))⟩
      case measure => simp [intOf]; omega
    · obtain rfl : k = 64 := by omega
      go_wp2
      go_ret
      exact ⟨ret_u64 (by rw [hq.done]), rfl⟩
set_option maxRecDepth 100000 in
set_option maxHeartbeats 1000000 in
theorem rtop_c (w : World) : Calls Tryz.prog 52 #[] w fun e w' => e = .returned (.agg #[.int .i64 15, .int .u64 (allN : Nat)]) ∧ Below w.heap.size w w' := by
  go_enter Tryz.func52, Tryz.ntmps52
  go_wp2_with (go_at_call 74; refine (every_c _).mono ?_; rintro e w' ⟨rfl, rfl⟩)
  refine bodyPost_ret (v := .agg #[.int .i64 15, .int .u64 (allN : Nat)]) (by simp [results, Tryz.results52, go_sem]) rfl ⟨rfl, ?_⟩
  exact below1 _ _
end Go.Proofs.YtmlmanlcomfhbaaGreatDoor.Cats
namespace Go.Proofs.YtmlmanlcomfhbaaGreatDoor.Cats
open Go.RowKit

theorem mk_two (a b : List UInt8) : (⟨a.toArray⟩ : ByteArray) ++ ⟨b.toArray⟩ = ⟨(a ++ b).toArray⟩ := by
  apply ByteArray.ext
  simp
theorem mk_three (a b c : List UInt8) : (⟨a.toArray⟩ : ByteArray) ++ ⟨b.toArray⟩ ++ ⟨c.toArray⟩ = ⟨(a ++ (b ++ c)).toArray⟩ := by rw [mk_two, mk_two, List.append_assoc]
set_option maxRecDepth 100000 in
set_option maxHeartbeats 1000000 in
theorem rlabtext_out (l : Int) (s : Nat) (h : l < 0 ∨ 15 < l) (w : World) : Calls Tryz.prog 33 #[.agg #[.int .i64 l, .int .u64 s]] w fun e w' => e = .returned (.string ⟨#[]⟩) ∧ Below w.heap.size w w' := by
  rcases h with h | h
  · go_enter Tryz.func33, Tryz.ntmps33
    go_wp2
    go_ret
    exact ⟨rfl, below1 _ _⟩
  · go_enter Tryz.func33, Tryz.ntmps33
    go_wp2
    go_ret
    exact ⟨rfl, below1 _ _⟩
set_option maxRecDepth 100000 in
set_option maxHeartbeats 1000000 in
theorem rlabtext_top (l : Int) (s : Nat) (h0 : 0 ≤ l) (h1 : l ≤ 15) (hl : (l == 15) = true) (hs : ((s : Int) == (allN : Int)) = true) (w : World) : Calls Tryz.prog 33 #[.agg #[.int .i64 l, .int .u64 s]] w fun e w' => e = .returned (.string ⟨#[116, 111, 112]⟩) ∧ Below w.heap.size w w' := by
  have Ht := Lib.hid (fun w1 => rtop_c w1)
  go_enter Tryz.func33, Tryz.ntmps33
  go_wp2_with fail
  generalize allN = N at *
  go_region_held3 (fun w' => w'.cell? ⟨w.heap.size, 0, none⟩ = some (.int .i64 l) ∧ w'.cell? ⟨w.heap.size, 1, none⟩ = some (.int .u64 s))
    (first | go_keep | (go_split_ands; refine ⟨?_, ?_⟩ <;> (rw [hb.cell (by simp)]; assumption)))
    (first | (go_at_call 52; refine (Ht.out _).mono ?_; rintro e w' ⟨rfl, hb⟩))
  go_wp2
  go_ret
  exact ⟨rfl, (below1 w _).drew.trans (Below.mono (B' := w.heap.size) hb (by simp))⟩

set_option maxRecDepth 100000 in
set_option maxHeartbeats 2000000 in
theorem rlabtext_bare1 (k : Nat) (s : Nat) (h1 : k ≤ 15) (hne : ((k : Int) == 15) = false) (hs : ((s : Int) != 0) = false) (_hs2 : ((s : Int) == 0) = true) (w : World) : Calls Tryz.prog 33 #[.agg #[.int .i64 k, .int .u64 s]] w fun e w' => e = .returned (.string ⟨(digs k).toArray⟩) ∧ Below w.heap.size w w' := by
  have Ht := Lib.hid (fun w1 => rtop_c w1)
  have Hd := Lib.hid (fun w1 => digits_c k (by omega) w1)
  generalize allN = N at *
  go_enter Tryz.func33, Tryz.ntmps33
  go_wp2_with fail
  go_region_held3 (fun w' => w'.cell? ⟨w.heap.size, 0, none⟩ = some (.int .i64 k) ∧ w'.cell? ⟨w.heap.size, 1, none⟩ = some (.int .u64 s))
    (first | go_keep | (go_split_ands; refine ⟨?_, ?_⟩ <;> (rw [hb.cell (by simp)]; assumption)))
    (first | (go_at_call 52; refine (Ht.out _).mono ?_; rintro e w' ⟨rfl, hb⟩))
  have hb1 : Below w.heap.size w w' := (below1 w _).drew.trans (Below.mono (B' := w.heap.size) hb (by simp))
  have hcs : w'.cell? ⟨w.heap.size, 0, none⟩ = some (.int .i64 k) ∧ w'.cell? ⟨w.heap.size, 1, none⟩ = some (.int .u64 s) := by assumption
  have hz : w.heap.size < w'.heap.size := by have := hb.size; simp at this; omega
  clear hb
  go_wp2_with fail
  refine (Hd.out _).mono ?_
  rintro e w2 ⟨rfl, hb2⟩
  have hb3 := hb1.trans (hb2.mono hb1.size)
  have c1 : w2.cell? ⟨w.heap.size, 1, none⟩ = some (.int .u64 s) := (hb2.cell (p := ⟨w.heap.size, 1, none⟩) hz).trans hcs.2
  clear hb1 hb2
  go_wp2
  go_ret
  exact ⟨rfl, hb3⟩

set_option maxRecDepth 100000 in
set_option maxHeartbeats 2000000 in
theorem rlabtext_bare2 (k : Nat) (s : Nat) (h1 : k ≤ 15) (hne : ((k : Int) == 15) = true) (hne2 : ((s : Int) == (allN : Int)) = false) (hs : ((s : Int) != 0) = false) (_hs2 : ((s : Int) == 0) = true) (w : World) : Calls Tryz.prog 33 #[.agg #[.int .i64 k, .int .u64 s]] w fun e w' => e = .returned (.string ⟨(digs k).toArray⟩) ∧ Below w.heap.size w w' := by
  have Ht := Lib.hid (fun w1 => rtop_c w1)
  have Hd := Lib.hid (fun w1 => digits_c k (by omega) w1)
  generalize allN = N at *
  go_enter Tryz.func33, Tryz.ntmps33
  go_wp2_with fail
  go_region_held3 (fun w' => w'.cell? ⟨w.heap.size, 0, none⟩ = some (.int .i64 k) ∧ w'.cell? ⟨w.heap.size, 1, none⟩ = some (.int .u64 s))
    (first | go_keep | (go_split_ands; refine ⟨?_, ?_⟩ <;> (rw [hb.cell (by simp)]; assumption)))
    (first | (go_at_call 52; refine (Ht.out _).mono ?_; rintro e w' ⟨rfl, hb⟩))
  have hb1 : Below w.heap.size w w' := (below1 w _).drew.trans (Below.mono (B' := w.heap.size) hb (by simp))
  have hcs : w'.cell? ⟨w.heap.size, 0, none⟩ = some (.int .i64 k) ∧ w'.cell? ⟨w.heap.size, 1, none⟩ = some (.int .u64 s) := by assumption
  have hz : w.heap.size < w'.heap.size := by have := hb.size; simp at this; omega
  clear hb
  go_wp2_with fail
  refine (Hd.out _).mono ?_
  rintro e w2 ⟨rfl, hb2⟩
  have hb3 := hb1.trans (hb2.mono hb1.size)
  have c1 : w2.cell? ⟨w.heap.size, 1, none⟩ = some (.int .u64 s) := (hb2.cell (p := ⟨w.heap.size, 1, none⟩) hz).trans hcs.2
  clear hb1 hb2
  go_wp2
  go_ret
  exact ⟨rfl, hb3⟩

set_option maxRecDepth 100000 in
set_option maxHeartbeats 2000000 in
theorem rlabtext_both1 (k : Nat) (s : Nat) (h1 : k ≤ 15) (hne : ((k : Int) == 15) = false) (hs : ((s : Int) != 0) = true) (_hs2 : ((s : Int) == 0) = false) (hsU : U s) (w : World) : Calls Tryz.prog 33 #[.agg #[.int .i64 k, .int .u64 s]] w fun e w' => e = .returned (.string ⟨(digs k ++ 58 :: textL s).toArray⟩) ∧ Below w.heap.size w w' := by
  have Ht := Lib.hid (fun w1 => rtop_c w1)
  have Hd := Lib.hid (fun w1 => digits_c k (by omega) w1)
  have Hx := Lib.hid (fun w1 => rtext_c s hsU w1)
  have hdl := digs_length k
  have htl := textL_length s
  clear hsU
  generalize allN = N at *
  go_enter Tryz.func33, Tryz.ntmps33
  go_wp2_with fail
  go_region_held3 (fun w' => w'.cell? ⟨w.heap.size, 0, none⟩ = some (.int .i64 k) ∧ w'.cell? ⟨w.heap.size, 1, none⟩ = some (.int .u64 s))
    (first | go_keep | (go_split_ands; refine ⟨?_, ?_⟩ <;> (rw [hb.cell (by simp)]; assumption)))
    (first | (go_at_call 52; refine (Ht.out _).mono ?_; rintro e w' ⟨rfl, hb⟩))
  have hb1 : Below w.heap.size w w' := (below1 w _).drew.trans (Below.mono (B' := w.heap.size) hb (by simp))
  have hcs : w'.cell? ⟨w.heap.size, 0, none⟩ = some (.int .i64 k) ∧ w'.cell? ⟨w.heap.size, 1, none⟩ = some (.int .u64 s) := by assumption
  have hz : w.heap.size < w'.heap.size := by have := hb.size; simp at this; omega
  clear hb
  go_wp2_with fail
  refine (Hd.out _).mono ?_
  rintro e w2 ⟨rfl, hb2⟩
  have hb3 := hb1.trans (hb2.mono hb1.size)
  have c1 : w2.cell? ⟨w.heap.size, 1, none⟩ = some (.int .u64 s) := (hb2.cell (p := ⟨w.heap.size, 1, none⟩) hz).trans hcs.2
  clear hb1 hb2
  go_wp2_with fail
  refine (Hx.out _).mono ?_
  rintro e w4 ⟨rfl, hb4⟩
  have hb5 := hb3.trans (hb4.mono hb3.size)
  clear hb4
  go_wp2
  go_ret
  exact ⟨congrArg (fun x => Ending.returned (.string x)) (mk_three (digs k) [58] (textL s)), hb5⟩

set_option maxRecDepth 100000 in
set_option maxHeartbeats 2000000 in
theorem rlabtext_both2 (k : Nat) (s : Nat) (h1 : k ≤ 15) (hne : ((k : Int) == 15) = true) (hne2 : ((s : Int) == (allN : Int)) = false) (hs : ((s : Int) != 0) = true) (_hs2 : ((s : Int) == 0) = false) (hsU : U s) (w : World) : Calls Tryz.prog 33 #[.agg #[.int .i64 k, .int .u64 s]] w fun e w' => e = .returned (.string ⟨(digs k ++ 58 :: textL s).toArray⟩) ∧ Below w.heap.size w w' := by
  have Ht := Lib.hid (fun w1 => rtop_c w1)
  have Hd := Lib.hid (fun w1 => digits_c k (by omega) w1)
  have Hx := Lib.hid (fun w1 => rtext_c s hsU w1)
  have hdl := digs_length k
  have htl := textL_length s
  clear hsU
  generalize allN = N at *
  go_enter Tryz.func33, Tryz.ntmps33
  go_wp2_with fail
  go_region_held3 (fun w' => w'.cell? ⟨w.heap.size, 0, none⟩ = some (.int .i64 k) ∧ w'.cell? ⟨w.heap.size, 1, none⟩ = some (.int .u64 s))
    (first | go_keep | (go_split_ands; refine ⟨?_, ?_⟩ <;> (rw [hb.cell (by simp)]; assumption)))
    (first | (go_at_call 52; refine (Ht.out _).mono ?_; rintro e w' ⟨rfl, hb⟩))
  have hb1 : Below w.heap.size w w' := (below1 w _).drew.trans (Below.mono (B' := w.heap.size) hb (by simp))
  have hcs : w'.cell? ⟨w.heap.size, 0, none⟩ = some (.int .i64 k) ∧ w'.cell? ⟨w.heap.size, 1, none⟩ = some (.int .u64 s) := by assumption
  have hz : w.heap.size < w'.heap.size := by have := hb.size; simp at this; omega
  clear hb
  go_wp2_with fail
  refine (Hd.out _).mono ?_
  rintro e w2 ⟨rfl, hb2⟩
  have hb3 := hb1.trans (hb2.mono hb1.size)
  have c1 : w2.cell? ⟨w.heap.size, 1, none⟩ = some (.int .u64 s) := (hb2.cell (p := ⟨w.heap.size, 1, none⟩) hz).trans hcs.2
  clear hb1 hb2
  go_wp2_with fail
  refine (Hx.out _).mono ?_
  rintro e w4 ⟨rfl, hb4⟩
  have hb5 := hb3.trans (hb4.mono hb3.size)
  clear hb4
  go_wp2
  go_ret
  exact ⟨congrArg (fun x => Ending.returned (.string x)) (mk_three (digs k) [58] (textL s)), hb5⟩

theorem rlabtext_c (l : Int) (s : Nat) (hs : U s) (w : World) : Calls Tryz.prog 33 #[.agg #[.int .i64 l, .int .u64 s]] w fun e w' => e = .returned (.string ⟨(labT l s).toArray⟩) ∧ Below w.heap.size w w' := by
  unfold labT
  by_cases ho : l < 0 ∨ 15 < l
  · rw [if_pos ho]
    exact rlabtext_out l s ho w
  · rw [if_neg ho]
    obtain ⟨k, rfl⟩ := Int.eq_ofNat_of_zero_le (show 0 ≤ l by omega)
    by_cases ht : (k : Int) = 15 ∧ s = allN
    · rw [if_pos ht]
      exact rlabtext_top k s (by omega) (by omega) (by simpa using ht.1) (by rw [cast_beq]; simpa using ht.2) w
    · rw [if_neg ht, Int.toNat_natCast]
      by_cases h15 : (k : Int) = 15
      · have hne2 : ((s : Int) == (allN : Int)) = false := by rw [cast_beq]; simpa using fun e => ht ⟨h15, e⟩
        by_cases hz : s = 0
        · rw [if_pos hz]
          exact rlabtext_bare2 k s (by omega) (by simpa using h15) hne2 (by simp [hz]) (by simp [hz]) w
        · rw [if_neg hz]
          exact rlabtext_both2 k s (by omega) (by simpa using h15) hne2 (by simp [hz]) (by simp [hz]) hs w
      · by_cases hz : s = 0
        · rw [if_pos hz]
          exact rlabtext_bare1 k s (by omega) (by simpa using h15) (by simp [hz]) (by simp [hz]) w
        · rw [if_neg hz]
          exact rlabtext_both1 k s (by omega) (by simpa using h15) (by simp [hz]) (by simp [hz]) hs w
end Go.Proofs.YtmlmanlcomfhbaaGreatDoor.Cats

/- Labels as text, in plain lists: two labels that may be are never told by one text. No program is named here.
   What the reference's small functions on labels answer: for every two labels.
   What the reference's Text of a label answers: for every label.
   What the reference's Parse of a label answers: for every text of at most 2^63 - 3 bytes.
   What the reference's ref and arg answer. Written by wip/gen22arg.py. -/
import Derived.Test.YtcgpggknmhlnkaaDoorPs16
import Derived.Deep.RegionHeld3
import Derived.Test.YtcgpggknmhlnkaaDoorPs06
import Derived.Test.YtcgpggknmhlnkaaDoorPs08
namespace Go.Proofs.YtcgpggknmhlnkaaDoor.Cats
/-- the set of all categories -/
def allN : Nat := 18446744073709551615
theorem U_all : U allN := by unfold U allN; omega
/-- a label as text -/
def labT (l : Int) (s : Nat) : List UInt8 :=
  if l < 0 ∨ 15 < l then [] else if l = 15 ∧ s = allN then [116, 111, 112] else if s = 0 then digs l.toNat else digs l.toNat ++ 58 :: textL s
/-- what a reader of labels' texts has to answer -/
def LabIs (t : List UInt8) (l : Int) (s : Nat) (b : Bool) : Prop :=
  (b = true ∧ 0 ≤ l ∧ l ≤ 15 ∧ U s ∧ labT l s = t) ∨ (b = false ∧ l = 0 ∧ s = 0 ∧ ∀ (k : Nat) (r : Nat), k ≤ 15 → U r → labT (k : Int) r ≠ t)
theorem labT_nat {k s : Nat} (hk : k ≤ 15) : labT (k : Int) s = if k = 15 ∧ s = allN then [116, 111, 112] else if s = 0 then digs k else digs k ++ 58 :: textL s := by
  unfold labT
  rw [if_neg (by omega), Int.toNat_natCast]
  by_cases h : k = 15 ∧ s = allN
  · rw [if_pos h, if_pos ⟨by omega, h.2⟩]
  · rw [if_neg h, if_neg fun h2 => h ⟨by omega, h2.2⟩]
theorem digs_clean : ∀ k, k < 64 → (58 : UInt8) ∉ digs k ∧ (116 : UInt8) ∉ digs k ∧ digs k ≠ [] := by decide +kernel
theorem digs_inj : ∀ a, a < 16 → ∀ b, b < 16 → digs a = digs b → a = b := by decide +kernel
theorem textL_inj {a b : Nat} (ha : U a) (hb : U b) (h : textL a = textL b) : a = b := by
  have h1 := parse_text ha
  have h2 := parse_text hb
  rw [h, h2] at h1
  simp only [Prod.mk.injEq, and_true] at h1
  exact h1.symm
/-- the text ahead of the first colon -/
theorem cut_at {a b x y : List UInt8} (ha : (58 : UInt8) ∉ a) (hb : (58 : UInt8) ∉ b) (h : a ++ 58 :: x = b ++ 58 :: y) : a = b ∧ x = y := by
  induction a generalizing b with
  | nil =>
    cases b with
    | nil => simpa using h
    | cons c r =>
      simp only [List.nil_append, List.cons_append, List.cons.injEq] at h
      exact absurd (by simp [h.1]) hb
  | cons c r ih =>
    cases b with
    | nil =>
      simp only [List.nil_append, List.cons_append, List.cons.injEq] at h
      exact absurd (by simp [h.1]) ha
    | cons d q =>
      simp only [List.cons_append, List.cons.injEq] at h
      obtain ⟨h1, h2⟩ := ih (fun hh => ha (by simp [hh])) (fun hh => hb (by simp [hh])) h.2
      exact ⟨by rw [h.1, h1], h2⟩
theorem labT_inj {k j s r : Nat} (hk : k ≤ 15) (hj : j ≤ 15) (hs : U s) (hr : U r) (h : labT (k : Int) s = labT (j : Int) r) : k = j ∧ s = r := by
  rw [labT_nat hk, labT_nat hj] at h
  obtain ⟨ck, tk, _⟩ := digs_clean k (by omega)
  obtain ⟨cj, tj, _⟩ := digs_clean j (by omega)
  have top_ne : ∀ (a : List UInt8), (116 : UInt8) ∉ a → [116, 111, 112] ≠ a := fun a ha e => ha (by rw [← e]; simp)
  have top_ne2 : ∀ (a x : List UInt8), (116 : UInt8) ∉ a → a ≠ [] → [116, 111, 112] ≠ a ++ 58 :: x := by
    intro a x ha hne e
    cases a with
    | nil => exact hne rfl
    | cons c q =>
      simp only [List.cons_append, List.cons.injEq] at e
      exact ha (by simp [← e.1])
  have colon : ∀ (a b x : List UInt8), (58 : UInt8) ∉ a → a ≠ b ++ 58 :: x := fun a b x ha e => ha (by rw [e]; simp)
  by_cases h1 : k = 15 ∧ s = allN
  · rw [if_pos h1] at h
    by_cases h2 : j = 15 ∧ r = allN
    · omega
    · rw [if_neg h2] at h
      by_cases h3 : r = 0
      · rw [if_pos h3] at h; exact absurd h (top_ne _ tj)
      · rw [if_neg h3] at h; exact absurd h (top_ne2 _ _ tj (digs_clean j (by omega)).2.2)
  · rw [if_neg h1] at h
    by_cases h2 : j = 15 ∧ r = allN
    · rw [if_pos h2] at h
      by_cases h3 : s = 0
      · rw [if_pos h3] at h; exact absurd h.symm (top_ne _ tk)
      · rw [if_neg h3] at h; exact absurd h.symm (top_ne2 _ _ tk (digs_clean k (by omega)).2.2)
    · rw [if_neg h2] at h
      by_cases h3 : s = 0
      · rw [if_pos h3] at h
        by_cases h4 : r = 0
        · rw [if_pos h4] at h
          exact ⟨digs_inj k (by omega) j (by omega) h, by omega⟩
        · rw [if_neg h4] at h; exact absurd h (colon _ _ _ ck)
      · rw [if_neg h3] at h
        by_cases h4 : r = 0
        · rw [if_pos h4] at h; exact absurd h.symm (colon _ _ _ cj)
        · rw [if_neg h4] at h
          obtain ⟨h5, h6⟩ := cut_at ck cj h
          exact ⟨digs_inj k (by omega) j (by omega) h5, textL_inj hs hr h6⟩
theorem LabIs.unique {t : List UInt8} {l l' : Int} {s s' : Nat} {b b' : Bool} (h : LabIs t l s b) (h' : LabIs t l' s' b') : l = l' ∧ s = s' ∧ b = b' := by
  rcases h with ⟨rfl, h0, h1, hu, ht⟩ | ⟨rfl, rfl, rfl, hn⟩
  · rcases h' with ⟨rfl, h0', h1', hu', ht'⟩ | ⟨rfl, _, _, hn'⟩
    · obtain ⟨k, rfl⟩ := Int.eq_ofNat_of_zero_le h0
      obtain ⟨j, rfl⟩ := Int.eq_ofNat_of_zero_le h0'
      obtain ⟨e1, e2⟩ := labT_inj (by omega) (by omega) hu hu' (ht.trans ht'.symm)
      exact ⟨by rw [e1], e2, rfl⟩
    · obtain ⟨k, rfl⟩ := Int.eq_ofNat_of_zero_le h0
      exact absurd ht (hn' k s (by omega) hu)
  · rcases h' with ⟨rfl, h0', h1', hu', ht'⟩ | ⟨rfl, rfl, rfl, _⟩
    · obtain ⟨j, rfl⟩ := Int.eq_ofNat_of_zero_le h0'
      exact absurd ht' (hn j s' (by omega) hu')
    · exact ⟨rfl, rfl, rfl⟩

/-- the reference's rounds: no level below n tells t -/
def NoneBelow (t : List UInt8) (n : Nat) : Prop := t ≠ [116, 111, 112] ∧ ∀ k, k < n → k ≤ 15 → ∀ r, U r → labT (k : Int) r ≠ t
theorem NoneBelow.zero {t : List UInt8} (h : t ≠ [116, 111, 112]) : NoneBelow t 0 := ⟨h, fun k hk => by omega⟩
theorem NoneBelow.done {t : List UInt8} (h : NoneBelow t 16) : LabIs t 0 0 false := .inr ⟨rfl, rfl, rfl, fun k r hk hr => h.2 k (by omega) hk r hr⟩
theorem NoneBelow.bare {t : List UInt8} {n : Nat} (hn : n ≤ 15) (h : t = digs n) : LabIs t (n : Int) 0 true := by
  refine .inl ⟨rfl, by omega, by omega, U_zero, ?_⟩
  rw [labT_nat hn, if_neg (by unfold allN; omega), if_pos rfl, h]
theorem NoneBelow.next {t : List UInt8} {n : Nat} (h : NoneBelow t n) (hn : n ≤ 15) (hno : ∀ r, U r → r ≠ 0 → ¬ (n = 15 ∧ r = allN) → t ≠ digs n ++ 58 :: textL r) (hd : t ≠ digs n) : NoneBelow t (n + 1) := by
  refine ⟨h.1, fun k hk hk15 r hr => ?_⟩
  by_cases hkn : k < n
  · exact h.2 k hkn hk15 r hr
  · obtain rfl : k = n := by omega
    rw [labT_nat hn]
    by_cases h1 : k = 15 ∧ r = allN
    · rw [if_pos h1]; exact fun e => h.1 e.symm
    · rw [if_neg h1]
      by_cases h2 : r = 0
      · rw [if_pos h2]; exact fun e => hd e.symm
      · rw [if_neg h2]; exact fun e => hno r hr h2 h1 e.symm
theorem NoneBelow.bad {t x : List UInt8} {n S : Nat} (h : NoneBelow t n) (hn : n ≤ 15) (hd : t ≠ digs n) (hx : t = digs n ++ 58 :: x) (hp : parseF x = (S, false)) : NoneBelow t (n + 1) :=
  h.next hn (fun r hr _ _ e => by
    have e2 : x = textL r := by
      rw [hx] at e
      simpa using e
    rw [e2, parse_text hr] at hp
    simp at hp) hd
theorem NoneBelow.found {t x : List UInt8} {n S : Nat} (hn : n ≤ 15) (hp : parseF x = (S, true)) (he : labT (n : Int) S = t) : LabIs t (n : Int) S true :=
  .inl ⟨rfl, by omega, by omega, (text_parse hp).2, he⟩
end Go.Proofs.YtcgpggknmhlnkaaDoor.Cats
namespace Go.Proofs.YtcgpggknmhlnkaaDoor.Cats
open Go.RowKit
theorem below1 (w : World) (a : Obj) : Below w.heap.size w (w.alloc a) := (Below.refl _ _).alloc (Nat.le_refl _) a
theorem below2 (w : World) (a b : Obj) : Below w.heap.size w ((w.alloc a).alloc b) := (below1 w a).alloc (by simp) b
theorem below3 (w : World) (a b c : Obj) : Below w.heap.size w (((w.alloc a).alloc b).alloc c) := (below2 w a b).alloc (by simp; omega) c
def EvAt (k q : Nat) : Prop := q + 1 = 2 ^ k
theorem EvAt.U {k q : Nat} (h : EvAt k q) (hk : k ≤ 64) : U q := by
  have : 2 ^ k ≤ 2 ^ 64 := Nat.pow_le_pow_right (by decide) hk
  unfold EvAt at h
  exact U.of (by omega)
theorem EvAt.next {k q : Nat} (h : EvAt k q) : EvAt (k + 1) (q * 2 + 1) := by
  unfold EvAt at *
  rw [Nat.pow_succ]
  omega
theorem EvAt.done {q : Nat} (h : EvAt 64 q) : q = allN := by unfold EvAt at h; unfold allN; omega
end Go.Proofs.YtcgpggknmhlnkaaDoor.Cats
namespace Go.Proofs.YtcgpggknmhlnkaaDoor.Cats
open Go.RowKit
theorem mk_two (a b : List UInt8) : (⟨a.toArray⟩ : ByteArray) ++ ⟨b.toArray⟩ = ⟨(a ++ b).toArray⟩ := by
  apply ByteArray.ext
  simp
theorem mk_three (a b c : List UInt8) : (⟨a.toArray⟩ : ByteArray) ++ ⟨b.toArray⟩ ++ ⟨c.toArray⟩ = ⟨(a ++ (b ++ c)).toArray⟩ := by rw [mk_two, mk_two, List.append_assoc]
end Go.Proofs.YtcgpggknmhlnkaaDoor.Cats
namespace Go.Proofs.YtcgpggknmhlnkaaDoor.Cats
open Go.RowKit
theorem three_set {w2 : World} {b : Nat} {x y z u v r : Value} (c0 : w2.cell? ⟨b, 0, none⟩ = some x) (c1 : w2.cell? ⟨b, 1, none⟩ = some y) (c2 : w2.cell? ⟨b, 2, none⟩ = some z) :
    (((w2.setCell ⟨b, 0, none⟩ u).setCell ⟨b, 1, none⟩ v).setCell ⟨b, 2, none⟩ r).cell? ⟨b, 0, none⟩ = some u ∧ (((w2.setCell ⟨b, 0, none⟩ u).setCell ⟨b, 1, none⟩ v).setCell ⟨b, 2, none⟩ r).cell? ⟨b, 1, none⟩ = some v ∧
      (((w2.setCell ⟨b, 0, none⟩ u).setCell ⟨b, 1, none⟩ v).setCell ⟨b, 2, none⟩ r).cell? ⟨b, 2, none⟩ = some r := by
  have h0 : (w2.setCell ⟨b, 0, none⟩ u).cell? ⟨b, 0, none⟩ = some u := by simp [go_sem, c0]
  have h1 : (w2.setCell ⟨b, 0, none⟩ u).cell? ⟨b, 1, none⟩ = some y := by simp [go_sem, c1]
  have h2 : (w2.setCell ⟨b, 0, none⟩ u).cell? ⟨b, 2, none⟩ = some z := by simp [go_sem, c2]
  have h3 : ((w2.setCell ⟨b, 0, none⟩ u).setCell ⟨b, 1, none⟩ v).cell? ⟨b, 0, none⟩ = some u := by simp [go_sem, h0]
  have h4 : ((w2.setCell ⟨b, 0, none⟩ u).setCell ⟨b, 1, none⟩ v).cell? ⟨b, 1, none⟩ = some v := by simp [go_sem, h1]
  have h5 : ((w2.setCell ⟨b, 0, none⟩ u).setCell ⟨b, 1, none⟩ v).cell? ⟨b, 2, none⟩ = some z := by simp [go_sem, h2]
  exact ⟨by simp [go_sem, h3], by simp [go_sem, h4], by simp [go_sem, h5]⟩
end Go.Proofs.YtcgpggknmhlnkaaDoor.Cats
namespace Go.Proofs.YtcgpggknmhlnkaaDoor.Nod
open Go.RowKit Kit Reg
open Go.Proofs.YtcgpggknmhlnkaaDoor.Cats (LabIs LabIs.unique)
open Classical in
/-- is a text a label's? -/
noncomputable def labB (t : List UInt8) : Bool := decide (∃ l s, LabIs t l s true)
theorem labB_is {t : List UInt8} {l : Int} {s : Nat} {b : Bool} (h : LabIs t l s b) : labB t = b := by
  classical
  unfold labB
  cases b with
  | true => simp only [decide_eq_true_eq]; exact ⟨l, s, h⟩
  | false => simp only [decide_eq_false_iff_not]; exact fun ⟨l', s', h'⟩ => by have := (h.unique h').2.2; cases this
/-- may a node be an argument of a kind? -/
noncomputable def argV (kd : UInt8) (h : Hd) : Bool :=
  if kd = 118 ∨ kd = 101 then !(h.k == 4) else if kd = 114 ∨ kd = 110 then decide (2 ≤ h.k) && decide (h.k ≤ 4)
  else if kd = 116 then (h.k == 1) && ((h.vk == 2) && labB h.vt.data.toList) else kd == 108
theorem kd_no {kd : UInt8} {m : Nat} (hm : m < 256) (h : ¬ kd = UInt8.ofNat m) : ((kd.toNat : Int) == (m : Int)) = false := beq_eq_false_iff_ne.2 fun e => h (UInt8.toNat_inj.1 (by rw [UInt8.toNat_ofNat_of_lt' (by show m < 256; exact hm)]; omega))
end Go.Proofs.YtcgpggknmhlnkaaDoor.Nod

/- What the reference's Digits, Text and Parse answer: for every category, every set and every text of at most 300 bytes.
   The reference's way to read a set's text, digit by digit, gives what the other way gives: for every text. No program is named here.
   What the reference's Parse answers: for every text of at most 2^63 - 3 bytes. -/
import Derived.Test.YtcgpggknmhlnkaaDoorPs15
import Derived.Test.YtcgpggknmhlnkaaDoorPs12
namespace Go.Proofs.YtcgpggknmhlnkaaDoor.Cats
open Go.RowKit
theorem joinC_snoc (ws : List (List UInt8)) (w : List UInt8) (h : ws ≠ []) : joinC (ws ++ [w]) = joinC ws ++ 44 :: w := by
  induction ws with
  | nil => exact absurd rfl h
  | cons x r ih =>
    cases r with
    | nil => rw [List.cons_append, List.nil_append, joinC_cons, joinC_one, joinC_one]
    | cons y ys =>
      rw [List.cons_append, List.cons_append, joinC_cons, joinC_cons, ← List.cons_append, ih (by simp)]
      simp
/-- the text of the first k words -/
def PartIs (ws : List (List UInt8)) (k : Nat) (T : ByteArray) : Prop := T.data.toList = joinC (ws.take k) ∧ T.size ≤ 3 * k
theorem PartIs.first {ws : List (List UInt8)} {T T2 : ByteArray} {w : List UInt8} (h : PartIs ws 0 T) (hw : ws[0]? = some w) (hl : w.length ≤ 2) (h2 : T2.data.toList = T.data.toList ++ w) : PartIs ws 1 T2 := by
  obtain ⟨hk, rfl⟩ := List.getElem?_eq_some_iff.1 hw
  have e : T2.data.toList = ws[0] := by rw [h2, h.1, List.take_zero, joinC_nil, List.nil_append]
  refine ⟨?_, ?_⟩
  · rw [e, List.take_succ_eq_append_getElem hk, List.take_zero, List.nil_append, joinC_one]
  · rw [Lib.size_eq, e]; omega
theorem PartIs.next {ws : List (List UInt8)} {T T2 : ByteArray} {k : Nat} {w : List UInt8} (h : PartIs ws k T) (hk0 : 0 < k) (hw : ws[k]? = some w) (hl : w.length ≤ 2) (h2 : T2.data.toList = (T.data.toList ++ [44]) ++ w) : PartIs ws (k + 1) T2 := by
  obtain ⟨hk, rfl⟩ := List.getElem?_eq_some_iff.1 hw
  have hs := h.2
  rw [Lib.size_eq] at hs
  refine ⟨?_, ?_⟩
  · rw [h2, h.1, List.take_succ_eq_append_getElem hk, joinC_snoc _ _ (by
      intro e
      have := congrArg List.length e
      simp only [List.length_take, List.length_nil] at this
      omega)]
    simp
  · rw [Lib.size_eq, h2]
    simp only [List.length_append, List.length_cons, List.length_nil]
    omega
end Go.Proofs.YtcgpggknmhlnkaaDoor.Cats
namespace Go.Proofs.YtcgpggknmhlnkaaDoor.Cats
/-- one step: a digit goes on with the number; all else ends it -/
def scanStep (st : Nat × Int) : Option UInt8 → Nat × Int
  | some b => if 48 ≤ b.toNat ∧ b.toNat ≤ 57 ∧ st.2 < 100 then (st.1, max st.2 0 * 10 + (b.toNat : Int) - 48) else (if 0 ≤ st.2 ∧ st.2 < 64 then st.1 ||| 2 ^ st.2.toNat else st.1, -1)
  | none => (if 0 ≤ st.2 ∧ st.2 < 64 then st.1 ||| 2 ^ st.2.toNat else st.1, -1)
def seqOf (t : List UInt8) : List (Option UInt8) := t.map some ++ [none]
def scan (t : List UInt8) : Nat := ((seqOf t).foldl scanStep (0, -1)).1
theorem step_end (q : Nat) (m : Int) (b : UInt8) (h : ¬ (48 ≤ b.toNat ∧ b.toNat ≤ 57 ∧ m < 100)) : scanStep (q, m) (some b) = scanStep (q, m) none := by
  simp only [scanStep]
  rw [if_neg h]
theorem step_skip (q : Nat) (m : Int) (h : m < 0 ∨ 64 ≤ m) : scanStep (q, m) none = (q, -1) := by
  simp only [scanStep]
  rw [if_neg (by omega)]
/-- how far the scan has come -/
def ScanAt (t : List UInt8) (k q : Nat) (m : Int) : Prop := ((seqOf t).take k).foldl scanStep (0, -1) = (q, m) ∧ U q ∧ -1 ≤ m ∧ m ≤ 1009
theorem ScanAt.zero (t : List UInt8) : ScanAt t 0 0 (-1) := ⟨rfl, U_zero, by omega, by omega⟩
theorem ScanAt.done {t : List UInt8} {q : Nat} {m : Int} (h : ScanAt t (t.length + 1) q m) : scan t = q ∧ U q := by
  refine ⟨?_, h.2.1⟩
  have e : (seqOf t).take (t.length + 1) = seqOf t := List.take_of_length_le (by simp [seqOf])
  unfold scan
  rw [← e, h.1]
theorem ScanAt.step {t : List UInt8} {k q q' : Nat} {m m' : Int} {o : Option UInt8} (h : ScanAt t k q m) (ho : (seqOf t)[k]? = some o) (hs : scanStep (q, m) o = (q', m')) (hu : U q') (h1 : -1 ≤ m') (h2 : m' ≤ 1009) : ScanAt t (k + 1) q' m' := by
  obtain ⟨hk, rfl⟩ := List.getElem?_eq_some_iff.1 ho
  refine ⟨?_, hu, h1, h2⟩
  rw [List.take_succ_eq_append_getElem hk, List.foldl_append, h.1]
  exact hs
theorem seq_at {t : List UInt8} {k : Nat} (hk : k < t.length) : (seqOf t)[k]? = some (some t[k]) := by
  rw [seqOf, List.getElem?_append_left (by simpa using hk)]
  simp [hk]
theorem seq_end (t : List UInt8) : (seqOf t)[t.length]? = some none := by
  rw [seqOf, List.getElem?_append_right (by simp)]
  simp
theorem ScanAt.over {t : List UInt8} {k q q' : Nat} {m m' : Int} (h : ScanAt t k q m) (hk : k ≤ t.length) (hn : ∀ hk : k < t.length, ¬ (48 ≤ t[k].toNat ∧ t[k].toNat ≤ 57 ∧ m < 100)) (hs : scanStep (q, m) none = (q', m')) (hu : U q') (h1 : -1 ≤ m') (h2 : m' ≤ 1009) : ScanAt t (k + 1) q' m' := by
  by_cases hlt : k < t.length
  · exact h.step (seq_at hlt) ((step_end q m _ (hn hlt)).trans hs) hu h1 h2
  · obtain rfl : k = t.length := by omega
    exact h.step (seq_end t) hs hu h1 h2
theorem ScanAt.skip {t : List UInt8} {k q : Nat} {m : Int} (h : ScanAt t k q m) (hk : k ≤ t.length) (hn : ∀ hk : k < t.length, ¬ (48 ≤ t[k].toNat ∧ t[k].toNat ≤ 57 ∧ m < 100)) (hm : m < 0 ∨ 64 ≤ m) : ScanAt t (k + 1) q (-1) :=
  h.over hk hn (step_skip q m hm) h.2.1 (by omega) (by omega)
end Go.Proofs.YtcgpggknmhlnkaaDoor.Cats
namespace Go.Proofs.YtcgpggknmhlnkaaDoor.Cats
open Go.RowKit
theorem two_set {w2 : World} {b : Nat} {x y u v : Value} (c0 : w2.cell? ⟨b, 0, none⟩ = some x) (c1 : w2.cell? ⟨b, 1, none⟩ = some y) :
    ((w2.setCell ⟨b, 0, none⟩ u).setCell ⟨b, 1, none⟩ v).cell? ⟨b, 0, none⟩ = some u ∧ ((w2.setCell ⟨b, 0, none⟩ u).setCell ⟨b, 1, none⟩ v).cell? ⟨b, 1, none⟩ = some v := by
  have h0 : (w2.setCell ⟨b, 0, none⟩ u).cell? ⟨b, 0, none⟩ = some u := by simp [go_sem, c0]
  have h1 : (w2.setCell ⟨b, 0, none⟩ u).cell? ⟨b, 1, none⟩ = some y := by simp [go_sem, c1]
  exact ⟨by simp [go_sem, h0], by simp [go_sem, h1]⟩
end Go.Proofs.YtcgpggknmhlnkaaDoor.Cats

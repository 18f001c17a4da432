/- What the reference's Plain, upper, marked answer. -/
import Derived.Test.YtmoednmgmmgjeaaDoorLexWays
import Derived.Test.YtmoednmgmmgjeaaDoorValRQuote
namespace Go.Proofs.YtmoednmgmmgjeaaDoor.Lex
open Go.RowKit Kit Dec Dig
open Val (quoteL quoteL_skip quoteL_mark one_cell)

theorem plain_iff (b : UInt8) : plainB b = true ↔ 32 ≤ b.toNat ∧ b.toNat ≠ 127 := by
  unfold plainB
  rw [Bool.and_eq_true, decide_eq_true_eq, Bool.not_eq_true', beq_eq_false_iff_ne]
  refine and_congr_right fun _ => not_congr ⟨fun h => by rw [h]; rfl, fun h => UInt8.toNat_inj.1 h⟩
theorem up_iff (b : UInt8) : upB b = true ↔ (65 ≤ b.toNat ∧ b.toNat ≤ 90) ∨ b.toNat = 36 := by
  unfold upB
  rw [Bool.or_eq_true, Bool.and_eq_true, decide_eq_true_eq, decide_eq_true_eq, beq_iff_eq]
  exact or_congr_right ⟨fun h => by rw [h]; rfl, fun h => UInt8.toNat_inj.1 h⟩
theorem bool_of {p : Prop} {b c : Bool} (h : b = true ↔ p) (hb : b = c) : (p ∧ c = true) ∨ (¬ p ∧ c = false) := by
  cases c with
  | true => exact .inl ⟨h.1 hb, rfl⟩
  | false => exact .inr ⟨fun hp => by (rw [h.2 hp] at hb; cases hb), rfl⟩
theorem is34 {x : UInt8} (h : ((x.toNat : Int) == 34) = true) : x = 34 := UInt8.toNat_inj.1 (by
  have h1 : (x.toNat : Int) = 34 := by simpa using h
  have h2 : (34 : UInt8).toNat = 34 := rfl
  omega)
theorem is32 {x : UInt8} (h : ((x.toNat : Int) == 32) = true) : x = 32 := UInt8.toNat_inj.1 (by
  have h1 : (x.toNat : Int) = 32 := by simpa using h
  have h2 : (32 : UInt8).toNat = 32 := rfl
  omega)
theorem not32 {x : UInt8} (h : ((x.toNat : Int) == 32) = false) : x ≠ 32 := fun e => by rw [e] at h; simp at h
theorem not34 {x : UInt8} (h : ((x.toNat : Int) == 34) = false) : x ≠ 34 := fun e => by rw [e] at h; simp at h
/-- what stands within marks, and where it ends -/
def markT : Option (List UInt8 × Nat) → List UInt8
  | some p => p.1
  | none => []
def markZ (a : Nat) : Option (List UInt8 × Nat) → Int
  | some p => ((a + 1 + p.2 : Nat) : Int)
  | none => -1
def MarkIs (a : Nat) (r : Option (List UInt8 × Nat)) (w : World) (e : Ending) (w' : World) : Prop := ∃ s : ByteArray, e = .returned (.tuple #[.string s, .int .i64 (markZ a r)]) ∧ s.data.toList = markT r ∧ Below w.heap.size w w'
/-- where a reader of marks stands -/
def MarkAt (R : List UInt8) (j : Nat) (O : List UInt8) : Prop := markL R = (markL (R.drop j)).map (fun p => (O ++ p.1, j + p.2))
theorem MarkAt.start (R : List UInt8) : MarkAt R 0 [] := by
  unfold MarkAt
  rw [List.drop_zero]
  cases markL R with
  | none => rfl
  | some p => rw [Option.map_some, List.nil_append, Nat.zero_add]
theorem mark_bad {b : UInt8} (h : plainB b = false) (r : List UInt8) : markL (b :: r) = none := by unfold markL; exact if_pos h
theorem mark_byte {b : UInt8} (h : plainB b = true) (h34 : b ≠ 34) (r : List UInt8) : markL (b :: r) = (markL r).map (fun p => (b :: p.1, p.2 + 1)) := by
  conv => lhs; unfold markL
  rw [if_neg (by rw [h]; exact Bool.noConfusion), if_neg h34]
theorem mark_two (r : List UInt8) : markL (34 :: 34 :: r) = (markL r).map (fun p => (34 :: p.1, p.2 + 2)) := by
  conv => lhs; unfold markL
  rw [if_neg (by decide), if_pos rfl]
  exact if_pos rfl
theorem mark_end {r : List UInt8} (h : r.head? ≠ some 34) : markL (34 :: r) = some ([], 1) := by
  conv => lhs; unfold markL
  rw [if_neg (by decide), if_pos rfl]
  cases r with
  | nil => rfl
  | cons c r => exact if_neg fun e => h (by rw [e]; rfl)
theorem drop_at {R : List UInt8} {j : Nat} {b : UInt8} (h : R[j]? = some b) : R.drop j = b :: R.drop (j + 1) := by
  obtain ⟨hj, hb⟩ := List.getElem?_eq_some_iff.1 h
  rw [List.drop_eq_getElem_cons hj, hb]
theorem MarkAt.byte {R : List UInt8} {j : Nat} {O : List UInt8} {b : UInt8} (h : MarkAt R j O) (hb : R[j]? = some b) (hp : plainB b = true) (h34 : b ≠ 34) : MarkAt R (j + 1) (O ++ [b]) := by
  unfold MarkAt at *
  rw [h, drop_at hb, mark_byte hp h34]
  cases markL (R.drop (j + 1)) with
  | none => rfl
  | some p => simp only [Option.map_some, List.append_assoc, List.cons_append, List.nil_append]; congr 2; omega
theorem MarkAt.two {R : List UInt8} {j : Nat} {O : List UInt8} (h : MarkAt R j O) (hb : R[j]? = some 34) (hc : R[j + 1]? = some 34) : MarkAt R (j + 2) (O ++ [34]) := by
  unfold MarkAt at *
  rw [h, drop_at hb, drop_at hc, mark_two]
  cases markL (R.drop (j + 2)) with
  | none => rfl
  | some p => simp only [Option.map_some, List.append_assoc, List.cons_append, List.nil_append]; congr 2; omega
theorem MarkAt.bad {R : List UInt8} {j : Nat} {O : List UInt8} {b : UInt8} (h : MarkAt R j O) (hb : R[j]? = some b) (hp : plainB b = false) : markL R = none := by
  unfold MarkAt at h
  rw [h, drop_at hb, mark_bad hp]
  rfl
theorem MarkAt.out {R : List UInt8} {j : Nat} {O : List UInt8} (h : MarkAt R j O) (hb : R.length ≤ j) : markL R = none := by
  unfold MarkAt at h
  rw [h, List.drop_eq_nil_of_le hb]
  rfl
theorem MarkAt.ends {R : List UInt8} {j : Nat} {O : List UInt8} (h : MarkAt R j O) (hb : R[j]? = some 34) (hc : R[j + 1]? ≠ some 34) : markL R = some (O, j + 1) := by
  unfold MarkAt at h
  rw [h, drop_at hb, mark_end (by rw [List.head?_eq_getElem?, List.getElem?_drop, Nat.add_zero]; exact hc)]
  simp
end Go.Proofs.YtmoednmgmmgjeaaDoor.Lex

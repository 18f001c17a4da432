/- Where a reader of tokens stands, in lists alone. No function of the program is named here. -/
import Derived.Test.YtmoednmgmmgjeaaDoorLexWays
namespace Go.Proofs.YtmoednmgmmgjeaaDoor.Lex
open Dec Dig

/-- the tokens that are read, and what is still to be read: all tokens come out, or the byte that is wrong -/
def LexAt (l : List UInt8) (i : Nat) (P : List Tok) : Sum (List Tok) Nat → Prop
  | .inl T => ∃ T', LexO (l.drop i) i T' ∧ T = P ++ T'
  | .inr e => LexE (l.drop i) i e
theorem LexAt.start (l : List UInt8) : ∃ R, LexAt l 0 [] R := by
  rcases lex_ways _ l (Nat.le_refl _) 0 with ⟨T, h⟩ | ⟨e, h⟩
  · exact ⟨.inl T, T, by rw [List.drop_zero]; exact h, rfl⟩
  · exact ⟨.inr e, by unfold LexAt; rw [List.drop_zero]; exact h⟩
theorem drop_cons {l : List UInt8} {i : Nat} {b : UInt8} (h : l[i]? = some b) : l.drop i = b :: l.drop (i + 1) := by
  obtain ⟨hj, hb⟩ := List.getElem?_eq_some_iff.1 h
  rw [List.drop_eq_getElem_cons hj, hb]
theorem LexAt.fin {l : List UInt8} {i : Nat} {P : List Tok} {R : Sum (List Tok) Nat} (h : LexAt l i P R) (hi : i = l.length) : R = .inl (P ++ [⟨5, i, [], 0⟩]) := by
  have hd : l.drop i = [] := by rw [hi, List.drop_length]
  cases R with
  | inl T =>
    obtain ⟨T', h1, rfl⟩ := h
    rw [hd] at h1
    generalize hq : ([] : List UInt8) = q at h1
    cases h1 with
    | done => rfl
    | blank h => cases hq
    | tok h0 h1 h => subst hq; cases h1
  | inr e =>
    have h1 : LexE (l.drop i) i e := h
    rw [hd] at h1
    generalize hq : ([] : List UInt8) = q at h1
    cases h1 with
    | bad h0 => exact absurd hq.symm h0
    | blank h => cases hq
    | tok h0 h1 h => subst hq; cases h1
theorem LexAt.blank {l : List UInt8} {i : Nat} {P : List Tok} {R : Sum (List Tok) Nat} (h : LexAt l i P R) (hb : l[i]? = some 32) : LexAt l (i + 1) P R := by
  have hd := drop_cons hb
  cases R with
  | inl T =>
    obtain ⟨T', h1, rfl⟩ := h
    rw [hd] at h1
    generalize hq : (32 :: l.drop (i + 1) : List UInt8) = q at h1
    cases h1 with
    | done => cases hq
    | blank h =>
      obtain ⟨_, rfl⟩ := List.cons.inj hq
      exact ⟨_, h, rfl⟩
    | tok h0 h1 h => subst hq; exact absurd rfl h0
  | inr e =>
    have h1 : LexE (l.drop i) i e := h
    rw [hd] at h1
    generalize hq : (32 :: l.drop (i + 1) : List UInt8) = q at h1
    cases h1 with
    | bad h0 h32 => subst hq; exact absurd rfl h32
    | blank h =>
      obtain ⟨_, rfl⟩ := List.cons.inj hq
      exact h
    | tok h0 h1 h => subst hq; exact absurd rfl h0
theorem LexAt.tok {l : List UInt8} {i : Nat} {P : List Tok} {R : Sum (List Tok) Nat} (h : LexAt l i P R) {b : UInt8} (hb : l[i]? = some b) (h32 : b ≠ 32) {k : Int} {t : List UInt8} {n : Int} {m : Nat} (ht : tokAt (l.drop i) = some (k, t, n, m)) : LexAt l (i + m) (P ++ [⟨k, i, t, n⟩]) R ∧ 1 ≤ m ∧ i + m ≤ l.length := by
  have hd := drop_cons hb
  have hs := (tok_size ht).1
  have hlt := (List.getElem?_eq_some_iff.1 hb).1
  rw [List.length_drop] at hs
  refine ⟨?_, hs.1, by omega⟩
  cases R with
  | inl T =>
    obtain ⟨T', h1, rfl⟩ := h
    generalize hq : l.drop i = q at h1 ht
    cases h1 with
    | done => rw [hd] at hq; cases hq
    | blank h => rw [hd] at hq; exact absurd (List.cons.inj hq).1 h32
    | tok h0 h1 h =>
      rw [h1] at ht
      simp only [Option.some.injEq, Prod.mk.injEq] at ht
      obtain ⟨rfl, rfl, rfl, rfl⟩ := ht
      subst hq
      rw [List.drop_drop] at h
      exact ⟨_, h, by simp⟩
  | inr e =>
    have h1 : LexE (l.drop i) i e := h
    generalize hq : l.drop i = q at h1 ht
    cases h1 with
    | bad h0 _ g => rw [g] at ht; cases ht
    | blank h => rw [hd] at hq; exact absurd (List.cons.inj hq).1 h32
    | tok h0 h1 h =>
      rw [h1] at ht
      simp only [Option.some.injEq, Prod.mk.injEq] at ht
      obtain ⟨rfl, rfl, rfl, rfl⟩ := ht
      subst hq
      rw [List.drop_drop] at h
      exact h
theorem LexAt.bad {l : List UInt8} {i : Nat} {P : List Tok} {R : Sum (List Tok) Nat} (h : LexAt l i P R) {b : UInt8} (hb : l[i]? = some b) (h32 : b ≠ 32) (ht : tokAt (l.drop i) = none) : R = .inr i := by
  have hd := drop_cons hb
  cases R with
  | inl T =>
    obtain ⟨T', h1, rfl⟩ := h
    generalize hq : l.drop i = q at h1 ht
    cases h1 with
    | done => rw [hd] at hq; cases hq
    | blank h => rw [hd] at hq; exact absurd (List.cons.inj hq).1 h32
    | tok h0 h1 h => rw [h1] at ht; cases ht
  | inr e =>
    have h1 : LexE (l.drop i) i e := h
    generalize hq : l.drop i = q at h1 ht
    cases h1 with
    | bad h0 h32 h => rfl
    | blank h => rw [hd] at hq; exact absurd (List.cons.inj hq).1 h32
    | tok h0 h1 h => rw [h1] at ht; cases ht
theorem word_in : ∀ (l : List UInt8) (j : Nat) (c : UInt8), j < wordN l → l[j]? = some c → wordB c = true
  | [], _, _, _, h => by simp at h
  | b :: l, j, c, hj, h => by
    unfold wordN at hj
    by_cases hb : wordB b = true
    · rw [if_pos hb] at hj
      cases j with
      | zero =>
        rw [List.getElem?_cons_zero] at h
        rw [← Option.some.inj h]
        exact hb
      | succ j =>
        rw [List.getElem?_cons_succ] at h
        exact word_in l j c (by omega) h
    · rw [if_neg hb] at hj
      exact absurd hj (by omega)
/-- which token it is, by the first byte -/
theorem tok_num {b : UInt8} (h : isD b = true) (r : List UInt8) {x : Int} {m : Nat} (hl : leadD (b :: r) = (x, m, true)) : tokAt (b :: r) = some (1, [], x, m) := by
  unfold tokAt; dsimp only; rw [if_pos h, hl, if_pos rfl]
theorem tok_none {b : UInt8} (h : isD b = true) (r : List UInt8) {x : Int} {m : Nat} (hl : leadD (b :: r) = (x, m, false)) : tokAt (b :: r) = none ∧ m = 0 := by
  refine ⟨?_, ?_⟩
  · unfold tokAt; dsimp only; rw [if_pos h, hl]; exact if_neg Bool.false_ne_true
  · unfold leadD at hl
    split at hl
    · simp at hl
    · simp only [Prod.mk.injEq] at hl; exact hl.2.1.symm
theorem tok_mark (r : List UInt8) : tokAt (34 :: r) = (markL r).map (fun p => (2, p.1, 0, p.2 + 1)) := by
  unfold tokAt; dsimp only; rw [if_neg (by decide), if_pos rfl]
theorem tok_word {b : UInt8} (h : upB b = true) (r : List UInt8) : tokAt (b :: r) = some (3, (b :: r).take (wordN (b :: r)), 0, wordN (b :: r)) ∧ isD b = false ∧ b ≠ 34 := by
  have h1 : isD b = false := by
    cases hd : isD b with
    | false => rfl
    | true =>
      exfalso
      obtain ⟨g1, g2⟩ := isD_iff.1 hd
      unfold upB at h
      rw [Bool.or_eq_true, Bool.and_eq_true, decide_eq_true_eq, decide_eq_true_eq, beq_iff_eq] at h
      rcases h with h | h
      · omega
      · rw [h] at g1; revert g1; decide
  have h2 : b ≠ 34 := fun e => by rw [e] at h; cases h
  refine ⟨?_, h1, h2⟩
  unfold tokAt; dsimp only; rw [if_neg (by rw [h1]; exact Bool.noConfusion), if_neg h2, if_pos h]
theorem tok_sign {b : UInt8} (h1 : isD b = false) (h2 : b ≠ 34) (h3 : upB b = false) (r : List UInt8) : tokAt (b :: r) = if signN (b :: r) = 0 then none else some (4, (b :: r).take (signN (b :: r)), 0, signN (b :: r)) := by
  unfold tokAt; dsimp only; rw [if_neg (by rw [h1]; exact Bool.noConfusion), if_neg h2, if_neg (by rw [h3]; exact Bool.noConfusion)]
end Go.Proofs.YtmoednmgmmgjeaaDoor.Lex

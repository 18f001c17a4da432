/- A text has tokens, or a byte at which none begins; how great all of it is. No function of the program is named here. -/
import Derived.Test.YtmoednmgmmgjeaaDoorLexFlow
namespace Go.Proofs.YtmoednmgmmgjeaaDoor.Lex
open Dec Dig
open Val (quoteL quoteL_skip quoteL_mark)

theorem lead_size {l : List UInt8} {n : Int} {m : Nat} (h : leadD l = (n, m, true)) : 1 ≤ m ∧ m ≤ l.length := by
  have hsplit : l = wholeL 30 l ++ restL 30 l := (List.take_append_drop _ _).symm
  unfold leadD at h
  generalize wholeL 30 l = W at *
  generalize restL 30 l = R at *
  by_cases hk0 : ¬ (meantD false W (partR R)).2 = true
  · rw [if_neg hk0] at h; simp at h
  have hk : (meantD false W (partR R)).2 = true := Classical.not_not.1 hk0
  rw [if_pos hk] at h
  simp only [Prod.mk.injEq, and_true] at h
  obtain ⟨_, h2⟩ := h
  have hW : W ≠ [] := fun e => by rw [e, meantD_nil] at hk; simp at hk
  have hW1 : 1 ≤ W.length := List.length_pos_iff.2 hW
  rw [hsplit, List.length_append]
  unfold sizeL at h2
  split at h2
  · omega
  · rename_i hp
    have hl : (partR R).length + 1 ≤ R.length := by
      cases R with
      | nil => exact absurd rfl hp
      | cons c R2 =>
        by_cases hc : c = 46
        · subst hc
          rw [partR_point, List.length_take, List.length_cons]
          omega
        · exact absurd (partR_odd (by simpa using hc)) hp
    omega
theorem quote_ge : ∀ x : List UInt8, x.length ≤ (quoteL x).length
  | [] => Nat.le_refl _
  | b :: x => by
    have := quote_ge x
    by_cases hb : b = 34
    · rw [hb, quoteL_mark]; simp only [List.length_cons]; omega
    · rw [quoteL_skip hb]; simp only [List.length_cons]; omega
theorem tok_size {l : List UInt8} {k : Int} {t : List UInt8} {n : Int} {m : Nat} (h : tokAt l = some (k, t, n, m)) : (1 ≤ m ∧ m ≤ l.length) ∧ t.length ≤ l.length ∧ 0 ≤ n ∧ n ≤ 9223372036854775807 := by
  cases l with
  | nil => cases h
  | cons b r =>
    unfold tokAt at h
    dsimp only at h
    by_cases h1 : isD b = true
    · rw [if_pos h1] at h
      by_cases h2 : (leadD (b :: r)).2.2 = true
      · rw [if_pos h2] at h
        simp only [Option.some.injEq, Prod.mk.injEq] at h
        obtain ⟨_, rfl, h3, h4⟩ := h
        have e : leadD (b :: r) = (n, m, true) := by rw [← h3, ← h4, ← h2]
        exact ⟨lead_size e, Nat.zero_le _, lead_fits e⟩
      · rw [if_neg h2] at h; cases h
    rw [if_neg h1] at h
    by_cases h3 : b = 34
    · rw [if_pos h3] at h
      cases hm : markL r with
      | none => rw [hm] at h; cases h
      | some p =>
        obtain ⟨x, j⟩ := p
        rw [hm] at h
        simp only [Option.map_some, Option.some.injEq, Prod.mk.injEq] at h
        obtain ⟨_, rfl, rfl, rfl⟩ := h
        obtain ⟨g1, g2, _, g4, _⟩ := mark_facts _ r (Nat.le_refl _) x j hm
        have g5 := congrArg List.length g4
        rw [List.length_take, List.length_append] at g5
        have g6 := quote_ge x
        refine ⟨⟨by omega, by rw [List.length_cons]; omega⟩, by rw [List.length_cons]; omega, by decide, by decide⟩
    rw [if_neg h3] at h
    by_cases h4 : upB b = true
    · rw [if_pos h4] at h
      simp only [Option.some.injEq, Prod.mk.injEq] at h
      obtain ⟨_, rfl, rfl, rfl⟩ := h
      have hw : wordB b = true := by unfold wordB; rw [h4]; rfl
      exact ⟨⟨by rw [wordN_in hw]; omega, word_le _⟩, by rw [List.length_take]; omega, by decide, by decide⟩
    rw [if_neg h4] at h
    by_cases h5 : signN (b :: r) = 0
    · rw [if_pos h5] at h; cases h
    · rw [if_neg h5] at h
      simp only [Option.some.injEq, Prod.mk.injEq] at h
      obtain ⟨_, rfl, rfl, rfl⟩ := h
      exact ⟨⟨by omega, sign_le _⟩, by rw [List.length_take]; omega, by decide, by decide⟩
/-- the byte at which no token begins -/
inductive LexE : List UInt8 → Nat → Nat → Prop
  | bad {l : List UInt8} {a : Nat} (h0 : l ≠ []) (h32 : l.head? ≠ some 32) (h : tokAt l = none) : LexE l a a
  | blank {r : List UInt8} {a e : Nat} (h : LexE r (a + 1) e) : LexE (32 :: r) a e
  | tok {l : List UInt8} {a : Nat} {k : Int} {t : List UInt8} {n : Int} {m e : Nat} (h0 : l.head? ≠ some 32) (h1 : tokAt l = some (k, t, n, m)) (h : LexE (l.drop m) (a + m) e) : LexE l a e
theorem lex_ways : ∀ (N : Nat) (l : List UInt8), l.length ≤ N → ∀ a, (∃ T, LexO l a T) ∨ ∃ e, LexE l a e
  | _, [], _, a => .inl ⟨_, .done a⟩
  | 0, b :: r, h, _ => by simp at h
  | N + 1, b :: r, h, a => by
    rw [List.length_cons] at h
    by_cases h32 : b = 32
    · subst h32
      rcases lex_ways N r (by omega) (a + 1) with ⟨T, hT⟩ | ⟨e, he⟩
      · exact .inl ⟨T, .blank hT⟩
      · exact .inr ⟨e, .blank he⟩
    have hh : (b :: r).head? ≠ some 32 := fun e => h32 (Option.some.inj e)
    cases ht : tokAt (b :: r) with
    | none => exact .inr ⟨a, .bad (by simp) hh ht⟩
    | some p =>
      obtain ⟨k, t, n, m⟩ := p
      obtain ⟨⟨hm1, hm2⟩, _⟩ := tok_size ht
      rw [List.length_cons] at hm2
      rcases lex_ways N ((b :: r).drop m) (by rw [List.length_drop, List.length_cons]; omega) (a + m) with ⟨T, hT⟩ | ⟨e, he⟩
      · exact .inl ⟨_, .tok hh ht hT⟩
      · exact .inr ⟨e, .tok hh ht he⟩
theorem LexE.le {l : List UInt8} {a e : Nat} (h : LexE l a e) : a ≤ e ∧ e < a + l.length := by
  induction h with
  | bad h0 h32 h => exact ⟨Nat.le_refl _, by have := List.length_pos_iff.2 h0; omega⟩
  | blank h ih => rw [List.length_cons]; omega
  | tok h0 h1 h ih =>
    have hs := (tok_size h1).1
    rw [List.length_drop] at ih
    omega
/-- how great tokens are -/
theorem LexO.fits {l : List UInt8} {a : Nat} {T : List Tok} (h : LexO l a T) : T.length ≤ l.length + 1 ∧ ∀ x ∈ T, (1 ≤ x.k ∧ x.k ≤ 5) ∧ x.at' ≤ a + l.length ∧ x.t.length ≤ l.length ∧ 0 ≤ x.n ∧ x.n ≤ 9223372036854775807 := by
  induction h with
  | done a => exact ⟨Nat.le_refl _, fun x hx => by rw [List.mem_singleton.1 hx]; exact ⟨⟨by show (1 : Int) ≤ 5; decide, by show (5 : Int) ≤ 5; decide⟩, Nat.le_refl _, Nat.le_refl _, by show (0 : Int) ≤ 0; decide, by show (0 : Int) ≤ 9223372036854775807; decide⟩⟩
  | blank h ih =>
    refine ⟨by rw [List.length_cons]; omega, fun x hx => ?_⟩
    obtain ⟨g1, g2, g3, g4⟩ := ih.2 x hx
    exact ⟨g1, by rw [List.length_cons]; omega, by rw [List.length_cons]; omega, g4⟩
  | @tok l a k t n m T h0 h1 h ih =>
    obtain ⟨⟨hm1, hm2⟩, ht, hn⟩ := tok_size h1
    have hk := tok_kind h1
    rw [List.length_drop] at ih
    refine ⟨by rw [List.length_cons]; omega, fun x hx => ?_⟩
    rcases List.mem_cons.1 hx with rfl | hx
    · exact ⟨⟨hk.1, by dsimp only; omega⟩, by dsimp only; omega, ht, hn⟩
    · obtain ⟨g1, g2, g3, g4⟩ := ih.2 x hx
      exact ⟨g1, by omega, by omega, g4⟩
theorem quote_len : ∀ x : List UInt8, (quoteL x).length ≤ 2 * x.length
  | [] => Nat.le_refl _
  | b :: x => by
    have := quote_len x
    by_cases hb : b = 34
    · rw [hb, quoteL_mark]; simp only [List.length_cons]; omega
    · rw [quoteL_skip hb]; simp only [List.length_cons]; omega
theorem tokT_len {x : Tok} {N : Nat} (ht : x.t.length ≤ N) (h0 : 0 ≤ x.n) (h2 : x.n ≤ 9223372036854775807) : (tokT x).length ≤ 2 * N + 21 := by
  unfold tokT
  split
  · have := text_len (x := x.n) (by omega) h2; omega
  · split
    · have := quote_len x.t
      simp only [List.length_cons, List.length_append, List.length_nil]
      omega
    · omega
theorem joinT_len {N : Nat} : ∀ (T : List Tok) (s : Bool), (∀ x ∈ T, x.t.length ≤ N ∧ 0 ≤ x.n ∧ x.n ≤ 9223372036854775807) → (joinT s T).length ≤ T.length * (2 * N + 22)
  | [], _, _ => Nat.zero_le _
  | x :: T, s, h => by
    have ih := fun s => joinT_len T s fun y hy => h y (List.mem_cons_of_mem _ hy)
    obtain ⟨h1, h2, h3⟩ := h x (List.mem_cons_self ..)
    have hx := tokT_len h1 h2 h3
    simp only [joinT]
    rw [List.length_cons, Nat.succ_mul]
    split
    · rw [List.length_append]
      have := ih true
      split
      · rw [List.length_cons]; omega
      · omega
    · have := ih s
      omega
end Go.Proofs.YtmoednmgmmgjeaaDoor.Lex

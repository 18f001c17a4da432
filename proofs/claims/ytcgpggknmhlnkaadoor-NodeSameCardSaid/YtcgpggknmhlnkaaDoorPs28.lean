/- The tokens of a whole text, in lists alone: what follows of them (told as text they are the same; more blanks ahead of one change nothing else). No function of the program is named here. -/
import Derived.Test.YtcgpggknmhlnkaaDoorPs23
namespace Go.Proofs.YtcgpggknmhlnkaaDoor.Lex
open Dec Dig
open Val (quoteL quoteL_skip quoteL_mark)
/-- what may come behind a token in the place of what came behind it -/
def Beh (l : List UInt8) (m : Nat) (r : List UInt8) : Prop := r.head? = l[m]? ∨ r.head? = none ∨ r.head? = some 32
theorem take_head {l r : List UInt8} {b : UInt8} {q : List UInt8} {m : Nat} (h : l = b :: q) (hm : 1 ≤ m) : ∃ p, l.take m ++ r = b :: p := by
  obtain ⟨k, rfl⟩ : ∃ k, m = k + 1 := ⟨m - 1, by omega⟩
  exact ⟨q.take k ++ r, by rw [h, List.take_succ_cons, List.cons_append]⟩
theorem tok_len {l : List UInt8} {k : Int} {t : List UInt8} {n : Int} {m : Nat} (h : tokAt l = some (k, t, n, m)) (hd : l[m]? ≠ some 46) : 1 ≤ m ∧ m ≤ l.length := by
  cases l with
  | nil => cases h
  | cons b r =>
    unfold tokAt at h
    dsimp only at h
    by_cases h1 : isD b = true
    · rw [if_pos h1] at h
      by_cases h2 : (leadD (b :: r)).2.2 = true
      · rw [if_pos h2] at h
        simp only [Option.some.injEq, Prod.mk.injEq] at h
        obtain ⟨rfl, rfl, h3, h4⟩ := h
        have e : leadD (b :: r) = (n, m, true) := by rw [← h3, ← h4, ← h2]
        obtain ⟨g1, g2, _⟩ := lead_cut e hd (.inr (.inl rfl) : ([] : List UInt8).head? = _ ∨ _)
        exact ⟨g1, g2⟩
      · rw [if_neg h2] at h; cases h
    rw [if_neg h1] at h
    by_cases h3 : b = 34
    · rw [if_pos h3] at h
      cases hm : markL r with
      | none => rw [hm] at h; cases h
      | some p =>
        obtain ⟨x, j⟩ := p
        rw [hm] at h
        simp only [Option.map_some, Option.some.injEq, Prod.mk.injEq] at h
        obtain ⟨_, _, _, rfl⟩ := h
        obtain ⟨g1, g2, _⟩ := mark_facts _ r (Nat.le_refl _) x j hm
        exact ⟨by omega, by rw [List.length_cons]; omega⟩
    rw [if_neg h3] at h
    by_cases h4 : upB b = true
    · rw [if_pos h4] at h
      simp only [Option.some.injEq, Prod.mk.injEq] at h
      obtain ⟨_, _, _, rfl⟩ := h
      have hw : wordB b = true := by unfold wordB; rw [h4]; rfl
      exact ⟨by rw [wordN_in hw]; omega, word_le _⟩
    rw [if_neg h4] at h
    by_cases h5 : signN (b :: r) = 0
    · rw [if_pos h5] at h; cases h
    · rw [if_neg h5] at h
      simp only [Option.some.injEq, Prod.mk.injEq] at h
      obtain ⟨_, _, _, rfl⟩ := h
      exact ⟨by omega, sign_le _⟩
theorem tok_cut {l r : List UInt8} {k : Int} {t : List UInt8} {n : Int} {m : Nat} (h : tokAt l = some (k, t, n, m)) (hd : l[m]? ≠ some 46) (hr : Beh l m r) : tokAt (l.take m ++ r) = some (k, t, n, m) := by
  obtain ⟨hm1, hml⟩ := tok_len h hd
  cases l with
  | nil => cases h
  | cons b q =>
    obtain ⟨p, hp⟩ := take_head (r := r) (rfl : b :: q = b :: q) hm1
    unfold tokAt at h
    dsimp only at h
    unfold tokAt
    rw [hp]
    dsimp only
    rw [← hp]
    by_cases h1 : isD b = true
    · rw [if_pos h1] at h ⊢
      by_cases h2 : (leadD (b :: q)).2.2 = true
      · rw [if_pos h2] at h
        simp only [Option.some.injEq, Prod.mk.injEq] at h
        obtain ⟨rfl, rfl, h3, h4⟩ := h
        have e : leadD (b :: q) = (n, m, true) := by rw [← h3, ← h4, ← h2]
        obtain ⟨_, _, g⟩ := lead_cut e hd hr
        rw [g]
        exact if_pos rfl
      · rw [if_neg h2] at h; cases h
    rw [if_neg h1] at h ⊢
    by_cases h3 : b = 34
    · rw [if_pos h3] at h ⊢
      cases hm : markL q with
      | none => rw [hm] at h; cases h
      | some y =>
        obtain ⟨x, j⟩ := y
        rw [hm] at h
        simp only [Option.map_some, Option.some.injEq, Prod.mk.injEq] at h
        obtain ⟨rfl, rfl, rfl, rfl⟩ := h
        obtain ⟨_, _, g3, _, g5⟩ := mark_facts _ q (Nat.le_refl _) x j hm
        have e : p = q.take j ++ r := by rw [List.take_succ_cons, List.cons_append] at hp; exact (List.cons.inj hp).2.symm
        rw [e, g5 r ?_]
        · rfl
        · rcases hr with e1 | e1 | e1
          · rw [e1, List.getElem?_cons_succ]; exact g3
          · rw [e1]; exact nofun
          · rw [e1]; decide
    rw [if_neg h3] at h ⊢
    by_cases h4 : upB b = true
    · rw [if_pos h4] at h ⊢
      simp only [Option.some.injEq, Prod.mk.injEq] at h
      obtain ⟨rfl, ht, rfl, hm⟩ := h
      have g : wordN ((b :: q).take m ++ r) = m := by
        rw [← hm]
        refine word_cut _ _ fun c hc => ?_
        rcases hr with e1 | e1 | e1
        · rw [e1, ← hm] at hc
          exact word_end _ c hc
        · rw [e1] at hc; cases hc
        · rw [e1] at hc
          rw [← Option.some.inj hc]
          decide
      rw [g, ← ht, ← hm, List.take_append_of_le_length (by rw [List.length_take]; omega), List.take_take, Nat.min_self]
    rw [if_neg h4] at h ⊢
    by_cases h5 : signN (b :: q) = 0
    · rw [if_pos h5] at h; cases h
    · rw [if_neg h5] at h
      simp only [Option.some.injEq, Prod.mk.injEq] at h
      obtain ⟨rfl, ht, rfl, hm⟩ := h
      have g : signN ((b :: q).take m ++ r) = m := by
        rw [← hm] at hr ⊢
        exact sign_cut h5 hr
      rw [g, if_neg (by omega), ← ht, ← hm, List.take_append_of_le_length (by rw [List.length_take]; omega), List.take_take, Nat.min_self]
/-- the tokens of a text that begins at a place -/
inductive LexO : List UInt8 → Nat → List Tok → Prop
  | done (a : Nat) : LexO [] a [⟨5, a, [], 0⟩]
  | blank {r : List UInt8} {a : Nat} {T : List Tok} (h : LexO r (a + 1) T) : LexO (32 :: r) a T
  | tok {l : List UInt8} {a : Nat} {k : Int} {t : List UInt8} {n : Int} {m : Nat} {T : List Tok} (h0 : l.head? ≠ some 32) (h1 : tokAt l = some (k, t, n, m)) (h : LexO (l.drop m) (a + m) T) : LexO l a (⟨k, a, t, n⟩ :: T)
theorem dot_none (r : List UInt8) : tokAt (46 :: r) = none := by
  unfold tokAt
  have e : signN (46 :: r) = 0 := by
    unfold signN
    rw [if_neg (by intro h; cases h), if_neg ?_]
    · rfl
    · intro h
      have := (two_len h).2
      cases r with
      | nil => exact absurd (two_len h).1 (by decide)
      | cons c r =>
        have h2 : [46, c] ∈ twos := h
        simp [twos] at h2
  dsimp only
  rw [if_neg (by decide), if_neg (by decide), if_neg (by decide), if_pos e]
theorem LexO.no_dot {l : List UInt8} {a : Nat} {T : List Tok} (h : LexO l a T) : l.head? ≠ some 46 := by
  cases h with
  | done => exact nofun
  | blank => exact nofun
  | tok h0 h1 h =>
    intro e
    cases l with
    | nil => cases e
    | cons b r =>
      obtain rfl : b = 46 := by simpa using e
      rw [dot_none] at h1
      cases h1
theorem behind {l : List UInt8} {m a : Nat} {T : List Tok} (h : LexO (l.drop m) a T) : l[m]? ≠ some 46 := by
  have := h.no_dot
  rw [List.head?_eq_getElem?, List.getElem?_drop, Nat.add_zero] at this
  exact this
def up (d : Nat) (x : Tok) : Tok := ⟨x.k, x.at' + d, x.t, x.n⟩
theorem LexO.shift {l : List UInt8} {a : Nat} {T : List Tok} (h : LexO l a T) (d : Nat) : LexO l (a + d) (T.map (up d)) := by
  induction h with
  | done a => exact .done (a + d)
  | blank h ih => exact .blank (by rw [Nat.add_right_comm]; exact ih)
  | tok h0 h1 h ih => exact .tok h0 h1 (by rw [Nat.add_right_comm]; exact ih)
theorem LexO.blanks {l : List UInt8} {a : Nat} {T : List Tok} (h : LexO l a T) : ∀ d, LexO (List.replicate d 32 ++ l) a (T.map (up d))
  | 0 => by
    have := h.shift 0
    exact this
  | d + 1 => by
    rw [List.replicate_succ, List.cons_append]
    have := (h.shift 1).blanks d
    rw [List.map_map] at this
    refine .blank ?_
    have e : (up d ∘ up 1) = up (d + 1) := by funext x; unfold up; simp only [Function.comp]; rw [Nat.add_assoc, Nat.add_comm 1 d]
    rw [e] at this
    exact this
/-- where a token begins -/
theorem LexO.at_ {l : List UInt8} {a : Nat} {T : List Tok} (h : LexO l a T) : ∀ (i : Nat) (x : Tok), T[i]? = some x → a ≤ x.at' ∧ x.at' ≤ a + l.length := by
  induction h with
  | done a =>
    intro i x hi
    match i, hi with
    | 0, hi => obtain rfl := Option.some.inj hi; exact ⟨Nat.le_refl _, Nat.le_refl _⟩
    | i + 1, hi => simp at hi
  | blank h ih =>
    intro i x hi
    have := ih i x hi
    rw [List.length_cons]
    omega
  | tok h0 h1 h ih =>
    intro i x hi
    have hl := (tok_len h1 (behind h)).2
    match i, hi with
    | 0, hi => obtain rfl := Option.some.inj hi; exact ⟨Nat.le_refl _, by dsimp only; omega⟩
    | i + 1, hi =>
      have := ih i x (by simpa using hi)
      rw [List.length_drop] at this
      omega
/-- MORE BLANKS AHEAD OF A TOKEN: those behind begin so much later -/
theorem LexO.more {l : List UInt8} {a : Nat} {T : List Tok} (h : LexO l a T) : ∀ (i : Nat) (x : Tok), T[i]? = some x → ∀ d, LexO (l.take (x.at' - a) ++ (List.replicate d 32 ++ l.drop (x.at' - a))) a (T.take i ++ (T.drop i).map (up d)) := by
  induction h with
  | done a =>
    intro i x hi d
    match i, hi with
    | 0, hi =>
      obtain rfl := Option.some.inj hi
      rw [Nat.sub_self]
      exact (LexO.done a).blanks d
    | i + 1, hi => simp at hi
  | @blank r a T h ih =>
    intro i x hi d
    have := (h.at_ i x hi).1
    rw [show x.at' - a = (x.at' - (a + 1)) + 1 from by omega, List.take_succ_cons, List.drop_succ_cons, List.cons_append]
    exact .blank (ih i x hi d)
  | @tok l a k t n m T h0 h1 h ih =>
    intro i x hi d
    obtain ⟨hm1, hml⟩ := tok_len h1 (behind h)
    match i, hi with
    | 0, hi =>
      obtain rfl := Option.some.inj hi
      show LexO (l.take (a - a) ++ (List.replicate d 32 ++ l.drop (a - a))) a _
      rw [Nat.sub_self]
      exact (LexO.tok h0 h1 h).blanks d
    | i + 1, hi =>
      have hi' : T[i]? = some x := by simpa using hi
      have hx := h.at_ i x hi'
      rw [List.length_drop] at hx
      have ih2 := ih i x hi' d
      have e : x.at' - a = m + (x.at' - (a + m)) := by omega
      generalize x.at' - (a + m) = j at *
      rw [e]
      have e1 : l.take (m + j) ++ (List.replicate d 32 ++ l.drop (m + j)) = l.take m ++ ((l.drop m).take j ++ (List.replicate d 32 ++ (l.drop m).drop j)) := by
        rw [List.take_add, List.drop_drop, List.append_assoc]
      rw [e1]
      have hbeh : Beh l m ((l.drop m).take j ++ (List.replicate d 32 ++ (l.drop m).drop j)) := by
        cases j with
        | zero =>
          rw [List.take_zero, List.nil_append, List.drop_zero]
          cases d with
          | zero => exact .inl (by show (l.drop m).head? = _; rw [List.head?_eq_getElem?, List.getElem?_drop, Nat.add_zero])
          | succ d => exact .inr (.inr rfl)
        | succ j =>
          cases hq : l.drop m with
          | nil =>
            exact absurd (congrArg List.length hq) (by rw [List.length_drop, List.length_nil]; omega)
          | cons c q =>
            refine .inl ?_
            rw [List.take_succ_cons, List.cons_append, List.head?_cons]
            have : (l.drop m)[0]? = some c := by rw [hq]; rfl
            rw [List.getElem?_drop, Nat.add_zero] at this
            exact this.symm
      have hcut := tok_cut h1 (behind h) hbeh
      refine .tok ?_ hcut ?_
      · cases l with
        | nil => cases h1
        | cons b q =>
          obtain ⟨p, hp⟩ := take_head (r := (((b :: q).drop m).take j ++ (List.replicate d 32 ++ ((b :: q).drop m).drop j))) (rfl : b :: q = b :: q) hm1
          rw [hp]
          exact h0
      · rw [List.drop_left' (by rw [List.length_take]; omega)]
        exact ih2
theorem tok_kind {l : List UInt8} {k : Int} {t : List UInt8} {n : Int} {m : Nat} (h : tokAt l = some (k, t, n, m)) : 1 ≤ k ∧ k ≤ 4 := by
  cases l with
  | nil => cases h
  | cons b r =>
    unfold tokAt at h
    dsimp only at h
    by_cases h1 : isD b = true
    · rw [if_pos h1] at h
      split at h
      · simp only [Option.some.injEq, Prod.mk.injEq] at h; omega
      · cases h
    rw [if_neg h1] at h
    by_cases h3 : b = 34
    · rw [if_pos h3] at h
      cases hm : markL r with
      | none => rw [hm] at h; cases h
      | some p => rw [hm] at h; simp only [Option.map_some, Option.some.injEq, Prod.mk.injEq] at h; omega
    rw [if_neg h3] at h
    split at h
    · simp only [Option.some.injEq, Prod.mk.injEq] at h; omega
    · split at h
      · cases h
      · simp only [Option.some.injEq, Prod.mk.injEq] at h; omega
theorem lead_fits {l : List UInt8} {n : Int} {m : Nat} (h : leadD l = (n, m, true)) : 0 ≤ n ∧ n ≤ 9223372036854775807 := by
  unfold leadD at h
  obtain ⟨⟨a, b⟩, hg⟩ : ∃ p, meantD false (wholeL 30 l) (partR (restL 30 l)) = p := ⟨_, rfl⟩
  rw [hg] at h
  have hr := (meantD_room hg).1
  cases b with
  | false => simp at h
  | true =>
    simp only [if_true, Prod.mk.injEq, and_true] at h
    obtain ⟨rfl, _⟩ := h
    refine ⟨?_, hr.2⟩
    unfold meantD at hg
    split at hg
    · cases hg
    · unfold giveD at hg
      split at hg
      · rw [← (Prod.mk.inj hg).1]
        unfold signed
        rw [if_neg Bool.false_ne_true]
        omega
      · cases (Prod.mk.inj hg).2
end Go.Proofs.YtcgpggknmhlnkaaDoor.Lex

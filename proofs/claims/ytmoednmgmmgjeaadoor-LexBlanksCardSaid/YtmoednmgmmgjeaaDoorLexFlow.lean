/- The tokens of a whole text, in lists alone: what follows of them (told as text they are the same; more blanks ahead of one change nothing else). No function of the program is named here. -/
import Derived.Test.YtmoednmgmmgjeaaDoorLexMath
namespace Go.Proofs.YtmoednmgmmgjeaaDoor.Lex
open Dec Dig
open Val (quoteL quoteL_skip quoteL_mark)

/-- what may come behind a token in the place of what came behind it -/
def Beh (l : List UInt8) (m : Nat) (r : List UInt8) : Prop := r.head? = l[m]? ∨ r.head? = none ∨ r.head? = some 32
theorem take_head {l r : List UInt8} {b : UInt8} {q : List UInt8} {m : Nat} (h : l = b :: q) (hm : 1 ≤ m) : ∃ p, l.take m ++ r = b :: p := by
  obtain ⟨k, rfl⟩ : ∃ k, m = k + 1 := ⟨m - 1, by omega⟩
  exact ⟨q.take k ++ r, by rw [h, List.take_succ_cons, List.cons_append]⟩
theorem tok_len {l : List UInt8} {k : Int} {t : List UInt8} {n : Int} {m : Nat} (h : tokAt l = some (k, t, n, m)) (hd : l[m]? ≠ some 46) : 1 ≤ m ∧ m ≤ l.length := by
  cases l with
  | nil => cases h
  | cons b r =>
    unfold tokAt at h
    dsimp only at h
    by_cases h1 : isD b = true
    · rw [if_pos h1] at h
      by_cases h2 : (leadD (b :: r)).2.2 = true
      · rw [if_pos h2] at h
        simp only [Option.some.injEq, Prod.mk.injEq] at h
        obtain ⟨rfl, rfl, h3, h4⟩ := h
        have e : leadD (b :: r) = (n, m, true) := by rw [← h3, ← h4, ← h2]
        obtain ⟨g1, g2, _⟩ := lead_cut e hd (.inr (.inl rfl) : ([] : List UInt8).head? = _ ∨ _)
        exact ⟨g1, g2⟩
      · rw [if_neg h2] at h; cases h
    rw [if_neg h1] at h
    by_cases h3 : b = 34
    · rw [if_pos h3] at h
      cases hm : markL r with
      | none => rw [hm] at h; cases h
      | some p =>
        obtain ⟨x, j⟩ := p
        rw [hm] at h
        simp only [Option.map_some, Option.some.injEq, Prod.mk.injEq] at h
        obtain ⟨_, _, _, rfl⟩ := h
        obtain ⟨g1, g2, _⟩ := mark_facts _ r (Nat.le_refl _) x j hm
        exact ⟨by omega, by rw [List.length_cons]; omega⟩
    rw [if_neg h3] at h
    by_cases h4 : upB b = true
    · rw [if_pos h4] at h
      simp only [Option.some.injEq, Prod.mk.injEq] at h
      obtain ⟨_, _, _, rfl⟩ := h
      have hw : wordB b = true := by unfold wordB; rw [h4]; rfl
      exact ⟨by rw [wordN_in hw]; omega, word_le _⟩
    rw [if_neg h4] at h
    by_cases h5 : signN (b :: r) = 0
    · rw [if_pos h5] at h; cases h
    · rw [if_neg h5] at h
      simp only [Option.some.injEq, Prod.mk.injEq] at h
      obtain ⟨_, _, _, rfl⟩ := h
      exact ⟨by omega, sign_le _⟩
theorem tok_cut {l r : List UInt8} {k : Int} {t : List UInt8} {n : Int} {m : Nat} (h : tokAt l = some (k, t, n, m)) (hd : l[m]? ≠ some 46) (hr : Beh l m r) : tokAt (l.take m ++ r) = some (k, t, n, m) := by
  obtain ⟨hm1, hml⟩ := tok_len h hd
  cases l with
  | nil => cases h
  | cons b q =>
    obtain ⟨p, hp⟩ := take_head (r := r) (rfl : b :: q = b :: q) hm1
    unfold tokAt at h
    dsimp only at h
    unfold tokAt
    rw [hp]
    dsimp only
    rw [← hp]
    by_cases h1 : isD b = true
    · rw [if_pos h1] at h ⊢
      by_cases h2 : (leadD (b :: q)).2.2 = true
      · rw [if_pos h2] at h
        simp only [Option.some.injEq, Prod.mk.injEq] at h
        obtain ⟨rfl, rfl, h3, h4⟩ := h
        have e : leadD (b :: q) = (n, m, true) := by rw [← h3, ← h4, ← h2]
        obtain ⟨_, _, g⟩ := lead_cut e hd hr
        rw [g]
        exact if_pos rfl
      · rw [if_neg h2] at h; cases h
    rw [if_neg h1] at h ⊢
    by_cases h3 : b = 34
    · rw [if_pos h3] at h ⊢
      cases hm : markL q with
      | none => rw [hm] at h; cases h
      | some y =>
        obtain ⟨x, j⟩ := y
        rw [hm] at h
        simp only [Option.map_some, Option.some.injEq, Prod.mk.injEq] at h
        obtain ⟨rfl, rfl, rfl, rfl⟩ := h
        obtain ⟨_, _, g3, _, g5⟩ := mark_facts _ q (Nat.le_refl _) x j hm
        have e : p = q.take j ++ r := by rw [List.take_succ_cons, List.cons_append] at hp; exact (List.cons.inj hp).2.symm
        rw [e, g5 r ?_]
        · rfl
        · rcases hr with e1 | e1 | e1
          · rw [e1, List.getElem?_cons_succ]; exact g3
          · rw [e1]; exact nofun
          · rw [e1]; decide
    rw [if_neg h3] at h ⊢
    by_cases h4 : upB b = true
    · rw [if_pos h4] at h ⊢
      simp only [Option.some.injEq, Prod.mk.injEq] at h
      obtain ⟨rfl, ht, rfl, hm⟩ := h
      have g : wordN ((b :: q).take m ++ r) = m := by
        rw [← hm]
        refine word_cut _ _ fun c hc => ?_
        rcases hr with e1 | e1 | e1
        · rw [e1, ← hm] at hc
          exact word_end _ c hc
        · rw [e1] at hc; cases hc
        · rw [e1] at hc
          rw [← Option.some.inj hc]
          decide
      rw [g, ← ht, ← hm, List.take_append_of_le_length (by rw [List.length_take]; omega), List.take_take, Nat.min_self]
    rw [if_neg h4] at h ⊢
    by_cases h5 : signN (b :: q) = 0
    · rw [if_pos h5] at h; cases h
    · rw [if_neg h5] at h
      simp only [Option.some.injEq, Prod.mk.injEq] at h
      obtain ⟨rfl, ht, rfl, hm⟩ := h
      have g : signN ((b :: q).take m ++ r) = m := by
        rw [← hm] at hr ⊢
        exact sign_cut h5 hr
      rw [g, if_neg (by omega), ← ht, ← hm, List.take_append_of_le_length (by rw [List.length_take]; omega), List.take_take, Nat.min_self]
/-- the tokens of a text that begins at a place -/
inductive LexO : List UInt8 → Nat → List Tok → Prop
  | done (a : Nat) : LexO [] a [⟨5, a, [], 0⟩]
  | blank {r : List UInt8} {a : Nat} {T : List Tok} (h : LexO r (a + 1) T) : LexO (32 :: r) a T
  | tok {l : List UInt8} {a : Nat} {k : Int} {t : List UInt8} {n : Int} {m : Nat} {T : List Tok} (h0 : l.head? ≠ some 32) (h1 : tokAt l = some (k, t, n, m)) (h : LexO (l.drop m) (a + m) T) : LexO l a (⟨k, a, t, n⟩ :: T)
theorem dot_none (r : List UInt8) : tokAt (46 :: r) = none := by
  unfold tokAt
  have e : signN (46 :: r) = 0 := by
    unfold signN
    rw [if_neg (by intro h; cases h), if_neg ?_]
    · rfl
    · intro h
      have := (two_len h).2
      cases r with
      | nil => exact absurd (two_len h).1 (by decide)
      | cons c r =>
        have h2 : [46, c] ∈ twos := h
        simp [twos] at h2
  dsimp only
  rw [if_neg (by decide), if_neg (by decide), if_neg (by decide), if_pos e]
theorem LexO.no_dot {l : List UInt8} {a : Nat} {T : List Tok} (h : LexO l a T) : l.head? ≠ some 46 := by
  cases h with
  | done => exact nofun
  | blank => exact nofun
  | tok h0 h1 h =>
    intro e
    cases l with
    | nil => cases e
    | cons b r =>
      obtain rfl : b = 46 := by simpa using e
      rw [dot_none] at h1
      cases h1
theorem behind {l : List UInt8} {m a : Nat} {T : List Tok} (h : LexO (l.drop m) a T) : l[m]? ≠ some 46 := by
  have := h.no_dot
  rw [List.head?_eq_getElem?, List.getElem?_drop, Nat.add_zero] at this
  exact this
def up (d : Nat) (x : Tok) : Tok := ⟨x.k, x.at' + d, x.t, x.n⟩
theorem LexO.shift {l : List UInt8} {a : Nat} {T : List Tok} (h : LexO l a T) (d : Nat) : LexO l (a + d) (T.map (up d)) := by
  induction h with
  | done a => exact .done (a + d)
  | blank h ih => exact .blank (by rw [Nat.add_right_comm]; exact ih)
  | tok h0 h1 h ih => exact .tok h0 h1 (by rw [Nat.add_right_comm]; exact ih)
theorem LexO.blanks {l : List UInt8} {a : Nat} {T : List Tok} (h : LexO l a T) : ∀ d, LexO (List.replicate d 32 ++ l) a (T.map (up d))
  | 0 => by
    have := h.shift 0
    exact this
  | d + 1 => by
    rw [List.replicate_succ, List.cons_append]
    have := (h.shift 1).blanks d
    rw [List.map_map] at this
    refine .blank ?_
    have e : (up d ∘ up 1) = up (d + 1) := by funext x; unfold up; simp only [Function.comp]; rw [Nat.add_assoc, Nat.add_comm 1 d]
    rw [e] at this
    exact this
/-- where a token begins -/
theorem LexO.at_ {l : List UInt8} {a : Nat} {T : List Tok} (h : LexO l a T) : ∀ (i : Nat) (x : Tok), T[i]? = some x → a ≤ x.at' ∧ x.at' ≤ a + l.length := by
  induction h with
  | done a =>
    intro i x hi
    match i, hi with
    | 0, hi => obtain rfl := Option.some.inj hi; exact ⟨Nat.le_refl _, Nat.le_refl _⟩
    | i + 1, hi => simp at hi
  | blank h ih =>
    intro i x hi
    have := ih i x hi
    rw [List.length_cons]
    omega
  | tok h0 h1 h ih =>
    intro i x hi
    have hl := (tok_len h1 (behind h)).2
    match i, hi with
    | 0, hi => obtain rfl := Option.some.inj hi; exact ⟨Nat.le_refl _, by dsimp only; omega⟩
    | i + 1, hi =>
      have := ih i x (by simpa using hi)
      rw [List.length_drop] at this
      omega
/-- MORE BLANKS AHEAD OF A TOKEN: those behind begin so much later -/
theorem LexO.more {l : List UInt8} {a : Nat} {T : List Tok} (h : LexO l a T) : ∀ (i : Nat) (x : Tok), T[i]? = some x → ∀ d, LexO (l.take (x.at' - a) ++ (List.replicate d 32 ++ l.drop (x.at' - a))) a (T.take i ++ (T.drop i).map (up d)) := by
  induction h with
  | done a =>
    intro i x hi d
    match i, hi with
    | 0, hi =>
      obtain rfl := Option.some.inj hi
      rw [Nat.sub_self]
      exact (LexO.done a).blanks d
    | i + 1, hi => simp at hi
  | @blank r a T h ih =>
    intro i x hi d
    have := (h.at_ i x hi).1
    rw [show x.at' - a = (x.at' - (a + 1)) + 1 from by omega, List.take_succ_cons, List.drop_succ_cons, List.cons_append]
    exact .blank (ih i x hi d)
  | @tok l a k t n m T h0 h1 h ih =>
    intro i x hi d
    obtain ⟨hm1, hml⟩ := tok_len h1 (behind h)
    match i, hi with
    | 0, hi =>
      obtain rfl := Option.some.inj hi
      show LexO (l.take (a - a) ++ (List.replicate d 32 ++ l.drop (a - a))) a _
      rw [Nat.sub_self]
      exact (LexO.tok h0 h1 h).blanks d
    | i + 1, hi =>
      have hi' : T[i]? = some x := by simpa using hi
      have hx := h.at_ i x hi'
      rw [List.length_drop] at hx
      have ih2 := ih i x hi' d
      have e : x.at' - a = m + (x.at' - (a + m)) := by omega
      generalize x.at' - (a + m) = j at *
      rw [e]
      have e1 : l.take (m + j) ++ (List.replicate d 32 ++ l.drop (m + j)) = l.take m ++ ((l.drop m).take j ++ (List.replicate d 32 ++ (l.drop m).drop j)) := by
        rw [List.take_add, List.drop_drop, List.append_assoc]
      rw [e1]
      have hbeh : Beh l m ((l.drop m).take j ++ (List.replicate d 32 ++ (l.drop m).drop j)) := by
        cases j with
        | zero =>
          rw [List.take_zero, List.nil_append, List.drop_zero]
          cases d with
          | zero => exact .inl (by show (l.drop m).head? = _; rw [List.head?_eq_getElem?, List.getElem?_drop, Nat.add_zero])
          | succ d => exact .inr (.inr rfl)
        | succ j =>
          cases hq : l.drop m with
          | nil =>
            exact absurd (congrArg List.length hq) (by rw [List.length_drop, List.length_nil]; omega)
          | cons c q =>
            refine .inl ?_
            rw [List.take_succ_cons, List.cons_append, List.head?_cons]
            have : (l.drop m)[0]? = some c := by rw [hq]; rfl
            rw [List.getElem?_drop, Nat.add_zero] at this
            exact this.symm
      have hcut := tok_cut h1 (behind h) hbeh
      refine .tok ?_ hcut ?_
      · cases l with
        | nil => cases h1
        | cons b q =>
          obtain ⟨p, hp⟩ := take_head (r := (((b :: q).drop m).take j ++ (List.replicate d 32 ++ ((b :: q).drop m).drop j))) (rfl : b :: q = b :: q) hm1
          rw [hp]
          exact h0
      · rw [List.drop_left' (by rw [List.length_take]; omega)]
        exact ih2
/-- a token as text -/
def tokT (x : Tok) : List UInt8 := if x.k = 1 then textD x.n else if x.k = 2 then 34 :: (quoteL x.t ++ [34]) else x.t
def toldK (k : Int) : Bool := decide (1 ≤ k) && decide (k ≤ 4)
/-- tokens as text; 'some': something stands ahead of them -/
def joinT : Bool → List Tok → List UInt8
  | _, [] => []
  | s, x :: r => if toldK x.k = true then (if s = true then 32 :: tokT x else tokT x) ++ joinT true r else joinT s r
def textT (T : List Tok) : List UInt8 := joinT false T
theorem tok_kind {l : List UInt8} {k : Int} {t : List UInt8} {n : Int} {m : Nat} (h : tokAt l = some (k, t, n, m)) : 1 ≤ k ∧ k ≤ 4 := by
  cases l with
  | nil => cases h
  | cons b r =>
    unfold tokAt at h
    dsimp only at h
    by_cases h1 : isD b = true
    · rw [if_pos h1] at h
      split at h
      · simp only [Option.some.injEq, Prod.mk.injEq] at h; omega
      · cases h
    rw [if_neg h1] at h
    by_cases h3 : b = 34
    · rw [if_pos h3] at h
      cases hm : markL r with
      | none => rw [hm] at h; cases h
      | some p => rw [hm] at h; simp only [Option.map_some, Option.some.injEq, Prod.mk.injEq] at h; omega
    rw [if_neg h3] at h
    split at h
    · simp only [Option.some.injEq, Prod.mk.injEq] at h; omega
    · split at h
      · cases h
      · simp only [Option.some.injEq, Prod.mk.injEq] at h; omega
theorem frac_head (r : Nat) (s : List UInt8) (hs : s.head? = none ∨ s.head? = some 32) : digAt (fracL r ++ s) 0 = false := by
  unfold fracL
  split
  · unfold digAt
    rw [List.nil_append, ← List.head?_eq_getElem?]
    rcases hs with e | e <;> rw [e] <;> rfl
  · rfl
/-- a number's text is that number -/
theorem lead_text {n : Int} (h0 : 0 ≤ n) (h2 : n ≤ 9223372036854775807) {s : List UInt8} (hs : s.head? = none ∨ s.head? = some 32) : leadD (textD n ++ s) = (n, (textD n).length, true) ∧ ∃ b q, textD n = b :: q ∧ isD b = true := by
  have hmay : mayD n = true := by unfold mayD; exact decide_eq_true (by omega)
  have hneg : decide (n < 0) = false := decide_eq_false (by omega)
  have hb := natAbs_lt (x := n) (by omega) h2
  have hN : (n.natAbs : Int) = n := by omega
  generalize n.natAbs = N at *
  have ht : textD n = Lib.decDigits (N / 10000) ++ fracL (N % 10000) := by
    rw [textD_may hmay, hneg]
    have e : n.natAbs = N := by omega
    rw [e]
    rfl
  obtain ⟨w1, w2, w3⟩ := dd_facts (N / 10000)
  have w4 := dd_len15 hb.1
  generalize Lib.decDigits (N / 10000) = W at *
  have hdig : digAt s 0 = false := by
    unfold digAt
    rw [← List.head?_eq_getElem?]
    rcases hs with e | e <;> rw [e] <;> rfl
  have hone : ∃ b q, textD n = b :: q ∧ isD b = true := by
    cases W with
    | nil => exact absurd rfl w3
    | cons b q => exact ⟨b, q ++ fracL (N % 10000), ht, w1 b (List.mem_cons_self ..)⟩
  refine ⟨?_, hone⟩
  rw [ht, List.append_assoc]
  obtain ⟨g1, g2⟩ := wholeL_app (m := 30) (w := W) (r := fracL (N % 10000) ++ s) w1 (by omega) (.inr (frac_head _ s hs))
  have g3 : partR (fracL (N % 10000) ++ s) = partT (N % 10000) := by
    unfold fracL
    by_cases h : N % 10000 = 0
    · rw [if_pos h, List.nil_append, h]
      exact partR_odd (by rcases hs with e | e <;> rw [e] <;> exact nofun)
    · rw [if_neg h, List.cons_append, partR_point]
      have e : leadN 4 (partT (N % 10000) ++ s) = (partT (N % 10000)).length := lead_app (partT_all hb.2.1) (by rw [part_len]; exact pl_le _) (.inr hdig)
      rw [e]
      exact List.take_left' rfl
  have g4 : meantD false W (partT (N % 10000)) = (n, true) := by
    unfold meantD
    rw [if_neg w3, valF_app, valF_app, w2]
    rw [part_len, ← valF_app, part_val _ _ hb.2.1]
    show giveD true (signed false _) = _
    have e : ((N / 10000 * 10000 + N % 10000 : Nat) : Int) = n := by rw [hb.2.2]; exact hN
    unfold signed
    rw [if_neg Bool.false_ne_true, e]
    exact giveD_in (by omega) h2
  unfold leadD
  rw [g1, g2, g3, g4, if_pos rfl]
  refine Prod.ext rfl (Prod.ext ?_ rfl)
  show sizeL W (partT (N % 10000)) = (W ++ fracL (N % 10000)).length
  unfold sizeL fracL
  by_cases h : N % 10000 = 0
  · rw [h, if_pos rfl]
    show W.length = (W ++ []).length
    rw [List.append_nil]
  · have hp : 1 ≤ (partT (N % 10000)).length := by rw [part_len]; exact pl_pos h
    rw [if_neg (by intro e; rw [e] at hp; simp at hp), if_neg h, List.length_append, List.length_cons]
    omega
theorem lead_fits {l : List UInt8} {n : Int} {m : Nat} (h : leadD l = (n, m, true)) : 0 ≤ n ∧ n ≤ 9223372036854775807 := by
  unfold leadD at h
  obtain ⟨⟨a, b⟩, hg⟩ : ∃ p, meantD false (wholeL 30 l) (partR (restL 30 l)) = p := ⟨_, rfl⟩
  rw [hg] at h
  have hr := (meantD_room hg).1
  cases b with
  | false => simp at h
  | true =>
    simp only [if_true, Prod.mk.injEq, and_true] at h
    obtain ⟨rfl, _⟩ := h
    refine ⟨?_, hr.2⟩
    unfold meantD at hg
    split at hg
    · cases hg
    · unfold giveD at hg
      split at hg
      · rw [← (Prod.mk.inj hg).1]
        unfold signed
        rw [if_neg Bool.false_ne_true]
        omega
      · cases (Prod.mk.inj hg).2
/-- a token's text begins with that token, whatever comes behind a blank -/
theorem tok_back {l : List UInt8} {k : Int} {t : List UInt8} {n : Int} {m : Nat} (h : tokAt l = some (k, t, n, m)) (hd : l[m]? ≠ some 46) {s : List UInt8} (hs : s.head? = none ∨ s.head? = some 32) (a : Nat) :
    tokAt (tokT ⟨k, a, t, n⟩ ++ s) = some (k, t, n, (tokT ⟨k, a, t, n⟩).length) ∧ (tokT ⟨k, a, t, n⟩ ++ s).head? ≠ some 32 := by
  obtain ⟨hm1, hml⟩ := tok_len h hd
  have hcut := tok_cut (r := s) h hd (.inr hs)
  have hlen : (l.take m).length = m := by rw [List.length_take]; omega
  cases l with
  | nil => cases h
  | cons b q =>
    have hh := h
    unfold tokAt at h
    dsimp only at h
    have same : tokT ⟨k, a, t, n⟩ = (b :: q).take m → b ≠ 32 → tokAt (tokT ⟨k, a, t, n⟩ ++ s) = some (k, t, n, (tokT ⟨k, a, t, n⟩).length) ∧ (tokT ⟨k, a, t, n⟩ ++ s).head? ≠ some 32 := fun e hb => by
      rw [e, hlen]
      refine ⟨hcut, ?_⟩
      obtain ⟨p, hp⟩ := take_head (r := s) (rfl : b :: q = b :: q) hm1
      rw [hp]
      exact fun e => hb (Option.some.inj e)
    by_cases h1 : isD b = true
    · rw [if_pos h1] at h
      by_cases h2 : (leadD (b :: q)).2.2 = true
      · rw [if_pos h2] at h
        simp only [Option.some.injEq, Prod.mk.injEq] at h
        obtain ⟨rfl, rfl, h3, h4⟩ := h
        have e : leadD (b :: q) = (n, m, true) := by rw [← h3, ← h4, ← h2]
        obtain ⟨f1, f2⟩ := lead_fits e
        obtain ⟨g, c, r, hc, hcd⟩ := lead_text f1 f2 hs
        have et : tokT ⟨1, a, [], n⟩ = textD n := if_pos rfl
        rw [et]
        refine ⟨?_, ?_⟩
        · have e9 : tokAt (textD n ++ s) = if (leadD (textD n ++ s)).2.2 = true then some (1, [], (leadD (textD n ++ s)).1, (leadD (textD n ++ s)).2.1) else none := by
            rw [hc, List.cons_append]
            unfold tokAt
            dsimp only
            rw [if_pos hcd]
          rw [e9, g]
          exact if_pos rfl
        · rw [hc]
          intro e
          obtain rfl : c = 32 := Option.some.inj e
          cases hcd
      · rw [if_neg h2] at h; cases h
    rw [if_neg h1] at h
    by_cases h3 : b = 34
    · rw [if_pos h3] at h
      cases hm : markL q with
      | none => rw [hm] at h; cases h
      | some y =>
        obtain ⟨x, j⟩ := y
        rw [hm] at h
        simp only [Option.map_some, Option.some.injEq, Prod.mk.injEq] at h
        obtain ⟨rfl, rfl, rfl, rfl⟩ := h
        obtain ⟨_, _, _, g4, _⟩ := mark_facts _ q (Nat.le_refl _) x j hm
        refine same ?_ (by rw [h3]; decide)
        rw [List.take_succ_cons, g4, h3]
        rfl
    rw [if_neg h3] at h
    by_cases h4 : upB b = true
    · rw [if_pos h4] at h
      simp only [Option.some.injEq, Prod.mk.injEq] at h
      obtain ⟨rfl, ht, rfl, hm⟩ := h
      refine same ?_ (fun e => by rw [e] at h4; cases h4)
      rw [← hm, ht]
      rfl
    rw [if_neg h4] at h
    by_cases h5 : signN (b :: q) = 0
    · rw [if_pos h5] at h; cases h
    · rw [if_neg h5] at h
      simp only [Option.some.injEq, Prod.mk.injEq] at h
      obtain ⟨rfl, ht, rfl, hm⟩ := h
      refine same ?_ (fun e => ?_)
      · rw [← hm, ht]
        rfl
      · subst e
        apply h5
        unfold signN
        rw [if_neg (by intro h; cases h), if_neg ?_]
        · rfl
        · intro h
          cases q with
          | nil => exact absurd (two_len h).1 (by decide)
          | cons c r =>
            have h2 : [32, c] ∈ twos := h
            simp [twos] at h2
theorem join_true : ∀ {l : List UInt8} {a : Nat} {T : List Tok}, LexO l a T → (∃ b, T = [⟨5, b, [], 0⟩]) ∨ joinT true T = 32 :: joinT false T
  | _, _, _, .done a => .inl ⟨a, rfl⟩
  | _, _, _, .blank h => join_true h
  | _, _, _, @LexO.tok l a k t n m T h0 h1 h => .inr (by
    have hk := tok_kind h1
    have e : toldK k = true := by unfold toldK; simp; exact hk
    simp only [joinT]
    rw [if_pos e, if_pos e, if_pos trivial, if_neg Bool.false_ne_true]
    rfl)
/-- alike, but for where they begin -/
def Alike (T U : List Tok) : Prop := T.map (fun x => (x.k, x.t, x.n)) = U.map (fun x => (x.k, x.t, x.n))
theorem join_alike : ∀ (T U : List Tok) (s : Bool), Alike T U → joinT s T = joinT s U
  | [], [], _, _ => rfl
  | [], y :: U, _, h => by cases h
  | x :: T, [], _, h => by cases h
  | x :: T, y :: U, s, h => by
    obtain ⟨h1, h2⟩ := List.cons.inj h
    obtain ⟨xk, xa, xt, xn⟩ := x
    obtain ⟨yk, ya, yt, yn⟩ := y
    simp only [Prod.mk.injEq] at h1
    obtain ⟨rfl, rfl, rfl⟩ := h1
    simp only [joinT]
    rw [join_alike T U true h2, join_alike T U s h2]
    rfl
/-- TOKENS, TOLD AS TEXT, ARE THE SAME TOKENS -/
theorem LexO.back {l : List UInt8} {a : Nat} {T : List Tok} (h : LexO l a T) : ∀ c, ∃ U, LexO (textT T) c U ∧ Alike T U := by
  induction h with
  | done a => exact fun c => ⟨_, .done c, rfl⟩
  | blank h ih => exact ih
  | @tok l a k t n m T h0 h1 h ih =>
    intro c
    have hk := tok_kind h1
    have e : toldK k = true := by unfold toldK; simp; exact hk
    have ej : textT (⟨k, a, t, n⟩ :: T) = tokT ⟨k, a, t, n⟩ ++ joinT true T := by
      unfold textT
      simp only [joinT]
      rw [if_pos e, if_neg Bool.false_ne_true]
    rw [ej]
    rcases join_true h with ⟨b, hb⟩ | hj
    · subst hb
      obtain ⟨g1, g2⟩ := tok_back (s := []) h1 (behind h) (.inl rfl) a
      rw [show joinT true [⟨5, b, [], 0⟩] = [] from rfl]
      exact ⟨[⟨k, c, t, n⟩, ⟨5, c + (tokT ⟨k, a, t, n⟩).length, [], 0⟩], .tok g2 g1 (by rw [List.append_nil, List.drop_length]; exact .done _), rfl⟩
    · obtain ⟨g1, g2⟩ := tok_back (s := joinT true T) h1 (behind h) (by rw [hj]; exact .inr rfl) a
      obtain ⟨U, hU, ha⟩ := ih (c + (tokT ⟨k, a, t, n⟩).length + 1)
      refine ⟨_, .tok g2 g1 (T := U) ?_, ?_⟩
      · rw [List.drop_left' rfl, hj]
        exact .blank hU
      · show _ :: _ = _ :: _
        rw [show T.map (fun x => (x.k, x.t, x.n)) = U.map (fun x => (x.k, x.t, x.n)) from ha]
end Go.Proofs.YtmoednmgmmgjeaaDoor.Lex

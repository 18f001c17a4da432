/- Tokens, in lists and integers alone: which one a text begins with, those of a whole text, and what follows of them. No function of the program is named here. -/
import Derived.Test.YtcgpggknmhlnkaaDoorPs21
import Derived.Test.YtcgpggknmhlnkaaDoorPs22
namespace Go.Proofs.YtcgpggknmhlnkaaDoor.Lex
open Dec Dig
open Val (quoteL quoteL_skip quoteL_mark)
def upB (b : UInt8) : Bool := (decide (65 ≤ b.toNat) && decide (b.toNat ≤ 90)) || b == 36
def plainB (b : UInt8) : Bool := decide (32 ≤ b.toNat) && !(b == 127)
def wordB (b : UInt8) : Bool := upB b || isD b
/-- how long the row of letters and digits is with which a text begins -/
def wordN : List UInt8 → Nat
  | [] => 0
  | b :: r => if wordB b = true then wordN r + 1 else 0
/-- behind a mark: what stands within marks, and how many bytes that is with the mark that ends it -/
def markL : List UInt8 → Option (List UInt8 × Nat)
  | [] => none
  | b :: r => if plainB b = false then none else if b = 34 then
      (match r with
       | [] => some ([], 1)
       | c :: r' => if c = 34 then (markL r').map (fun p => (34 :: p.1, p.2 + 2)) else some ([], 1))
      else (markL r).map (fun p => (b :: p.1, p.2 + 1))
def twos : List (List UInt8) := [[60, 62], [60, 61], [62, 61]]
def ones : List UInt8 := [43, 45, 42, 47, 94, 38, 61, 60, 62, 40, 41, 44, 58]
/-- how long the sign is with which a text begins (0: none) -/
def oneB : List UInt8 → Bool
  | b :: _ => decide (b ∈ ones)
  | [] => false
def signN (l : List UInt8) : Nat := if l.take 4 = [35, 82, 69, 70] then 4 else if l.take 2 ∈ twos then 2 else if oneB l = true then 1 else 0
/-- a token: its kind, where it begins, its text, its number -/
structure Tok where
  k : Int
  at' : Nat
  t : List UInt8
  n : Int
/-- which token a text begins with, and how many bytes it has -/
def tokAt (l : List UInt8) : Option (Int × List UInt8 × Int × Nat) := match l with
  | [] => none
  | b :: r => if isD b = true then (if (leadD (b :: r)).2.2 = true then some (1, [], (leadD (b :: r)).1, (leadD (b :: r)).2.1) else none)
    else if b = 34 then (markL r).map (fun p => (2, p.1, 0, p.2 + 1))
    else if upB b = true then some (3, (b :: r).take (wordN (b :: r)), 0, wordN (b :: r))
    else if signN (b :: r) = 0 then none else some (4, (b :: r).take (signN (b :: r)), 0, signN (b :: r))

theorem word_le : ∀ l : List UInt8, wordN l ≤ l.length
  | [] => Nat.le_refl _
  | b :: r => by
    unfold wordN
    split
    · exact Nat.succ_le_succ (word_le r)
    · exact Nat.zero_le _
theorem wordN_in {b : UInt8} (h : wordB b = true) (l : List UInt8) : wordN (b :: l) = wordN l + 1 := if_pos h
theorem wordN_out {b : UInt8} (h : wordB b = false) (l : List UInt8) : wordN (b :: l) = 0 := if_neg (by rw [h]; exact Bool.noConfusion)
theorem wordN_stop {r : List UInt8} (h : ∀ c, r.head? = some c → wordB c = false) : wordN r = 0 := by
  cases r with
  | nil => rfl
  | cons c r' => exact wordN_out (h c rfl) r'
theorem word_cut : ∀ (l r : List UInt8), (∀ c, r.head? = some c → wordB c = false) → wordN (l.take (wordN l) ++ r) = wordN l
  | [], r, h => wordN_stop h
  | b :: l, r, h => by
    cases hb : wordB b with
    | true => rw [wordN_in hb, List.take_succ_cons, List.cons_append, wordN_in hb, word_cut l r h]
    | false => rw [wordN_out hb, List.take_zero, List.nil_append, wordN_stop h]
theorem word_end : ∀ (l : List UInt8) (c : UInt8), l[wordN l]? = some c → wordB c = false
  | [], c, h => by simp at h
  | b :: l, c, h => by
    unfold wordN at h
    by_cases hb : wordB b = true
    · rw [if_pos hb, List.getElem?_cons_succ] at h
      exact word_end l c h
    · rw [if_neg hb, List.getElem?_cons_zero] at h
      rw [← Option.some.inj h]
      simpa using hb
theorem mark_facts : ∀ (N : Nat) (r : List UInt8), r.length ≤ N → ∀ (x : List UInt8) (n : Nat), markL r = some (x, n) → 1 ≤ n ∧ n ≤ r.length ∧ r[n]? ≠ some 34 ∧ r.take n = quoteL x ++ [34] ∧ ∀ s : List UInt8, s.head? ≠ some 34 → markL (r.take n ++ s) = some (x, n)
  | _, [], _, x, n, h => by simp [markL] at h
  | 0, b :: r, hN, _, _, _ => by simp at hN
  | N + 1, b :: r, hN, x, n, h => by
    rw [List.length_cons] at hN
    unfold markL at h
    by_cases hp : plainB b = false
    · rw [if_pos hp] at h; cases h
    rw [if_neg hp] at h
    by_cases h34 : b = 34
    · rw [if_pos h34] at h
      subst h34
      have one : ∀ s : List UInt8, s.head? ≠ some 34 → markL ([34] ++ s) = some ([], 1) := fun s hs => by
        show markL (34 :: s) = _
        unfold markL
        rw [if_neg hp, if_pos rfl]
        cases s with
        | nil => rfl
        | cons c s' => exact if_neg (fun e => hs (by rw [e]; rfl))
      cases r with
      | nil =>
        obtain ⟨rfl, rfl⟩ := Prod.mk.inj (Option.some.inj h)
        exact ⟨Nat.le_refl _, Nat.le_refl _, by simp, rfl, one⟩
      | cons c r' =>
        dsimp only at h
        by_cases hc : c = 34
        · rw [if_pos hc] at h
          subst hc
          cases hm : markL r' with
          | none => rw [hm] at h; cases h
          | some p =>
            obtain ⟨y, m⟩ := p
            rw [hm] at h
            obtain ⟨rfl, rfl⟩ := Prod.mk.inj (Option.some.inj h)
            rw [List.length_cons] at hN
            obtain ⟨g1, g2, g3, g4, g5⟩ := mark_facts N r' (by omega) y m hm
            refine ⟨by omega, by rw [List.length_cons, List.length_cons]; omega, by simpa using g3, ?_, fun s hs => ?_⟩
            · show 34 :: 34 :: r'.take m = quoteL (34 :: y) ++ [34]
              rw [quoteL_mark, g4]
              rfl
            · show markL (34 :: 34 :: (r'.take m ++ s)) = _
              unfold markL
              rw [if_neg hp, if_pos rfl]
              dsimp only
              rw [if_pos rfl, g5 s hs]
              rfl
        · rw [if_neg hc] at h
          obtain ⟨rfl, rfl⟩ := Prod.mk.inj (Option.some.inj h)
          refine ⟨Nat.le_refl _, by rw [List.length_cons]; omega, by simpa using hc, rfl, one⟩
    · rw [if_neg h34] at h
      cases hm : markL r with
      | none => rw [hm] at h; cases h
      | some p =>
        obtain ⟨y, m⟩ := p
        rw [hm] at h
        obtain ⟨rfl, rfl⟩ := Prod.mk.inj (Option.some.inj h)
        obtain ⟨g1, g2, g3, g4, g5⟩ := mark_facts N r (by omega) y m hm
        refine ⟨by omega, by rw [List.length_cons]; omega, by simpa using g3, ?_, fun s hs => ?_⟩
        · rw [List.take_succ_cons, quoteL_skip h34, g4]
          rfl
        · rw [List.take_succ_cons, List.cons_append]
          unfold markL
          rw [if_neg hp, if_neg h34, g5 s hs]
          rfl
theorem ones_not {b : UInt8} (h : b ∈ ones) : b ≠ 35 := fun e => by subst e; exact absurd h (by decide)
theorem two_len {x : List UInt8} (h : x ∈ twos) : x.length = 2 ∧ x.head? ≠ some 35 := by
  simp only [twos, List.mem_cons, List.not_mem_nil, or_false] at h
  rcases h with rfl | rfl | rfl <;> exact ⟨rfl, by decide⟩
theorem sign_le (l : List UInt8) : signN l ≤ l.length := by
  unfold signN
  split
  · rename_i h
    have := congrArg List.length h
    rw [List.length_take] at this
    simp at this
    omega
  · split
    · rename_i h
      have := (two_len h).1
      rw [List.length_take] at this
      omega
    · cases l with
      | nil => exact Nat.le_refl _
      | cons b r => split <;> rw [List.length_cons] <;> omega
theorem sign_cut {l r : List UInt8} (h0 : signN l ≠ 0) (h : r.head? = l[signN l]? ∨ r.head? = none ∨ r.head? = some 32) : signN (l.take (signN l) ++ r) = signN l := by
  have hle := sign_le l
  unfold signN at h h0 hle ⊢
  by_cases h4 : l.take 4 = [35, 82, 69, 70]
  · rw [if_pos h4, if_pos (by rw [h4]; rfl)]
  rw [if_neg h4] at h h0 hle ⊢
  by_cases h2 : l.take 2 ∈ twos
  · rw [if_pos h2] at h h0 hle ⊢
    have hl2 : (l.take 2).length = 2 := (two_len h2).1
    have hne : ¬ (l.take 2 ++ r).take 4 = [35, 82, 69, 70] := fun e => by
      have h3 := (two_len h2).2
      cases hx : l.take 2 with
      | nil => rw [hx] at hl2; simp at hl2
      | cons b q =>
        rw [hx] at e h3
        simp at e
        exact h3 (by rw [e.1]; rfl)
    rw [if_neg hne, if_pos (by rw [List.take_append_of_le_length (by omega), List.take_take]; exact h2)]
  rw [if_neg h2] at h h0 hle ⊢
  cases l with
  | nil => exact absurd (show (if oneB [] = true then 1 else 0) = 0 from rfl) h0
  | cons b q =>
    by_cases h1 : b ∈ ones
    · have hone : oneB (b :: q) = true := decide_eq_true h1
      rw [if_pos hone] at h h0 ⊢
      show (if (b :: r).take 4 = [35, 82, 69, 70] then 4 else if (b :: r).take 2 ∈ twos then 2 else if oneB (b :: r) = true then 1 else 0) = 1
      have hne : ¬ (b :: r).take 4 = [35, 82, 69, 70] := fun e => ones_not h1 (List.head_eq_of_cons_eq e)
      rw [if_neg hne, if_neg ?_, if_pos (show oneB (b :: r) = true from decide_eq_true h1)]
      intro h5
      cases r with
      | nil => have := (two_len h5).1; simp at this
      | cons c r' =>
        rcases h with h | h | h
        · have e : q.head? = some c := by rw [List.head?_eq_getElem?]; simpa using h.symm
          cases q with
          | nil => simp at e
          | cons c' q' =>
            obtain rfl : c' = c := by simpa using e
            exact h2 h5
        · simp at h
        · obtain rfl : c = 32 := by simpa using h
          have h6 : [b, 32] ∈ twos := h5
          simp [twos] at h6
    · rw [if_neg (show ¬ oneB (b :: q) = true from fun e => h1 (of_decide_eq_true e))] at h0
      exact absurd rfl h0
theorem lead_more : ∀ {m : Nat} {l : List UInt8}, leadN m l < m → digAt l (leadN m l) = false
  | 0, _, h => absurd h (Nat.not_lt_zero _)
  | m + 1, [], _ => rfl
  | m + 1, c :: r, h => by
    unfold leadN at h ⊢
    cases hc : isD c with
    | true =>
      rw [hc, if_pos rfl] at h
      rw [if_pos rfl]
      have := lead_more (m := m) (l := r) (by omega)
      unfold digAt at this ⊢
      rw [List.getElem?_cons_succ]
      exact this
    | false =>
      rw [if_neg Bool.false_ne_true]
      exact hc
/-- a number: what comes behind it -/
theorem lead_cut {l r : List UInt8} {n : Int} {m : Nat} (h : leadD l = (n, m, true)) (hd : l[m]? ≠ some 46) (hr : r.head? = l[m]? ∨ r.head? = none ∨ r.head? = some 32) : 1 ≤ m ∧ m ≤ l.length ∧ leadD (l.take m ++ r) = (n, m, true) := by
  have hw := wholeL_all 30 l
  have hwl := wholeL_len 30 l
  have hp := partR_all (restL 30 l)
  have hpl := partR_len (restL 30 l)
  have hsplit : l = wholeL 30 l ++ restL 30 l := (List.take_append_drop _ _).symm
  have hstop : (wholeL 30 l).length = 30 ∨ digAt (restL 30 l) 0 = false := by
    by_cases h30 : (wholeL 30 l).length = 30
    · exact .inl h30
    · refine .inr ?_
      cases hc : digAt (restL 30 l) 0 with
      | false => rfl
      | true =>
        exfalso
        have h1 : (wholeL 30 l).length = leadN 30 l := by unfold wholeL; rw [List.length_take]; exact Nat.min_eq_left (lead_le 30 l).2
        have h2 := lead_more (m := 30) (l := l) (by omega)
        rw [digAt, restL, List.getElem?_drop, Nat.add_zero] at hc
        rw [digAt] at h2
        rw [h2] at hc
        cases hc
  unfold leadD at h
  generalize wholeL 30 l = W at *
  generalize restL 30 l = R at *
  by_cases hk0 : ¬ (meantD false W (partR R)).2 = true
  · rw [if_neg hk0] at h; simp at h
  have hk : (meantD false W (partR R)).2 = true := Classical.not_not.1 hk0
  clear hk0
  rw [if_pos hk] at h
  simp only [Prod.mk.injEq, and_true] at h
  obtain ⟨h1, h2⟩ := h
  have hW : W ≠ [] := fun e => by rw [e, meantD_nil] at hk; simp at hk
  have hW1 : 1 ≤ W.length := List.length_pos_iff.2 hW
  have hdig : ∀ s : List UInt8, s.head? = none ∨ s.head? = some 32 → digAt s 0 = false := fun s hs => by
    unfold digAt
    rw [← List.head?_eq_getElem?]
    rcases hs with e | e <;> rw [e] <;> rfl
  by_cases hpe : partR R = []
  · rw [hpe] at h1 h2 hk
    have hm : m = W.length := by rw [← h2]; exact if_pos rfl
    have hh : l[m]? = R.head? := by rw [hm, hsplit, List.getElem?_append_right (Nat.le_refl _), Nat.sub_self, List.head?_eq_getElem?]
    have ht : l.take m = W := by rw [hm, hsplit]; exact List.take_left' rfl
    refine ⟨by omega, by rw [hm, hsplit, List.length_append]; omega, ?_⟩
    rw [ht]
    have hr46 : r.head? ≠ some 46 := by
      rcases hr with e | e | e
      · rw [e]; exact hd
      · rw [e]; exact nofun
      · rw [e]; decide
    have hst : W.length = 30 ∨ digAt r 0 = false := by
      rcases hstop with e | e
      · exact .inl e
      · refine .inr ?_
        rcases hr with e1 | e1
        · unfold digAt at e ⊢
          rw [← List.head?_eq_getElem?] at e ⊢
          rw [e1, hh]
          exact e
        · exact hdig r e1
    obtain ⟨g1, g2⟩ := wholeL_app (m := 30) hw hwl hst
    unfold leadD
    rw [g1, g2, partR_odd hr46, if_pos hk, h1]
    rw [show sizeL W [] = W.length from if_pos rfl, ← hm]
  · have hR : ∃ R2, R = 46 :: R2 := by
      cases R with
      | nil => exact absurd rfl hpe
      | cons c R2 =>
        by_cases hc : c = 46
        · exact ⟨R2, by rw [hc]⟩
        · exact absurd (partR_odd (by simpa using hc)) hpe
    obtain ⟨R2, rfl⟩ := hR
    rw [partR_point] at *
    have hpl2 : (R2.take (leadN 4 R2)).length = leadN 4 R2 := by rw [List.length_take]; exact Nat.min_eq_left (lead_le 4 R2).2
    have hm : m = W.length + 1 + leadN 4 R2 := by rw [← h2, sizeL, if_neg hpe, hpl2]
    have hh : l[m]? = (R2.drop (leadN 4 R2)).head? := by
      rw [hm, hsplit, List.getElem?_append_right (by omega), show W.length + 1 + leadN 4 R2 - W.length = leadN 4 R2 + 1 from by omega, List.getElem?_cons_succ, List.head?_eq_getElem?, List.getElem?_drop, Nat.add_zero]
    have ht : l.take m = W ++ 46 :: R2.take (leadN 4 R2) := by
      rw [hm, hsplit, List.take_append, List.take_of_length_le (by omega), show W.length + 1 + leadN 4 R2 - W.length = leadN 4 R2 + 1 from by omega, List.take_succ_cons]
    have hlen := (lead_le 4 R2).2
    refine ⟨by omega, by rw [hm, hsplit, List.length_append, List.length_cons]; omega, ?_⟩
    have hst : leadN 4 R2 = 4 ∨ digAt r 0 = false := by
      by_cases e4 : leadN 4 R2 = 4
      · exact .inl e4
      · refine .inr ?_
        have h3 := lead_more (m := 4) (l := R2) (by have := (lead_le 4 R2).1; omega)
        rcases hr with e1 | e1
        · unfold digAt at h3 ⊢
          rw [← List.head?_eq_getElem?, e1, hh, List.head?_eq_getElem?, List.getElem?_drop, Nat.add_zero]
          exact h3
        · exact hdig r e1
    rw [ht, List.append_assoc, List.cons_append]
    obtain ⟨g1, g2⟩ := wholeL_app (m := 30) (w := W) (r := 46 :: (R2.take (leadN 4 R2) ++ r)) hw hwl (.inr rfl)
    have g3 : leadN 4 (R2.take (leadN 4 R2) ++ r) = leadN 4 R2 := by
      rw [lead_app hp hpl (by rw [hpl2]; exact hst), hpl2]
    have g4 : partR (46 :: (R2.take (leadN 4 R2) ++ r)) = R2.take (leadN 4 R2) := by
      rw [partR_point, g3]
      exact List.take_left' hpl2
    unfold leadD
    rw [g1, g2, g4, if_pos hk, h1, h2]
end Go.Proofs.YtcgpggknmhlnkaaDoor.Lex

/- Texts within marks as the program reads them: where the last mark is, whether all bytes may be, each two marks one; in lists alone. -/
import Derived.Test.YtmoednmgmmgjeaaDoorLexWays
import Derived.Lib.ReplaceLaws
namespace Go.Proofs.YtmoednmgmmgjeaaDoor.Lex
open Dec Dig
open Val (quoteL quoteL_skip quoteL_mark)

theorem pair_skip {b : UInt8} (h : b ≠ 34) (s : List UInt8) : Go.Lib.index (b :: s) [34, 34] = if Go.Lib.index s [34, 34] == -1 then -1 else Go.Lib.index s [34, 34] + 1 := by
  have hp : ([34, 34] : List UInt8).isPrefixOf (b :: s) = false := by simp [List.isPrefixOf, Ne.symm h]
  rw [Go.Lib.index, hp]
  simp
theorem pair_hit (s : List UInt8) : Go.Lib.index (34 :: 34 :: s) [34, 34] = ((0 : Nat) : Int) := by rw [Go.Lib.index]; simp [List.isPrefixOf]
theorem skip_repl {b : UInt8} (h : b ≠ 34) (s : List UInt8) : Go.Lib.replaceK [34, 34] [34] (Go.Lib.count (b :: s) [34, 34]) (b :: s) = b :: Go.Lib.replaceK [34, 34] [34] (Go.Lib.count s [34, 34]) s := by
  have hi := pair_skip h s
  by_cases hm : Go.Lib.index s [34, 34] = -1
  · rw [if_pos (beq_iff_eq.2 hm)] at hi
    rw [Go.Lib.count_miss hi, Go.Lib.count_miss hm]
    rfl
  · obtain ⟨i, e⟩ : ∃ i : Nat, Go.Lib.index s [34, 34] = i := ⟨(Go.Lib.index s [34, 34]).toNat, by have := Go.Lib.index_ge s [34, 34]; omega⟩
    rw [if_neg (fun e => hm (beq_iff_eq.1 e)), e] at hi
    have hi2 : Go.Lib.index (b :: s) [34, 34] = ((i + 1 : Nat) : Int) := by rw [hi]; rfl
    have e1 : Go.Lib.count (b :: s) [34, 34] = 1 + Go.Lib.count (s.drop (i + 2)) [34, 34] := by
      rw [Go.Lib.count_hit (by simp) hi2]
      show 1 + Go.Lib.count ((b :: s).drop (i + 1 + 2)) [34, 34] = _
      rw [show i + 1 + 2 = (i + 2) + 1 from by omega, List.drop_succ_cons]
    have e2 : Go.Lib.count s [34, 34] = 1 + Go.Lib.count (s.drop (i + 2)) [34, 34] := Go.Lib.count_hit (by simp) e
    rw [e1, e2, Nat.add_comm 1, Go.Lib.replaceK_hit _ _ _ _ _ hi2, Go.Lib.replaceK_hit _ _ _ _ _ e, List.take_succ_cons]
    show _ ++ _ ++ Go.Lib.replaceK _ _ _ ((b :: s).drop (i + 1 + 2)) = b :: (_ ++ _ ++ Go.Lib.replaceK _ _ _ (s.drop (i + 2)))
    rw [show i + 1 + 2 = (i + 2) + 1 from by omega, List.drop_succ_cons]
    rfl
theorem unquote_eq : ∀ x : List UInt8, Go.Lib.replaceK [34, 34] [34] (Go.Lib.count (quoteL x) [34, 34]) (quoteL x) = x
  | [] => rfl
  | b :: l => by
    by_cases h : b = 34
    · subst h
      rw [quoteL_mark]
      have e1 : Go.Lib.count (34 :: 34 :: quoteL l) [34, 34] = 1 + Go.Lib.count (quoteL l) [34, 34] := Go.Lib.count_hit (by simp) (pair_hit _)
      rw [e1, Nat.add_comm 1, Go.Lib.replaceK_hit _ _ _ _ _ (pair_hit _)]
      show 34 :: Go.Lib.replaceK [34, 34] [34] _ (quoteL l) = _
      rw [unquote_eq l]
    · rw [quoteL_skip h, skip_repl h, unquote_eq l]
theorem unquote_all (x : List UInt8) : Go.Lib.replaceAll (quoteL x) [34, 34] [34] = x := by
  unfold Go.Lib.replaceAll Go.Lib.replace
  rw [if_neg (by decide)]
  unfold Go.Lib.replaceNum
  rw [if_pos (Or.inl (by decide))]
  exact unquote_eq x
/-- behind a mark: how many bytes there are up to the mark that ends it, and with it -/
def rawL : List UInt8 → Option Nat
  | [] => none
  | b :: r => if b = 34 then (match r with
      | [] => some 1
      | c :: r' => if c = 34 then (rawL r').map (· + 2) else some 1)
      else (rawL r).map (· + 1)
theorem raw_byte {b : UInt8} (h : b ≠ 34) (r : List UInt8) : rawL (b :: r) = (rawL r).map (· + 1) := by
  conv => lhs; unfold rawL
  exact if_neg h
theorem raw_two (r : List UInt8) : rawL (34 :: 34 :: r) = (rawL r).map (· + 2) := by
  conv => lhs; unfold rawL
  rw [if_pos rfl]
  exact if_pos rfl
theorem raw_end {r : List UInt8} (h : r.head? ≠ some 34) : rawL (34 :: r) = some 1 := by
  conv => lhs; unfold rawL
  rw [if_pos rfl]
  cases r with
  | nil => rfl
  | cons c r => exact if_neg fun e => h (by rw [e]; rfl)
theorem mark_raw : ∀ (N : Nat) (r : List UInt8), r.length ≤ N →
    match rawL r with
    | none => markL r = none
    | some n => 1 ≤ n ∧ n ≤ r.length ∧ (if (r.take n).all plainB = true then ∃ x, markL r = some (x, n) else markL r = none)
  | _, [], _ => rfl
  | 0, b :: r, hN => by simp at hN
  | N + 1, b :: r, hN => by
    rw [List.length_cons] at hN
    by_cases h34 : b = 34
    · subst h34
      by_cases hh : r.head? = some 34
      · cases r with
        | nil => cases hh
        | cons c r' =>
          obtain rfl : c = 34 := Option.some.inj hh
          rw [List.length_cons] at hN
          have ih := mark_raw N r' (by omega)
          rw [raw_two]
          have e : markL (34 :: 34 :: r') = (markL r').map (fun p => (34 :: p.1, p.2 + 2)) := by
            conv => lhs; unfold markL
            rw [if_neg (by decide), if_pos rfl]
            exact if_pos rfl
          rw [e]
          cases hr : rawL r' with
          | none => rw [hr] at ih; dsimp only at ih ⊢; rw [ih]; rfl
          | some n =>
            rw [hr] at ih
            dsimp only [Option.map_some] at ih ⊢
            obtain ⟨h1, h2, h3⟩ := ih
            refine ⟨by omega, by simp only [List.length_cons]; omega, ?_⟩
            rw [List.take_succ_cons, List.take_succ_cons, List.all_cons, List.all_cons, show plainB 34 = true from rfl, Bool.true_and, Bool.true_and]
            split
            · rename_i hp
              rw [if_pos hp] at h3
              obtain ⟨x, hx⟩ := h3
              exact ⟨34 :: x, by rw [hx]; rfl⟩
            · rename_i hp
              rw [if_neg hp] at h3
              rw [h3]; rfl
      · rw [raw_end hh]
        refine ⟨Nat.le_refl _, by rw [List.length_cons]; omega, ?_⟩
        rw [if_pos (by rw [List.take_succ_cons, List.take_zero]; rfl)]
        refine ⟨[], ?_⟩
        conv => lhs; unfold markL
        rw [if_neg (by decide), if_pos rfl]
        cases r with
        | nil => rfl
        | cons c r => exact if_neg fun e => hh (by rw [e]; rfl)
    · have ih := mark_raw N r (by omega)
      rw [raw_byte h34]
      cases hp : plainB b with
      | false =>
        have e : markL (b :: r) = none := by
          conv => lhs; unfold markL
          exact if_pos hp
        cases hr : rawL r with
        | none => exact e
        | some n =>
          rw [hr] at ih
          dsimp only [Option.map_some] at ih ⊢
          obtain ⟨h1, h2, h3⟩ := ih
          refine ⟨by omega, by rw [List.length_cons]; omega, ?_⟩
          rw [List.take_succ_cons, List.all_cons, hp, Bool.false_and, if_neg Bool.false_ne_true]
          exact e
      | true =>
        have e : markL (b :: r) = (markL r).map (fun p => (b :: p.1, p.2 + 1)) := by
          conv => lhs; unfold markL
          rw [if_neg (by rw [hp]; exact Bool.noConfusion), if_neg h34]
        rw [e]
        cases hr : rawL r with
        | none => rw [hr] at ih; dsimp only at ih ⊢; rw [ih]; rfl
        | some n =>
          rw [hr] at ih
          dsimp only [Option.map_some] at ih ⊢
          obtain ⟨h1, h2, h3⟩ := ih
          refine ⟨by omega, by rw [List.length_cons]; omega, ?_⟩
          rw [List.take_succ_cons, List.all_cons, hp, Bool.true_and]
          split
          · rename_i hq
            rw [if_pos hq] at h3
            obtain ⟨x, hx⟩ := h3
            exact ⟨b :: x, by rw [hx]; rfl⟩
          · rename_i hq
            rw [if_neg hq] at h3
            rw [h3]; rfl
/-- where a reader of such a text stands -/
def RawAt (R : List UInt8) (j : Nat) : Prop := rawL R = (rawL (R.drop j)).map (j + ·)
theorem RawAt.start (R : List UInt8) : RawAt R 0 := by
  unfold RawAt
  rw [List.drop_zero]
  cases rawL R <;> simp
theorem raw_drop {R : List UInt8} {j : Nat} {b : UInt8} (h : R[j]? = some b) : R.drop j = b :: R.drop (j + 1) := by
  obtain ⟨hj, hb⟩ := List.getElem?_eq_some_iff.1 h
  rw [List.drop_eq_getElem_cons hj, hb]
theorem RawAt.byte {R : List UInt8} {j : Nat} {b : UInt8} (h : RawAt R j) (hb : R[j]? = some b) (h34 : b ≠ 34) : RawAt R (j + 1) := by
  unfold RawAt at *
  rw [h, raw_drop hb, raw_byte h34]
  cases rawL (R.drop (j + 1)) with
  | none => rfl
  | some p => simp only [Option.map_some]; congr 1; omega
theorem RawAt.two {R : List UInt8} {j : Nat} (h : RawAt R j) (hb : R[j]? = some 34) (hc : R[j + 1]? = some 34) : RawAt R (j + 2) := by
  unfold RawAt at *
  rw [h, raw_drop hb, raw_drop hc, raw_two]
  cases rawL (R.drop (j + 2)) with
  | none => rfl
  | some p => simp only [Option.map_some]; congr 1; omega
theorem RawAt.ends {R : List UInt8} {j : Nat} (h : RawAt R j) (hb : R[j]? = some 34) (hc : R[j + 1]? ≠ some 34) : rawL R = some (j + 1) := by
  unfold RawAt at h
  rw [h, raw_drop hb, raw_end (by rw [List.head?_eq_getElem?, List.getElem?_drop, Nat.add_zero]; exact hc)]
  rfl
theorem RawAt.out {R : List UInt8} {j : Nat} (h : RawAt R j) (hb : R.length ≤ j) : rawL R = none := by
  unfold RawAt at h
  rw [h, List.drop_eq_nil_of_le hb]
  rfl
end Go.Proofs.YtmoednmgmmgjeaaDoor.Lex

/- In which order numbers are taken changes no least and no greatest one, and no sum, in plain lists. No function of the program is named here. -/
import Derived.Test.YtcampdedhfhkbaaDoorFldMath
import Derived.Test.YtcampdedhfhkbaaDoorDecLeaf
namespace Go.Proofs.YtcampdedhfhkbaaDoor.Fld
open Dec Dig Val Txt

theorem give_yes {b : Bool} {x n : Int} (h : giveD b x = (n, true)) : n = x := by
  unfold giveD at h
  split at h
  · exact (Prod.mk.inj h).1.symm
  · exact absurd (Prod.mk.inj h).2 (by decide)
theorem addD_yes {a b n : Int} (h : addD a b = (n, true)) : n = a + b := give_yes h
theorem sum_total : ∀ (xs : List Int) (s n : Int), totalD addD s xs = (n, true) → n = s + xs.sum
  | [], s, n, h => by
    have := (Prod.mk.inj h).1
    simp only [List.sum_nil]
    omega
  | x :: r, s, n, h => by
    rcases hs : addD s x with ⟨m, b⟩
    rw [totalD, hs] at h
    cases b
    · exact absurd (Prod.mk.inj h).2 (by decide)
    · have h1 := sum_total r m n h
      have h2 := addD_yes hs
      rw [List.sum_cons]
      omega
/-- the better one of what came so far -/
def bestL (most : Bool) (s : Int) (xs : List Int) : Int := xs.foldl (fun a x => if btr most x a = true then x else a) s
theorem best_total (most : Bool) : ∀ (xs : List Int) (s : Int), totalD (bestD most) s xs = (bestL most s xs, true)
  | [], _ => rfl
  | x :: r, s => by
    have ih := best_total most r (if btr most x s = true then x else s)
    rw [totalD]
    show totalD (bestD most) (if btr most x s = true then x else s) r = _
    rw [ih]
    rfl
theorem bestL_snoc (most : Bool) (s : Int) (xs : List Int) (x : Int) : bestL most s (xs ++ [x]) = if btr most x (bestL most s xs) = true then x else bestL most s xs := by
  unfold bestL
  rw [List.foldl_append]
  rfl
theorem bestL_at {most : Bool} {s : Int} {xs : List Int} {k : Nat} {x : Int} (h : xs[k]? = some x) : bestL most s (xs.take (k + 1)) = if btr most x (bestL most s (xs.take k)) = true then x else bestL most s (xs.take k) := by
  rw [List.take_add_one, h]
  exact bestL_snoc most s (xs.take k) x
def leB (most : Bool) (a b : Int) : Prop := if most = true then b ≤ a else a ≤ b
theorem btr_yes {most : Bool} {x a : Int} (h : btr most x a = true) : leB most x a := by
  unfold btr at h
  unfold leB
  cases most <;> simp at h ⊢ <;> omega
theorem btr_no {most : Bool} {x a : Int} (h : btr most x a = false) : leB most a x := by
  unfold btr at h
  unfold leB
  cases most <;> simp at h ⊢ <;> omega
theorem leB_trans {most : Bool} {a b c : Int} (h1 : leB most a b) (h2 : leB most b c) : leB most a c := by
  unfold leB at *
  cases most <;> simp at h1 h2 ⊢ <;> omega
theorem leB_anti {most : Bool} {a b : Int} (h1 : leB most a b) (h2 : leB most b a) : a = b := by
  unfold leB at *
  cases most <;> simp at h1 h2 <;> omega
theorem leB_refl (most : Bool) (a : Int) : leB most a a := by
  unfold leB
  cases most <;> simp
theorem best_facts (most : Bool) : ∀ (xs : List Int) (s : Int), bestL most s xs ∈ s :: xs ∧ ∀ y ∈ s :: xs, leB most (bestL most s xs) y
  | [], s => ⟨by simp [bestL], fun y hy => by simp at hy; subst hy; exact leB_refl most _⟩
  | x :: r, s => by
    obtain ⟨h1, h2⟩ := best_facts most r (if btr most x s = true then x else s)
    have e : bestL most s (x :: r) = bestL most (if btr most x s = true then x else s) r := rfl
    rw [e]
    cases hb : btr most x s
    · rw [hb] at h1 h2
      simp only [Bool.false_eq_true, if_false] at h1 h2 ⊢
      refine ⟨?_, fun y hy => ?_⟩
      · rcases List.mem_cons.1 h1 with h | h
        · rw [h]; simp
        · simp [h]
      · rcases List.mem_cons.1 hy with rfl | hy
        · exact h2 _ (by simp)
        · rcases List.mem_cons.1 hy with rfl | hy
          · exact leB_trans (h2 s (by simp)) (btr_no hb)
          · exact h2 y (by simp [hy])
    · rw [hb] at h1 h2
      simp only [if_true] at h1 h2 ⊢
      refine ⟨?_, fun y hy => ?_⟩
      · rcases List.mem_cons.1 h1 with h | h
        · rw [h]; simp
        · simp [h]
      · rcases List.mem_cons.1 hy with rfl | hy
        · exact leB_trans (h2 x (by simp)) (btr_yes hb)
        · exact h2 y hy
theorem best_rev (most : Bool) (s : Int) (xs : List Int) : bestL most s xs.reverse = bestL most s xs := by
  obtain ⟨h1, h2⟩ := best_facts most xs s
  obtain ⟨h3, h4⟩ := best_facts most xs.reverse s
  exact leB_anti (h4 _ (by simpa using h1)) (h2 _ (by simpa using h3))
theorem best_first {most : Bool} {x : Int} (h1 : -9223372036854775807 ≤ x) (h2 : x ≤ 9223372036854775807) : bestL most (startB most) [x] = x := by
  unfold bestL startB btr
  cases most <;> simp <;> omega
theorem nums_rev (L : List Vl) : numsF L.reverse = (numsF L).reverse := List.filterMap_reverse
theorem count_rev (kind : Int) (L : List Vl) : countF kind L.reverse = countF kind L := List.countP_reverse
theorem nof_rev {L : List Vl} (h : NoF L) : NoF L.reverse := fun v hv => h v (by simpa using hv)
theorem rev_at {L : List Vl} {n k : Nat} {v : Vl} (hn : L.length = n) (hk : k < n) (h : L[n - 1 - k]? = some v) : L.reverse.take (k + 1) = L.reverse.take k ++ [v] := by
  rw [List.take_add_one, List.getElem?_reverse (by omega), hn, h]
  rfl
/-- no least and no greatest number is changed -/
theorem allD_rev (most : Bool) (L : List Vl) (h : NoF L) : allV (bestD most) (startB most) L.reverse = allV (bestD most) (startB most) L := by
  rw [allV_no h, allV_no (nof_rev h), nums_rev]
  unfold allD
  rw [best_total, best_total, best_rev]
  simp
/-- no sum, as long as neither way runs over -/
theorem sum_rev {L : List Vl} (h : NoF L) {x y : Int} (h1 : allV addD 0 L = (1, x)) (h2 : allV addD 0 L.reverse = (1, y)) : x = y := by
  rw [allV_no h] at h1
  rw [allV_no (nof_rev h), nums_rev] at h2
  unfold allD at h1 h2
  by_cases h0 : numsF L = []
  · rw [if_pos h0] at h1
    rw [if_pos (by simp [h0])] at h2
    have e1 := (Prod.mk.inj h1).2
    have e2 := (Prod.mk.inj h2).2
    omega
  · rw [if_neg h0] at h1
    rw [if_neg (by simpa using h0)] at h2
    rcases e1 : totalD addD 0 (numsF L) with ⟨a, b⟩
    rcases e2 : totalD addD 0 (numsF L).reverse with ⟨c, d⟩
    rw [e1] at h1
    rw [e2] at h2
    rcases got_kind a b with ⟨g, rfl⟩ | g
    · rcases got_kind c d with ⟨g2, rfl⟩ | g2
      · have s1 := sum_total _ _ _ e1
        have s2 := sum_total _ _ _ e2
        rw [List.sum_reverse] at s2
        rw [g] at h1
        rw [g2] at h2
        have f1 := (Prod.mk.inj h1).2
        have f2 := (Prod.mk.inj h2).2
        omega
      · rw [g2] at h2
        exact absurd (Prod.mk.inj h2).1 (by decide)
    · rw [g] at h1
      exact absurd (Prod.mk.inj h1).1 (by decide)
end Go.Proofs.YtcampdedhfhkbaaDoor.Fld

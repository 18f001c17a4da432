/- Values summed up, in plain lists: the first fault, the numbers, what is reckoned from them one behind the other, the least and the greatest, how many are of a kind, all as texts, and how many are true. No function of the program is named here.
   In which order numbers are taken changes no least and no greatest one, and no sum, in plain lists. No function of the program is named here.
   Slices that read as values, as numbers, and as texts; rows of one's own of them. No function of the program is named here. -/
import Derived.Test.YtbjomidkeignjaaGreatDoorValMath
import Derived.Test.YtbjomidkeignjaaGreatDoorG11
import Derived.Test.YtbjomidkeignjaaGreatDoorG12
import Derived.Test.YtbjomidkeignjaaGreatDoorDecLeaf
import Derived.Test.YtbjomidkeignjaaGreatDoorG10
namespace Go.Proofs.YtbjomidkeignjaaGreatDoor.Fld
open Dec Dig Val Txt

structure Vl where
  k : Int
  n : Int
  t : ByteArray
def Vl.cells (v : Vl) : List Value := [.int .i64 v.k, .int .i64 v.n, .string v.t]
def Vl.val (v : Vl) : Value := .agg #[.int .i64 v.k, .int .i64 v.n, .string v.t]
/-- a value that may be, of 64 bits -/
def Vl.may (v : Vl) : Prop := mayV v.k v.n v.t = true
def Vl.fits (v : Vl) : Prop := -9223372036854775808 ≤ v.n ∧ v.n ≤ 9223372036854775807
theorem size_zero {t : ByteArray} (h : t.size = 0) : t = ⟨#[]⟩ := by
  cases t with
  | mk d =>
    congr 1
    exact Array.eq_empty_of_size_eq_zero h
theorem may_ways {v : Vl} (h : v.may) : v = ⟨0, 0, ⟨#[]⟩⟩ ∨ (∃ n, v = ⟨1, n, ⟨#[]⟩⟩ ∧ -9223372036854775807 ≤ n) ∨ (∃ t, v = ⟨2, 0, t⟩ ∧ t.size ≤ 256) ∨ v = ⟨3, 0, ⟨#[]⟩⟩ ∨ v = ⟨3, 1, ⟨#[]⟩⟩ ∨ ∃ n, v = ⟨4, n, ⟨#[]⟩⟩ ∧ 1 ≤ n ∧ n ≤ 7 := by
  obtain ⟨k, n, t⟩ := v
  unfold Vl.may mayV mayD at h
  simp only [Bool.or_eq_true, Bool.and_eq_true, decide_eq_true_eq] at h
  rcases h with (((⟨⟨rfl, h1⟩, rfl⟩ | ⟨⟨rfl, h1⟩, h2⟩) | ⟨⟨rfl, rfl⟩, h1⟩) | ⟨⟨rfl, h1⟩, h2⟩) | ⟨⟨⟨rfl, h1⟩, h2⟩, h3⟩
  · exact .inl (by rw [size_zero h1])
  · exact .inr (.inl ⟨n, by rw [size_zero h1], h2⟩)
  · exact .inr (.inr (.inl ⟨t, rfl, h1⟩))
  · rw [size_zero h1]
    rcases h2 with rfl | rfl
    · exact .inr (.inr (.inr (.inl rfl)))
    · exact .inr (.inr (.inr (.inr (.inl rfl))))
  · exact .inr (.inr (.inr (.inr (.inr ⟨n, by rw [size_zero h1], h2, h3⟩))))
theorem may_fault {v : Vl} (h : v.may) (h4 : v.k = 4) : v = ⟨4, v.n, ⟨#[]⟩⟩ := by
  rcases may_ways h with rfl | ⟨n, rfl, _⟩ | ⟨t, rfl, _⟩ | rfl | rfl | ⟨n, rfl, _⟩ <;> first | rfl | (simp at h4; done)
theorem may_num_low {v : Vl} (h : v.may) (h1 : v.k = 1) : -9223372036854775807 ≤ v.n := by
  rcases may_ways h with rfl | ⟨n, rfl, h2⟩ | ⟨t, rfl, _⟩ | rfl | rfl | ⟨n, rfl, _⟩ <;> first | exact h2 | (simp at h1; done)
/-- no fault among them; the first one -/
def NoF (L : List Vl) : Prop := ∀ v ∈ L, ¬ v.k = 4
def FirstF (L : List Vl) (p : Nat) (v : Vl) : Prop := L[p]? = some v ∧ v.k = 4 ∧ ∀ i u, i < p → L[i]? = some u → ¬ u.k = 4
theorem fault_ways : ∀ L : List Vl, NoF L ∨ ∃ p v, FirstF L p v
  | [] => .inl fun v h => by cases h
  | u :: r => by
    by_cases h : u.k = 4
    · exact .inr ⟨0, u, rfl, h, fun i x hi => by omega⟩
    · rcases fault_ways r with h1 | ⟨p, v, h1, h2, h3⟩
      · exact .inl fun v hv => by
          rcases List.mem_cons.1 hv with rfl | hv
          · exact h
          · exact h1 v hv
      · refine .inr ⟨p + 1, v, by simpa using h1, h2, fun i x hi hx => ?_⟩
        cases i with
        | zero => simp at hx; subst hx; exact h
        | succ i => exact h3 i x (by omega) (by simpa using hx)
theorem NoF.at {L : List Vl} (h : NoF L) {k : Nat} {v : Vl} (hv : L[k]? = some v) : ¬ v.k = 4 := h v (List.mem_of_getElem? hv)
theorem FirstF.lt {L : List Vl} {p : Nat} {v : Vl} (h : FirstF L p v) : p < L.length := (List.getElem?_eq_some_iff.1 h.1).1
def faultF (L : List Vl) : Option Vl := L.find? fun v => decide (v.k = 4)
theorem faultF_none {L : List Vl} (h : NoF L) : faultF L = none := List.find?_eq_none.2 fun v hv => by simpa using h v hv
theorem faultF_some : ∀ {L : List Vl} {p : Nat} {v : Vl}, FirstF L p v → faultF L = some v
  | [], p, v, h => by have := h.lt; simp at this
  | u :: r, 0, v, h => by
    obtain ⟨h1, h2, _⟩ := h
    simp at h1
    subst h1
    unfold faultF
    rw [List.find?_cons, decide_eq_true h2]
  | u :: r, p + 1, v, h => by
    obtain ⟨h1, h2, h3⟩ := h
    have h0 := h3 0 u (by omega) rfl
    have ih := faultF_some (L := r) (p := p) (v := v) ⟨by simpa using h1, h2, fun i x hi hx => h3 (i + 1) x (by omega) (by simpa using hx)⟩
    unfold faultF at ih ⊢
    rw [List.find?_cons, decide_eq_false h0]
    exact ih
/-- the numbers of a list -/
def numsF (L : List Vl) : List Int := L.filterMap fun v => if v.k = 1 then some v.n else none
theorem numsF_hit {L : List Vl} {k : Nat} {v : Vl} (h : L[k]? = some v) (h1 : v.k = 1) : numsF (L.take (k + 1)) = numsF (L.take k) ++ [v.n] := by
  rw [List.take_add_one, h]
  simp [numsF, List.filterMap_append, h1]
theorem numsF_miss {L : List Vl} {k : Nat} {v : Vl} (h : L[k]? = some v) (h1 : ¬ v.k = 1) : numsF (L.take (k + 1)) = numsF (L.take k) := by
  rw [List.take_add_one, h]
  simp [numsF, List.filterMap_append, h1]
theorem numsF_len (L : List Vl) : (numsF L).length ≤ L.length := List.length_filterMap_le _ _
theorem numsF_mem {L : List Vl} {x : Int} (h : x ∈ numsF L) : ∃ v ∈ L, v.k = 1 ∧ v.n = x := by
  obtain ⟨v, hv, he⟩ := List.mem_filterMap.1 h
  split at he
  · exact ⟨v, hv, by assumption, by simpa using he⟩
  · cases he
theorem numsF_room {L : List Vl} (hm : ∀ v ∈ L, v.may) (hf : ∀ v ∈ L, v.fits) {x : Int} (h : x ∈ numsF L) : -9223372036854775807 ≤ x ∧ x ≤ 9223372036854775807 := by
  obtain ⟨v, hv, h1, rfl⟩ := numsF_mem h
  exact ⟨may_num_low (hm v hv) h1, (hf v hv).2⟩
/-- what comes of numbers, from a start on: it ends at the first step that has no answer -/
def totalD (step : Int → Int → Int × Bool) : Int → List Int → Int × Bool
  | s, [] => (s, true)
  | s, x :: r => match step s x with
    | (n, true) => totalD step n r
    | (n, false) => (n, false)
theorem drop_at {α : Type} {l : List α} {k : Nat} {z : α} (h : l[k]? = some z) : l.drop k = z :: l.drop (k + 1) := by
  obtain ⟨hk, rfl⟩ := List.getElem?_eq_some_iff.1 h
  exact List.drop_eq_getElem_cons hk
theorem total_yes {step : Int → Int → Int × Bool} {xs : List Int} {k : Nat} {s x n : Int} (h : xs[k]? = some x) (hs : step s x = (n, true)) : totalD step s (xs.drop k) = totalD step n (xs.drop (k + 1)) := by
  rw [drop_at h, totalD, hs]
theorem total_no {step : Int → Int → Int × Bool} {xs : List Int} {k : Nat} {s x n : Int} (h : xs[k]? = some x) (hs : step s x = (n, false)) : totalD step s (xs.drop k) = (n, false) := by
  rw [drop_at h, totalD, hs]
theorem total_end (step : Int → Int → Int × Bool) (s : Int) (xs : List Int) : totalD step s (xs.drop xs.length) = (s, true) := by rw [List.drop_length]; rfl
/-- the steps: of the sum, of the product, of the sum of the squares -/
def mulD (a b : Int) : Int × Bool := scaledD a b 10000
def sqD (a b : Int) : Int × Bool := match scaledD b b 10000 with
  | (s, true) => addD a s
  | (s, false) => (s, false)
/-- .. of the least and of the greatest number -/
def btr (most : Bool) (x a : Int) : Bool := if most then decide (a < x) else decide (x < a)
def bestD (most : Bool) (a x : Int) : Int × Bool := (if btr most x a = true then x else a, true)
def startB (most : Bool) : Int := if most then -9223372036854775807 else 9223372036854775807
/-- what is reckoned of a list of values: its kind and its number -/
def allD (step : Int → Int → Int × Bool) (start : Int) (xs : List Int) : Int × Int := if xs = [] then (1, 0) else gotV (totalD step start xs).1 (totalD step start xs).2
def allV (step : Int → Int → Int × Bool) (start : Int) (L : List Vl) : Int × Int := match faultF L with
  | some v => (4, v.n)
  | none => allD step start (numsF L)
theorem allV_no {step : Int → Int → Int × Bool} {start : Int} {L : List Vl} (h : NoF L) : allV step start L = allD step start (numsF L) := by rw [allV, faultF_none h]
theorem allV_yes {step : Int → Int → Int × Bool} {start : Int} {L : List Vl} {p : Nat} {v : Vl} (h : FirstF L p v) : allV step start L = (4, v.n) := by rw [allV, faultF_some h]
theorem got_kind (x : Int) (b : Bool) : (gotV x b = (1, x) ∧ b = true) ∨ gotV x b = (4, 4) := by
  unfold gotV
  cases b
  · exact .inr rfl
  · show ((numV x = (1, x)) ∧ true = true) ∨ numV x = (4, 4)
    unfold numV
    split
    · exact .inl ⟨rfl, rfl⟩
    · exact .inr rfl
theorem allD_kind (step : Int → Int → Int × Bool) (start : Int) (xs : List Int) : (allD step start xs).1 = 1 ∨ allD step start xs = (4, 4) := by
  unfold allD
  split
  · exact .inl rfl
  · rcases got_kind (totalD step start xs).1 (totalD step start xs).2 with ⟨h, _⟩ | h
    · exact .inl (by rw [h])
    · exact .inr h
/-- how many are of a kind -/
def isK (kind : Int) (v : Vl) : Bool := if kind = 1 then decide (v.k = 1) else if kind = 0 then decide (v.k = 0) || (decide (v.k = 2) && decide (v.t = ⟨#[]⟩)) else !decide (v.k = 0)
def countF (kind : Int) (L : List Vl) : Nat := L.countP (isK kind)
theorem count_hit {kind : Int} {L : List Vl} {k : Nat} {v : Vl} (h : L[k]? = some v) (h1 : isK kind v = true) : countF kind (L.take (k + 1)) = countF kind (L.take k) + 1 := by
  rw [List.take_add_one, h]
  simp [countF, List.countP_append, h1]
theorem count_miss {kind : Int} {L : List Vl} {k : Nat} {v : Vl} (h : L[k]? = some v) (h1 : isK kind v = false) : countF kind (L.take (k + 1)) = countF kind (L.take k) := by
  rw [List.take_add_one, h]
  simp [countF, List.countP_append, h1]
theorem count_le (kind : Int) (L : List Vl) : countF kind L ≤ L.length := List.countP_le_length
theorem count_nums : ∀ L : List Vl, countF 1 L = (numsF L).length
  | [] => rfl
  | v :: r => by
    have ih := count_nums r
    unfold countF numsF at ih ⊢
    rw [List.countP_cons, List.filterMap_cons, ih]
    by_cases h : v.k = 1 <;> simp [isK, h]
/-- the middle -/
def meanV (L : List Vl) : Int × Int := match faultF L with
  | some v => (4, v.n)
  | none => if numsF L = [] then (4, 1) else if (allD addD 0 (numsF L)).1 = 4 then (4, 4) else
      gotV (scaledD (allD addD 0 (numsF L)).2 1 (numsF L).length).1 (scaledD (allD addD 0 (numsF L)).2 1 (numsF L).length).2
theorem meanV_yes {L : List Vl} {p : Nat} {v : Vl} (h : FirstF L p v) : meanV L = (4, v.n) := by rw [meanV, faultF_some h]
theorem meanV_none {L : List Vl} (h : NoF L) (h0 : numsF L = []) : meanV L = (4, 1) := by rw [meanV, faultF_none h]; exact if_pos h0
theorem meanV_out {L : List Vl} (h : NoF L) (h0 : ¬ numsF L = []) (h1 : allD addD 0 (numsF L) = (4, 4)) : meanV L = (4, 4) := by
  rw [meanV, faultF_none h]
  simp only [if_neg h0, h1, if_true]
theorem meanV_in {L : List Vl} (h : NoF L) (h0 : ¬ numsF L = []) {x : Int} (h1 : allD addD 0 (numsF L) = (1, x)) : meanV L = gotV (scaledD x 1 (numsF L).length).1 (scaledD x 1 (numsF L).length).2 := by
  rw [meanV, faultF_none h]
  simp only [if_neg h0, h1]
  rfl
/-- a value's text, where it is no fault -/
def wordsF (v : Vl) : List UInt8 := if v.k = 0 then [] else if v.k = 1 then textD v.n else if v.k = 2 then v.t.data.toList else if v.n = 0 then noT.data.toList else yesT.data.toList
theorem words_len {v : Vl} (hm : v.may) (hf : v.fits) : (wordsF v).length ≤ 256 := by
  rcases may_ways hm with rfl | ⟨n, rfl, _⟩ | ⟨t, rfl, h⟩ | rfl | rfl | ⟨n, rfl, _⟩
  · exact Nat.zero_le _
  · have := text_len hf.1 hf.2
    show (textD n).length ≤ 256
    dsimp only at this
    omega
  · show t.data.toList.length ≤ 256
    rw [← Lib.size_eq]
    exact h
  · decide
  · decide
  · show (if n = 0 then noT.data.toList else yesT.data.toList).length ≤ 256
    split <;> decide
def concatV (L : List Vl) : Int × Int × List UInt8 := match faultF L with
  | some v => (4, v.n, [])
  | none => if (roomD (L.map wordsF).flatten).2 = true then (2, 0, (roomD (L.map wordsF).flatten).1) else (4, 2, [])
theorem concatV_yes {L : List Vl} {p : Nat} {v : Vl} (h : FirstF L p v) : concatV L = (4, v.n, []) := by rw [concatV, faultF_some h]
theorem concatV_in {L : List Vl} (h : NoF L) {m : List UInt8} (h1 : roomD (L.map wordsF).flatten = (m, true)) : concatV L = (2, 0, m) := by
  rw [concatV, faultF_none h, h1]
  rfl
theorem concatV_out {L : List Vl} (h : NoF L) {m : List UInt8} (h1 : roomD (L.map wordsF).flatten = (m, false)) : concatV L = (4, 2, []) := by
  rw [concatV, faultF_none h, h1]
  rfl
/-- a value as a truth -/
def truthF (v : Vl) : Int × Int := if v.k = 0 then (3, 0) else if v.k = 1 then (3, if v.n = 0 then 0 else 1) else if v.k = 2 then (if v.t = yesT then (3, 1) else if v.t = noT then (3, 0) else (4, 2)) else (v.k, v.n)
theorem truth_ways {v : Vl} (hm : v.may) : truthF v = (3, 0) ∨ truthF v = (3, 1) ∨ ∃ c, truthF v = (4, c) := by
  rcases may_ways hm with rfl | ⟨n, rfl, _⟩ | ⟨t, rfl, h⟩ | rfl | rfl | ⟨n, rfl, _⟩
  · exact .inl rfl
  · by_cases h : n = 0
    · exact .inl (by simp [truthF, h])
    · exact .inr (.inl (by simp [truthF, h]))
  · by_cases h1 : t = yesT
    · exact .inr (.inl (by simp [truthF, h1]))
    · by_cases h2 : t = noT
      · subst h2; exact .inl rfl
      · exact .inr (.inr ⟨2, by simp [truthF, h1, h2]⟩)
  · exact .inl rfl
  · exact .inr (.inl rfl)
  · exact .inr (.inr ⟨n, rfl⟩)
/-- whether an odd number of them is true -/
def xorV : Bool → List Vl → Int × Int
  | odd, [] => (3, if odd then 1 else 0)
  | odd, v :: r => if (truthF v).1 = 4 then (4, (truthF v).2) else xorV (odd != decide ((truthF v).2 = 1)) r
theorem xor_bad {L : List Vl} {k : Nat} {v : Vl} {odd : Bool} {c : Int} (h : L[k]? = some v) (h1 : truthF v = (4, c)) : xorV odd (L.drop k) = (4, c) := by
  rw [drop_at h, xorV, h1]
  rfl
theorem xor_zero {L : List Vl} {k : Nat} {v : Vl} {odd : Bool} (h : L[k]? = some v) (h1 : truthF v = (3, 0)) : xorV odd (L.drop k) = xorV odd (L.drop (k + 1)) := by
  rw [drop_at h, xorV, h1]
  cases odd <;> rfl
theorem xor_one {L : List Vl} {k : Nat} {v : Vl} {odd : Bool} (h : L[k]? = some v) (h1 : truthF v = (3, 1)) : xorV odd (L.drop k) = xorV (!odd) (L.drop (k + 1)) := by
  rw [drop_at h, xorV, h1]
  cases odd <;> rfl
theorem xor_end (odd : Bool) (L : List Vl) : xorV odd (L.drop L.length) = (3, if odd then 1 else 0) := by rw [List.drop_length]; rfl
end Go.Proofs.YtbjomidkeignjaaGreatDoor.Fld
namespace Go.Proofs.YtbjomidkeignjaaGreatDoor.Fld
open Dec Dig Val Txt

theorem give_yes {b : Bool} {x n : Int} (h : giveD b x = (n, true)) : n = x := by
  unfold giveD at h
  split at h
  · exact (Prod.mk.inj h).1.symm
  · exact absurd (Prod.mk.inj h).2 (by decide)
theorem addD_yes {a b n : Int} (h : addD a b = (n, true)) : n = a + b := give_yes h
theorem sum_total : ∀ (xs : List Int) (s n : Int), totalD addD s xs = (n, true) → n = s + xs.sum
  | [], s, n, h => by
    have := (Prod.mk.inj h).1
    simp only [List.sum_nil]
    omega
  | x :: r, s, n, h => by
    rcases hs : addD s x with ⟨m, b⟩
    rw [totalD, hs] at h
    cases b
    · exact absurd (Prod.mk.inj h).2 (by decide)
    · have h1 := sum_total r m n h
      have h2 := addD_yes hs
      rw [List.sum_cons]
      omega
/-- the better one of what came so far -/
def bestL (most : Bool) (s : Int) (xs : List Int) : Int := xs.foldl (fun a x => if btr most x a = true then x else a) s
theorem best_total (most : Bool) : ∀ (xs : List Int) (s : Int), totalD (bestD most) s xs = (bestL most s xs, true)
  | [], _ => rfl
  | x :: r, s => by
    have ih := best_total most r (if btr most x s = true then x else s)
    rw [totalD]
    show totalD (bestD most) (if btr most x s = true then x else s) r = _
    rw [ih]
    rfl
theorem bestL_snoc (most : Bool) (s : Int) (xs : List Int) (x : Int) : bestL most s (xs ++ [x]) = if btr most x (bestL most s xs) = true then x else bestL most s xs := by
  unfold bestL
  rw [List.foldl_append]
  rfl
theorem bestL_at {most : Bool} {s : Int} {xs : List Int} {k : Nat} {x : Int} (h : xs[k]? = some x) : bestL most s (xs.take (k + 1)) = if btr most x (bestL most s (xs.take k)) = true then x else bestL most s (xs.take k) := by
  rw [List.take_add_one, h]
  exact bestL_snoc most s (xs.take k) x
def leB (most : Bool) (a b : Int) : Prop := if most = true then b ≤ a else a ≤ b
theorem btr_yes {most : Bool} {x a : Int} (h : btr most x a = true) : leB most x a := by
  unfold btr at h
  unfold leB
  cases most <;> simp at h ⊢ <;> omega
theorem btr_no {most : Bool} {x a : Int} (h : btr most x a = false) : leB most a x := by
  unfold btr at h
  unfold leB
  cases most <;> simp at h ⊢ <;> omega
theorem leB_trans {most : Bool} {a b c : Int} (h1 : leB most a b) (h2 : leB most b c) : leB most a c := by
  unfold leB at *
  cases most <;> simp at h1 h2 ⊢ <;> omega
theorem leB_anti {most : Bool} {a b : Int} (h1 : leB most a b) (h2 : leB most b a) : a = b := by
  unfold leB at *
  cases most <;> simp at h1 h2 <;> omega
theorem leB_refl (most : Bool) (a : Int) : leB most a a := by
  unfold leB
  cases most <;> simp
theorem best_facts (most : Bool) : ∀ (xs : List Int) (s : Int), bestL most s xs ∈ s :: xs ∧ ∀ y ∈ s :: xs, leB most (bestL most s xs) y
  | [], s => ⟨by simp [bestL], fun y hy => by simp at hy; subst hy; exact leB_refl most _⟩
  | x :: r, s => by
    obtain ⟨h1, h2⟩ := best_facts most r (if btr most x s = true then x else s)
    have e : bestL most s (x :: r) = bestL most (if btr most x s = true then x else s) r := rfl
    rw [e]
    cases hb : btr most x s
    · rw [hb] at h1 h2
      simp only [Bool.false_eq_true, if_false] at h1 h2 ⊢
      refine ⟨?_, fun y hy => ?_⟩
      · rcases List.mem_cons.1 h1 with h | h
        · rw [h]; simp
        · simp [h]
      · rcases List.mem_cons.1 hy with rfl | hy
        · exact h2 _ (by simp)
        · rcases List.mem_cons.1 hy with rfl | hy
          · exact leB_trans (h2 s (by simp)) (btr_no hb)
          · exact h2 y (by simp [hy])
    · rw [hb] at h1 h2
      simp only [if_true] at h1 h2 ⊢
      refine ⟨?_, fun y hy => ?_⟩
      · rcases List.mem_cons.1 h1 with h | h
        · rw [h]; simp
        · simp [h]
      · rcases List.mem_cons.1 hy with rfl | hy
        · exact leB_trans (h2 x (by simp)) (btr_yes hb)
        · exact h2 y hy
theorem best_rev (most : Bool) (s : Int) (xs : List Int) : bestL most s xs.reverse = bestL most s xs := by
  obtain ⟨h1, h2⟩ := best_facts most xs s
  obtain ⟨h3, h4⟩ := best_facts most xs.reverse s
  exact leB_anti (h4 _ (by simpa using h1)) (h2 _ (by simpa using h3))
theorem best_first {most : Bool} {x : Int} (h1 : -9223372036854775807 ≤ x) (h2 : x ≤ 9223372036854775807) : bestL most (startB most) [x] = x := by
  unfold bestL startB btr
  cases most <;> simp <;> omega
theorem nums_rev (L : List Vl) : numsF L.reverse = (numsF L).reverse := List.filterMap_reverse
theorem count_rev (kind : Int) (L : List Vl) : countF kind L.reverse = countF kind L := List.countP_reverse
theorem nof_rev {L : List Vl} (h : NoF L) : NoF L.reverse := fun v hv => h v (by simpa using hv)
theorem rev_at {L : List Vl} {n k : Nat} {v : Vl} (hn : L.length = n) (hk : k < n) (h : L[n - 1 - k]? = some v) : L.reverse.take (k + 1) = L.reverse.take k ++ [v] := by
  rw [List.take_add_one, List.getElem?_reverse (by omega), hn, h]
  rfl
/-- no least and no greatest number is changed -/
theorem allD_rev (most : Bool) (L : List Vl) (h : NoF L) : allV (bestD most) (startB most) L.reverse = allV (bestD most) (startB most) L := by
  rw [allV_no h, allV_no (nof_rev h), nums_rev]
  unfold allD
  rw [best_total, best_total, best_rev]
  simp
/-- no sum, as long as neither way runs over -/
theorem sum_rev {L : List Vl} (h : NoF L) {x y : Int} (h1 : allV addD 0 L = (1, x)) (h2 : allV addD 0 L.reverse = (1, y)) : x = y := by
  rw [allV_no h] at h1
  rw [allV_no (nof_rev h), nums_rev] at h2
  unfold allD at h1 h2
  by_cases h0 : numsF L = []
  · rw [if_pos h0] at h1
    rw [if_pos (by simp [h0])] at h2
    have e1 := (Prod.mk.inj h1).2
    have e2 := (Prod.mk.inj h2).2
    omega
  · rw [if_neg h0] at h1
    rw [if_neg (by simpa using h0)] at h2
    rcases e1 : totalD addD 0 (numsF L) with ⟨a, b⟩
    rcases e2 : totalD addD 0 (numsF L).reverse with ⟨c, d⟩
    rw [e1] at h1
    rw [e2] at h2
    rcases got_kind a b with ⟨g, rfl⟩ | g
    · rcases got_kind c d with ⟨g2, rfl⟩ | g2
      · have s1 := sum_total _ _ _ e1
        have s2 := sum_total _ _ _ e2
        rw [List.sum_reverse] at s2
        rw [g] at h1
        rw [g2] at h2
        have f1 := (Prod.mk.inj h1).2
        have f2 := (Prod.mk.inj h2).2
        omega
      · rw [g2] at h2
        exact absurd (Prod.mk.inj h2).1 (by decide)
    · rw [g] at h1
      exact absurd (Prod.mk.inj h1).1 (by decide)
end Go.Proofs.YtbjomidkeignjaaGreatDoor.Fld
namespace Go.Proofs.YtbjomidkeignjaaGreatDoor.Fld
open Go.RowKit Kit Reg Dec Dig Val Txt

/-- a slice, nil too, that reads as a list of values -/
def ValsR (w : World) (A : Option Addr) (n : Nat) (L : List Vl) : Prop :=
  L.length = n ∧ n ≤ 1000 ∧ (∀ v ∈ L, v.fits) ∧ (n ≠ 0 → ∃ b o, A = some ⟨b, o, none⟩ ∧ b < w.heap.size ∧ ∀ k v, L[k]? = some v → ∀ j x, v.cells[j]? = some x → w.cell? ⟨b, o + k * 3 + j, none⟩ = some x)
theorem ValsR.on {w w' : World} {A : Option Addr} {n : Nat} {L : List Vl} (h : ValsR w A n L) (hb : Below w.heap.size w w') : ValsR w' A n L := by
  obtain ⟨h1, h2, hu, h3⟩ := h
  refine ⟨h1, h2, hu, fun hn => ?_⟩
  obtain ⟨b, o, rfl, hlt, hc⟩ := h3 hn
  exact ⟨b, o, rfl, Nat.lt_of_lt_of_le hlt hb.size, fun k v hk j x hj => (hb.cell (p := ⟨b, o + k * 3 + j, none⟩) hlt).trans (hc k v hk j x hj)⟩
/-- the value at a place: its three cells -/
theorem ValsR.at {w : World} {A : Option Addr} {n : Nat} {L : List Vl} (h : ValsR w A n L) {k : Nat} {v : Vl} (hk : L[k]? = some v) : ∃ b o, A = some ⟨b, o, none⟩ ∧ b < w.heap.size ∧
    w.cell? ⟨b, o + k * 3, none⟩ = some (.int .i64 v.k) ∧ w.cell? ⟨b, o + k * 3 + 1, none⟩ = some (.int .i64 v.n) ∧ w.cell? ⟨b, o + k * 3 + 2, none⟩ = some (.string v.t) := by
  obtain ⟨h1, _, _, h3⟩ := h
  have hlt := (List.getElem?_eq_some_iff.1 hk).1
  obtain ⟨b, o, e, hb, hc⟩ := h3 (by omega)
  exact ⟨b, o, e, hb, hc k v hk 0 _ rfl, hc k v hk 1 _ rfl, hc k v hk 2 _ rfl⟩
theorem ValsR.get {w : World} {A : Option Addr} {n : Nat} {L : List Vl} (h : ValsR w A n L) {k : Nat} (hk : k < n) : ∃ v, L[k]? = some v := ⟨_, List.getElem?_eq_getElem (by rw [h.1]; exact hk)⟩
/-- a slice that reads as numbers -/
def IntsR (w : World) (A : Option Addr) (xs : List Int) : Prop := xs = [] ∨ ∃ g o, A = some ⟨g, o, none⟩ ∧ g < w.heap.size ∧ ∀ i n, xs[i]? = some n → w.cell? ⟨g, o + i, none⟩ = some (.int .i64 n)
theorem IntsR.on {w w' : World} {A : Option Addr} {xs : List Int} (h : IntsR w A xs) (hb : Below w.heap.size w w') : IntsR w' A xs := by
  rcases h with h | ⟨g, o, hA, hg, h⟩
  · exact .inl h
  · exact .inr ⟨g, o, hA, Nat.lt_of_lt_of_le hg hb.size, fun i c hc => (hb.cell (p := ⟨g, o + i, none⟩) hg).trans (h i c hc)⟩
theorem IntsR.at {w : World} {A : Option Addr} {xs : List Int} (h : IntsR w A xs) {k : Nat} {x : Int} (hk : xs[k]? = some x) : ∃ g o, A = some ⟨g, o, none⟩ ∧ g < w.heap.size ∧ w.cell? ⟨g, o + k, none⟩ = some (.int .i64 x) := by
  rcases h with h | ⟨g, o, hA, hg, h⟩
  · rw [h] at hk; simp at hk
  · exact ⟨g, o, hA, hg, h k x hk⟩
/-- rows of one's own: of numbers -/
def OwnI (B : Nat) (v : Value) (xs : List Int) (w : World) : Prop := w.ownsRow B 2 1 v xs.length (xs.map (Value.int .i64))
theorem OwnI.on {B : Nat} {w w' : World} {v : Value} {xs : List Int} (h : OwnI B v xs w) (hb : Below w.heap.size w w') : OwnI B v xs w' := own_on h hb
theorem OwnI.reads {B : Nat} {v : Value} {xs : List Int} {w : World} (h : OwnI B v xs w) : ∃ A cap, v = .slice A xs.length cap ∧ IntsR w A xs := by
  have h0 := h
  rcases h.2 with ⟨rfl, h1⟩ | ⟨g, cap, cur, rfl, hb, hg, hrest⟩
  · exact ⟨_, _, by rw [h1], .inl (List.eq_nil_of_length_eq_zero h1)⟩
  · refine ⟨_, _, rfl, .inr ⟨g, 0, rfl, (Array.getElem?_eq_some_iff.1 hg).1, fun i n hi => ?_⟩⟩
    have hl := (List.getElem?_eq_some_iff.1 hi).1
    have e := World.ownsRow.cellAt h0 i (by omega)
    rw [Nat.zero_add, e, List.getElem?_map, hi]
    rfl
/-- .. of texts -/
def OwnT (B : Nat) (v : Value) (ls : List (List UInt8)) (w : World) : Prop := w.ownsRow B 9 1 v ls.length (ls.map fun l => Value.string ⟨l.toArray⟩)
theorem OwnT.on {B : Nat} {w w' : World} {v : Value} {xs : List (List UInt8)} (h : OwnT B v xs w) (hb : Below w.heap.size w w') : OwnT B v xs w' := own_on h hb
theorem OwnT.reads {B : Nat} {v : Value} {xs : List (List UInt8)} {w : World} (h : OwnT B v xs w) : ∃ A cap, v = .slice A xs.length cap ∧ StrsO w A xs := by
  have h0 := h
  rcases h.2 with ⟨rfl, h1⟩ | ⟨g, cap, cur, rfl, hb, hg, hrest⟩
  · exact ⟨_, _, by rw [h1], .inl (List.eq_nil_of_length_eq_zero h1)⟩
  · refine ⟨_, _, rfl, .inr ⟨g, 0, rfl, (Array.getElem?_eq_some_iff.1 hg).1, fun i n hi => ?_⟩⟩
    have hl := (List.getElem?_eq_some_iff.1 hi).1
    have e := World.ownsRow.cellAt h0 i (by omega)
    rw [Nat.zero_add, e, List.getElem?_map, hi]
    rfl
/-- .. of values -/
def flatV : List Vl → List Value
  | [] => []
  | v :: r => v.cells ++ flatV r
theorem flatV_length : ∀ L : List Vl, (flatV L).length = L.length * 3
  | [] => rfl
  | v :: r => by
    have ih := flatV_length r
    rw [flatV, List.length_append, ih, List.length_cons]
    show 3 + _ = _
    omega
theorem flatV_snoc : ∀ (L : List Vl) (v : Vl), flatV (L ++ [v]) = flatV L ++ v.cells
  | [], v => by simp [flatV]
  | u :: r, v => by rw [List.cons_append, flatV, flatV, flatV_snoc r v, List.append_assoc]
theorem flatV_at : ∀ (L : List Vl) (k : Nat) (v : Vl), L[k]? = some v → ∀ j x, v.cells[j]? = some x → (flatV L)[k * 3 + j]? = some x
  | [], k, v, h, j, x, hj => by simp at h
  | u :: r, 0, v, h, j, x, hj => by
    simp at h
    subst h
    have hl := (List.getElem?_eq_some_iff.1 hj).1
    rw [flatV, Nat.zero_mul, Nat.zero_add, List.getElem?_append_left hl]
    exact hj
  | u :: r, k + 1, v, h, j, x, hj => by
    have ih := flatV_at r k v (by simpa using h) j x hj
    rw [flatV, List.getElem?_append_right (by show 3 ≤ _; omega)]
    rw [← ih]
    congr 1
    show (k + 1) * 3 + j - 3 = k * 3 + j
    omega
def OwnV (B : Nat) (v : Value) (L : List Vl) (w : World) : Prop := w.ownsRow B 26 3 v L.length (flatV L)
theorem OwnV.on {B : Nat} {w w' : World} {v : Value} {L : List Vl} (h : OwnV B v L w) (hb : Below w.heap.size w w') : OwnV B v L w' := own_on h hb
theorem OwnV.reads {B n : Nat} {v : Value} {L : List Vl} {w : World} (h : OwnV B v L w) (hn : L.length = n) (hm : n ≤ 1000) (hu : ∀ x ∈ L, x.fits) : ∃ A cap, v = .slice A n cap ∧ ValsR w A n L := by
  subst hn
  have h0 := h
  rcases h.2 with ⟨rfl, h1⟩ | ⟨g, cap, cur, rfl, hb, hg, hrest⟩
  · exact ⟨_, _, by rw [h1], rfl, hm, hu, fun hn => absurd h1 hn⟩
  · refine ⟨_, _, rfl, rfl, hm, hu, fun hn => ⟨g, 0, rfl, (Array.getElem?_eq_some_iff.1 hg).1, fun k x hk j y hj => ?_⟩⟩
    have h1 := (List.getElem?_eq_some_iff.1 hk).1
    have h2 : j < 3 := (List.getElem?_eq_some_iff.1 hj).1
    have e := World.ownsRow.cellAt h0 (k * 3 + j) (by omega)
    rw [Nat.zero_add, e]
    exact flatV_at L k x hk j y hj
end Go.Proofs.YtbjomidkeignjaaGreatDoor.Fld

/- Values summed up, in plain lists: the first fault, the numbers, what is reckoned from them one behind the other, the least and the greatest, how many are of a kind, all as texts, and how many are true. No function of the program is named here. -/
import Derived.Test.YtcampdedhfhkbaaDoorValMath
import Derived.Test.YtcampdedhfhkbaaDoorValGo
import Derived.Test.YtcampdedhfhkbaaDoorTxtMath
namespace Go.Proofs.YtcampdedhfhkbaaDoor.Fld
open Dec Dig Val Txt

structure Vl where
  k : Int
  n : Int
  t : ByteArray
def Vl.cells (v : Vl) : List Value := [.int .i64 v.k, .int .i64 v.n, .string v.t]
def Vl.val (v : Vl) : Value := .agg #[.int .i64 v.k, .int .i64 v.n, .string v.t]
/-- a value that may be, of 64 bits -/
def Vl.may (v : Vl) : Prop := mayV v.k v.n v.t = true
def Vl.fits (v : Vl) : Prop := -9223372036854775808 ≤ v.n ∧ v.n ≤ 9223372036854775807
theorem size_zero {t : ByteArray} (h : t.size = 0) : t = ⟨#[]⟩ := by
  cases t with
  | mk d =>
    congr 1
    exact Array.eq_empty_of_size_eq_zero h
theorem may_ways {v : Vl} (h : v.may) : v = ⟨0, 0, ⟨#[]⟩⟩ ∨ (∃ n, v = ⟨1, n, ⟨#[]⟩⟩ ∧ -9223372036854775807 ≤ n) ∨ (∃ t, v = ⟨2, 0, t⟩ ∧ t.size ≤ 256) ∨ v = ⟨3, 0, ⟨#[]⟩⟩ ∨ v = ⟨3, 1, ⟨#[]⟩⟩ ∨ ∃ n, v = ⟨4, n, ⟨#[]⟩⟩ ∧ 1 ≤ n ∧ n ≤ 7 := by
  obtain ⟨k, n, t⟩ := v
  unfold Vl.may mayV mayD at h
  simp only [Bool.or_eq_true, Bool.and_eq_true, decide_eq_true_eq] at h
  rcases h with (((⟨⟨rfl, h1⟩, rfl⟩ | ⟨⟨rfl, h1⟩, h2⟩) | ⟨⟨rfl, rfl⟩, h1⟩) | ⟨⟨rfl, h1⟩, h2⟩) | ⟨⟨⟨rfl, h1⟩, h2⟩, h3⟩
  · exact .inl (by rw [size_zero h1])
  · exact .inr (.inl ⟨n, by rw [size_zero h1], h2⟩)
  · exact .inr (.inr (.inl ⟨t, rfl, h1⟩))
  · rw [size_zero h1]
    rcases h2 with rfl | rfl
    · exact .inr (.inr (.inr (.inl rfl)))
    · exact .inr (.inr (.inr (.inr (.inl rfl))))
  · exact .inr (.inr (.inr (.inr (.inr ⟨n, by rw [size_zero h1], h2, h3⟩))))
theorem may_fault {v : Vl} (h : v.may) (h4 : v.k = 4) : v = ⟨4, v.n, ⟨#[]⟩⟩ := by
  rcases may_ways h with rfl | ⟨n, rfl, _⟩ | ⟨t, rfl, _⟩ | rfl | rfl | ⟨n, rfl, _⟩ <;> first | rfl | (simp at h4; done)
theorem may_num_low {v : Vl} (h : v.may) (h1 : v.k = 1) : -9223372036854775807 ≤ v.n := by
  rcases may_ways h with rfl | ⟨n, rfl, h2⟩ | ⟨t, rfl, _⟩ | rfl | rfl | ⟨n, rfl, _⟩ <;> first | exact h2 | (simp at h1; done)
/-- no fault among them; the first one -/
def NoF (L : List Vl) : Prop := ∀ v ∈ L, ¬ v.k = 4
def FirstF (L : List Vl) (p : Nat) (v : Vl) : Prop := L[p]? = some v ∧ v.k = 4 ∧ ∀ i u, i < p → L[i]? = some u → ¬ u.k = 4
theorem fault_ways : ∀ L : List Vl, NoF L ∨ ∃ p v, FirstF L p v
  | [] => .inl fun v h => by cases h
  | u :: r => by
    by_cases h : u.k = 4
    · exact .inr ⟨0, u, rfl, h, fun i x hi => by omega⟩
    · rcases fault_ways r with h1 | ⟨p, v, h1, h2, h3⟩
      · exact .inl fun v hv => by
          rcases List.mem_cons.1 hv with rfl | hv
          · exact h
          · exact h1 v hv
      · refine .inr ⟨p + 1, v, by simpa using h1, h2, fun i x hi hx => ?_⟩
        cases i with
        | zero => simp at hx; subst hx; exact h
        | succ i => exact h3 i x (by omega) (by simpa using hx)
theorem NoF.at {L : List Vl} (h : NoF L) {k : Nat} {v : Vl} (hv : L[k]? = some v) : ¬ v.k = 4 := h v (List.mem_of_getElem? hv)
theorem FirstF.lt {L : List Vl} {p : Nat} {v : Vl} (h : FirstF L p v) : p < L.length := (List.getElem?_eq_some_iff.1 h.1).1
def faultF (L : List Vl) : Option Vl := L.find? fun v => decide (v.k = 4)
theorem faultF_none {L : List Vl} (h : NoF L) : faultF L = none := List.find?_eq_none.2 fun v hv => by simpa using h v hv
theorem faultF_some : ∀ {L : List Vl} {p : Nat} {v : Vl}, FirstF L p v → faultF L = some v
  | [], p, v, h => by have := h.lt; simp at this
  | u :: r, 0, v, h => by
    obtain ⟨h1, h2, _⟩ := h
    simp at h1
    subst h1
    unfold faultF
    rw [List.find?_cons, decide_eq_true h2]
  | u :: r, p + 1, v, h => by
    obtain ⟨h1, h2, h3⟩ := h
    have h0 := h3 0 u (by omega) rfl
    have ih := faultF_some (L := r) (p := p) (v := v) ⟨by simpa using h1, h2, fun i x hi hx => h3 (i + 1) x (by omega) (by simpa using hx)⟩
    unfold faultF at ih ⊢
    rw [List.find?_cons, decide_eq_false h0]
    exact ih
/-- the numbers of a list -/
def numsF (L : List Vl) : List Int := L.filterMap fun v => if v.k = 1 then some v.n else none
theorem numsF_hit {L : List Vl} {k : Nat} {v : Vl} (h : L[k]? = some v) (h1 : v.k = 1) : numsF (L.take (k + 1)) = numsF (L.take k) ++ [v.n] := by
  rw [List.take_add_one, h]
  simp [numsF, List.filterMap_append, h1]
theorem numsF_miss {L : List Vl} {k : Nat} {v : Vl} (h : L[k]? = some v) (h1 : ¬ v.k = 1) : numsF (L.take (k + 1)) = numsF (L.take k) := by
  rw [List.take_add_one, h]
  simp [numsF, List.filterMap_append, h1]
theorem numsF_len (L : List Vl) : (numsF L).length ≤ L.length := List.length_filterMap_le _ _
theorem numsF_mem {L : List Vl} {x : Int} (h : x ∈ numsF L) : ∃ v ∈ L, v.k = 1 ∧ v.n = x := by
  obtain ⟨v, hv, he⟩ := List.mem_filterMap.1 h
  split at he
  · exact ⟨v, hv, by assumption, by simpa using he⟩
  · cases he
theorem numsF_room {L : List Vl} (hm : ∀ v ∈ L, v.may) (hf : ∀ v ∈ L, v.fits) {x : Int} (h : x ∈ numsF L) : -9223372036854775807 ≤ x ∧ x ≤ 9223372036854775807 := by
  obtain ⟨v, hv, h1, rfl⟩ := numsF_mem h
  exact ⟨may_num_low (hm v hv) h1, (hf v hv).2⟩
/-- what comes of numbers, from a start on: it ends at the first step that has no answer -/
def totalD (step : Int → Int → Int × Bool) : Int → List Int → Int × Bool
  | s, [] => (s, true)
  | s, x :: r => match step s x with
    | (n, true) => totalD step n r
    | (n, false) => (n, false)
theorem drop_at {α : Type} {l : List α} {k : Nat} {z : α} (h : l[k]? = some z) : l.drop k = z :: l.drop (k + 1) := by
  obtain ⟨hk, rfl⟩ := List.getElem?_eq_some_iff.1 h
  exact List.drop_eq_getElem_cons hk
theorem total_yes {step : Int → Int → Int × Bool} {xs : List Int} {k : Nat} {s x n : Int} (h : xs[k]? = some x) (hs : step s x = (n, true)) : totalD step s (xs.drop k) = totalD step n (xs.drop (k + 1)) := by
  rw [drop_at h, totalD, hs]
theorem total_no {step : Int → Int → Int × Bool} {xs : List Int} {k : Nat} {s x n : Int} (h : xs[k]? = some x) (hs : step s x = (n, false)) : totalD step s (xs.drop k) = (n, false) := by
  rw [drop_at h, totalD, hs]
theorem total_end (step : Int → Int → Int × Bool) (s : Int) (xs : List Int) : totalD step s (xs.drop xs.length) = (s, true) := by rw [List.drop_length]; rfl
/-- the steps: of the sum, of the product, of the sum of the squares -/
def mulD (a b : Int) : Int × Bool := scaledD a b 10000
def sqD (a b : Int) : Int × Bool := match scaledD b b 10000 with
  | (s, true) => addD a s
  | (s, false) => (s, false)
/-- .. of the least and of the greatest number -/
def btr (most : Bool) (x a : Int) : Bool := if most then decide (a < x) else decide (x < a)
def bestD (most : Bool) (a x : Int) : Int × Bool := (if btr most x a = true then x else a, true)
def startB (most : Bool) : Int := if most then -9223372036854775807 else 9223372036854775807
/-- what is reckoned of a list of values: its kind and its number -/
def allD (step : Int → Int → Int × Bool) (start : Int) (xs : List Int) : Int × Int := if xs = [] then (1, 0) else gotV (totalD step start xs).1 (totalD step start xs).2
def allV (step : Int → Int → Int × Bool) (start : Int) (L : List Vl) : Int × Int := match faultF L with
  | some v => (4, v.n)
  | none => allD step start (numsF L)
theorem allV_no {step : Int → Int → Int × Bool} {start : Int} {L : List Vl} (h : NoF L) : allV step start L = allD step start (numsF L) := by rw [allV, faultF_none h]
theorem allV_yes {step : Int → Int → Int × Bool} {start : Int} {L : List Vl} {p : Nat} {v : Vl} (h : FirstF L p v) : allV step start L = (4, v.n) := by rw [allV, faultF_some h]
theorem got_kind (x : Int) (b : Bool) : (gotV x b = (1, x) ∧ b = true) ∨ gotV x b = (4, 4) := by
  unfold gotV
  cases b
  · exact .inr rfl
  · show ((numV x = (1, x)) ∧ true = true) ∨ numV x = (4, 4)
    unfold numV
    split
    · exact .inl ⟨rfl, rfl⟩
    · exact .inr rfl
theorem allD_kind (step : Int → Int → Int × Bool) (start : Int) (xs : List Int) : (allD step start xs).1 = 1 ∨ allD step start xs = (4, 4) := by
  unfold allD
  split
  · exact .inl rfl
  · rcases got_kind (totalD step start xs).1 (totalD step start xs).2 with ⟨h, _⟩ | h
    · exact .inl (by rw [h])
    · exact .inr h
/-- how many are of a kind -/
def isK (kind : Int) (v : Vl) : Bool := if kind = 1 then decide (v.k = 1) else if kind = 0 then decide (v.k = 0) || (decide (v.k = 2) && decide (v.t = ⟨#[]⟩)) else !decide (v.k = 0)
def countF (kind : Int) (L : List Vl) : Nat := L.countP (isK kind)
theorem count_hit {kind : Int} {L : List Vl} {k : Nat} {v : Vl} (h : L[k]? = some v) (h1 : isK kind v = true) : countF kind (L.take (k + 1)) = countF kind (L.take k) + 1 := by
  rw [List.take_add_one, h]
  simp [countF, List.countP_append, h1]
theorem count_miss {kind : Int} {L : List Vl} {k : Nat} {v : Vl} (h : L[k]? = some v) (h1 : isK kind v = false) : countF kind (L.take (k + 1)) = countF kind (L.take k) := by
  rw [List.take_add_one, h]
  simp [countF, List.countP_append, h1]
theorem count_le (kind : Int) (L : List Vl) : countF kind L ≤ L.length := List.countP_le_length
theorem count_nums : ∀ L : List Vl, countF 1 L = (numsF L).length
  | [] => rfl
  | v :: r => by
    have ih := count_nums r
    unfold countF numsF at ih ⊢
    rw [List.countP_cons, List.filterMap_cons, ih]
    by_cases h : v.k = 1 <;> simp [isK, h]
/-- the middle -/
def meanV (L : List Vl) : Int × Int := match faultF L with
  | some v => (4, v.n)
  | none => if numsF L = [] then (4, 1) else if (allD addD 0 (numsF L)).1 = 4 then (4, 4) else
      gotV (scaledD (allD addD 0 (numsF L)).2 1 (numsF L).length).1 (scaledD (allD addD 0 (numsF L)).2 1 (numsF L).length).2
theorem meanV_yes {L : List Vl} {p : Nat} {v : Vl} (h : FirstF L p v) : meanV L = (4, v.n) := by rw [meanV, faultF_some h]
theorem meanV_none {L : List Vl} (h : NoF L) (h0 : numsF L = []) : meanV L = (4, 1) := by rw [meanV, faultF_none h]; exact if_pos h0
theorem meanV_out {L : List Vl} (h : NoF L) (h0 : ¬ numsF L = []) (h1 : allD addD 0 (numsF L) = (4, 4)) : meanV L = (4, 4) := by
  rw [meanV, faultF_none h]
  simp only [if_neg h0, h1, if_true]
theorem meanV_in {L : List Vl} (h : NoF L) (h0 : ¬ numsF L = []) {x : Int} (h1 : allD addD 0 (numsF L) = (1, x)) : meanV L = gotV (scaledD x 1 (numsF L).length).1 (scaledD x 1 (numsF L).length).2 := by
  rw [meanV, faultF_none h]
  simp only [if_neg h0, h1]
  rfl
/-- a value's text, where it is no fault -/
def wordsF (v : Vl) : List UInt8 := if v.k = 0 then [] else if v.k = 1 then textD v.n else if v.k = 2 then v.t.data.toList else if v.n = 0 then noT.data.toList else yesT.data.toList
theorem words_len {v : Vl} (hm : v.may) (hf : v.fits) : (wordsF v).length ≤ 256 := by
  rcases may_ways hm with rfl | ⟨n, rfl, _⟩ | ⟨t, rfl, h⟩ | rfl | rfl | ⟨n, rfl, _⟩
  · exact Nat.zero_le _
  · have := text_len hf.1 hf.2
    show (textD n).length ≤ 256
    dsimp only at this
    omega
  · show t.data.toList.length ≤ 256
    rw [← Lib.size_eq]
    exact h
  · decide
  · decide
  · show (if n = 0 then noT.data.toList else yesT.data.toList).length ≤ 256
    split <;> decide
def concatV (L : List Vl) : Int × Int × List UInt8 := match faultF L with
  | some v => (4, v.n, [])
  | none => if (roomD (L.map wordsF).flatten).2 = true then (2, 0, (roomD (L.map wordsF).flatten).1) else (4, 2, [])
theorem concatV_yes {L : List Vl} {p : Nat} {v : Vl} (h : FirstF L p v) : concatV L = (4, v.n, []) := by rw [concatV, faultF_some h]
theorem concatV_in {L : List Vl} (h : NoF L) {m : List UInt8} (h1 : roomD (L.map wordsF).flatten = (m, true)) : concatV L = (2, 0, m) := by
  rw [concatV, faultF_none h, h1]
  rfl
theorem concatV_out {L : List Vl} (h : NoF L) {m : List UInt8} (h1 : roomD (L.map wordsF).flatten = (m, false)) : concatV L = (4, 2, []) := by
  rw [concatV, faultF_none h, h1]
  rfl
/-- a value as a truth -/
def truthF (v : Vl) : Int × Int := if v.k = 0 then (3, 0) else if v.k = 1 then (3, if v.n = 0 then 0 else 1) else if v.k = 2 then (if v.t = yesT then (3, 1) else if v.t = noT then (3, 0) else (4, 2)) else (v.k, v.n)
theorem truth_ways {v : Vl} (hm : v.may) : truthF v = (3, 0) ∨ truthF v = (3, 1) ∨ ∃ c, truthF v = (4, c) := by
  rcases may_ways hm with rfl | ⟨n, rfl, _⟩ | ⟨t, rfl, h⟩ | rfl | rfl | ⟨n, rfl, _⟩
  · exact .inl rfl
  · by_cases h : n = 0
    · exact .inl (by simp [truthF, h])
    · exact .inr (.inl (by simp [truthF, h]))
  · by_cases h1 : t = yesT
    · exact .inr (.inl (by simp [truthF, h1]))
    · by_cases h2 : t = noT
      · subst h2; exact .inl rfl
      · exact .inr (.inr ⟨2, by simp [truthF, h1, h2]⟩)
  · exact .inl rfl
  · exact .inr (.inl rfl)
  · exact .inr (.inr ⟨n, rfl⟩)
/-- whether an odd number of them is true -/
def xorV : Bool → List Vl → Int × Int
  | odd, [] => (3, if odd then 1 else 0)
  | odd, v :: r => if (truthF v).1 = 4 then (4, (truthF v).2) else xorV (odd != decide ((truthF v).2 = 1)) r
theorem xor_bad {L : List Vl} {k : Nat} {v : Vl} {odd : Bool} {c : Int} (h : L[k]? = some v) (h1 : truthF v = (4, c)) : xorV odd (L.drop k) = (4, c) := by
  rw [drop_at h, xorV, h1]
  rfl
theorem xor_zero {L : List Vl} {k : Nat} {v : Vl} {odd : Bool} (h : L[k]? = some v) (h1 : truthF v = (3, 0)) : xorV odd (L.drop k) = xorV odd (L.drop (k + 1)) := by
  rw [drop_at h, xorV, h1]
  cases odd <;> rfl
theorem xor_one {L : List Vl} {k : Nat} {v : Vl} {odd : Bool} (h : L[k]? = some v) (h1 : truthF v = (3, 1)) : xorV odd (L.drop k) = xorV (!odd) (L.drop (k + 1)) := by
  rw [drop_at h, xorV, h1]
  cases odd <;> rfl
theorem xor_end (odd : Bool) (L : List Vl) : xorV odd (L.drop L.length) = (3, if odd then 1 else 0) := by rw [List.drop_length]; rfl
end Go.Proofs.YtcampdedhfhkbaaDoor.Fld

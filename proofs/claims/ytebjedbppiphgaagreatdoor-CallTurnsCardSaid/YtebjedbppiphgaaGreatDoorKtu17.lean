/- Values summed up, in plain lists: the first fault, the numbers, what is reckoned from them one behind the other, the least and the greatest, how many are of a kind, all as texts, and how many are true. No function of the program is named here.
   Tables, what stands in them, where a value is found, what is looked up beside it, what is hit, and sums of products: in plain lists. No function of the program is named here.
   Rounding to a step, and what is left of a division, in integers alone. No function of the program is named here.
   What package round's Places answers: for every number of 64 bits. -/
import Derived.Test.YtebjedbppiphgaaGreatDoorKtu09
import Derived.Test.YtebjedbppiphgaaGreatDoorKtu14
import Derived.Test.YtebjedbppiphgaaGreatDoorKtu16
import Derived.Test.YtebjedbppiphgaaGreatDoorKtu01
import Derived.Test.YtebjedbppiphgaaGreatDoorKtu07
namespace Go.Proofs.YtebjedbppiphgaaGreatDoor.Fld
open Dec Dig Val Txt
structure Vl where
  k : Int
  n : Int
  t : ByteArray
def Vl.cells (v : Vl) : List Value := [.int .i64 v.k, .int .i64 v.n, .string v.t]
/-- a value that may be, of 64 bits -/
def Vl.may (v : Vl) : Prop := mayV v.k v.n v.t = true
def Vl.fits (v : Vl) : Prop := -9223372036854775808 ≤ v.n ∧ v.n ≤ 9223372036854775807
theorem size_zero {t : ByteArray} (h : t.size = 0) : t = ⟨#[]⟩ := by
  cases t with
  | mk d =>
    congr 1
    exact Array.eq_empty_of_size_eq_zero h
theorem may_ways {v : Vl} (h : v.may) : v = ⟨0, 0, ⟨#[]⟩⟩ ∨ (∃ n, v = ⟨1, n, ⟨#[]⟩⟩ ∧ -9223372036854775807 ≤ n) ∨ (∃ t, v = ⟨2, 0, t⟩ ∧ t.size ≤ 256) ∨ v = ⟨3, 0, ⟨#[]⟩⟩ ∨ v = ⟨3, 1, ⟨#[]⟩⟩ ∨ ∃ n, v = ⟨4, n, ⟨#[]⟩⟩ ∧ 1 ≤ n ∧ n ≤ 7 := by
  obtain ⟨k, n, t⟩ := v
  unfold Vl.may mayV mayD at h
  simp only [Bool.or_eq_true, Bool.and_eq_true, decide_eq_true_eq] at h
  rcases h with (((⟨⟨rfl, h1⟩, rfl⟩ | ⟨⟨rfl, h1⟩, h2⟩) | ⟨⟨rfl, rfl⟩, h1⟩) | ⟨⟨rfl, h1⟩, h2⟩) | ⟨⟨⟨rfl, h1⟩, h2⟩, h3⟩
  · exact .inl (by rw [size_zero h1])
  · exact .inr (.inl ⟨n, by rw [size_zero h1], h2⟩)
  · exact .inr (.inr (.inl ⟨t, rfl, h1⟩))
  · rw [size_zero h1]
    rcases h2 with rfl | rfl
    · exact .inr (.inr (.inr (.inl rfl)))
    · exact .inr (.inr (.inr (.inr (.inl rfl))))
  · exact .inr (.inr (.inr (.inr (.inr ⟨n, by rw [size_zero h1], h2, h3⟩))))
theorem may_fault {v : Vl} (h : v.may) (h4 : v.k = 4) : v = ⟨4, v.n, ⟨#[]⟩⟩ := by
  rcases may_ways h with rfl | ⟨n, rfl, _⟩ | ⟨t, rfl, _⟩ | rfl | rfl | ⟨n, rfl, _⟩ <;> first | rfl | (simp at h4; done)
theorem may_num_low {v : Vl} (h : v.may) (h1 : v.k = 1) : -9223372036854775807 ≤ v.n := by
  rcases may_ways h with rfl | ⟨n, rfl, h2⟩ | ⟨t, rfl, _⟩ | rfl | rfl | ⟨n, rfl, _⟩ <;> first | exact h2 | (simp at h1; done)
/-- no fault among them; the first one -/
def NoF (L : List Vl) : Prop := ∀ v ∈ L, ¬ v.k = 4
def FirstF (L : List Vl) (p : Nat) (v : Vl) : Prop := L[p]? = some v ∧ v.k = 4 ∧ ∀ i u, i < p → L[i]? = some u → ¬ u.k = 4
theorem fault_ways : ∀ L : List Vl, NoF L ∨ ∃ p v, FirstF L p v
  | [] => .inl fun v h => by cases h
  | u :: r => by
    by_cases h : u.k = 4
    · exact .inr ⟨0, u, rfl, h, fun i x hi => by omega⟩
    · rcases fault_ways r with h1 | ⟨p, v, h1, h2, h3⟩
      · exact .inl fun v hv => by
          rcases List.mem_cons.1 hv with rfl | hv
          · exact h
          · exact h1 v hv
      · refine .inr ⟨p + 1, v, by simpa using h1, h2, fun i x hi hx => ?_⟩
        cases i with
        | zero => simp at hx; subst hx; exact h
        | succ i => exact h3 i x (by omega) (by simpa using hx)
theorem NoF.at {L : List Vl} (h : NoF L) {k : Nat} {v : Vl} (hv : L[k]? = some v) : ¬ v.k = 4 := h v (List.mem_of_getElem? hv)
theorem FirstF.lt {L : List Vl} {p : Nat} {v : Vl} (h : FirstF L p v) : p < L.length := (List.getElem?_eq_some_iff.1 h.1).1
def faultF (L : List Vl) : Option Vl := L.find? fun v => decide (v.k = 4)
theorem faultF_none {L : List Vl} (h : NoF L) : faultF L = none := List.find?_eq_none.2 fun v hv => by simpa using h v hv
theorem faultF_some : ∀ {L : List Vl} {p : Nat} {v : Vl}, FirstF L p v → faultF L = some v
  | [], p, v, h => by have := h.lt; simp at this
  | u :: r, 0, v, h => by
    obtain ⟨h1, h2, _⟩ := h
    simp at h1
    subst h1
    unfold faultF
    rw [List.find?_cons, decide_eq_true h2]
  | u :: r, p + 1, v, h => by
    obtain ⟨h1, h2, h3⟩ := h
    have h0 := h3 0 u (by omega) rfl
    have ih := faultF_some (L := r) (p := p) (v := v) ⟨by simpa using h1, h2, fun i x hi hx => h3 (i + 1) x (by omega) (by simpa using hx)⟩
    unfold faultF at ih ⊢
    rw [List.find?_cons, decide_eq_false h0]
    exact ih
/-- the numbers of a list -/
def numsF (L : List Vl) : List Int := L.filterMap fun v => if v.k = 1 then some v.n else none
theorem numsF_hit {L : List Vl} {k : Nat} {v : Vl} (h : L[k]? = some v) (h1 : v.k = 1) : numsF (L.take (k + 1)) = numsF (L.take k) ++ [v.n] := by
  rw [List.take_add_one, h]
  simp [numsF, List.filterMap_append, h1]
theorem numsF_miss {L : List Vl} {k : Nat} {v : Vl} (h : L[k]? = some v) (h1 : ¬ v.k = 1) : numsF (L.take (k + 1)) = numsF (L.take k) := by
  rw [List.take_add_one, h]
  simp [numsF, List.filterMap_append, h1]
theorem numsF_len (L : List Vl) : (numsF L).length ≤ L.length := List.length_filterMap_le _ _
theorem numsF_mem {L : List Vl} {x : Int} (h : x ∈ numsF L) : ∃ v ∈ L, v.k = 1 ∧ v.n = x := by
  obtain ⟨v, hv, he⟩ := List.mem_filterMap.1 h
  split at he
  · exact ⟨v, hv, by assumption, by simpa using he⟩
  · cases he
theorem numsF_room {L : List Vl} (hm : ∀ v ∈ L, v.may) (hf : ∀ v ∈ L, v.fits) {x : Int} (h : x ∈ numsF L) : -9223372036854775807 ≤ x ∧ x ≤ 9223372036854775807 := by
  obtain ⟨v, hv, h1, rfl⟩ := numsF_mem h
  exact ⟨may_num_low (hm v hv) h1, (hf v hv).2⟩
/-- what comes of numbers, from a start on: it ends at the first step that has no answer -/
def totalD (step : Int → Int → Int × Bool) : Int → List Int → Int × Bool
  | s, [] => (s, true)
  | s, x :: r => match step s x with
    | (n, true) => totalD step n r
    | (n, false) => (n, false)
theorem drop_at {α : Type} {l : List α} {k : Nat} {z : α} (h : l[k]? = some z) : l.drop k = z :: l.drop (k + 1) := by
  obtain ⟨hk, rfl⟩ := List.getElem?_eq_some_iff.1 h
  exact List.drop_eq_getElem_cons hk
theorem total_yes {step : Int → Int → Int × Bool} {xs : List Int} {k : Nat} {s x n : Int} (h : xs[k]? = some x) (hs : step s x = (n, true)) : totalD step s (xs.drop k) = totalD step n (xs.drop (k + 1)) := by
  rw [drop_at h, totalD, hs]
theorem total_no {step : Int → Int → Int × Bool} {xs : List Int} {k : Nat} {s x n : Int} (h : xs[k]? = some x) (hs : step s x = (n, false)) : totalD step s (xs.drop k) = (n, false) := by
  rw [drop_at h, totalD, hs]
theorem total_end (step : Int → Int → Int × Bool) (s : Int) (xs : List Int) : totalD step s (xs.drop xs.length) = (s, true) := by rw [List.drop_length]; rfl
/-- what is reckoned of a list of values: its kind and its number -/
def allD (step : Int → Int → Int × Bool) (start : Int) (xs : List Int) : Int × Int := if xs = [] then (1, 0) else gotV (totalD step start xs).1 (totalD step start xs).2
def allV (step : Int → Int → Int × Bool) (start : Int) (L : List Vl) : Int × Int := match faultF L with
  | some v => (4, v.n)
  | none => allD step start (numsF L)
theorem allV_no {step : Int → Int → Int × Bool} {start : Int} {L : List Vl} (h : NoF L) : allV step start L = allD step start (numsF L) := by rw [allV, faultF_none h]
theorem allV_yes {step : Int → Int → Int × Bool} {start : Int} {L : List Vl} {p : Nat} {v : Vl} (h : FirstF L p v) : allV step start L = (4, v.n) := by rw [allV, faultF_some h]
/-- how many are of a kind -/
def isK (kind : Int) (v : Vl) : Bool := if kind = 1 then decide (v.k = 1) else if kind = 0 then decide (v.k = 0) || (decide (v.k = 2) && decide (v.t = ⟨#[]⟩)) else !decide (v.k = 0)
def countF (kind : Int) (L : List Vl) : Nat := L.countP (isK kind)
theorem count_hit {kind : Int} {L : List Vl} {k : Nat} {v : Vl} (h : L[k]? = some v) (h1 : isK kind v = true) : countF kind (L.take (k + 1)) = countF kind (L.take k) + 1 := by
  rw [List.take_add_one, h]
  simp [countF, List.countP_append, h1]
theorem count_miss {kind : Int} {L : List Vl} {k : Nat} {v : Vl} (h : L[k]? = some v) (h1 : isK kind v = false) : countF kind (L.take (k + 1)) = countF kind (L.take k) := by
  rw [List.take_add_one, h]
  simp [countF, List.countP_append, h1]
/-- a value's text, where it is no fault -/
def wordsF (v : Vl) : List UInt8 := if v.k = 0 then [] else if v.k = 1 then textD v.n else if v.k = 2 then v.t.data.toList else if v.n = 0 then noT.data.toList else yesT.data.toList
theorem words_len {v : Vl} (hm : v.may) (hf : v.fits) : (wordsF v).length ≤ 256 := by
  rcases may_ways hm with rfl | ⟨n, rfl, _⟩ | ⟨t, rfl, h⟩ | rfl | rfl | ⟨n, rfl, _⟩
  · exact Nat.zero_le _
  · have := text_len hf.1 hf.2
    show (textD n).length ≤ 256
    dsimp only at this
    omega
  · show t.data.toList.length ≤ 256
    rw [← Lib.size_eq]
    exact h
  · decide
  · decide
  · show (if n = 0 then noT.data.toList else yesT.data.toList).length ≤ 256
    split <;> decide
/-- a value as a truth -/
def truthF (v : Vl) : Int × Int := if v.k = 0 then (3, 0) else if v.k = 1 then (3, if v.n = 0 then 0 else 1) else if v.k = 2 then (if v.t = yesT then (3, 1) else if v.t = noT then (3, 0) else (4, 2)) else (v.k, v.n)
end Go.Proofs.YtebjedbppiphgaaGreatDoor.Fld
namespace Go.Proofs.YtebjedbppiphgaaGreatDoor.Lok
open Dec Dig Val Fld
/-- a table has as many values as its rows and columns say, and not too many -/
def Good (r c : Int) (n : Nat) : Prop := 1 ≤ r ∧ 1 ≤ c ∧ n ≤ 1000 ∧ r * c = n
theorem Good.nat {r c : Int} {n : Nat} (h : Good r c n) : ∃ R C : Nat, r = R ∧ c = C ∧ 1 ≤ R ∧ 1 ≤ C ∧ n ≤ 1000 ∧ R * C = n ∧ R ≤ n ∧ C ≤ n := by
  obtain ⟨h1, h2, h3, h4⟩ := h
  obtain ⟨R, rfl⟩ := Int.eq_ofNat_of_zero_le (show 0 ≤ r by omega)
  obtain ⟨C, rfl⟩ := Int.eq_ofNat_of_zero_le (show 0 ≤ c by omega)
  have h5 : R * C = n := by exact_mod_cast h4
  have h6 : 1 ≤ R := by omega
  have h7 : 1 ≤ C := by omega
  exact ⟨R, C, rfl, rfl, h6, h7, h3, h5, by rw [← h5]; exact Nat.le_mul_of_pos_right R h7, by rw [← h5]; exact Nat.le_mul_of_pos_left C h6⟩
theorem good_of {R C n : Nat} (h1 : 1 ≤ R) (h2 : 1 ≤ C) (h3 : n ≤ 1000) (h4 : R * C = n) : Good R C n := ⟨by omega, by omega, h3, by exact_mod_cast h4⟩
theorem good_div {R C n : Nat} (h2 : 1 ≤ C) (h4 : R * C = n) : (n : Int).tmod C = 0 ∧ (n : Int).tdiv C = R := by
  have e : (n : Int) = (R : Int) * (C : Int) := by exact_mod_cast h4.symm
  rw [e]
  exact ⟨Int.mul_tmod_left _ _, Int.mul_tdiv_cancel _ (by omega)⟩
theorem bad_ways {r c : Int} {n : Nat} (h : ¬ Good r c n) : r < 1 ∨ (1 ≤ r ∧ c < 1) ∨ (1 ≤ r ∧ 1 ≤ c ∧ 1000 < n) ∨ (1 ≤ r ∧ 1 ≤ c ∧ n ≤ 1000 ∧ ¬ (n : Int).tmod c = 0) ∨
    (1 ≤ r ∧ 1 ≤ c ∧ n ≤ 1000 ∧ (n : Int).tmod c = 0 ∧ ¬ (n : Int).tdiv c = r) := by
  by_cases h1 : r < 1
  · exact .inl h1
  by_cases h2 : c < 1
  · exact .inr (.inl ⟨by omega, h2⟩)
  by_cases h3 : 1000 < n
  · exact .inr (.inr (.inl ⟨by omega, by omega, h3⟩))
  by_cases h4 : (n : Int).tmod c = 0
  · refine .inr (.inr (.inr (.inr ⟨by omega, by omega, by omega, h4, fun e => h ⟨by omega, by omega, by omega, ?_⟩⟩)))
    have := Int.mul_tdiv_add_tmod (n : Int) c
    rw [h4, e, Int.add_zero, Int.mul_comm] at this
    exact this
  · exact .inr (.inr (.inr (.inl ⟨by omega, by omega, by omega, h4⟩)))
/-- the place of a row's and a column's value -/
theorem place_lt {R C n i j : Nat} (h4 : R * C = n) (hi : i < R) (hj : j < C) : i * C + j < n := by
  have h1 : (i + 1) * C ≤ R * C := Nat.mul_le_mul_right C hi
  rw [Nat.add_mul, Nat.one_mul] at h1
  omega
/-- a value is found as another one -/
def sameV (x v : Vl) : Bool := decide (x.k = 0 ∨ v.k = 0 ∨ x.k = v.k) && (decide (x.n = v.n) && decide (x.t = v.t))
def hitS (x v : Vl) : Bool := !decide (v.k = 4) && sameV x v
def FirstS (x : Vl) (L : List Vl) (p : Nat) (v : Vl) : Prop := L[p]? = some v ∧ hitS x v = true ∧ ∀ (i : Nat) (u : Vl), i < p → L[i]? = some u → hitS x u = false
theorem FirstS.lt {x : Vl} {L : List Vl} {p : Nat} {v : Vl} (h : FirstS x L p v) : p < L.length := (List.getElem?_eq_some_iff.1 h.1).1
end Go.Proofs.YtebjedbppiphgaaGreatDoor.Lok
namespace Go.Proofs.YtebjedbppiphgaaGreatDoor.Rnd
open Dec
/-- the greatest multiple of a step that is not above x: its quotient, and what is left -/
structure Fl (x s q l : Int) : Prop where
  eq : x = q * s + l
  l0 : 0 ≤ l
  ls : l < s
end Go.Proofs.YtebjedbppiphgaaGreatDoor.Rnd
namespace Go.Proofs.YtebjedbppiphgaaGreatDoor.Rnd
open Go.RowKit Kit Dec
def TenAt (k q : Nat) : Prop := q = 10 ^ k
theorem TenAt.next {k q : Nat} (h : TenAt k q) : TenAt (k + 1) (q * 10) := by unfold TenAt at *; rw [h, Nat.pow_succ]
theorem TenAt.room {k q : Nat} (h : TenAt k q) (hk : k ≤ 18) : 0 < q ∧ q ≤ 1000000000000000000 := by
  rw [h]
  exact ⟨Nat.pow_pos (by omega), Nat.le_trans (Nat.pow_le_pow_right (by omega) hk) (by decide)⟩
end Go.Proofs.YtebjedbppiphgaaGreatDoor.Rnd

/- Columns by their letters, rows by their numbers, cells by their names: in plain lists. No condition; no program is named here. -/
import Derived.Lib.ItoaNum
import Derived.Lib.ItoaMem
import Derived.Lib.IndexAny
namespace Go.Proofs.YtcgpggknmhlnkaaDoor.Addr
/-- a column's letters -/
def letN (c : Nat) : List UInt8 := if c < 26 then [UInt8.ofNat (65 + c)] else [UInt8.ofNat (64 + c / 26), UInt8.ofNat (65 + c % 26)]
/-- digits of a number below 1000 -/
def d3 (n : Nat) : List UInt8 :=
  if n < 10 then [UInt8.ofNat (48 + n)] else if n < 100 then [UInt8.ofNat (48 + n / 10), UInt8.ofNat (48 + n % 10)] else [UInt8.ofNat (48 + n / 100), UInt8.ofNat (48 + n / 10 % 10), UInt8.ofNat (48 + n % 10)]
/-- a row's number -/
def numN (r : Nat) : List UInt8 := d3 (r + 1)
def mayB (r c : Int) : Bool := decide (0 ≤ r ∧ r ≤ 998 ∧ 0 ≤ c ∧ c ≤ 701)
/-- a cell's name -/
def nameN (r c : Nat) : List UInt8 := letN c ++ numN r
def nameI (r c : Int) : List UInt8 := if mayB r c = true then nameN r.toNat c.toNat else []
theorem mayB_nat {r c : Nat} (h1 : r ≤ 998) (h2 : c ≤ 701) : mayB r c = true := by simp [mayB]; omega
theorem of_mayB {r c : Int} (h : mayB r c = true) : ∃ i j : Nat, r = i ∧ c = j ∧ i ≤ 998 ∧ j ≤ 701 := by
  simp only [mayB, decide_eq_true_eq] at h
  exact ⟨r.toNat, c.toNat, by omega, by omega, by omega, by omega⟩
theorem nameI_nat {r c : Nat} (h1 : r ≤ 998) (h2 : c ≤ 701) : nameI r c = nameN r c := by rw [nameI, if_pos (mayB_nat h1 h2)]; simp
theorem let_facts : ∀ c, c < 702 → (∀ b, b ∈ letN c → 65 ≤ b ∧ b ≤ 90) := by decide +kernel
theorem num_facts : ∀ r, r < 999 → (∀ b, b ∈ numN r → 48 ≤ b ∧ b ≤ 57) ∧ numN r ≠ [] := by decide +kernel
theorem let_length (c : Nat) : (letN c).length = if c < 26 then 1 else 2 := by unfold letN; split <;> rfl
theorem let_len1 (c : Nat) : 1 ≤ (letN c).length ∧ (letN c).length ≤ 2 := by rw [let_length]; split <;> omega
theorem num_length (r : Nat) : 1 ≤ (numN r).length ∧ (numN r).length ≤ 3 := by
  unfold numN d3
  repeat' split
  all_goals simp
def colV : List UInt8 → Nat
  | [a] => a.toNat - 65
  | [a, b] => (a.toNat - 64) * 26 + (b.toNat - 65)
  | _ => 0
theorem colV_let : ∀ c, c < 702 → colV (letN c) = c := by decide +kernel
def rowV : List UInt8 → Nat
  | [a] => a.toNat - 49
  | [a, b] => (a.toNat - 48) * 10 + (b.toNat - 48) - 1
  | [a, b, c] => (a.toNat - 48) * 100 + (b.toNat - 48) * 10 + (c.toNat - 48) - 1
  | _ => 0
theorem rowV_num : ∀ r, r < 999 → rowV (numN r) = r := by decide +kernel
theorem let_inj {a b : Nat} (ha : a ≤ 701) (hb : b ≤ 701) (h : letN a = letN b) : a = b := by
  rw [← colV_let a (by omega), ← colV_let b (by omega), h]
theorem num_inj {a b : Nat} (ha : a ≤ 998) (hb : b ≤ 998) (h : numN a = numN b) : a = b := by
  rw [← rowV_num a (by omega), ← rowV_num b (by omega), h]

/-- what a reader of columns has to answer -/
def ColIs (t : List UInt8) (n : Int) (b : Bool) : Prop := (b = true ∧ ∃ k : Nat, k ≤ 701 ∧ n = k ∧ letN k = t) ∨ (b = false ∧ n = 0 ∧ ∀ k : Nat, k ≤ 701 → letN k ≠ t)
theorem ColIs.unique {t : List UInt8} {n m : Int} {b c : Bool} (h : ColIs t n b) (k : ColIs t m c) : n = m ∧ b = c := by
  rcases h with ⟨rfl, i, hi, rfl, e⟩ | ⟨rfl, rfl, h⟩ <;> rcases k with ⟨rfl, j, hj, rfl, f⟩ | ⟨rfl, rfl, k⟩
  · exact ⟨by rw [let_inj hi hj (e.trans f.symm)], rfl⟩
  · exact absurd e (k i hi)
  · exact absurd f (h j hj)
  · exact ⟨rfl, rfl⟩
/-- .. of rows -/
def NumIs (t : List UInt8) (n : Int) (b : Bool) : Prop := (b = true ∧ ∃ k : Nat, k ≤ 998 ∧ n = k ∧ numN k = t) ∨ (b = false ∧ n = 0 ∧ ∀ k : Nat, k ≤ 998 → numN k ≠ t)
theorem NumIs.unique {t : List UInt8} {n m : Int} {b c : Bool} (h : NumIs t n b) (k : NumIs t m c) : n = m ∧ b = c := by
  rcases h with ⟨rfl, i, hi, rfl, e⟩ | ⟨rfl, rfl, h⟩ <;> rcases k with ⟨rfl, j, hj, rfl, f⟩ | ⟨rfl, rfl, k⟩
  · exact ⟨by rw [num_inj hi hj (e.trans f.symm)], rfl⟩
  · exact absurd e (k i hi)
  · exact absurd f (h j hj)
  · exact ⟨rfl, rfl⟩

/-- the ten digits -/
def tens : List UInt8 := [48, 49, 50, 51, 52, 53, 54, 55, 56, 57]
theorem tens_has {b : UInt8} (h : 48 ≤ b ∧ b ≤ 57) : tens.contains b = true := by
  have h1 := h.1; have h2 := h.2
  rw [UInt8.le_iff_toNat_le] at h1 h2
  have e : b = UInt8.ofNat b.toNat := by simp
  have : b.toNat = 48 ∨ b.toNat = 49 ∨ b.toNat = 50 ∨ b.toNat = 51 ∨ b.toNat = 52 ∨ b.toNat = 53 ∨ b.toNat = 54 ∨ b.toNat = 55 ∨ b.toNat = 56 ∨ b.toNat = 57 := by
    simp at h1 h2; omega
  rw [e]
  rcases this with h | h | h | h | h | h | h | h | h | h <;> rw [h] <;> rfl
theorem tens_not {b : UInt8} (h : 65 ≤ b) : tens.contains b = false := by
  rw [UInt8.le_iff_toNat_le] at h
  have h' : 65 ≤ b.toNat := h
  cases hc : tens.contains b with
  | false => rfl
  | true =>
    exfalso
    simp [tens] at hc
    rcases hc with h | h | h | h | h | h | h | h | h | h <;> subst h <;> simp at h'
theorem name_index {i j : Nat} (hi : i ≤ 998) (hj : j ≤ 701) : Lib.indexAny (nameN i j) tens = (letN j).length := by
  obtain ⟨hd, hne⟩ := num_facts i (by omega)
  obtain ⟨x, r, hx⟩ : ∃ x r, numN i = x :: r := List.exists_cons_of_ne_nil hne
  refine Lib.indexAny_hit (x := x) (fun k b hk hb => ?_) ?_ (tens_has (hd x (by rw [hx]; simp)))
  · unfold nameN at hb
    rw [List.getElem?_append_left hk] at hb
    exact tens_not (let_facts j (by omega) b (List.mem_of_getElem? hb)).1
  · unfold nameN
    rw [List.getElem?_append_right (Nat.le_refl _), hx]
    simp
/-- cut where the first digit stands a name is its letters and its number -/
theorem name_cut {t : List UInt8} {i j k : Nat} (hi : i ≤ 998) (hj : j ≤ 701) (h : nameN i j = t) (hk : Lib.indexAny t tens = k) : t.take k = letN j ∧ t.drop k = numN i := by
  subst h
  rw [name_index hi hj] at hk
  obtain rfl : (letN j).length = k := by omega
  exact ⟨by simp [nameN], by simp [nameN]⟩
theorem name_inj {a b c d : Nat} (ha : a ≤ 998) (hb : b ≤ 701) (hc : c ≤ 998) (hd : d ≤ 701) (h : nameN a b = nameN c d) : a = c ∧ b = d := by
  obtain ⟨h1, h2⟩ := name_cut ha hb rfl (name_index ha hb)
  obtain ⟨h3, h4⟩ := name_cut hc hd h.symm (name_index ha hb)
  exact ⟨num_inj ha hc (h2.symm.trans h4), let_inj hb hd (h1.symm.trans h3)⟩
/-- what a reader of cells has to answer -/
def CellIs (t : List UInt8) (r c : Int) (b : Bool) : Prop :=
  (b = true ∧ ∃ i j : Nat, i ≤ 998 ∧ j ≤ 701 ∧ r = i ∧ c = j ∧ nameN i j = t) ∨ (b = false ∧ r = 0 ∧ c = 0 ∧ ∀ i j : Nat, i ≤ 998 → j ≤ 701 → nameN i j ≠ t)
theorem CellIs.unique {t : List UInt8} {r c r' c' : Int} {b b' : Bool} (h : CellIs t r c b) (k : CellIs t r' c' b') : r = r' ∧ c = c' ∧ b = b' := by
  rcases h with ⟨rfl, i, j, hi, hj, rfl, rfl, e⟩ | ⟨rfl, rfl, rfl, h⟩ <;> rcases k with ⟨rfl, i', j', hi', hj', rfl, rfl, f⟩ | ⟨rfl, rfl, rfl, k⟩
  · obtain ⟨rfl, rfl⟩ := name_inj hi hj hi' hj' (e.trans f.symm)
    exact ⟨rfl, rfl, rfl⟩
  · exact absurd e (k i j hi hj)
  · exact absurd f (h i' j' hi' hj')
  · exact ⟨rfl, rfl, rfl⟩
theorem CellIs.name {r c : Int} (h : mayB r c = true) : CellIs (nameI r c) r c true := by
  obtain ⟨i, j, rfl, rfl, hi, hj⟩ := of_mayB h
  exact .inl ⟨rfl, i, j, hi, hj, rfl, rfl, (nameI_nat hi hj).symm⟩
theorem CellIs.empty : CellIs [] 0 0 false := .inr ⟨rfl, rfl, rfl, fun i j _ _ e => by
  have := congrArg List.length e
  have h1 := let_len1 j
  simp [nameN] at this
  simp [this.1] at h1⟩
/-- a reader that tries cuts behind the first letters: none fits that is shorter than k -/
def NoCut (t : List UInt8) (k : Nat) : Prop := ∀ i j : Nat, i ≤ 998 → j ≤ 701 → nameN i j = t → k ≤ (letN j).length
theorem NoCut.one (t : List UInt8) : NoCut t 1 := fun _ j _ _ _ => (let_len1 j).1
theorem NoCut.done {t : List UInt8} {k : Nat} (h : NoCut t k) (hk : 2 < k ∨ t.length < k) : CellIs t 0 0 false := .inr ⟨rfl, rfl, rfl, fun i j hi hj e => by
  have h2 := h i j hi hj e
  have h3 := let_len1 j
  have h4 := num_length i
  subst e
  simp only [nameN, List.length_append] at hk
  omega⟩

/-- what a column's reader keeps: the letters up to here are a column's, or there are none yet -/
def ColAt (l : List UInt8) (c : Int) : Prop := (l = [] ∧ c = -1) ∨ ∃ k : Nat, k ≤ 701 ∧ c = k ∧ letN k = l
theorem ColAt.range {l : List UInt8} {c : Int} (h : ColAt l c) : -1 ≤ c ∧ c ≤ 701 := by
  rcases h with ⟨_, rfl⟩ | ⟨k, hk, rfl, _⟩ <;> omega
theorem let_snoc1 : ∀ x, x < 26 → [UInt8.ofNat (65 + x)] = letN x := by decide +kernel
theorem let_snoc2 : ∀ k, k < 26 → ∀ x, x < 26 → letN k ++ [UInt8.ofNat (65 + x)] = letN ((k + 1) * 26 + x) := by decide +kernel
theorem letter_of {x : UInt8} (h1 : 65 ≤ x.toNat) (h2 : x.toNat ≤ 90) : ∃ y, y < 26 ∧ x = UInt8.ofNat (65 + y) ∧ x.toNat = 65 + y :=
  ⟨x.toNat - 65, by omega, by rw [show 65 + (x.toNat - 65) = x.toNat by omega]; simp, by omega⟩
theorem ColAt.next {l : List UInt8} {c : Int} {x : UInt8} (h : ColAt l c) (h1 : 65 ≤ x.toNat) (h2 : x.toNat ≤ 90) (hc : (c + 1) * 26 + ((x.toNat : Int) - 65) ≤ 701) : ColAt (l ++ [x]) ((c + 1) * 26 + ((x.toNat : Int) - 65)) := by
  obtain ⟨y, hy, rfl, hxy⟩ := letter_of h1 h2
  rw [hxy] at hc ⊢
  rcases h with ⟨rfl, rfl⟩ | ⟨k, hk, rfl, rfl⟩
  · exact .inr ⟨y, by omega, by omega, (let_snoc1 y hy).symm⟩
  · refine .inr ⟨(k + 1) * 26 + y, by omega, by push_cast; omega, (let_snoc2 k (by omega) y hy).symm⟩
theorem ColAt.over {l : List UInt8} {c : Int} {x : UInt8} {r : List UInt8} (h : ColAt l c) (h1 : 65 ≤ x.toNat) (h2 : x.toNat ≤ 90) (hc : 701 < (c + 1) * 26 + ((x.toNat : Int) - 65)) : ColIs (l ++ x :: r) 0 false := .inr ⟨rfl, rfl, fun j hj e => by
  rcases h with ⟨rfl, rfl⟩ | ⟨k, hk, rfl, rfl⟩
  · omega
  · have h3 := congrArg List.length e
    simp only [List.length_append, List.length_cons] at h3
    rw [let_length, let_length] at h3
    have : ¬ k < 26 := by omega
    rw [if_neg this] at h3
    split at h3 <;> omega⟩
theorem ColAt.done {l : List UInt8} {c : Int} (h : ColAt l c) (hl : l ≠ []) : ColIs l c true := by
  rcases h with ⟨rfl, _⟩ | ⟨k, hk, rfl, e⟩
  · exact absurd rfl hl
  · exact .inl ⟨rfl, k, hk, rfl, e⟩
theorem ColIs.empty : ColIs [] 0 false := .inr ⟨rfl, rfl, fun k _ e => by
  have := let_len1 k
  rw [e] at this
  simp at this⟩
/-- readers that try one after the other -/
def NoCol (t : List UInt8) (n : Nat) : Prop := ∀ k, k < n → letN k ≠ t
def NoNum (t : List UInt8) (n : Nat) : Prop := ∀ k, k < n → numN k ≠ t
theorem NoCol.next {t : List UInt8} {n : Nat} (h : NoCol t n) (hn : letN n ≠ t) : NoCol t (n + 1) := fun k hk => by
  rcases Nat.lt_or_ge k n with h1 | h1
  · exact h k h1
  · obtain rfl : k = n := by omega
    exact hn
theorem NoNum.next {t : List UInt8} {n : Nat} (h : NoNum t n) (hn : numN n ≠ t) : NoNum t (n + 1) := fun k hk => by
  rcases Nat.lt_or_ge k n with h1 | h1
  · exact h k h1
  · obtain rfl : k = n := by omega
    exact hn
theorem NoCol.done {t : List UInt8} (h : NoCol t 702) : ColIs t 0 false := .inr ⟨rfl, rfl, fun k hk => h k (by omega)⟩
theorem NoNum.done {t : List UInt8} (h : NoNum t 999) : NumIs t 0 false := .inr ⟨rfl, rfl, fun k hk => h k (by omega)⟩
theorem ColIs.here {t : List UInt8} {n : Nat} (hn : n ≤ 701) (h : letN n = t) : ColIs t n true := .inl ⟨rfl, n, hn, rfl, h⟩
theorem NumIs.here {t : List UInt8} {n : Nat} (hn : n ≤ 998) (h : numN n = t) : NumIs t n true := .inl ⟨rfl, n, hn, rfl, h⟩
end Go.Proofs.YtcgpggknmhlnkaaDoor.Addr

/- Tables, what stands in them, where a value is found, what is looked up beside it, what is hit, and sums of products: in plain lists. No function of the program is named here.
   The sum of the products of two tables' values, in plain lists: as the program has it (all products, then their sum) and as the reference has it (one behind the other). No function of the program is named here. -/
import Derived.Test.YtbjomidkeignjaaGreatDoorG13
import Derived.Test.YtbjomidkeignjaaGreatDoorG14
import Derived.Test.YtbjomidkeignjaaGreatDoorDecScale
import Derived.Test.YtbjomidkeignjaaGreatDoorG8
namespace Go.Proofs.YtbjomidkeignjaaGreatDoor.Lok
open Dec Dig Val Fld

/-- a table has as many values as its rows and columns say, and not too many -/
def Good (r c : Int) (n : Nat) : Prop := 1 ≤ r ∧ 1 ≤ c ∧ n ≤ 1000 ∧ r * c = n
theorem Good.nat {r c : Int} {n : Nat} (h : Good r c n) : ∃ R C : Nat, r = R ∧ c = C ∧ 1 ≤ R ∧ 1 ≤ C ∧ n ≤ 1000 ∧ R * C = n ∧ R ≤ n ∧ C ≤ n := by
  obtain ⟨h1, h2, h3, h4⟩ := h
  obtain ⟨R, rfl⟩ := Int.eq_ofNat_of_zero_le (show 0 ≤ r by omega)
  obtain ⟨C, rfl⟩ := Int.eq_ofNat_of_zero_le (show 0 ≤ c by omega)
  have h5 : R * C = n := by exact_mod_cast h4
  have h6 : 1 ≤ R := by omega
  have h7 : 1 ≤ C := by omega
  exact ⟨R, C, rfl, rfl, h6, h7, h3, h5, by rw [← h5]; exact Nat.le_mul_of_pos_right R h7, by rw [← h5]; exact Nat.le_mul_of_pos_left C h6⟩
theorem good_of {R C n : Nat} (h1 : 1 ≤ R) (h2 : 1 ≤ C) (h3 : n ≤ 1000) (h4 : R * C = n) : Good R C n := ⟨by omega, by omega, h3, by exact_mod_cast h4⟩
theorem good_div {R C n : Nat} (h2 : 1 ≤ C) (h4 : R * C = n) : (n : Int).tmod C = 0 ∧ (n : Int).tdiv C = R := by
  have e : (n : Int) = (R : Int) * (C : Int) := by exact_mod_cast h4.symm
  rw [e]
  exact ⟨Int.mul_tmod_left _ _, Int.mul_tdiv_cancel _ (by omega)⟩
theorem bad_ways {r c : Int} {n : Nat} (h : ¬ Good r c n) : r < 1 ∨ (1 ≤ r ∧ c < 1) ∨ (1 ≤ r ∧ 1 ≤ c ∧ 1000 < n) ∨ (1 ≤ r ∧ 1 ≤ c ∧ n ≤ 1000 ∧ ¬ (n : Int).tmod c = 0) ∨
    (1 ≤ r ∧ 1 ≤ c ∧ n ≤ 1000 ∧ (n : Int).tmod c = 0 ∧ ¬ (n : Int).tdiv c = r) := by
  by_cases h1 : r < 1
  · exact .inl h1
  by_cases h2 : c < 1
  · exact .inr (.inl ⟨by omega, h2⟩)
  by_cases h3 : 1000 < n
  · exact .inr (.inr (.inl ⟨by omega, by omega, h3⟩))
  by_cases h4 : (n : Int).tmod c = 0
  · refine .inr (.inr (.inr (.inr ⟨by omega, by omega, by omega, h4, fun e => h ⟨by omega, by omega, by omega, ?_⟩⟩)))
    have := Int.mul_tdiv_add_tmod (n : Int) c
    rw [h4, e, Int.add_zero, Int.mul_comm] at this
    exact this
  · exact .inr (.inr (.inr (.inl ⟨by omega, by omega, by omega, h4⟩)))
/-- the ways in which the reference finds no table -/
theorem rbad_ways {r c : Int} {n : Nat} (h : ¬ Good r c n) : r < 1 ∨ (1 ≤ r ∧ c < 1) ∨ (1 ≤ r ∧ 1 ≤ c ∧ 1000 < r) ∨ (1 ≤ r ∧ 1 ≤ c ∧ r ≤ 1000 ∧ 1000 < c) ∨
    (1 ≤ r ∧ 1 ≤ c ∧ r ≤ 1000 ∧ c ≤ 1000 ∧ ¬ r * c = n) ∨ (1 ≤ r ∧ 1 ≤ c ∧ r ≤ 1000 ∧ c ≤ 1000 ∧ r * c = n ∧ 1000 < n) := by
  by_cases h1 : r < 1
  · exact .inl h1
  by_cases h2 : c < 1
  · exact .inr (.inl ⟨by omega, h2⟩)
  by_cases h3 : 1000 < r
  · exact .inr (.inr (.inl ⟨by omega, by omega, h3⟩))
  by_cases h4 : 1000 < c
  · exact .inr (.inr (.inr (.inl ⟨by omega, by omega, by omega, h4⟩)))
  by_cases h5 : r * c = n
  · exact .inr (.inr (.inr (.inr (.inr ⟨by omega, by omega, by omega, by omega, h5, Nat.lt_of_not_le fun h6 => h ⟨by omega, by omega, h6, h5⟩⟩))))
  · exact .inr (.inr (.inr (.inr (.inl ⟨by omega, by omega, by omega, by omega, h5⟩))))
/-- the empty value, and a fault -/
def zeroVl : Vl := ⟨0, 0, ⟨#[]⟩⟩
def faultVl (code : Int) : Vl := ⟨4, code, ⟨#[]⟩⟩
/-- a list of those that stand at places -/
def pickL (L : List Vl) (g : Nat → Nat) (m : Nat) : List Vl := (List.range m).map fun i => (L[g i]?).getD zeroVl
theorem pick_len (L : List Vl) (g : Nat → Nat) (m : Nat) : (pickL L g m).length = m := by simp [pickL]
theorem pick_at {L : List Vl} {g : Nat → Nat} {m i : Nat} {v : Vl} (hi : i < m) (hv : L[g i]? = some v) : (pickL L g m)[i]? = some v := by
  simp [pickL, hi, hv]
theorem pick_snoc {L : List Vl} {g : Nat → Nat} {k : Nat} {v : Vl} (hv : L[g k]? = some v) : pickL L g (k + 1) = pickL L g k ++ [v] := by
  unfold pickL
  rw [List.range_succ, List.map_append, List.map_cons, List.map_nil, hv]
  rfl
theorem pick_mem {L : List Vl} {g : Nat → Nat} {m : Nat} (hg : ∀ i, i < m → g i < L.length) {v : Vl} (h : v ∈ pickL L g m) : v ∈ L := by
  obtain ⟨i, hi, rfl⟩ := List.mem_map.1 h
  have h1 := hg i (List.mem_range.1 hi)
  rw [List.getElem?_eq_getElem h1]
  exact List.getElem_mem h1
/-- the place of a row's and a column's value -/
theorem place_lt {R C n i j : Nat} (h4 : R * C = n) (hi : i < R) (hj : j < C) : i * C + j < n := by
  have h1 : (i + 1) * C ≤ R * C := Nat.mul_le_mul_right C hi
  rw [Nat.add_mul, Nat.one_mul] at h1
  omega
/-- a value is found as another one -/
def sameV (x v : Vl) : Bool := decide (x.k = 0 ∨ v.k = 0 ∨ x.k = v.k) && (decide (x.n = v.n) && decide (x.t = v.t))
def hitS (x v : Vl) : Bool := !decide (v.k = 4) && sameV x v
theorem same_comm (x v : Vl) : sameV x v = sameV v x := by
  unfold sameV
  congr 1
  · rw [decide_eq_decide]
    constructor
    · rintro (h | h | h)
      · exact .inr (.inl h)
      · exact .inl h
      · exact .inr (.inr h.symm)
    · rintro (h | h | h)
      · exact .inr (.inl h)
      · exact .inl h
      · exact .inr (.inr h.symm)
  · congr 1
    · rw [decide_eq_decide]; exact eq_comm
    · rw [decide_eq_decide]; exact eq_comm
/-- it stands nowhere; where it stands first -/
def NoS (x : Vl) (L : List Vl) : Prop := ∀ (k : Nat) (v : Vl), L[k]? = some v → hitS x v = false
def FirstS (x : Vl) (L : List Vl) (p : Nat) (v : Vl) : Prop := L[p]? = some v ∧ hitS x v = true ∧ ∀ (i : Nat) (u : Vl), i < p → L[i]? = some u → hitS x u = false
theorem FirstS.lt {x : Vl} {L : List Vl} {p : Nat} {v : Vl} (h : FirstS x L p v) : p < L.length := (List.getElem?_eq_some_iff.1 h.1).1
theorem find_ways (x : Vl) : ∀ L : List Vl, NoS x L ∨ ∃ p v, FirstS x L p v
  | [] => .inl fun k v h => by simp at h
  | u :: r => by
    cases h : hitS x u
    · rcases find_ways x r with h1 | ⟨p, v, h1, h2, h3⟩
      · exact .inl fun k v hv => by
          cases k with
          | zero => simp at hv; subst hv; exact h
          | succ k => exact h1 k v (by simpa using hv)
      · refine .inr ⟨p + 1, v, by simpa using h1, h2, fun i y hi hy => ?_⟩
        cases i with
        | zero => simp at hy; subst hy; exact h
        | succ i => exact h3 i y (by omega) (by simpa using hy)
    · exact .inr ⟨0, u, rfl, h, fun i y hi => by omega⟩
/-- what is looked up -/
def LookIs (x : Vl) (keys l : List Vl) (valid : Bool) (v : Vl) : Prop :=
  (x.k = 4 ∧ v = x) ∨ (¬ x.k = 4 ∧ valid = false ∧ v = faultVl 3) ∨ (¬ x.k = 4 ∧ valid = true ∧ NoS x keys ∧ v = faultVl 5) ∨ (¬ x.k = 4 ∧ valid = true ∧ ∃ p u, FirstS x keys p u ∧ l[p]? = some v)
theorem look_some (x : Vl) (keys l : List Vl) (valid : Bool) (hl : keys.length = l.length) : ∃ v, LookIs x keys l valid v := by
  by_cases h4 : x.k = 4
  · exact ⟨x, .inl ⟨h4, rfl⟩⟩
  cases valid
  · exact ⟨_, .inr (.inl ⟨h4, rfl, rfl⟩)⟩
  rcases find_ways x keys with h | ⟨p, u, h⟩
  · exact ⟨_, .inr (.inr (.inl ⟨h4, rfl, h, rfl⟩))⟩
  · have h1 := h.lt
    rw [hl] at h1
    exact ⟨_, .inr (.inr (.inr ⟨h4, rfl, p, u, h, List.getElem?_eq_getElem h1⟩))⟩
end Go.Proofs.YtbjomidkeignjaaGreatDoor.Lok
namespace Go.Proofs.YtbjomidkeignjaaGreatDoor.Lok
open Dec Dig Val Fld

/-- the number as which a value counts, and the product of two -/
def numN (v : Vl) : Int := if v.k = 1 then v.n else 0
def prodV (a b : Vl) : Vl := ⟨(gotV (scaledD (numN a) (numN b) 10000).1 (scaledD (numN a) (numN b) 10000).2).1, (gotV (scaledD (numN a) (numN b) 10000).1 (scaledD (numN a) (numN b) 10000).2).2, ⟨#[]⟩⟩
def prodL (Z : List (Vl × Vl)) : List Vl := Z.map fun p => prodV p.1 p.2
theorem give_ok {b : Bool} {x m : Int} (h : giveD b x = (m, true)) : -9223372036854775807 ≤ m ∧ m ≤ 9223372036854775807 := by
  unfold giveD at h
  split at h
  · rename_i hb
    rw [Bool.and_eq_true] at hb
    have h1 := hb.2
    unfold okD at h1
    rw [Bool.and_eq_true] at h1
    have e := (Prod.mk.inj h).1
    have h2 := of_decide_eq_true h1.1
    have h3 := of_decide_eq_true h1.2
    omega
  · exact absurd (Prod.mk.inj h).2 (by decide)
theorem scaled_ok {a b c m : Int} (h : scaledD a b c = (m, true)) : -9223372036854775807 ≤ m ∧ m ≤ 9223372036854775807 := give_ok h
theorem add_ok {a b m : Int} (h : addD a b = (m, true)) : -9223372036854775807 ≤ m ∧ m ≤ 9223372036854775807 := give_ok h
theorem got_yes {m : Int} (h : -9223372036854775807 ≤ m) : gotV m true = (1, m) := by
  unfold gotV
  rw [if_pos rfl]
  exact num_in (mayD_yes h)
theorem got_not (m : Int) : gotV m false = (4, 4) := rfl
theorem scaled_comm (a b c : Int) : scaledD a b c = scaledD b a c := by
  unfold scaledD negs
  rw [Nat.mul_comm a.natAbs]
  congr 1
  · cases mayD a <;> cases mayD b <;> rfl
  · congr 1
    cases decide (a < 0) <;> cases decide (b < 0) <;> rfl
theorem prod_comm (a b : Vl) : prodV a b = prodV b a := by unfold prodV; rw [scaled_comm]
theorem scaled_zero {a : Int} (h : -9223372036854775807 ≤ a) : scaledD a 0 10000 = (0, true) := by
  have hr : roundN (a.natAbs * (0 : Int).natAbs) (10000 : Int).natAbs = 0 := by
    show roundN (a.natAbs * 0) 10000 = 0
    rw [Nat.mul_zero]
    rfl
  rw [scaledD_in h (by omega) (by omega) (by omega) hr (by omega)]
  unfold signed
  split <;> rfl
theorem num_room {v : Vl} (h : v.may) : -9223372036854775807 ≤ numN v := by
  unfold numN
  split
  · exact may_num_low h (by assumption)
  · omega
theorem prod_none {a b : Vl} (ha : a.may) (hb : b.may) (h : ¬ a.k = 1 ∨ ¬ b.k = 1) : prodV a b = ⟨1, 0, ⟨#[]⟩⟩ := by
  have hs : scaledD (numN a) (numN b) 10000 = (0, true) := by
    rcases h with h | h
    · rw [scaled_comm, show numN a = 0 from if_neg h]
      exact scaled_zero (num_room hb)
    · rw [show numN b = 0 from if_neg h]
      exact scaled_zero (num_room ha)
  unfold prodV
  rw [hs]
  show (⟨(gotV 0 true).1, (gotV 0 true).2, ⟨#[]⟩⟩ : Vl) = _
  rw [got_yes (by omega)]
theorem prod_bad {a b : Vl} {m : Int} (h : scaledD (numN a) (numN b) 10000 = (m, false)) : prodV a b = ⟨4, 4, ⟨#[]⟩⟩ := by
  unfold prodV
  rw [h]
  rfl
theorem prod_good {a b : Vl} {m : Int} (h : scaledD (numN a) (numN b) 10000 = (m, true)) : prodV a b = ⟨1, m, ⟨#[]⟩⟩ := by
  have := scaled_ok h
  unfold prodV
  rw [h]
  show (⟨(gotV m true).1, (gotV m true).2, ⟨#[]⟩⟩ : Vl) = _
  rw [got_yes this.1]
theorem prod_may (a b : Vl) : (prodV a b).may ∧ (prodV a b).fits := by
  rcases h : scaledD (numN a) (numN b) 10000 with ⟨m, ok⟩
  cases ok
  · rw [prod_bad h]
    exact ⟨by unfold Vl.may; decide, by unfold Vl.fits; dsimp only; omega⟩
  · have hm := scaled_ok h
    rw [prod_good h]
    refine ⟨?_, by unfold Vl.fits; dsimp only; omega⟩
    unfold Vl.may
    exact may_num (num_in (mayD_yes hm.1))
/-- what the reference reckons, from a sum on -/
def refP : Int → List (Vl × Vl) → Int × Int
  | s, [] => gotV s true
  | s, p :: r => if ¬ p.1.k = 1 ∨ ¬ p.2.k = 1 then refP s r else match scaledD p.1.n p.2.n 10000 with
    | (_, false) => (4, 4)
    | (m, true) => match addD s m with
      | (_, false) => (4, 4)
      | (t, true) => refP t r
theorem ref_skip {s : Int} {Z : List (Vl × Vl)} {k : Nat} {a b : Vl} (h : Z[k]? = some (a, b)) (hn : ¬ a.k = 1 ∨ ¬ b.k = 1) : refP s (Z.drop k) = refP s (Z.drop (k + 1)) := by
  rw [drop_at h, refP, if_pos hn]
theorem ref_out {s m : Int} {Z : List (Vl × Vl)} {k : Nat} {a b : Vl} (h : Z[k]? = some (a, b)) (h1 : a.k = 1) (h2 : b.k = 1) (hm : scaledD a.n b.n 10000 = (m, false)) : refP s (Z.drop k) = (4, 4) := by
  rw [drop_at h, refP, if_neg (by simp [h1, h2])]
  dsimp only
  rw [hm]
theorem ref_over {s m t : Int} {Z : List (Vl × Vl)} {k : Nat} {a b : Vl} (h : Z[k]? = some (a, b)) (h1 : a.k = 1) (h2 : b.k = 1) (hm : scaledD a.n b.n 10000 = (m, true)) (ht : addD s m = (t, false)) : refP s (Z.drop k) = (4, 4) := by
  rw [drop_at h, refP, if_neg (by simp [h1, h2])]
  dsimp only
  rw [hm]
  dsimp only
  rw [ht]
theorem ref_on {s m t : Int} {Z : List (Vl × Vl)} {k : Nat} {a b : Vl} (h : Z[k]? = some (a, b)) (h1 : a.k = 1) (h2 : b.k = 1) (hm : scaledD a.n b.n 10000 = (m, true)) (ht : addD s m = (t, true)) : refP s (Z.drop k) = refP t (Z.drop (k + 1)) := by
  rw [drop_at h, refP, if_neg (by simp [h1, h2])]
  dsimp only
  rw [hm]
  dsimp only
  rw [ht]
theorem ref_end (s : Int) (Z : List (Vl × Vl)) : refP s (Z.drop Z.length) = gotV s true := by rw [List.drop_length]; rfl
theorem numsF_cons1 (m : Int) (r : List Vl) : numsF (⟨1, m, ⟨#[]⟩⟩ :: r) = m :: numsF r := by simp [numsF]
theorem noF_cons {v : Vl} {r : List Vl} (h : ¬ v.k = 4) : NoF (v :: r) ↔ NoF r := by
  unfold NoF
  constructor
  · intro h1 u hu
    exact h1 u (List.mem_cons_of_mem _ hu)
  · intro h1 u hu
    rcases List.mem_cons.1 hu with rfl | hu
    · exact h
    · exact h1 u hu
theorem ref_eq : ∀ (Z : List (Vl × Vl)) (s : Int), -9223372036854775807 ≤ s → s ≤ 9223372036854775807 → (∀ p ∈ Z, p.1.may ∧ p.2.may) →
    (NoF (prodL Z) → refP s Z = gotV (totalD addD s (numsF (prodL Z))).1 (totalD addD s (numsF (prodL Z))).2) ∧ (¬ NoF (prodL Z) → refP s Z = (4, 4))
  | [], s, h1, h2, hm => ⟨fun _ => rfl, fun h => absurd (fun v hv => by cases hv) h⟩
  | (a, b) :: r, s, h1, h2, hm => by
    have hab := hm (a, b) (List.mem_cons_self ..)
    have hr : ∀ p ∈ r, p.1.may ∧ p.2.may := fun p hp => hm p (List.mem_cons_of_mem _ hp)
    have e : prodL ((a, b) :: r) = prodV a b :: prodL r := rfl
    by_cases hn : ¬ a.k = 1 ∨ ¬ b.k = 1
    · rw [e, prod_none hab.1 hab.2 hn, numsF_cons1, noF_cons (by simp), refP, if_pos hn, totalD, addD_in h1 (by omega) (by omega) (by omega), Int.add_zero]
      exact ref_eq r s h1 h2 hr
    · have ha : a.k = 1 := Decidable.byContradiction fun h => hn (.inl h)
      have hb : b.k = 1 := Decidable.byContradiction fun h => hn (.inr h)
      have na : numN a = a.n := if_pos ha
      have nb : numN b = b.n := if_pos hb
      rcases hs : scaledD a.n b.n 10000 with ⟨m, ok⟩
      have hs2 : scaledD (numN a) (numN b) 10000 = (m, ok) := by rw [na, nb]; exact hs
      cases ok
      · have hp : refP s ((a, b) :: r) = (4, 4) := by
          rw [refP, if_neg hn]
          dsimp only
          rw [hs]
        rw [e, prod_bad hs2]
        exact ⟨fun h => absurd (h _ (List.mem_cons_self ..)) (by simp), fun _ => hp⟩
      · have hmr := scaled_ok hs
        rw [e, prod_good hs2, numsF_cons1, noF_cons (by simp), totalD]
        rcases ht : addD s m with ⟨t, okt⟩
        have hp : refP s ((a, b) :: r) = if okt then refP t r else (4, 4) := by
          rw [refP, if_neg hn]
          dsimp only
          rw [hs]
          dsimp only
          rw [ht]
          cases okt <;> rfl
        rw [hp]
        cases okt
        · exact ⟨fun _ => rfl, fun _ => rfl⟩
        · have htr := add_ok ht
          exact ref_eq r t htr.1 htr.2 hr
theorem prod_fault {Z : List (Vl × Vl)} {p : Nat} {v : Vl} (h : FirstF (prodL Z) p v) : v.n = 4 := by
  obtain ⟨h1, h2, _⟩ := h
  unfold prodL at h1
  rw [List.getElem?_map] at h1
  obtain ⟨q, _, rfl⟩ := Option.map_eq_some_iff.1 h1
  rcases hs : scaledD (numN q.1) (numN q.2) 10000 with ⟨m, ok⟩
  cases ok
  · rw [prod_bad hs]
  · rw [prod_good hs] at h2
    exact absurd h2 (by simp)
/-- both ways of reckoning are one -/
theorem sum_ref (Z : List (Vl × Vl)) (hm : ∀ p ∈ Z, p.1.may ∧ p.2.may) : allV addD 0 (prodL Z) = refP 0 Z := by
  have h := ref_eq Z 0 (by omega) (by omega) hm
  rcases fault_ways (prodL Z) with hf | ⟨p, v, hf⟩
  · rw [h.1 hf, allV_no hf]
    unfold allD
    split
    · rename_i e
      rw [e]
      rfl
    · rfl
  · rw [h.2 (fun h9 => h9.at hf.1 hf.2.1), allV_yes hf, prod_fault hf]
/-- what Products answers of two tables of one shape -/
def sumP (La Lb : List Vl) : Int × Int := match faultF La with
  | some v => (4, v.n)
  | none => match faultF Lb with
    | some v => (4, v.n)
    | none => allV addD 0 (prodL (La.zip Lb))
theorem sumP_a {La : List Vl} (Lb : List Vl) {p : Nat} {v : Vl} (h : FirstF La p v) : sumP La Lb = (4, v.n) := by rw [sumP, faultF_some h]
theorem sumP_b {La Lb : List Vl} (ha : NoF La) {p : Nat} {v : Vl} (h : FirstF Lb p v) : sumP La Lb = (4, v.n) := by rw [sumP, faultF_none ha]; dsimp only; rw [faultF_some h]
theorem sumP_in {La Lb : List Vl} (ha : NoF La) (hb : NoF Lb) : sumP La Lb = allV addD 0 (prodL (La.zip Lb)) := by rw [sumP, faultF_none ha]; dsimp only; rw [faultF_none hb]
theorem firstF_app {La : List Vl} (Lb : List Vl) {p : Nat} {v : Vl} (h : FirstF La p v) : FirstF (La ++ Lb) p v := by
  have hl := h.lt
  refine ⟨by rw [List.getElem?_append_left hl]; exact h.1, h.2.1, fun i u hi hu => ?_⟩
  rw [List.getElem?_append_left (by omega)] at hu
  exact h.2.2 i u hi hu
theorem firstF_behind {La Lb : List Vl} (ha : NoF La) {p : Nat} {v : Vl} (h : FirstF Lb p v) : FirstF (La ++ Lb) (La.length + p) v := by
  refine ⟨by rw [List.getElem?_append_right (by omega), Nat.add_sub_cancel_left]; exact h.1, h.2.1, fun i u hi hu => ?_⟩
  by_cases hl : i < La.length
  · rw [List.getElem?_append_left hl] at hu
    exact ha.at hu
  · rw [List.getElem?_append_right (by omega)] at hu
    exact h.2.2 (i - La.length) u (by omega) hu
theorem noF_app {La Lb : List Vl} (ha : NoF La) (hb : NoF Lb) : NoF (La ++ Lb) := fun v hv => (List.mem_append.1 hv).elim (ha v) (hb v)
theorem zip_prod_comm : ∀ La Lb : List Vl, prodL (La.zip Lb) = prodL (Lb.zip La)
  | [], Lb => by cases Lb <;> rfl
  | a :: r, [] => rfl
  | a :: r, b :: q => by
    show prodV a b :: prodL (r.zip q) = prodV b a :: prodL (q.zip r)
    rw [prod_comm, zip_prod_comm r q]
theorem sumP_comm (La Lb : List Vl) : (sumP La Lb).1 = 4 ∨ sumP La Lb = sumP Lb La := by
  rcases fault_ways La with ha | ⟨p, v, ha⟩
  · rcases fault_ways Lb with hb | ⟨p, v, hb⟩
    · right
      rw [sumP_in ha hb, sumP_in hb ha, zip_prod_comm]
    · left
      rw [sumP_b ha hb]
  · left
    rw [sumP_a Lb ha]
end Go.Proofs.YtbjomidkeignjaaGreatDoor.Lok

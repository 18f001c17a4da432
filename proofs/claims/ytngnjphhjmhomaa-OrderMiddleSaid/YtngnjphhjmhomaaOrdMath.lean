/- Lists of numbers, in order: what is sorted, which number has which place, how often each is there. Lists alone: no function of the program is named here. -/
import Derived.Test.YtngnjphhjmhomaaDecMath
import Derived.Maps.Views
namespace Go.Proofs.Ytngnjphhjmhomaa.Odr
open Dec

/-- what is sorted -/
def srt (l : List Int) : List Int := l.mergeSort fun x y => decide (x ≤ y)
theorem srt_perm (l : List Int) : (srt l).Perm l := List.mergeSort_perm _ _
theorem srt_len (l : List Int) : (srt l).length = l.length := List.length_mergeSort _
theorem srt_up (l : List Int) : (srt l).Pairwise (· ≤ ·) := by
  have h := List.pairwise_mergeSort (le := fun x y : Int => decide (x ≤ y)) (fun a b c h1 h2 => by simp at *; omega) (fun a b => by simp; omega) l
  exact h.imp fun h => by simpa using h
theorem srt_one {l s : List Int} (hp : s.Perm l) (hs : s.Pairwise (· ≤ ·)) : srt l = s :=
  List.Perm.eq_of_pairwise (le := (· ≤ ·)) (fun _ _ _ _ h1 h2 => Int.le_antisymm h1 h2) (srt_up l) hs ((srt_perm l).trans hp.symm)
theorem srt_of_perm {l m : List Int} (h : l.Perm m) : srt l = srt m := srt_one ((srt_perm m).trans h.symm) (srt_up m)
theorem srt_rev (l : List Int) : srt l.reverse = srt l := srt_of_perm (List.reverse_perm l)
theorem srt_nil : srt [] = [] := by simp [srt]
theorem srt_mem {l : List Int} {x : Int} : x ∈ srt l ↔ x ∈ l := (srt_perm l).mem_iff
theorem srt_count (l : List Int) (x : Int) : (srt l).count x = l.count x := (srt_perm l).count_eq x
theorem srt_step {l : List Int} {i : Nat} {x y : Int} (h1 : (srt l)[i]? = some x) (h2 : (srt l)[i + 1]? = some y) : x ≤ y := by
  obtain ⟨l1, rfl⟩ := List.getElem?_eq_some_iff.1 h1
  obtain ⟨l2, rfl⟩ := List.getElem?_eq_some_iff.1 h2
  exact List.pairwise_iff_getElem.1 (srt_up l) i (i + 1) l1 l2 (by omega)

/-- a number put behind all that are not greater -/
theorem put_srt {l : List Int} {i k : Nat} {x : Int} (hl : l[i]? = some x) (h1 : ∀ j y, j < k → (srt (l.take i))[j]? = some y → y ≤ x) (h2 : ∀ y, (srt (l.take i))[k]? = some y → x < y) :
    srt (l.take (i + 1)) = (srt (l.take i)).take k ++ [x] ++ (srt (l.take i)).drop k := by
  have hs := srt_up (l.take i)
  have hp := srt_perm (l.take i)
  generalize srt (l.take i) = s at *
  refine srt_one ?_ ?_
  · have e : l.take (i + 1) = l.take i ++ [x] := by rw [List.take_add_one, hl]; rfl
    rw [e]
    have p1 : (s.take k ++ [x] ++ s.drop k).Perm (x :: (s.take k ++ s.drop k)) := by
      rw [List.append_assoc]
      exact List.perm_middle
    rw [List.take_append_drop] at p1
    exact p1.trans ((hp.cons x).trans (List.perm_append_singleton x _).symm)
  · have ha : ∀ y ∈ s.take k, y ≤ x := fun y hy => by
      obtain ⟨j, hj⟩ := List.mem_iff_getElem?.1 hy
      by_cases hk : j < k
      · rw [List.getElem?_take_of_lt hk] at hj
        exact h1 j y hk hj
      · rw [List.getElem?_take_eq_none (by omega)] at hj
        cases hj
    have hb : ∀ y ∈ s.drop k, x < y := fun y hy => by
      obtain ⟨j, hj⟩ := List.mem_iff_getElem?.1 hy
      rw [List.getElem?_drop] at hj
      obtain ⟨hlt, rfl⟩ := List.getElem?_eq_some_iff.1 hj
      have hz : s[k]? = some (s[k]'(by omega)) := List.getElem?_eq_getElem _
      have h3 := h2 _ hz
      by_cases h0 : j = 0
      · subst h0
        exact h3
      · have := List.pairwise_iff_getElem.1 hs k (k + j) (by omega) hlt (by omega)
        omega
    have hs' := hs
    rw [← List.take_append_drop k s, List.pairwise_append] at hs'
    obtain ⟨q1, q2, q3⟩ := hs'
    rw [List.append_assoc, List.pairwise_append]
    refine ⟨q1, ?_, ?_⟩
    · rw [List.singleton_append, List.pairwise_cons]
      exact ⟨fun y hy => Int.le_of_lt (hb y hy), q2⟩
    · intro a hA b hB
      rw [List.singleton_append, List.mem_cons] at hB
      rcases hB with rfl | hB
      · exact ha a hA
      · exact q3 a hA b hB

/-- the number at a place, counted from 1 on, from either end -/
def placeB (l : List Int) (k : Int) : Bool := decide (1 ≤ k) && decide (k ≤ (l.length : Int))
def smallD (l : List Int) (k : Int) : Int × Bool := if placeB l k = true then ((srt l).getD (k - 1).toNat 0, true) else (0, false)
def largeD (l : List Int) (k : Int) : Int × Bool := if placeB l k = true then ((srt l).getD ((l.length : Int) - k).toNat 0, true) else (0, false)
theorem placeB_yes {l : List Int} {k : Int} (h1 : 1 ≤ k) (h2 : k ≤ (l.length : Int)) : placeB l k = true := by simp [placeB, h1, h2]
theorem placeB_no {l : List Int} {k : Int} (h : k < 1 ∨ (l.length : Int) < k) : placeB l k = false := by simp [placeB]; omega
theorem smallD_no {l : List Int} {k : Int} (h : k < 1 ∨ (l.length : Int) < k) : smallD l k = (0, false) := by rw [smallD, placeB_no h]; rfl
theorem largeD_no {l : List Int} {k : Int} (h : k < 1 ∨ (l.length : Int) < k) : largeD l k = (0, false) := by rw [largeD, placeB_no h]; rfl
theorem smallD_yes {l : List Int} {j : Nat} {x : Int} (h : (srt l)[j]? = some x) : smallD l ((j : Int) + 1) = (x, true) := by
  have hl := (List.getElem?_eq_some_iff.1 h).1
  rw [srt_len] at hl
  rw [smallD, placeB_yes (by omega) (by omega), if_pos rfl, show ((j : Int) + 1 - 1).toNat = j by omega, List.getD, h]
  rfl
theorem largeD_yes {l : List Int} {j : Nat} {x : Int} (h : (srt l)[j]? = some x) : largeD l ((l.length : Int) - (j : Int)) = (x, true) := by
  have hl := (List.getElem?_eq_some_iff.1 h).1
  rw [srt_len] at hl
  rw [largeD, placeB_yes (by omega) (by omega), if_pos rfl, show ((l.length : Int) - ((l.length : Int) - (j : Int))).toNat = j by omega, List.getD, h]
  rfl
theorem smallD_rev (l : List Int) (k : Int) : smallD l.reverse k = smallD l k := by rw [smallD, smallD, placeB, placeB, srt_rev, List.length_reverse]

/-- the middle -/
def medD (l : List Int) : Int × Bool :=
  if l.length = 0 then (0, false)
  else if l.length % 2 = 1 then ((srt l).getD (l.length / 2) 0, true)
  else if (addD ((srt l).getD (l.length / 2 - 1) 0) ((srt l).getD (l.length / 2) 0)).2 = true then scaledD (addD ((srt l).getD (l.length / 2 - 1) 0) ((srt l).getD (l.length / 2) 0)).1 1 2 else (0, false)
theorem medD_nil {l : List Int} (h : l.length = 0) : medD l = (0, false) := by rw [medD, if_pos h]
theorem medD_odd {l : List Int} {x : Int} (h : l.length % 2 = 1) (hx : (srt l)[l.length / 2]? = some x) : medD l = (x, true) := by
  rw [medD, if_neg (by omega), if_pos h, List.getD, hx]
  rfl
theorem medD_none {l : List Int} {x y s : Int} (h0 : ¬ l.length = 0) (h : l.length % 2 = 0) (hx : (srt l)[l.length / 2 - 1]? = some x) (hy : (srt l)[l.length / 2]? = some y) (hs : addD x y = (s, false)) : medD l = (0, false) := by
  rw [medD, if_neg h0, if_neg (by omega), List.getD, List.getD, hx, hy, Option.getD_some, Option.getD_some, hs]
  rfl
theorem medD_even {l : List Int} {x y s : Int} (h0 : ¬ l.length = 0) (h : l.length % 2 = 0) (hx : (srt l)[l.length / 2 - 1]? = some x) (hy : (srt l)[l.length / 2]? = some y) (hs : addD x y = (s, true)) : medD l = scaledD s 1 2 := by
  rw [medD, if_neg h0, if_neg (by omega), List.getD, List.getD, hx, hy, Option.getD_some, Option.getD_some, hs, if_pos rfl]
theorem medD_rev (l : List Int) : medD l.reverse = medD l := by rw [medD, medD, srt_rev, List.length_reverse]

/-- how many are greater; a number's place from the greatest one on -/
def gtN (x : Int) (l : List Int) : Nat := l.countP fun y => decide (x < y)
theorem gtN_rev (x : Int) (l : List Int) : gtN x l.reverse = gtN x l := (List.reverse_perm l).countP_eq _
theorem gtN_le (x : Int) (l : List Int) : gtN x l ≤ l.length := List.countP_le_length
theorem take_one {α : Type} {l : List α} {i : Nat} {x : α} (h : l[i]? = some x) : l.take (i + 1) = l.take i ++ [x] := by rw [List.take_add_one, h]; rfl
theorem gtN_hit {x y : Int} {l : List Int} {i : Nat} (h : l[i]? = some y) (hy : x < y) : gtN x (l.take (i + 1)) = gtN x (l.take i) + 1 := by rw [take_one h, gtN, List.countP_append]; simp [gtN, hy]
theorem gtN_miss {x y : Int} {l : List Int} {i : Nat} (h : l[i]? = some y) (hy : ¬ x < y) : gtN x (l.take (i + 1)) = gtN x (l.take i) := by rw [take_one h, gtN, List.countP_append]; simp [gtN, hy]
theorem cnt_hit {x y : Int} {l : List Int} {i : Nat} (h : l[i]? = some y) (hy : y = x) : (l.take (i + 1)).count x = (l.take i).count x + 1 := by rw [take_one h, List.count_append, hy]; simp
theorem cnt_miss {x y : Int} {l : List Int} {i : Nat} (h : l[i]? = some y) (hy : ¬ y = x) : (l.take (i + 1)).count x = (l.take i).count x := by rw [take_one h, List.count_append]; simp [hy]
def rankD (x : Int) (l : List Int) : Int × Bool := if x ∈ l then (1 + (gtN x l : Int), true) else (0, false)
theorem rankD_yes {x : Int} {l : List Int} (h : x ∈ l) : rankD x l = (1 + (gtN x l : Int), true) := if_pos h
theorem rankD_no {x : Int} {l : List Int} (h : ¬ x ∈ l) : rankD x l = (0, false) := if_neg h
theorem rankD_rev (x : Int) (l : List Int) : rankD x l.reverse = rankD x l := by rw [rankD, rankD, gtN_rev]; simp
theorem rankD_pos (x : Int) (l : List Int) : (rankD x l).2 = decide (0 < (rankD x l).1) := by
  rw [rankD]
  split
  · simp; omega
  · simp
theorem split_up (x : Int) : ∀ s : List Int, s.Pairwise (· ≤ ·) → s = s.filter (fun y => decide (y ≤ x)) ++ s.filter (fun y => decide (x < y))
  | [], _ => rfl
  | a :: r, h => by
    rw [List.pairwise_cons] at h
    have ih := split_up x r h.2
    by_cases ha : a ≤ x
    · have e : ¬ x < a := by omega
      rw [List.filter_cons_of_pos (by simpa using ha), List.filter_cons_of_neg (by simpa using e), List.cons_append, ← ih]
    · have e : x < a := by omega
      have hall : r.filter (fun y => decide (y ≤ x)) = [] := by
        rw [List.filter_eq_nil_iff]
        intro y hy
        have := h.1 y hy
        simp
        omega
      rw [List.filter_cons_of_neg (by simpa using ha), List.filter_cons_of_pos (by simpa using e), hall, List.nil_append]
      rw [hall, List.nil_append] at ih
      rw [← ih]
/-- whose place from the greatest one on is k is the one at that place -/
theorem rank_large {x : Int} {l : List Int} (h : x ∈ l) : 1 + gtN x l ≤ l.length ∧ (srt l)[l.length - (1 + gtN x l)]? = some x := by
  have hs := srt_up l
  have hl := srt_len l
  have hg : gtN x l = ((srt l).filter (fun y => decide (x < y))).length := by
    rw [gtN, ← (srt_perm l).countP_eq, List.countP_eq_length_filter]
  have hm : x ∈ (srt l).filter (fun y => decide (y ≤ x)) := List.mem_filter.2 ⟨srt_mem.2 h, by simp⟩
  have hsp := split_up x (srt l) hs
  have hf : ((srt l).filter (fun y => decide (y ≤ x))).Pairwise (· ≤ ·) := hs.filter _
  have hu : ∀ y ∈ (srt l).filter (fun y => decide (y ≤ x)), y ≤ x := fun y hy => by simpa using (List.mem_filter.1 hy).2
  generalize (srt l).filter (fun y => decide (y ≤ x)) = f at *
  generalize (srt l).filter (fun y => decide (x < y)) = g at *
  have hlen : l.length = f.length + g.length := by rw [← hl, hsp, List.length_append]
  have hpos : 0 < f.length := List.length_pos_of_mem hm
  refine ⟨by omega, ?_⟩
  rw [hsp, show l.length - (1 + gtN x l) = f.length - 1 by omega, List.getElem?_append_left (by omega), List.getElem?_eq_getElem (by omega)]
  congr 1
  obtain ⟨j, hj, rfl⟩ := List.getElem_of_mem hm
  refine Int.le_antisymm (hu _ (List.getElem_mem _)) ?_
  by_cases e : j = f.length - 1
  · subst e
    exact Int.le_refl _
  · exact List.pairwise_iff_getElem.1 hf j (f.length - 1) hj (by omega) (by omega)
theorem rank_back {x : Int} {l : List Int} (h : x ∈ l) : largeD l (1 + (gtN x l : Int)) = (x, true) := by
  obtain ⟨h1, h2⟩ := rank_large h
  have h3 := largeD_yes h2
  rw [show ((l.length : Int) - ((l.length - (1 + gtN x l) : Nat) : Int)) = 1 + (gtN x l : Int) by omega] at h3
  exact h3

/-- the number that is there most often, of several the first one; and how often (1: none is there twice) -/
def modeN (l : List Int) (st : Int × Nat) (x : Int) : Int × Nat := if st.2 < l.count x then (x, l.count x) else st
def modeAt (l : List Int) (k : Nat) : Int × Nat := (l.take k).foldl (modeN l) (0, 1)
def modeD (l : List Int) : Int × Bool := ((modeAt l l.length).1, decide (1 < (modeAt l l.length).2))
theorem modeAt_zero (l : List Int) : modeAt l 0 = (0, 1) := rfl
theorem modeAt_step {l : List Int} {k : Nat} {x : Int} (h : l[k]? = some x) : modeAt l (k + 1) = modeN l (modeAt l k) x := by rw [modeAt, take_one h, List.foldl_append]; rfl
theorem modeAt_hit {l : List Int} {k : Nat} {x m : Int} {b : Nat} (h : l[k]? = some x) (e : modeAt l k = (m, b)) (hc : b < l.count x) : modeAt l (k + 1) = (x, l.count x) := by rw [modeAt_step h, e, modeN, if_pos hc]
theorem modeAt_miss {l : List Int} {k : Nat} {x m : Int} {b : Nat} (h : l[k]? = some x) (e : modeAt l k = (m, b)) (hc : ¬ b < l.count x) : modeAt l (k + 1) = (m, b) := by rw [modeAt_step h, e, modeN, if_neg hc]
structure ModeIs (l : List Int) (k : Nat) (m : Int) (b : Nat) : Prop where
  one : 1 ≤ b
  all : ∀ i x, i < k → l[i]? = some x → l.count x ≤ b
  is : (b = 1 ∧ m = 0) ∨ (1 < b ∧ l.count m = b)
theorem modeAt_is (l : List Int) : ∀ k, k ≤ l.length → ModeIs l k (modeAt l k).1 (modeAt l k).2
  | 0, _ => ⟨Nat.le_refl _, fun i x h => by omega, .inl ⟨rfl, rfl⟩⟩
  | k + 1, hk => by
    have ih := modeAt_is l k (by omega)
    have hx : l[k]? = some (l[k]'(by omega)) := List.getElem?_eq_getElem _
    generalize l[k]'(by omega) = x at hx
    obtain ⟨⟨m, b⟩, hmb⟩ : ∃ r, modeAt l k = r := ⟨_, rfl⟩
    rw [hmb] at ih
    dsimp only at ih
    by_cases hc : b < l.count x
    · rw [modeAt_hit hx hmb hc]
      have h1 := ih.one
      refine ⟨by show 1 ≤ l.count x; omega, fun i y hi hy => ?_, .inr ⟨by show 1 < l.count x; omega, rfl⟩⟩
      by_cases e : i < k
      · have := ih.all i y e hy
        show l.count y ≤ l.count x
        omega
      · obtain rfl : i = k := by omega
        obtain rfl := Option.some.inj (hx.symm.trans hy)
        exact Nat.le_refl _
    · rw [modeAt_miss hx hmb hc]
      refine ⟨ih.one, fun i y hi hy => ?_, ih.is⟩
      by_cases e : i < k
      · exact ih.all i y e hy
      · obtain rfl : i = k := by omega
        obtain rfl := Option.some.inj (hx.symm.trans hy)
        show l.count x ≤ b
        omega
theorem mode_same {l r : List Int} {m n : Int} {b c : Nat} (hc : ∀ x, l.count x = r.count x) (hl : ModeIs l l.length m b) (hr : ModeIs r r.length n c) : b = c ∧ l.count m = l.count n := by
  have up : ∀ x, 1 < l.count x → l.count x ≤ b ∧ l.count x ≤ c := fun x hx => by
    have h1 : x ∈ l := List.count_pos_iff.1 (by omega)
    have h2 : x ∈ r := List.count_pos_iff.1 (by rw [← hc]; omega)
    obtain ⟨i, hi⟩ := List.mem_iff_getElem?.1 h1
    obtain ⟨j, hj⟩ := List.mem_iff_getElem?.1 h2
    have q1 := hl.all i x (List.getElem?_eq_some_iff.1 hi).1 hi
    have q2 := hr.all j x (List.getElem?_eq_some_iff.1 hj).1 hj
    rw [← hc] at q2
    exact ⟨q1, q2⟩
  rcases hl.is with ⟨h1, h2⟩ | ⟨h1, h2⟩ <;> rcases hr.is with ⟨h3, h4⟩ | ⟨h3, h4⟩
  · exact ⟨by omega, by rw [h2, h4]⟩
  · rw [← hc] at h4
    have := up n (by omega)
    omega
  · have := up m (by omega)
    omega
  · rw [← hc] at h4
    have := up m (by omega)
    have := up n (by omega)
    omega
theorem mode_rev (l : List Int) : (modeD l.reverse).2 = (modeD l).2 ∧ l.count (modeD l).1 = l.count (modeD l.reverse).1 := by
  have h := mode_same (fun x => (List.count_reverse (a := x) (l := l)).symm) (modeAt_is l l.length (Nat.le_refl _)) (modeAt_is l.reverse l.reverse.length (Nat.le_refl _))
  refine ⟨?_, h.2⟩
  rw [modeD, modeD, ← h.1]

/-- a map that reads as how often each number is there -/
def IsCnt {H : Type} (D : DataW H) (p : List Int) : Prop := Go.Maps.IsMap D ∧ ∀ x, D.atKey (.int .i64 x) (.lit (.int .i64 0)) = .lit (.int .i64 (p.count x : Nat))
theorem IsCnt.start {H : Type} : IsCnt (H := H) (.map []) [] := ⟨Go.Maps.isMap_empty, fun _ => rfl⟩
theorem IsCnt.step {H : Type} {D : DataW H} {p : List Int} (h : IsCnt D p) (x : Int) : IsCnt (D.put (.int .i64 x) (.lit (.int .i64 ((p.count x : Nat) + 1)))) (p ++ [x]) := by
  refine ⟨h.1.put _ _, fun y => ?_⟩
  by_cases e : y = x
  · subst e
    rw [Go.Maps.atKey_put_same (k := .int .i64 y) h.1 trivial, List.count_append]
    simp
  · rw [Go.Maps.atKey_put_other (by intro he; exact e (by injection he)), h.2 y, List.count_append]
    congr 3
    have : ¬ x = y := fun he => e he.symm
    simp [this]
end Go.Proofs.Ytngnjphhjmhomaa.Odr

/- What package power's between, counts, multiplied, Power answer: for every number of 64 bits.
   What package power's Sqrt answers: for every number of 64 bits.
   Lists of numbers, in order: what is sorted, which number has which place, how often each is there. Lists alone: no function of the program is named here.
   What operators and functions of values answer, in plain words: how values are taken, what each function makes of them. No function of the program is named here. -/
import Derived.Test.YtebjedbppiphgaaGreatDoorKtu19
import Derived.Test.YtebjedbppiphgaaGreatDoorKtu04
import Derived.Maps.Views
import Derived.Test.YtebjedbppiphgaaGreatDoorKtu17
import Derived.Test.YtebjedbppiphgaaGreatDoorKtu09
import Derived.Test.YtebjedbppiphgaaGreatDoorKtu10
namespace Go.Proofs.YtebjedbppiphgaaGreatDoor.Pow
open Go.RowKit Kit Dec
theorem drawn_more {w wr : World} (h : Drawn w wr) (y : Nat) : Drawn w (wr.drewN y) := by
  obtain ⟨q, rfl⟩ := h
  exact ⟨q + y, by rw [World.drewN_drewN]⟩
set_option maxRecDepth 100000 in
set_option maxHeartbeats 400000 in
theorem between_c (x f t : Int) (x2 : x ≤ 9223372036854775807) (b : Bool) (hb : wholeIn x f t = b) (w : World) :
    Calls Tryz.prog 187 #[.int .i64 x, .int .i64 f, .int .i64 t] w fun e w' => e = .returned (.bool b) ∧ w = w' := by
  subst hb
  have M := Lib.hid (fun w1 => whole_c x x2 _ rfl w1)
  have U := Lib.hid (fun w1 => units_c x x2 _ rfl w1)
  unfold wholeIn
  generalize wholeD x = b at *
  generalize unitsD x = m at *
  cases b
  · rw [Bool.false_and]
    go_enter Tryz.func187, Tryz.ntmps187
    go_wp2_with (go_at_call 265; refine (M.out _).mono ?_; rintro e w' ⟨rfl, rfl⟩)
    go_ret
    exact ⟨rfl, rfl⟩
  · rw [Bool.true_and]
    by_cases h : f ≤ m
    · rw [decide_eq_true h, Bool.true_and]
      go_enter Tryz.func187, Tryz.ntmps187
      go_wp2_with (first
        | (go_at_call 265; refine (M.out _).mono ?_; rintro e w' ⟨rfl, rfl⟩)
        | (go_at_call 189; refine (U.out _).mono ?_; rintro e w' ⟨rfl, rfl⟩))
      go_ret
      exact ⟨rfl, rfl⟩
    · rw [decide_eq_false h, Bool.false_and]
      go_enter Tryz.func187, Tryz.ntmps187
      go_wp2_with (first
        | (go_at_call 265; refine (M.out _).mono ?_; rintro e w' ⟨rfl, rfl⟩)
        | (go_at_call 189; refine (U.out _).mono ?_; rintro e w' ⟨rfl, rfl⟩))
      go_ret
      exact ⟨rfl, rfl⟩
set_option maxRecDepth 100000 in
set_option maxHeartbeats 400000 in
theorem counts_c (x : Int) (x2 : x ≤ 9223372036854775807) (b : Bool) (hb : cntD x = b) (w : World) :
    Calls Tryz.prog 274 #[.int .i64 x] w fun e w' => e = .returned (.bool b) ∧ w = w' := by
  subst hb
  have M := Lib.hid (fun w1 => whole_c x x2 _ rfl w1)
  unfold cntD
  generalize wholeD x = b at *
  by_cases h : 0 ≤ x
  · rw [decide_eq_true h, Bool.true_and]
    go_enter Tryz.func274, Tryz.ntmps274
    go_wp2_with (go_at_call 265; refine (M.out _).mono ?_; rintro e w' ⟨rfl, rfl⟩)
    go_ret
    exact ⟨rfl, rfl⟩
  · rw [decide_eq_false h, Bool.false_and]
    go_enter Tryz.func274, Tryz.ntmps274
    go_wp2_with (go_at_call 265; refine (M.out _).mono ?_; rintro e w' ⟨rfl, rfl⟩)
    go_ret
    exact ⟨rfl, rfl⟩
set_option maxRecDepth 100000 in
set_option maxHeartbeats 1000000 in
theorem multiplied_c (x : Int) (t : Nat) (x2 : x ≤ 9223372036854775807) (ht : t ≤ 1000) (n : Int) (b : Bool) (hn : mulsD x t = (n, b)) (w : World) :
    Calls Tryz.prog 188 #[.int .i64 x, .int .i64 t] w (TwoD n b w) := by
  have HN := Lib.hid hn
  have M := Lib.hid (fun (p : Int) (p2 : p ≤ 9223372036854775807) w1 => mul_c p x p2 x2 _ _ rfl w1)
  clear hn
  go_enter Tryz.func188, Tryz.ntmps188
  go_wp2
  go_loopw [6, 7, 9] (fun p o i wr => ∃ (k : Nat) (q : Int), k ≤ t ∧ i = .int .i64 k ∧ p = .int .i64 q ∧ o = .bool true ∧ Hid (mulsD x k = (q, true)) ∧ Drawn w wr) (fun _ _ i _ => t - (intOf i).toNat)
  case atStart => exact ⟨0, 10000, by omega, rfl, rfl, rfl, Lib.hid rfl, Drawn.refl w⟩
  case round =>
    obtain ⟨k, q, hk, rfl, rfl, rfl, hq, hd⟩ := hrel
    have hr := mulsD_room x k
    rw [hq.out] at hr
    obtain ⟨q1, q2⟩ := hr
    dsimp only at q1 q2
    by_cases hlt : k < t
    · obtain ⟨⟨n2, b2⟩, hr2⟩ : ∃ r, scaledD q x 10000 = r := ⟨_, rfl⟩
      have M2 := Lib.hid (fun w1 => mul_c q x q2 x2 _ _ hr2 w1)
      have hx := mulsD_next hq.out hr2
      cases b2
      · have he := mulsD_stop (show k + 1 ≤ t by omega) hx
        obtain ⟨rfl, rfl⟩ := Prod.mk.inj (HN.out.symm.trans he)
        clear he hx hr2 hq HN
        go_wp2_with (go_at_call 80; refine (M2.out _).mono ?_; rintro e w' ⟨rfl, y, rfl⟩)
        go_ret2
        exact ⟨rfl, drawn_more hd _⟩
      · have hx := Lib.hid hx
        clear hr2 hq HN
        go_wp2_with (go_at_call 80; refine (M2.out _).mono ?_; rintro e w' ⟨rfl, y, rfl⟩)
        exact ⟨⟨k + 1, n2, by omega, by go_num, rfl, rfl, hx, drawn_more hd _⟩, by simp [intOf]; omega⟩
    · obtain rfl : k = t := by omega
      obtain ⟨rfl, rfl⟩ := Prod.mk.inj (HN.out.symm.trans hq.out)
      clear HN hq
      go_wp2
      go_ret2
      exact ⟨rfl, hd⟩
set_option maxRecDepth 100000 in
set_option maxHeartbeats 400000 in
theorem power_none (x n : Int) (_ : x ≤ 9223372036854775807) (n2 : n ≤ 9223372036854775807) (h : mayD x = false ∨ wholeIn n (-1000) 1000 = false) (w : World) :
    Calls Tryz.prog 83 #[.int .i64 x, .int .i64 n] w (TwoD 0 false w) := by
  have M := Lib.hid (fun w1 => may_c x _ rfl w1)
  have B := Lib.hid (fun w1 => between_c n (-1000) 1000 n2 _ rfl w1)
  cases hm : mayD x
  · rw [hm] at M
    clear h
    go_enter Tryz.func83, Tryz.ntmps83
    go_wp2_with (go_at_call 75; refine (M.out _).mono ?_; rintro e w' ⟨rfl, rfl⟩)
    go_ret2
    exact ⟨rfl, 0, rfl⟩
  · rw [hm] at M h
    rw [show wholeIn n (-1000) 1000 = false by simpa using h] at B
    clear h
    go_enter Tryz.func83, Tryz.ntmps83
    go_wp2_with (first
      | (go_at_call 75; refine (M.out _).mono ?_; rintro e w' ⟨rfl, rfl⟩)
      | (go_at_call 187; refine (B.out _).mono ?_; rintro e w' ⟨rfl, rfl⟩))
    go_ret2
    exact ⟨rfl, 0, rfl⟩
set_option maxRecDepth 100000 in
set_option maxHeartbeats 400000 in
theorem power_up (x n : Int) (x2 : x ≤ 9223372036854775807) (n2 : n ≤ 9223372036854775807) (h : mayD x = true) (h2 : wholeIn n (-1000) 1000 = true) (h3 : 0 ≤ n) (y : Int) (k : Bool) (hy : mulsD x (unitsD n).natAbs = (y, k)) (w : World) :
    Calls Tryz.prog 83 #[.int .i64 x, .int .i64 n] w (TwoD y k w) := by
  have M := Lib.hid (fun w1 => may_c x _ h w1)
  have B := Lib.hid (fun w1 => between_c n (-1000) 1000 n2 _ h2 w1)
  have U := Lib.hid (fun w1 => units_c n n2 _ rfl w1)
  obtain ⟨e, _, e3, _⟩ := wholeIn_yes h2
  have hs : unitsD n = ((unitsD n).natAbs : Nat) := by omega
  rw [hs] at U
  have P := Lib.hid (fun w1 => multiplied_c x (unitsD n).natAbs x2 (by omega) y k hy w1)
  clear hy hs e e3 h h2
  generalize (unitsD n).natAbs = t at *
  go_enter Tryz.func83, Tryz.ntmps83
  go_wp2_with (first
    | (go_at_call 75; refine (M.out _).mono ?_; rintro e w' ⟨rfl, rfl⟩)
    | (go_at_call 187; refine (B.out _).mono ?_; rintro e w' ⟨rfl, rfl⟩)
    | (go_at_call 189; refine (U.out _).mono ?_; rintro e w' ⟨rfl, rfl⟩)
    | (go_at_call 188; refine (P.out _).mono ?_; rintro e w' ⟨rfl, q, rfl⟩))
  go_ret2
  exact ⟨rfl, _, rfl⟩
set_option maxRecDepth 100000 in
set_option maxHeartbeats 400000 in
theorem power_down (x n : Int) (x2 : x ≤ 9223372036854775807) (n2 : n ≤ 9223372036854775807) (h : mayD x = true) (h2 : wholeIn n (-1000) 1000 = true) (h3 : n < 0) (p : Int) (b : Bool) (hp : mulsD x (unitsD n).natAbs = (p, b))
    (y : Int) (k : Bool) (hy : (if b then scaledD 10000 10000 p else (0, false)) = (y, k)) (w : World) :
    Calls Tryz.prog 83 #[.int .i64 x, .int .i64 n] w (TwoD y k w) := by
  have M := Lib.hid (fun w1 => may_c x _ h w1)
  have B := Lib.hid (fun w1 => between_c n (-1000) 1000 n2 _ h2 w1)
  have U := Lib.hid (fun w1 => units_c n n2 _ rfl w1)
  obtain ⟨e, e2, e3, _⟩ := wholeIn_yes h2
  have hr := mulsD_room x (unitsD n).natAbs
  rw [hp] at hr
  obtain ⟨hr1, hr2⟩ := hr
  dsimp only at hr1 hr2
  obtain ⟨t, ht⟩ : ∃ t, (unitsD n).natAbs = t := ⟨_, rfl⟩
  have hs : unitsD n = -(t : Int) := by omega
  have ht2 : t ≤ 1000 := by omega
  rw [hs] at U
  rw [ht] at hp
  have P := Lib.hid (fun w1 => multiplied_c x t x2 ht2 p b hp w1)
  clear hp hs e e2 e3 h h2 ht
  cases b
  · obtain ⟨rfl, rfl⟩ := Prod.mk.inj hy
    clear hy
    go_enter Tryz.func83, Tryz.ntmps83
    go_wp2_with (first
      | (go_at_call 75; refine (M.out _).mono ?_; rintro e w' ⟨rfl, rfl⟩)
      | (go_at_call 187; refine (B.out _).mono ?_; rintro e w' ⟨rfl, rfl⟩)
      | (go_at_call 189; refine (U.out _).mono ?_; rintro e w' ⟨rfl, rfl⟩)
      | (go_at_call 188; refine (P.out _).mono ?_; rintro e w' ⟨rfl, q, rfl⟩))
    go_ret2
    exact ⟨rfl, _, rfl⟩
  · rw [if_pos rfl] at hy
    have D := Lib.hid (fun w1 => div_c 10000 p (by omega) hr2 y k hy w1)
    clear hy
    go_enter Tryz.func83, Tryz.ntmps83
    go_wp2_with (first
      | (go_at_call 75; refine (M.out _).mono ?_; rintro e w' ⟨rfl, rfl⟩)
      | (go_at_call 187; refine (B.out _).mono ?_; rintro e w' ⟨rfl, rfl⟩)
      | (go_at_call 189; refine (U.out _).mono ?_; rintro e w' ⟨rfl, rfl⟩)
      | (go_at_call 188; refine (P.out _).mono ?_; rintro e w' ⟨rfl, q, rfl⟩)
      | (go_at_call 82; refine (D.out _).mono ?_; rintro e w' ⟨rfl, q2, rfl⟩))
    go_ret2
    exact ⟨rfl, _, rfl⟩
theorem power_c (x n : Int) (x2 : x ≤ 9223372036854775807) (n2 : n ≤ 9223372036854775807) (y : Int) (k : Bool) (hy : powerD x n = (y, k)) (w : World) :
    Calls Tryz.prog 83 #[.int .i64 x, .int .i64 n] w (TwoD y k w) := by
  cases h1 : mayD x
  · obtain ⟨rfl, rfl⟩ := Prod.mk.inj (hy.symm.trans (powerD_none (.inl h1)))
    exact power_none x n x2 n2 (.inl h1) w
  cases h2 : wholeIn n (-1000) 1000
  · obtain ⟨rfl, rfl⟩ := Prod.mk.inj (hy.symm.trans (powerD_none (.inr h2)))
    exact power_none x n x2 n2 (.inr h2) w
  by_cases h3 : 0 ≤ n
  · rw [powerD_up h1 h2 h3] at hy
    exact power_up x n x2 n2 h1 h2 h3 y k hy w
  · rw [powerD_down h1 h2 (by omega)] at hy
    exact power_down x n x2 n2 h1 h2 (by omega) _ _ rfl y k hy w
end Go.Proofs.YtebjedbppiphgaaGreatDoor.Pow
namespace Go.Proofs.YtebjedbppiphgaaGreatDoor.Pow
open Go.RowKit Kit Dec
/-- a number of 128 bits, by its halves -/
theorem halves (N : Nat) : N = N / 18446744073709551616 * 18446744073709551616 + N % 18446744073709551616 := by omega
end Go.Proofs.YtebjedbppiphgaaGreatDoor.Pow
namespace Go.Proofs.YtebjedbppiphgaaGreatDoor.Odr
open Dec
/-- what is sorted -/
def srt (l : List Int) : List Int := l.mergeSort fun x y => decide (x ≤ y)
theorem srt_perm (l : List Int) : (srt l).Perm l := List.mergeSort_perm _ _
theorem srt_len (l : List Int) : (srt l).length = l.length := List.length_mergeSort _
theorem srt_up (l : List Int) : (srt l).Pairwise (· ≤ ·) := by
  have h := List.pairwise_mergeSort (le := fun x y : Int => decide (x ≤ y)) (fun a b c h1 h2 => by simp at *; omega) (fun a b => by simp; omega) l
  exact h.imp fun h => by simpa using h
theorem srt_one {l s : List Int} (hp : s.Perm l) (hs : s.Pairwise (· ≤ ·)) : srt l = s :=
  List.Perm.eq_of_pairwise (le := (· ≤ ·)) (fun _ _ _ _ h1 h2 => Int.le_antisymm h1 h2) (srt_up l) hs ((srt_perm l).trans hp.symm)
theorem srt_nil : srt [] = [] := by simp [srt]
/-- the number at a place, counted from 1 on, from either end -/
def placeB (l : List Int) (k : Int) : Bool := decide (1 ≤ k) && decide (k ≤ (l.length : Int))
def largeD (l : List Int) (k : Int) : Int × Bool := if placeB l k = true then ((srt l).getD ((l.length : Int) - k).toNat 0, true) else (0, false)
theorem placeB_yes {l : List Int} {k : Int} (h1 : 1 ≤ k) (h2 : k ≤ (l.length : Int)) : placeB l k = true := by simp [placeB, h1, h2]
theorem placeB_no {l : List Int} {k : Int} (h : k < 1 ∨ (l.length : Int) < k) : placeB l k = false := by simp [placeB]; omega
theorem largeD_no {l : List Int} {k : Int} (h : k < 1 ∨ (l.length : Int) < k) : largeD l k = (0, false) := by rw [largeD, placeB_no h]; rfl
theorem largeD_yes {l : List Int} {j : Nat} {x : Int} (h : (srt l)[j]? = some x) : largeD l ((l.length : Int) - (j : Int)) = (x, true) := by
  have hl := (List.getElem?_eq_some_iff.1 h).1
  rw [srt_len] at hl
  rw [largeD, placeB_yes (by omega) (by omega), if_pos rfl, show ((l.length : Int) - ((l.length : Int) - (j : Int))).toNat = j by omega, List.getD, h]
  rfl
theorem take_one {α : Type} {l : List α} {i : Nat} {x : α} (h : l[i]? = some x) : l.take (i + 1) = l.take i ++ [x] := by rw [List.take_add_one, h]; rfl
theorem cnt_hit {x y : Int} {l : List Int} {i : Nat} (h : l[i]? = some y) (hy : y = x) : (l.take (i + 1)).count x = (l.take i).count x + 1 := by rw [take_one h, List.count_append, hy]; simp
theorem cnt_miss {x y : Int} {l : List Int} {i : Nat} (h : l[i]? = some y) (hy : ¬ y = x) : (l.take (i + 1)).count x = (l.take i).count x := by rw [take_one h, List.count_append]; simp [hy]
structure ModeIs (l : List Int) (k : Nat) (m : Int) (b : Nat) : Prop where
  one : 1 ≤ b
  all : ∀ i x, i < k → l[i]? = some x → l.count x ≤ b
  is : (b = 1 ∧ m = 0) ∨ (1 < b ∧ l.count m = b)
/-- a map that reads as how often each number is there -/
def IsCnt {H : Type} (D : DataW H) (p : List Int) : Prop := Go.Maps.IsMap D ∧ ∀ x, D.atKey (.int .i64 x) (.lit (.int .i64 0)) = .lit (.int .i64 (p.count x : Nat))
theorem IsCnt.start {H : Type} : IsCnt (H := H) (.map []) [] := ⟨Go.Maps.isMap_empty, fun _ => rfl⟩
theorem IsCnt.step {H : Type} {D : DataW H} {p : List Int} (h : IsCnt D p) (x : Int) : IsCnt (D.put (.int .i64 x) (.lit (.int .i64 ((p.count x : Nat) + 1)))) (p ++ [x]) := by
  refine ⟨h.1.put _ _, fun y => ?_⟩
  by_cases e : y = x
  · subst e
    rw [Go.Maps.atKey_put_same (k := .int .i64 y) h.1 trivial, List.count_append]
    simp
  · rw [Go.Maps.atKey_put_other (by intro he; exact e (by injection he)), h.2 y, List.count_append]
    congr 3
    have : ¬ x = y := fun he => e he.symm
    simp [this]
end Go.Proofs.YtebjedbppiphgaaGreatDoor.Odr
namespace Go.Proofs.YtebjedbppiphgaaGreatDoor.Cal
open Dec Dig Val Fld
/-- values: a number, a fault, a truth, a text; what comes of a number that is there or not; of a text; of a whole number -/
def nV (x : Int) : Vl := ⟨1, x, ⟨#[]⟩⟩
def fV (c : Int) : Vl := ⟨4, c, ⟨#[]⟩⟩
def bV (b : Bool) : Vl := ⟨3, if b then 1 else 0, ⟨#[]⟩⟩
def sV (l : List UInt8) : Vl := ⟨2, 0, ⟨l.toArray⟩⟩
def gV (p : Int × Bool) : Vl := ⟨(gotV p.1 p.2).1, (gotV p.1 p.2).2, ⟨#[]⟩⟩
def tV (p : List UInt8 × Bool) : Vl := if p.2 = true then sV p.1 else fV 2
def cV (n : Int) : Vl := nV (n * 10000)

/-- a value that may be, and holds in 64 bits -/
def Ok (v : Vl) : Prop := v.may ∧ v.fits
theorem mayV_num {x : Int} (h : mayD x = true) : mayV 1 x ⟨#[]⟩ = true := by
  have e : (⟨#[]⟩ : ByteArray).size = 0 := rfl
  simp [mayV, h, e]
theorem nV_ok {x : Int} (h1 : -9223372036854775807 ≤ x) (h2 : x ≤ 9223372036854775807) : Ok (nV x) := by
  refine ⟨?_, by show -9223372036854775808 ≤ x; omega, h2⟩
  exact mayV_num (decide_eq_true h1)
theorem fV_ok {c : Int} (h1 : 1 ≤ c) (h2 : c ≤ 7) : Ok (fV c) := by
  refine ⟨?_, by show -9223372036854775808 ≤ c; omega, by show c ≤ _; omega⟩
  show mayV 4 c ⟨#[]⟩ = true
  have e : (⟨#[]⟩ : ByteArray).size = 0 := rfl
  simp [mayV, h1, h2, e]
theorem gV_in {x : Int} (h : mayD x = true) : gV (x, true) = nV x := by
  unfold gV gotV numV
  simp [h, nV]
theorem gV_out {x : Int} : gV (x, false) = fV 4 := by
  unfold gV gotV
  simp [fV]
theorem gV_low {x : Int} (h : mayD x = false) (b : Bool) : gV (x, b) = fV 4 := by
  cases b
  · exact gV_out
  · unfold gV gotV numV
    simp [h, fV]
theorem gV_ok (p : Int × Bool) (h : p.1 ≤ 9223372036854775807) : Ok (gV p) := by
  obtain ⟨x, b⟩ := p
  cases hm : mayD x
  · rw [gV_low hm]; exact fV_ok (by decide) (by decide)
  · cases b
    · rw [gV_out]; exact fV_ok (by decide) (by decide)
    · rw [gV_in hm]
      exact nV_ok (of_decide_eq_true hm) h
/-- taken as a number, as a text, as a truth -/
def numT (v : Vl) : Vl := if v.k = 0 then nV 0 else if v.k = 1 then nV v.n else if v.k = 2 then (if (readD v.t.data.toList).2 = true then nV (readD v.t.data.toList).1 else fV 2) else if v.k = 3 then nV (v.n * 10000) else fV v.n
def txtT (v : Vl) : Vl := if v.k = 4 then fV v.n else sV (wordsF v)
def truT (v : Vl) : Vl := ⟨(truthF v).1, (truthF v).2, ⟨#[]⟩⟩
theorem num_ways {v : Vl} (hv : Ok v) : (∃ x, numT v = nV x ∧ -9223372036854775807 ≤ x ∧ x ≤ 9223372036854775807) ∨ ∃ c, numT v = fV c ∧ 1 ≤ c ∧ c ≤ 7 := by
  obtain ⟨hm, hf1, hf2⟩ := hv
  rcases may_ways hm with rfl | ⟨n, rfl, h⟩ | ⟨t, rfl, h⟩ | rfl | rfl | ⟨n, rfl, h1, h2⟩
  · exact .inl ⟨0, rfl, by decide, by decide⟩
  · exact .inl ⟨n, rfl, h, hf2⟩
  · obtain ⟨x, b, e⟩ : ∃ x b, readD t.data.toList = (x, b) := ⟨_, _, rfl⟩
    have hr := readD_room e
    cases b
    · exact .inr ⟨2, by show (if (readD t.data.toList).2 = true then _ else _) = _; rw [e]; rfl, by decide, by decide⟩
    · exact .inl ⟨x, by show (if (readD t.data.toList).2 = true then _ else _) = _; rw [e]; rfl, hr.1.1, hr.1.2⟩
  · exact .inl ⟨0, rfl, by decide, by decide⟩
  · exact .inl ⟨10000, rfl, by decide, by decide⟩
  · exact .inr ⟨n, rfl, h1, h2⟩
theorem txt_ways {v : Vl} (hv : Ok v) : (∃ l, txtT v = sV l ∧ l.length ≤ 256 ∧ l = wordsF v ∧ ¬ v.k = 4) ∨ ∃ c, txtT v = fV c ∧ 1 ≤ c ∧ c ≤ 7 := by
  by_cases h : v.k = 4
  · obtain ⟨hm, _⟩ := hv
    have e : txtT v = fV v.n := if_pos h
    rcases may_ways hm with rfl | ⟨n, rfl, _⟩ | ⟨t, rfl, _⟩ | rfl | rfl | ⟨n, rfl, h1, h2⟩
    · simp at h
    · simp at h
    · simp at h
    · simp at h
    · simp at h
    · exact .inr ⟨n, e, h1, h2⟩
  · exact .inl ⟨wordsF v, if_neg h, words_len hv.1 hv.2, rfl, h⟩
/-- taken as the letter says -/
def takeV (k : Nat) (v : Vl) : Vl := if k = 110 then numT v else if k = 115 then txtT v else if k = 98 then truT v else v
/-- the whole number of a number -/
def unI (x : Int) : Int := x.tdiv 10000
theorem un_room {x : Int} (h1 : -9223372036854775808 ≤ x) (h2 : x ≤ 9223372036854775807) : -922337203685479 ≤ unI x - 1 ∧ unI x + 1 ≤ 922337203685479 := by
  unfold unI
  have h3 := Int.mul_tdiv_add_tmod x 10000
  have h4 := Int.tmod_lt_of_pos x (show (0 : Int) < 10000 by decide)
  have h5 : -10000 < x.tmod 10000 := by
    rcases Int.le_total 0 x with h | h
    · have := Int.tmod_nonneg 10000 h; omega
    · have := Int.tmod_lt_of_pos (-x) (show (0 : Int) < 10000 by decide)
      rw [Int.neg_tmod] at this
      omega
  omega
/-- where a text is found in another one -/
noncomputable def findO (n l : List UInt8) : Option Nat := open Classical in if h : ∃ r, Run.FindIs n l r then Classical.choose h else none
theorem find_one {n l : List UInt8} {r : Option Nat} (h : Run.FindIs n l r) : findO n l = r := by
  have he : ∃ r, Run.FindIs n l r := ⟨r, h⟩
  unfold findO
  rw [dif_pos he]
  exact Run.FindIs.unique (Classical.choose_spec he) h
theorem find_lt {n l : List UInt8} {k : Nat} (h : findO n l = some k) : k ≤ (Run.ps l).length := by
  unfold findO at h
  split at h
  · rename_i he
    have h1 := Classical.choose_spec he
    rw [h] at h1
    rcases h1 with ⟨_, rfl⟩ | ⟨_, h2, _⟩
    · exact Nat.zero_le _
    · exact Nat.le_of_lt h2
  · cases h
noncomputable def findV (n l : List UInt8) : Vl := match findO n l with
  | some k => cV ((k : Int) + 1)
  | none => fV 2
theorem findV_some {n l : List UInt8} {k : Nat} (h : findO n l = some k) : findV n l = cV ((k : Int) + 1) := by unfold findV; rw [h]
theorem findV_none {n l : List UInt8} (h : findO n l = none) : findV n l = fV 2 := by unfold findV; rw [h]
/-- operators of two numbers -/
def opV (op : Int) (x y : Int) : Vl :=
  if op = 1 then gV (addD x y) else if op = 2 then gV (subD x y) else if op = 3 then gV (scaledD x y 10000) else if op = 4 then (if y = 0 then fV 1 else gV (scaledD x 10000 y)) else gV (Pow.powerD x y)
end Go.Proofs.YtebjedbppiphgaaGreatDoor.Cal

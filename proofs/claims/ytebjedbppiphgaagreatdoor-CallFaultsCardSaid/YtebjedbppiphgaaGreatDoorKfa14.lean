/- Tables, what stands in them, where a value is found, what is looked up beside it, what is hit, and sums of products: in plain lists. No function of the program is named here.
   Rounding to a step, and what is left of a division, in integers alone. No function of the program is named here.
   What package round's small functions answer: signed, size, onward: for every number of 64 bits that comes to them.
   What package round's Step, Int, Even answer: for every number of 64 bits.
   What package round's Places answers: for every number of 64 bits. -/
import Derived.Test.YtebjedbppiphgaaGreatDoorKfa13
import Derived.Test.YtebjedbppiphgaaGreatDoorKfa03
import Derived.Test.YtebjedbppiphgaaGreatDoorKfa06
namespace Go.Proofs.YtebjedbppiphgaaGreatDoor.Lok
open Dec Dig Val Fld
/-- a table has as many values as its rows and columns say, and not too many -/
def Good (r c : Int) (n : Nat) : Prop := 1 ≤ r ∧ 1 ≤ c ∧ n ≤ 1000 ∧ r * c = n
theorem Good.nat {r c : Int} {n : Nat} (h : Good r c n) : ∃ R C : Nat, r = R ∧ c = C ∧ 1 ≤ R ∧ 1 ≤ C ∧ n ≤ 1000 ∧ R * C = n ∧ R ≤ n ∧ C ≤ n := by
  obtain ⟨h1, h2, h3, h4⟩ := h
  obtain ⟨R, rfl⟩ := Int.eq_ofNat_of_zero_le (show 0 ≤ r by omega)
  obtain ⟨C, rfl⟩ := Int.eq_ofNat_of_zero_le (show 0 ≤ c by omega)
  have h5 : R * C = n := by exact_mod_cast h4
  have h6 : 1 ≤ R := by omega
  have h7 : 1 ≤ C := by omega
  exact ⟨R, C, rfl, rfl, h6, h7, h3, h5, by rw [← h5]; exact Nat.le_mul_of_pos_right R h7, by rw [← h5]; exact Nat.le_mul_of_pos_left C h6⟩
theorem good_of {R C n : Nat} (h1 : 1 ≤ R) (h2 : 1 ≤ C) (h3 : n ≤ 1000) (h4 : R * C = n) : Good R C n := ⟨by omega, by omega, h3, by exact_mod_cast h4⟩
theorem good_div {R C n : Nat} (h2 : 1 ≤ C) (h4 : R * C = n) : (n : Int).tmod C = 0 ∧ (n : Int).tdiv C = R := by
  have e : (n : Int) = (R : Int) * (C : Int) := by exact_mod_cast h4.symm
  rw [e]
  exact ⟨Int.mul_tmod_left _ _, Int.mul_tdiv_cancel _ (by omega)⟩
theorem bad_ways {r c : Int} {n : Nat} (h : ¬ Good r c n) : r < 1 ∨ (1 ≤ r ∧ c < 1) ∨ (1 ≤ r ∧ 1 ≤ c ∧ 1000 < n) ∨ (1 ≤ r ∧ 1 ≤ c ∧ n ≤ 1000 ∧ ¬ (n : Int).tmod c = 0) ∨
    (1 ≤ r ∧ 1 ≤ c ∧ n ≤ 1000 ∧ (n : Int).tmod c = 0 ∧ ¬ (n : Int).tdiv c = r) := by
  by_cases h1 : r < 1
  · exact .inl h1
  by_cases h2 : c < 1
  · exact .inr (.inl ⟨by omega, h2⟩)
  by_cases h3 : 1000 < n
  · exact .inr (.inr (.inl ⟨by omega, by omega, h3⟩))
  by_cases h4 : (n : Int).tmod c = 0
  · refine .inr (.inr (.inr (.inr ⟨by omega, by omega, by omega, h4, fun e => h ⟨by omega, by omega, by omega, ?_⟩⟩)))
    have := Int.mul_tdiv_add_tmod (n : Int) c
    rw [h4, e, Int.add_zero, Int.mul_comm] at this
    exact this
  · exact .inr (.inr (.inr (.inl ⟨by omega, by omega, by omega, h4⟩)))
/-- the place of a row's and a column's value -/
theorem place_lt {R C n i j : Nat} (h4 : R * C = n) (hi : i < R) (hj : j < C) : i * C + j < n := by
  have h1 : (i + 1) * C ≤ R * C := Nat.mul_le_mul_right C hi
  rw [Nat.add_mul, Nat.one_mul] at h1
  omega
/-- a value is found as another one -/
def sameV (x v : Vl) : Bool := decide (x.k = 0 ∨ v.k = 0 ∨ x.k = v.k) && (decide (x.n = v.n) && decide (x.t = v.t))
def hitS (x v : Vl) : Bool := !decide (v.k = 4) && sameV x v
def FirstS (x : Vl) (L : List Vl) (p : Nat) (v : Vl) : Prop := L[p]? = some v ∧ hitS x v = true ∧ ∀ (i : Nat) (u : Vl), i < p → L[i]? = some u → hitS x u = false
theorem FirstS.lt {x : Vl} {L : List Vl} {p : Nat} {v : Vl} (h : FirstS x L p v) : p < L.length := (List.getElem?_eq_some_iff.1 h.1).1
end Go.Proofs.YtebjedbppiphgaaGreatDoor.Lok
namespace Go.Proofs.YtebjedbppiphgaaGreatDoor.Rnd
open Dec
/-- the greatest multiple of a step that is not above x: its quotient, and what is left -/
structure Fl (x s q l : Int) : Prop where
  eq : x = q * s + l
  l0 : 0 ≤ l
  ls : l < s
theorem fl_of {x s : Int} (hs : 0 < s) : Fl x s (x / s) (x % s) :=
  ⟨(Int.ediv_mul_add_emod x s).symm, Int.emod_nonneg x (by omega), Int.emod_lt_of_pos x hs⟩
theorem Fl.both {x s q l : Int} (h : Fl x s q l) (hs : 0 < s) : x / s = q ∧ x % s = l := by
  refine (Int.ediv_emod_unique hs).2 ⟨?_, h.l0, h.ls⟩
  rw [h.eq, Int.mul_comm s q]; omega
/-- the quotient that is cut off, and its rest -/
theorem Fl.cut {x s q l : Int} (h : Fl x s q l) (hs : 0 < s) :
    (0 ≤ x → x.tdiv s = q ∧ x.tmod s = l) ∧ (x < 0 → l = 0 → x.tdiv s = q ∧ x.tmod s = 0) ∧ (x < 0 → 0 < l → x.tdiv s = q + 1 ∧ x.tmod s = l - s) := by
  have neg : ∀ {p m : Int}, Fl (-x) s p m → x < 0 → x.tdiv s = -p ∧ x.tmod s = -m := by
    intro p m hf hx
    obtain ⟨e1, e2⟩ := hf.both hs
    have f1 := Int.tdiv_eq_ediv_of_nonneg (a := -x) (b := s) (by omega)
    have f2 := Int.tmod_eq_emod_of_nonneg (a := -x) (b := s) (by omega)
    rw [Int.neg_tdiv, e1] at f1
    rw [Int.neg_tmod, e2] at f2
    omega
  refine ⟨fun hx => ?_, fun hx hl => ?_, fun hx hl => ?_⟩
  · obtain ⟨e1, e2⟩ := h.both hs
    rw [Int.tdiv_eq_ediv_of_nonneg hx, Int.tmod_eq_emod_of_nonneg hx]
    exact ⟨e1, e2⟩
  · have hf : Fl (-x) s (-q) 0 := ⟨by rw [Int.neg_mul]; have := h.eq; omega, by omega, hs⟩
    obtain ⟨g1, g2⟩ := neg hf hx
    omega
  · have hf : Fl (-x) s (-q - 1) (s - l) := ⟨by rw [Int.sub_mul, Int.neg_mul, Int.one_mul]; have := h.eq; omega, by have := h.ls; omega, by omega⟩
    obtain ⟨g1, g2⟩ := neg hf hx
    omega

/-- is it rounded to the multiple above? -/
def upI (x l s m : Int) : Bool := if m = 1 then decide (s - l < l) || (decide (s - l = l) && decide (0 < x)) else if m = 2 then decide (x < 0) else if m = 3 then decide (0 < x) else decide (m = 5)
def roundI (x s m : Int) : Int := if x % s = 0 then x else if upI x (x % s) s m then x - x % s + s else x - x % s
def goodI (x s m : Int) : Bool := mayD x && decide (0 < s) && decide (1 ≤ m) && decide (m ≤ 5)
def stepD (x s m : Int) : Int × Bool := giveD (goodI x s m) (roundI x s m)
theorem stepD_none {x s m : Int} (h : x < -9223372036854775807 ∨ s ≤ 0 ∨ m < 1 ∨ 5 < m) : stepD x s m = (0, false) := by
  refine giveD_out (.inl ?_)
  unfold goodI
  rcases h with h | h | h | h
  · rw [mayD_no h]; rfl
  · rw [decide_eq_false (p := 0 < s) (by omega)]; simp
  · rw [decide_eq_false (p := 1 ≤ m) (by omega)]; simp
  · rw [decide_eq_false (p := m ≤ 5) (by omega)]; simp
theorem stepD_may {x s m : Int} (h1 : -9223372036854775807 ≤ x) (h2 : 0 < s) (h3 : 1 ≤ m) (h4 : m ≤ 5) : stepD x s m = giveD true (roundI x s m) := by
  unfold stepD goodI
  rw [mayD_yes h1, decide_eq_true h2, decide_eq_true h3, decide_eq_true h4]; rfl
theorem roundI_zero {x s q m : Int} (h : Fl x s q 0) (hs : 0 < s) : roundI x s m = x := by rw [roundI, (h.both hs).2, if_pos rfl]
theorem roundI_up {x s q l m : Int} (h : Fl x s q l) (hs : 0 < s) (hl : 0 < l) (hu : upI x l s m = true) : roundI x s m = x - l + s := by
  rw [roundI, (h.both hs).2, if_neg (by omega), if_pos hu]
theorem roundI_down {x s q l m : Int} (h : Fl x s q l) (hs : 0 < s) (hl : 0 < l) (hu : upI x l s m = false) : roundI x s m = x - l := by
  rw [roundI, (h.both hs).2, if_neg (by omega), if_neg (by rw [hu]; decide)]

/-- is what has this rest rounded away from 0? -/
def onD (r s m : Int) : Bool := if m = 1 then decide (s - (r.natAbs : Int) ≤ (r.natAbs : Int)) else if m = 3 then decide (r ≠ 0) else if m = 4 then decide (r < 0) else if m = 5 then decide (0 < r) else false
/-- the rest has a sign, and is less than the step -/
theorem rest_of {x s : Int} (hs : 0 < s) : -s < x.tmod s ∧ x.tmod s < s ∧ (0 ≤ x → 0 ≤ x.tmod s ∧ x.tmod s ≤ x) ∧ (x < 0 → x.tmod s ≤ 0 ∧ x ≤ x.tmod s) := by
  obtain ⟨q, l, h⟩ : ∃ q l, Fl x s q l := ⟨_, _, fl_of hs⟩
  obtain ⟨h1, h2, h3⟩ := h.cut hs
  obtain ⟨e, l0, ls⟩ := h
  by_cases hx : 0 ≤ x
  · obtain ⟨_, g⟩ := h1 hx
    rw [g]
    have hq : 0 ≤ q * s := by
      by_cases hq : 0 ≤ q
      · exact Int.mul_nonneg hq (by omega)
      · have := Int.mul_le_mul_of_nonneg_right (show q ≤ -1 by omega) (show 0 ≤ s by omega)
        omega
    omega
  · have hq : x < 0 → 0 < l → q * s + s ≤ 0 := by
      intro _ _
      by_cases hq : q < 0
      · have := Int.mul_le_mul_of_nonneg_right (show q ≤ -1 by omega) (show 0 ≤ s by omega)
        omega
      · have := Int.mul_nonneg (show 0 ≤ q by omega) (show 0 ≤ s by omega)
        omega
    by_cases hl : l = 0
    · obtain ⟨_, g⟩ := h2 (by omega) hl; rw [g]; omega
    · obtain ⟨_, g⟩ := h3 (by omega) (by omega); rw [g]; omega
/-- rounded by its rest -/
theorem round_off {x s m : Int} (hs : 0 < s) (m1 : 1 ≤ m) (m2 : m ≤ 5) (h : onD (x.tmod s) s m = false) : roundI x s m = x - x.tmod s := by
  obtain ⟨q, l, hf⟩ : ∃ q l, Fl x s q l := ⟨_, _, fl_of hs⟩
  obtain ⟨h1, h2, h3⟩ := hf.cut hs
  have l0 := hf.l0
  have ls := hf.ls
  by_cases hl : l = 0
  · subst hl
    rw [roundI_zero hf hs]
    by_cases hx : 0 ≤ x
    · rw [(h1 hx).2]; omega
    · rw [(h2 (by omega) rfl).2]; omega
  by_cases hx : 0 ≤ x
  · have hx0 : 0 < x ∨ x = 0 := by omega
    rw [(h1 hx).2] at h ⊢
    refine roundI_down hf hs (by omega) ?_
    unfold onD at h
    unfold upI
    obtain hm | hm | hm | hm | hm : m = 1 ∨ m = 2 ∨ m = 3 ∨ m = 4 ∨ m = 5 := by omega
    all_goals subst hm
    · rw [if_pos rfl] at h ⊢
      have h := of_decide_eq_false h
      rw [decide_eq_false (p := s - l < l) (by omega), decide_eq_false (p := s - l = l) (by omega)]; rfl
    · exact decide_eq_false (by omega)
    · exact absurd (of_decide_eq_false h) (by simpa using hl)
    · rfl
    · exact absurd (of_decide_eq_false h) (by omega)
  · rw [(h3 (by omega) (by omega)).2] at h ⊢
    rw [roundI_up hf hs (by omega) ?_]
    · omega
    unfold onD at h
    unfold upI
    obtain hm | hm | hm | hm | hm : m = 1 ∨ m = 2 ∨ m = 3 ∨ m = 4 ∨ m = 5 := by omega
    all_goals subst hm
    · rw [if_pos rfl] at h ⊢
      have h := of_decide_eq_false h
      rw [decide_eq_true (p := s - l < l) (by omega)]; rfl
    · exact decide_eq_true (by omega)
    · exact absurd (of_decide_eq_false h) (by simp; omega)
    · exact absurd (of_decide_eq_false h) (by omega)
    · rfl
theorem round_on {x s m : Int} (h0 : -9223372036854775807 ≤ x) (hs : 0 < s) (m1 : 1 ≤ m) (m2 : m ≤ 5) (h : onD (x.tmod s) s m = true) : roundI x s m = x - x.tmod s + s * signD (x.tmod s) ∧ x.tmod s ≠ 0 := by
  obtain ⟨q, l, hf⟩ : ∃ q l, Fl x s q l := ⟨_, _, fl_of hs⟩
  obtain ⟨h1, h2, h3⟩ := hf.cut hs
  have l0 := hf.l0
  have ls := hf.ls
  have hr := rest_of (x := x) hs
  have hn : x.tmod s ≠ 0 := by
    intro he
    rw [he] at h
    unfold onD at h
    obtain hm | hm | hm | hm | hm : m = 1 ∨ m = 2 ∨ m = 3 ∨ m = 4 ∨ m = 5 := by omega
    all_goals subst hm
    · have h := of_decide_eq_true h
      simp at h; omega
    all_goals exact absurd h (by simp)
  refine ⟨?_, hn⟩
  have hl : l ≠ 0 := by
    intro hl
    by_cases hx : 0 ≤ x
    · rw [(h1 hx).2] at hn; exact hn hl
    · rw [(h2 (by omega) hl).2] at hn; exact hn rfl
  by_cases hx : 0 ≤ x
  · have hxl : x.tmod s = l := (h1 hx).2
    rw [hxl] at h hr ⊢
    have hsg : signD l = 1 := by unfold signD; rw [if_neg (by omega), if_neg (by omega), if_neg hl]
    rw [hsg, Int.mul_one]
    refine roundI_up hf hs (by omega) ?_
    unfold onD at h
    unfold upI
    obtain hm | hm | hm | hm | hm : m = 1 ∨ m = 2 ∨ m = 3 ∨ m = 4 ∨ m = 5 := by omega
    all_goals subst hm
    · rw [if_pos rfl] at h ⊢
      have h := of_decide_eq_true h
      by_cases hg : s - l < l
      · rw [decide_eq_true hg]; rfl
      · rw [decide_eq_false hg, decide_eq_true (p := s - l = l) (by omega), decide_eq_true (p := 0 < x) (by omega)]; rfl
    · exact absurd h (by simp)
    · exact decide_eq_true (by omega)
    · exact absurd (of_decide_eq_true h) (by omega)
    · rfl
  · have hxl := (h3 (by omega) (by omega)).2
    rw [hxl] at h hr ⊢
    have hsg : signD (l - s) = -1 := by unfold signD; rw [if_neg (by omega), if_pos (by omega)]
    rw [hsg]
    rw [roundI_down hf hs (by omega) ?_]
    · omega
    unfold onD at h
    unfold upI
    obtain hm | hm | hm | hm | hm : m = 1 ∨ m = 2 ∨ m = 3 ∨ m = 4 ∨ m = 5 := by omega
    all_goals subst hm
    · rw [if_pos rfl] at h ⊢
      have h := of_decide_eq_true h
      rw [decide_eq_false (p := s - l < l) (by omega), decide_eq_false (p := 0 < x) (by omega)]; simp
    · exact absurd h (by simp)
    · exact decide_eq_false (by omega)
    · rfl
    · exact absurd (of_decide_eq_true h) (by omega)
end Go.Proofs.YtebjedbppiphgaaGreatDoor.Rnd
namespace Go.Proofs.YtebjedbppiphgaaGreatDoor.Rnd
open Go.RowKit Kit Dec
theorem signD_is (x : Int) : signD x = -1 ∨ signD x = 0 ∨ signD x = 1 := by
  unfold signD
  split
  · simp
  · split
    · simp
    · split <;> simp
theorem sign_self {x : Int} (h : -9223372036854775807 ≤ x) : x * signD x = (x.natAbs : Int) := by
  unfold signD
  rw [if_neg (by omega)]
  split
  · omega
  · split
    · omega
    · omega
set_option maxRecDepth 100000 in
set_option maxHeartbeats 400000 in
theorem signed_c (x y : Int) (h1 : -9223372036854775807 ≤ x) (h2 : x ≤ 9223372036854775807) (n : Int) (hn : x * signD y = n) (w : World) : Calls Tryz.prog 273 #[.int .i64 x, .int .i64 y] w fun e w' => e = .returned (.int .i64 n) ∧ w = w' := by
  subst hn
  obtain ⟨s, hs⟩ : ∃ s, signD y = s := ⟨_, rfl⟩
  have S := Lib.hid (fun w1 => sign_c y s hs w1)
  have hi := signD_is y
  rw [hs] at hi ⊢
  clear hs
  rcases hi with rfl | rfl | rfl
  · go_enter Tryz.func273, Tryz.ntmps273
    go_wp2_with (go_at_call 201; refine (S.out _).mono ?_; rintro e w' ⟨rfl, rfl⟩)
    go_ret
    exact ⟨ret_i64 (by omega), rfl⟩
  · go_enter Tryz.func273, Tryz.ntmps273
    go_wp2_with (go_at_call 201; refine (S.out _).mono ?_; rintro e w' ⟨rfl, rfl⟩)
    go_ret
    exact ⟨ret_i64 (by omega), rfl⟩
  · go_enter Tryz.func273, Tryz.ntmps273
    go_wp2_with (go_at_call 201; refine (S.out _).mono ?_; rintro e w' ⟨rfl, rfl⟩)
    go_ret
    exact ⟨ret_i64 (by omega), rfl⟩
set_option maxRecDepth 100000 in
set_option maxHeartbeats 400000 in
theorem size_r (x : Int) (h1 : -9223372036854775807 ≤ x) (h2 : x ≤ 9223372036854775807) (n : Nat) (hn : x.natAbs = n) (w : World) : Calls Tryz.prog 269 #[.int .i64 x] w fun e w' => e = .returned (.int .i64 (n : Int)) ∧ w = w' := by
  subst hn
  have S := Lib.hid (fun w1 => signed_c x x h1 h2 _ (sign_self h1) w1)
  go_enter Tryz.func269, Tryz.ntmps269
  go_wp2_with (go_at_call 273; refine (S.out _).mono ?_; rintro e w' ⟨rfl, rfl⟩)
  go_ret
  exact ⟨rfl, rfl⟩
set_option maxRecDepth 100000 in
set_option maxHeartbeats 400000 in
theorem onward_c (r s m : Int) (h1 : -s < r) (h2 : r < s) (hs : s ≤ 9223372036854775807) (m1 : 1 ≤ m) (m2 : m ≤ 5) (b : Bool) (hb : onD r s m = b) (w : World) : Calls Tryz.prog 272 #[.int .i64 r, .int .i64 s, .int .i64 m] w fun e w' => e = .returned (.bool b) ∧ w = w' := by
  unfold onD at hb
  obtain hm | hm | hm | hm | hm : m = 1 ∨ m = 2 ∨ m = 3 ∨ m = 4 ∨ m = 5 := by omega
  all_goals subst hm
  · rw [if_pos rfl] at hb
    obtain ⟨n, hn⟩ : ∃ n, r.natAbs = n := ⟨_, rfl⟩
    have S := Lib.hid (fun w1 => size_r r (by omega) (by omega) n hn w1)
    rw [hn] at hb
    have hl : (n : Int) ≤ s := by omega
    clear hn h1 h2
    go_enter Tryz.func272, Tryz.ntmps272
    go_wp2_with (go_at_call 269; refine (S.out _).mono ?_; rintro e w' ⟨rfl, rfl⟩)
    go_ret
    exact ⟨ret_bool rfl, rfl⟩
  · simp at hb
    subst hb
    go_enter Tryz.func272, Tryz.ntmps272
    go_wp2
    go_ret
    exact ⟨rfl, rfl⟩
  · have hb : decide (r ≠ 0) = b := hb
    have hb2 : (!(r == 0)) = b := by rw [← hb]; by_cases h : r = 0 <;> simp [h]
    have hb3 : (r != 0) = b := hb2
    clear hb
    go_enter Tryz.func272, Tryz.ntmps272
    go_wp2
    go_ret
    exact ⟨rfl, rfl⟩
  · have hb : decide (r < 0) = b := hb
    go_enter Tryz.func272, Tryz.ntmps272
    go_wp2
    go_ret
    exact ⟨rfl, rfl⟩
  · have hb : decide (0 < r) = b := hb
    go_enter Tryz.func272, Tryz.ntmps272
    go_wp2
    go_ret
    exact ⟨rfl, rfl⟩
end Go.Proofs.YtebjedbppiphgaaGreatDoor.Rnd
namespace Go.Proofs.YtebjedbppiphgaaGreatDoor.Rnd
open Go.RowKit Kit Dec
set_option maxRecDepth 100000 in
set_option maxHeartbeats 400000 in
theorem step_none (x s m : Int) (h : x < -9223372036854775807 ∨ s ≤ 0 ∨ m < 1 ∨ 5 < m) (w : World) :
    Calls Tryz.prog 209 #[.int .i64 x, .int .i64 s, .int .i64 m] w (Two 0 false w) := by
  by_cases h1 : x < -9223372036854775807
  · have M := Lib.hid (fun w1 => may_c x false (mayD_no h1) w1)
    clear h
    go_enter Tryz.func209, Tryz.ntmps209
    go_wp2_with (go_at_call 75; refine (M.out _).mono ?_; rintro e w' ⟨rfl, rfl⟩)
    go_ret2
    exact ⟨rfl, rfl⟩
  have M := Lib.hid (fun w1 => may_c x true (mayD_yes (by omega)) w1)
  by_cases h2 : s ≤ 0
  · clear h
    go_enter Tryz.func209, Tryz.ntmps209
    go_wp2_with (go_at_call 75; refine (M.out _).mono ?_; rintro e w' ⟨rfl, rfl⟩)
    go_ret2
    exact ⟨rfl, rfl⟩
  by_cases h3 : m < 1
  · clear h
    go_enter Tryz.func209, Tryz.ntmps209
    go_wp2_with (go_at_call 75; refine (M.out _).mono ?_; rintro e w' ⟨rfl, rfl⟩)
    go_ret2
    exact ⟨rfl, rfl⟩
  have h4 : 5 < m := by omega
  clear h
  go_enter Tryz.func209, Tryz.ntmps209
  go_wp2_with (go_at_call 75; refine (M.out _).mono ?_; rintro e w' ⟨rfl, rfl⟩)
  go_ret2
  exact ⟨rfl, rfl⟩
set_option maxRecDepth 100000 in
set_option maxHeartbeats 400000 in
theorem step_may (x s m : Int) (x1 : -9223372036854775807 ≤ x) (x2 : x ≤ 9223372036854775807) (s1 : 0 < s) (s2 : s ≤ 9223372036854775807) (m1 : 1 ≤ m) (m2 : m ≤ 5) (n : Int) (k : Bool) (hn : stepD x s m = (n, k)) (w : World) :
    Calls Tryz.prog 209 #[.int .i64 x, .int .i64 s, .int .i64 m] w (Two n k w) := by
  have M := Lib.hid (fun w1 => may_c x true (mayD_yes x1) w1)
  have hr := rest_of (x := x) s1
  obtain ⟨b, hb⟩ : ∃ b, onD (x.tmod s) s m = b := ⟨_, rfl⟩
  have O := Lib.hid (fun w1 => onward_c (x.tmod s) s m (by omega) (by omega) s2 m1 m2 b hb w1)
  rw [stepD_may x1 s1 m1 m2] at hn
  have hz : ¬ s = 0 := by omega
  have hz2 : (s == 0) = false := by simpa using hz
  have t1 : -9223372036854775808 ≤ x.tmod s := by omega
  have t2 : x.tmod s ≤ 9223372036854775807 := by omega
  cases b
  · rw [round_off s1 m1 m2 hb, giveD_in (by omega) (by omega)] at hn
    obtain ⟨rfl, rfl⟩ := Prod.mk.inj hn
    clear hn hb
    obtain ⟨t, ht⟩ : ∃ t, x.tmod s = t := ⟨_, rfl⟩
    rw [ht] at O hr t1 t2 ⊢
    go_enter Tryz.func209, Tryz.ntmps209
    go_wp2_with (first
      | (go_at_call 75; refine (M.out _).mono ?_; rintro e w' ⟨rfl, rfl⟩)
      | (go_at_call 272; refine (O.out _).mono ?_; rintro e w' ⟨rfl, rfl⟩))
    go_ret2
    exact ⟨rfl, rfl⟩
  · obtain ⟨he, hne⟩ := round_on x1 s1 m1 m2 hb
    rw [he] at hn
    clear he hb
    obtain ⟨t, ht⟩ : ∃ t, x.tmod s = t := ⟨_, rfl⟩
    rw [ht] at O hr t1 t2 hn hne
    obtain ⟨v, hv⟩ : ∃ v, s * signD t = v := ⟨_, rfl⟩
    have hvv : v = s ∨ v = -s := by
      rw [← hv]
      unfold signD
      rw [if_neg (by omega)]
      split
      · omega
      · omega
    have G := Lib.hid (fun w1 => signed_c s t (by omega) s2 v hv w1)
    have A := Lib.hid (fun w1 => add_c (x - t) v (by omega) (by omega) n k (by rw [addD, mayD_yes (by omega), mayD_yes (by omega)]; rw [hv] at hn; exact hn) w1)
    clear hn hv hvv hne
    go_enter Tryz.func209, Tryz.ntmps209
    go_wp2_with (first
      | (go_at_call 75; refine (M.out _).mono ?_; rintro e w' ⟨rfl, rfl⟩)
      | (go_at_call 272; refine (O.out _).mono ?_; rintro e w' ⟨rfl, rfl⟩)
      | (go_at_call 273; refine (G.out _).mono ?_; rintro e w' ⟨rfl, rfl⟩)
      | (go_at_call 78; refine (A.out _).mono ?_; rintro e w' ⟨rfl, rfl⟩))
    go_ret2
    exact ⟨rfl, rfl⟩
theorem step_c (x s m : Int) (x2 : x ≤ 9223372036854775807) (s2 : s ≤ 9223372036854775807) (n : Int) (k : Bool) (hn : stepD x s m = (n, k)) (w : World) :
    Calls Tryz.prog 209 #[.int .i64 x, .int .i64 s, .int .i64 m] w (Two n k w) := by
  by_cases h : x < -9223372036854775807 ∨ s ≤ 0 ∨ m < 1 ∨ 5 < m
  · obtain ⟨rfl, rfl⟩ := Prod.mk.inj ((stepD_none h).symm.trans hn)
    exact step_none x s m h w
  · exact step_may x s m (by omega) x2 (by omega) s2 (by omega) (by omega) n k hn w
set_option maxRecDepth 100000 in
set_option maxHeartbeats 400000 in
theorem int_c (x : Int) (x2 : x ≤ 9223372036854775807) (n : Int) (k : Bool) (hn : stepD x 10000 4 = (n, k)) (w : World) :
    Calls Tryz.prog 202 #[.int .i64 x] w (Two n k w) := by
  have S := Lib.hid (fun w1 => step_c x 10000 4 x2 (by omega) n k hn w1)
  clear hn
  go_enter Tryz.func202, Tryz.ntmps202
  go_wp2_with (go_at_call 209; refine (S.out _).mono ?_; rintro e w' ⟨rfl, rfl⟩)
  go_ret2
  exact ⟨rfl, rfl⟩
set_option maxRecDepth 100000 in
set_option maxHeartbeats 400000 in
theorem even_c (x : Int) (x2 : x ≤ 9223372036854775807) (n : Int) (k : Bool) (hn : stepD x 20000 3 = (n, k)) (w : World) :
    Calls Tryz.prog 204 #[.int .i64 x] w (Two n k w) := by
  have S := Lib.hid (fun w1 => step_c x 20000 3 x2 (by omega) n k hn w1)
  clear hn
  go_enter Tryz.func204, Tryz.ntmps204
  go_wp2_with (go_at_call 209; refine (S.out _).mono ?_; rintro e w' ⟨rfl, rfl⟩)
  go_ret2
  exact ⟨rfl, rfl⟩
end Go.Proofs.YtebjedbppiphgaaGreatDoor.Rnd
namespace Go.Proofs.YtebjedbppiphgaaGreatDoor.Rnd
open Go.RowKit Kit Dec
/-- rounded to so many places -/
def placesD (x p m : Int) : Int × Bool := if p < -14 then (0, false) else stepD x ((10 ^ (4 - p).toNat : Nat) : Int) m
def TenAt (k q : Nat) : Prop := q = 10 ^ k
theorem TenAt.next {k q : Nat} (h : TenAt k q) : TenAt (k + 1) (q * 10) := by unfold TenAt at *; rw [h, Nat.pow_succ]
theorem TenAt.room {k q : Nat} (h : TenAt k q) (hk : k ≤ 18) : 0 < q ∧ q ≤ 1000000000000000000 := by
  rw [h]
  exact ⟨Nat.pow_pos (by omega), Nat.le_trans (Nat.pow_le_pow_right (by omega) hk) (by decide)⟩
set_option maxRecDepth 100000 in
set_option maxHeartbeats 400000 in
theorem places_low (x p m : Int) (h : p < -14) (w : World) : Calls Tryz.prog 203 #[.int .i64 x, .int .i64 p, .int .i64 m] w (Two 0 false w) := by
  go_enter Tryz.func203, Tryz.ntmps203
  go_wp2
  go_ret2
  exact ⟨rfl, rfl⟩
set_option maxRecDepth 100000 in
set_option maxHeartbeats 400000 in
theorem places_some (x p m : Int) (x2 : x ≤ 9223372036854775807) (h : -14 ≤ p) (p2 : p ≤ 9223372036854775807) (n : Int) (k : Bool) (hn : stepD x ((10 ^ (4 - p).toNat : Nat) : Int) m = (n, k)) (w : World) :
    Calls Tryz.prog 203 #[.int .i64 x, .int .i64 p, .int .i64 m] w (Two n k w) := by
  obtain ⟨c, hc⟩ : ∃ c, (4 - p).toNat = c := ⟨_, rfl⟩
  have hc18 : c ≤ 18 := by omega
  have hmin : (4 : Int) - min p 4 = (c : Int) := by omega
  rw [hc] at hn
  obtain ⟨Q, hQ⟩ : ∃ Q, TenAt c Q := ⟨_, rfl⟩
  have S := Lib.hid (fun w1 => step_c x Q m x2 (by have := (hQ.room hc18).2; omega) n k (by rw [show Q = 10 ^ c from hQ]; exact hn) w1)
  replace hQ := Lib.hid hQ
  clear hn
  have H0 : Hid (TenAt 0 1) := Lib.hid rfl
  go_enter Tryz.func203, Tryz.ntmps203
  go_wp2
  go_loop [8, 14] (fun q i => ∃ j r : Nat, j ≤ c ∧ i = .int .i64 j ∧ Hid (TenAt j r) ∧ q = .int .i64 r) (fun _ i => c - (intOf i).toNat)
  case atStart => exact ⟨0, 1, by omega, rfl, H0, rfl⟩
  case round =>
    clear H0
    obtain ⟨j, r, hj, rfl, hr, rfl⟩ := hrel
    by_cases hlt : j < c
    · obtain ⟨r0, r1⟩ := hr.out.room (by omega)
      have r2 := (hr.out.next).room (by omega)
      have hn2 := Lib.hid hr.out.next
      go_wp2
      exact ⟨⟨j + 1, r * 10, by omega, by go_num, hn2, by go_num⟩, by simp [intOf]; omega⟩
    · obtain rfl : j = c := by omega
      obtain rfl : r = Q := by rw [show r = 10 ^ j from hr.out, show Q = 10 ^ j from hQ.out]
      obtain ⟨r0, r1⟩ := hr.out.room hc18
      go_wp2_with (go_at_call 209; refine (S.out _).mono ?_; rintro e w' ⟨rfl, rfl⟩)
      go_ret2
      exact ⟨rfl, rfl⟩
theorem places_c (x p m : Int) (x2 : x ≤ 9223372036854775807) (p2 : p ≤ 9223372036854775807) (n : Int) (k : Bool) (hn : placesD x p m = (n, k)) (w : World) :
    Calls Tryz.prog 203 #[.int .i64 x, .int .i64 p, .int .i64 m] w (Two n k w) := by
  unfold placesD at hn
  by_cases h : p < -14
  · rw [if_pos h] at hn
    obtain ⟨rfl, rfl⟩ := Prod.mk.inj hn
    exact places_low x p m h w
  · rw [if_neg h] at hn
    exact places_some x p m x2 (by omega) p2 n k hn w
end Go.Proofs.YtebjedbppiphgaaGreatDoor.Rnd

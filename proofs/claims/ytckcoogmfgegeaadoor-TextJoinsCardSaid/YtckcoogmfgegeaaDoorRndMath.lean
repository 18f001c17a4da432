/- Rounding to a step, and what is left of a division, in integers alone. No function of the program is named here. -/
import Derived.Test.YtckcoogmfgegeaaDoorDecLeaf
namespace Go.Proofs.YtckcoogmfgegeaaDoor.Rnd
open Dec

/-- the greatest multiple of a step that is not above x: its quotient, and what is left -/
structure Fl (x s q l : Int) : Prop where
  eq : x = q * s + l
  l0 : 0 ≤ l
  ls : l < s
theorem fl_of {x s : Int} (hs : 0 < s) : Fl x s (x / s) (x % s) :=
  ⟨(Int.ediv_mul_add_emod x s).symm, Int.emod_nonneg x (by omega), Int.emod_lt_of_pos x hs⟩
theorem Fl.both {x s q l : Int} (h : Fl x s q l) (hs : 0 < s) : x / s = q ∧ x % s = l := by
  refine (Int.ediv_emod_unique hs).2 ⟨?_, h.l0, h.ls⟩
  rw [h.eq, Int.mul_comm s q]; omega
/-- the quotient that is cut off, and its rest -/
theorem Fl.cut {x s q l : Int} (h : Fl x s q l) (hs : 0 < s) :
    (0 ≤ x → x.tdiv s = q ∧ x.tmod s = l) ∧ (x < 0 → l = 0 → x.tdiv s = q ∧ x.tmod s = 0) ∧ (x < 0 → 0 < l → x.tdiv s = q + 1 ∧ x.tmod s = l - s) := by
  have neg : ∀ {p m : Int}, Fl (-x) s p m → x < 0 → x.tdiv s = -p ∧ x.tmod s = -m := by
    intro p m hf hx
    obtain ⟨e1, e2⟩ := hf.both hs
    have f1 := Int.tdiv_eq_ediv_of_nonneg (a := -x) (b := s) (by omega)
    have f2 := Int.tmod_eq_emod_of_nonneg (a := -x) (b := s) (by omega)
    rw [Int.neg_tdiv, e1] at f1
    rw [Int.neg_tmod, e2] at f2
    omega
  refine ⟨fun hx => ?_, fun hx hl => ?_, fun hx hl => ?_⟩
  · obtain ⟨e1, e2⟩ := h.both hs
    rw [Int.tdiv_eq_ediv_of_nonneg hx, Int.tmod_eq_emod_of_nonneg hx]
    exact ⟨e1, e2⟩
  · have hf : Fl (-x) s (-q) 0 := ⟨by rw [Int.neg_mul]; have := h.eq; omega, by omega, hs⟩
    obtain ⟨g1, g2⟩ := neg hf hx
    omega
  · have hf : Fl (-x) s (-q - 1) (s - l) := ⟨by rw [Int.sub_mul, Int.neg_mul, Int.one_mul]; have := h.eq; omega, by have := h.ls; omega, by omega⟩
    obtain ⟨g1, g2⟩ := neg hf hx
    omega

/-- is it rounded to the multiple above? -/
def upI (x l s m : Int) : Bool := if m = 1 then decide (s - l < l) || (decide (s - l = l) && decide (0 < x)) else if m = 2 then decide (x < 0) else if m = 3 then decide (0 < x) else decide (m = 5)
def roundI (x s m : Int) : Int := if x % s = 0 then x else if upI x (x % s) s m then x - x % s + s else x - x % s
def goodI (x s m : Int) : Bool := mayD x && decide (0 < s) && decide (1 ≤ m) && decide (m ≤ 5)
def stepD (x s m : Int) : Int × Bool := giveD (goodI x s m) (roundI x s m)
theorem stepD_none {x s m : Int} (h : x < -9223372036854775807 ∨ s ≤ 0 ∨ m < 1 ∨ 5 < m) : stepD x s m = (0, false) := by
  refine giveD_out (.inl ?_)
  unfold goodI
  rcases h with h | h | h | h
  · rw [mayD_no h]; rfl
  · rw [decide_eq_false (p := 0 < s) (by omega)]; simp
  · rw [decide_eq_false (p := 1 ≤ m) (by omega)]; simp
  · rw [decide_eq_false (p := m ≤ 5) (by omega)]; simp
theorem stepD_may {x s m : Int} (h1 : -9223372036854775807 ≤ x) (h2 : 0 < s) (h3 : 1 ≤ m) (h4 : m ≤ 5) : stepD x s m = giveD true (roundI x s m) := by
  unfold stepD goodI
  rw [mayD_yes h1, decide_eq_true h2, decide_eq_true h3, decide_eq_true h4]; rfl
theorem roundI_zero {x s q m : Int} (h : Fl x s q 0) (hs : 0 < s) : roundI x s m = x := by rw [roundI, (h.both hs).2, if_pos rfl]
theorem roundI_up {x s q l m : Int} (h : Fl x s q l) (hs : 0 < s) (hl : 0 < l) (hu : upI x l s m = true) : roundI x s m = x - l + s := by
  rw [roundI, (h.both hs).2, if_neg (by omega), if_pos hu]
theorem roundI_down {x s q l m : Int} (h : Fl x s q l) (hs : 0 < s) (hl : 0 < l) (hu : upI x l s m = false) : roundI x s m = x - l := by
  rw [roundI, (h.both hs).2, if_neg (by omega), if_neg (by rw [hu]; decide)]

/-- is what has this rest rounded away from 0? -/
def onD (r s m : Int) : Bool := if m = 1 then decide (s - (r.natAbs : Int) ≤ (r.natAbs : Int)) else if m = 3 then decide (r ≠ 0) else if m = 4 then decide (r < 0) else if m = 5 then decide (0 < r) else false
/-- the rest has a sign, and is less than the step -/
theorem rest_of {x s : Int} (hs : 0 < s) : -s < x.tmod s ∧ x.tmod s < s ∧ (0 ≤ x → 0 ≤ x.tmod s ∧ x.tmod s ≤ x) ∧ (x < 0 → x.tmod s ≤ 0 ∧ x ≤ x.tmod s) := by
  obtain ⟨q, l, h⟩ : ∃ q l, Fl x s q l := ⟨_, _, fl_of hs⟩
  obtain ⟨h1, h2, h3⟩ := h.cut hs
  obtain ⟨e, l0, ls⟩ := h
  by_cases hx : 0 ≤ x
  · obtain ⟨_, g⟩ := h1 hx
    rw [g]
    have hq : 0 ≤ q * s := by
      by_cases hq : 0 ≤ q
      · exact Int.mul_nonneg hq (by omega)
      · have := Int.mul_le_mul_of_nonneg_right (show q ≤ -1 by omega) (show 0 ≤ s by omega)
        omega
    omega
  · have hq : x < 0 → 0 < l → q * s + s ≤ 0 := by
      intro _ _
      by_cases hq : q < 0
      · have := Int.mul_le_mul_of_nonneg_right (show q ≤ -1 by omega) (show 0 ≤ s by omega)
        omega
      · have := Int.mul_nonneg (show 0 ≤ q by omega) (show 0 ≤ s by omega)
        omega
    by_cases hl : l = 0
    · obtain ⟨_, g⟩ := h2 (by omega) hl; rw [g]; omega
    · obtain ⟨_, g⟩ := h3 (by omega) (by omega); rw [g]; omega
/-- rounded by its rest -/
theorem round_off {x s m : Int} (hs : 0 < s) (m1 : 1 ≤ m) (m2 : m ≤ 5) (h : onD (x.tmod s) s m = false) : roundI x s m = x - x.tmod s := by
  obtain ⟨q, l, hf⟩ : ∃ q l, Fl x s q l := ⟨_, _, fl_of hs⟩
  obtain ⟨h1, h2, h3⟩ := hf.cut hs
  have l0 := hf.l0
  have ls := hf.ls
  by_cases hl : l = 0
  · subst hl
    rw [roundI_zero hf hs]
    by_cases hx : 0 ≤ x
    · rw [(h1 hx).2]; omega
    · rw [(h2 (by omega) rfl).2]; omega
  by_cases hx : 0 ≤ x
  · have hx0 : 0 < x ∨ x = 0 := by omega
    rw [(h1 hx).2] at h ⊢
    refine roundI_down hf hs (by omega) ?_
    unfold onD at h
    unfold upI
    obtain hm | hm | hm | hm | hm : m = 1 ∨ m = 2 ∨ m = 3 ∨ m = 4 ∨ m = 5 := by omega
    all_goals subst hm
    · rw [if_pos rfl] at h ⊢
      have h := of_decide_eq_false h
      rw [decide_eq_false (p := s - l < l) (by omega), decide_eq_false (p := s - l = l) (by omega)]; rfl
    · exact decide_eq_false (by omega)
    · exact absurd (of_decide_eq_false h) (by simpa using hl)
    · rfl
    · exact absurd (of_decide_eq_false h) (by omega)
  · rw [(h3 (by omega) (by omega)).2] at h ⊢
    rw [roundI_up hf hs (by omega) ?_]
    · omega
    unfold onD at h
    unfold upI
    obtain hm | hm | hm | hm | hm : m = 1 ∨ m = 2 ∨ m = 3 ∨ m = 4 ∨ m = 5 := by omega
    all_goals subst hm
    · rw [if_pos rfl] at h ⊢
      have h := of_decide_eq_false h
      rw [decide_eq_true (p := s - l < l) (by omega)]; rfl
    · exact decide_eq_true (by omega)
    · exact absurd (of_decide_eq_false h) (by simp; omega)
    · exact absurd (of_decide_eq_false h) (by omega)
    · rfl
theorem round_on {x s m : Int} (h0 : -9223372036854775807 ≤ x) (hs : 0 < s) (m1 : 1 ≤ m) (m2 : m ≤ 5) (h : onD (x.tmod s) s m = true) : roundI x s m = x - x.tmod s + s * signD (x.tmod s) ∧ x.tmod s ≠ 0 := by
  obtain ⟨q, l, hf⟩ : ∃ q l, Fl x s q l := ⟨_, _, fl_of hs⟩
  obtain ⟨h1, h2, h3⟩ := hf.cut hs
  have l0 := hf.l0
  have ls := hf.ls
  have hr := rest_of (x := x) hs
  have hn : x.tmod s ≠ 0 := by
    intro he
    rw [he] at h
    unfold onD at h
    obtain hm | hm | hm | hm | hm : m = 1 ∨ m = 2 ∨ m = 3 ∨ m = 4 ∨ m = 5 := by omega
    all_goals subst hm
    · have h := of_decide_eq_true h
      simp at h; omega
    all_goals exact absurd h (by simp)
  refine ⟨?_, hn⟩
  have hl : l ≠ 0 := by
    intro hl
    by_cases hx : 0 ≤ x
    · rw [(h1 hx).2] at hn; exact hn hl
    · rw [(h2 (by omega) hl).2] at hn; exact hn rfl
  by_cases hx : 0 ≤ x
  · have hxl : x.tmod s = l := (h1 hx).2
    rw [hxl] at h hr ⊢
    have hsg : signD l = 1 := by unfold signD; rw [if_neg (by omega), if_neg (by omega), if_neg hl]
    rw [hsg, Int.mul_one]
    refine roundI_up hf hs (by omega) ?_
    unfold onD at h
    unfold upI
    obtain hm | hm | hm | hm | hm : m = 1 ∨ m = 2 ∨ m = 3 ∨ m = 4 ∨ m = 5 := by omega
    all_goals subst hm
    · rw [if_pos rfl] at h ⊢
      have h := of_decide_eq_true h
      by_cases hg : s - l < l
      · rw [decide_eq_true hg]; rfl
      · rw [decide_eq_false hg, decide_eq_true (p := s - l = l) (by omega), decide_eq_true (p := 0 < x) (by omega)]; rfl
    · exact absurd h (by simp)
    · exact decide_eq_true (by omega)
    · exact absurd (of_decide_eq_true h) (by omega)
    · rfl
  · have hxl := (h3 (by omega) (by omega)).2
    rw [hxl] at h hr ⊢
    have hsg : signD (l - s) = -1 := by unfold signD; rw [if_neg (by omega), if_pos (by omega)]
    rw [hsg]
    rw [roundI_down hf hs (by omega) ?_]
    · omega
    unfold onD at h
    unfold upI
    obtain hm | hm | hm | hm | hm : m = 1 ∨ m = 2 ∨ m = 3 ∨ m = 4 ∨ m = 5 := by omega
    all_goals subst hm
    · rw [if_pos rfl] at h ⊢
      have h := of_decide_eq_true h
      rw [decide_eq_false (p := s - l < l) (by omega), decide_eq_false (p := 0 < x) (by omega)]; simp
    · exact absurd h (by simp)
    · exact decide_eq_false (by omega)
    · rfl
    · exact absurd (of_decide_eq_true h) (by omega)
end Go.Proofs.YtckcoogmfgegeaaDoor.Rnd

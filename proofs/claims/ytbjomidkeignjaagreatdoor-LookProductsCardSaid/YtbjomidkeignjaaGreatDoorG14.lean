/- Which texts a pattern fits, in plain lists: the definition; row by row, as a table of all beginnings has it; from left to right, where the last star alone gives way; and how texts stand to one another. No function of the program is named here.
   What package crit's fits and Like answer: for every pattern and every text of at most a thousand bytes. -/
import Derived.Lib.Bytealg
import Derived.Lib.TrimByte
import Derived.BigQuiet
import Derived.Test.YtbjomidkeignjaaGreatDoorG6
namespace Go.Proofs.YtbjomidkeignjaaGreatDoor.Crt

/-- a byte of a pattern that is no star stands for a byte of a text -/
def hitB (c b : UInt8) : Bool := c == 63 || c == b
/-- a pattern fits a text -/
def fitL : List UInt8 → List UInt8 → Bool
  | [], t => t.isEmpty
  | c :: p, t => if c = 42 then (List.range (t.length + 1)).any (fun k => fitL p (t.drop k)) else
    match t with
    | [] => false
    | b :: s => hitB c b && fitL p s
theorem fit_nil {t : List UInt8} : fitL [] t = true ↔ t = [] := by simp [fitL]
theorem fit_star {p t : List UInt8} : fitL (42 :: p) t = true ↔ ∃ k, k ≤ t.length ∧ fitL p (t.drop k) = true := by
  simp only [fitL, if_true, List.any_eq_true, List.mem_range]
  exact ⟨fun ⟨k, h1, h2⟩ => ⟨k, by omega, h2⟩, fun ⟨k, h1, h2⟩ => ⟨k, by omega, h2⟩⟩
theorem fit_one {c b : UInt8} (h : ¬ c = 42) (p s : List UInt8) : fitL (c :: p) (b :: s) = (hitB c b && fitL p s) := by simp [fitL, h]
theorem fit_end {c : UInt8} (h : ¬ c = 42) (p : List UInt8) : fitL (c :: p) [] = false := by simp [fitL, h]
/-- a pattern out of two fits a text out of two -/
theorem fit_app : ∀ (p q t : List UInt8), fitL (p ++ q) t = true ↔ ∃ k, k ≤ t.length ∧ fitL p (t.take k) = true ∧ fitL q (t.drop k) = true
  | [], q, t => by
    rw [List.nil_append]
    constructor
    · intro h
      exact ⟨0, by omega, by simp [fitL], by simpa using h⟩
    · rintro ⟨k, hk, h1, h2⟩
      rw [fit_nil] at h1
      have : k = 0 ∨ t = [] := by
        rcases t with _ | ⟨b, t⟩
        · exact .inr rfl
        · rcases k with _ | k
          · exact .inl rfl
          · simp at h1
      rcases this with rfl | rfl
      · simpa using h2
      · simpa using h2
  | c :: p, q, t => by
    rw [List.cons_append]
    by_cases hc : c = 42
    · subst hc
      rw [fit_star]
      constructor
      · rintro ⟨k, hk, h⟩
        obtain ⟨j, hj, h1, h2⟩ := (fit_app p q (t.drop k)).1 h
        rw [List.length_drop] at hj
        refine ⟨k + j, by omega, fit_star.2 ⟨k, by rw [List.length_take]; omega, ?_⟩, by rw [List.drop_drop] at h2; exact h2⟩
        rw [List.drop_take, show k + j - k = j by omega]
        exact h1
      · rintro ⟨k, hk, h1, h2⟩
        obtain ⟨j, hj, h3⟩ := fit_star.1 h1
        rw [List.length_take] at hj
        rw [List.drop_take] at h3
        refine ⟨j, by omega, (fit_app p q (t.drop j)).2 ⟨k - j, by rw [List.length_drop]; omega, h3, ?_⟩⟩
        rw [List.drop_drop, show j + (k - j) = k by omega]
        exact h2
    · rcases t with _ | ⟨b, s⟩
      · rw [fit_end hc]
        simp only [Bool.false_eq_true, false_iff]
        rintro ⟨k, hk, h1, h2⟩
        rw [List.take_nil, fit_end hc] at h1
        cases h1
      · rw [fit_one hc, Bool.and_eq_true, fit_app p q s]
        constructor
        · rintro ⟨h0, k, hk, h1, h2⟩
          exact ⟨k + 1, by simpa using hk, by rw [List.take_succ_cons, fit_one hc, h0, h1]; rfl, by simpa using h2⟩
        · rintro ⟨k, hk, h1, h2⟩
          rcases k with _ | k
          · rw [List.take_zero, fit_end hc] at h1; cases h1
          · rw [List.take_succ_cons, fit_one hc, Bool.and_eq_true] at h1
            exact ⟨h1.1, k, by simpa using hk, h1.2, by simpa using h2⟩
theorem bool_iff {a b : Bool} (h : a = true ↔ b = true) : a = b := by cases a <;> cases b <;> simp_all
/- row by row: one byte more of the pattern, one byte more of the text -/
theorem snoc_star_nil (p : List UInt8) : fitL (p ++ [42]) [] = fitL p [] := by
  apply bool_iff
  rw [fit_app]
  constructor
  · rintro ⟨k, hk, h1, _⟩; simpa using h1
  · intro h; exact ⟨0, by simp, by simpa using h, by decide⟩
theorem star_any (t : List UInt8) : fitL [42] t = true := fit_star.2 ⟨t.length, Nat.le_refl _, by rw [List.drop_length]; rfl⟩
theorem snoc_star (p t : List UInt8) (b : UInt8) : fitL (p ++ [42]) (t ++ [b]) = (fitL p (t ++ [b]) || fitL (p ++ [42]) t) := by
  apply bool_iff
  rw [Bool.or_eq_true, fit_app, fit_app]
  constructor
  · rintro ⟨k, hk, h1, _⟩
    rw [List.length_append, List.length_singleton] at hk
    by_cases hl : k = t.length + 1
    · left
      rwa [List.take_of_length_le (by simp; omega)] at h1
    · right
      exact ⟨k, by omega, by rwa [List.take_append_of_le_length (by omega)] at h1, star_any _⟩
  · rintro (h | ⟨k, hk, h1, _⟩)
    · exact ⟨t.length + 1, by simp, by rwa [List.take_of_length_le (by simp)], star_any _⟩
    · exact ⟨k, by simp; omega, by rwa [List.take_append_of_le_length (by omega)], star_any _⟩
theorem snoc_one_nil {c : UInt8} (h : ¬ c = 42) (p : List UInt8) : fitL (p ++ [c]) [] = false := by
  cases hf : fitL (p ++ [c]) []
  · rfl
  · obtain ⟨k, hk, _, h2⟩ := (fit_app _ _ _).1 hf
    rw [List.drop_nil, fit_end h] at h2
    cases h2
theorem one_is {c : UInt8} (h : ¬ c = 42) {t : List UInt8} (hf : fitL [c] t = true) : ∃ b, t = [b] ∧ hitB c b = true := by
  rcases t with _ | ⟨b, s⟩
  · rw [fit_end h] at hf; cases hf
  · rw [fit_one h, Bool.and_eq_true, fit_nil] at hf
    exact ⟨b, by rw [hf.2], hf.1⟩
theorem snoc_one {c : UInt8} (h : ¬ c = 42) (p t : List UInt8) (b : UInt8) : fitL (p ++ [c]) (t ++ [b]) = (fitL p t && hitB c b) := by
  apply bool_iff
  rw [Bool.and_eq_true, fit_app]
  constructor
  · rintro ⟨k, hk, h1, h2⟩
    obtain ⟨d, hd, h3⟩ := one_is h h2
    rw [List.length_append, List.length_singleton] at hk
    have hl := congrArg List.length hd
    rw [List.length_drop, List.length_append, List.length_singleton, List.length_singleton] at hl
    obtain rfl : k = t.length := by omega
    rw [List.take_left] at h1
    rw [List.drop_left] at hd
    cases hd
    exact ⟨h1, h3⟩
  · rintro ⟨h1, h2⟩
    exact ⟨t.length, by simp, by rwa [List.take_left], by rw [List.drop_left, fit_one h, h2]; rfl⟩
theorem take_snoc {α : Type} {l : List α} {k : Nat} {x : α} (h : l[k]? = some x) : l.take (k + 1) = l.take k ++ [x] := by
  rw [List.take_add_one, h]; rfl
/-- the table's next row, at a star: at its beginning, and at each place behind -/
theorem row_star0 {P T : List UInt8} {i : Nat} (h : P[i]? = some 42) : fitL (P.take (i + 1)) (T.take 0) = fitL (P.take i) (T.take 0) := by
  rw [take_snoc h, List.take_zero]; exact snoc_star_nil _
theorem row_star {P T : List UInt8} {i k : Nat} {b : UInt8} (h : P[i]? = some 42) (hb : T[k]? = some b) :
    fitL (P.take (i + 1)) (T.take (k + 1)) = (fitL (P.take i) (T.take (k + 1)) || fitL (P.take (i + 1)) (T.take k)) := by
  rw [take_snoc h, take_snoc hb]; exact snoc_star _ _ _
theorem row_one0 {P T : List UInt8} {i : Nat} {c : UInt8} (h : P[i]? = some c) (hc : ¬ c = 42) : fitL (P.take (i + 1)) (T.take 0) = false := by
  rw [take_snoc h, List.take_zero]; exact snoc_one_nil hc _
theorem row_one {P T : List UInt8} {i k : Nat} {c b : UInt8} (h : P[i]? = some c) (hc : ¬ c = 42) (hb : T[k]? = some b) :
    fitL (P.take (i + 1)) (T.take (k + 1)) = (fitL (P.take i) (T.take k) && hitB c b) := by
  rw [take_snoc h, take_snoc hb]; exact snoc_one hc _ _ _
/- what follows -/
theorem fit_stars : ∀ p : List UInt8, fitL p [] = true ↔ ∀ c ∈ p, c = 42
  | [] => by simp [fitL]
  | c :: p => by
    by_cases hc : c = 42
    · subst hc
      rw [fit_star]
      constructor
      · rintro ⟨k, _, h⟩
        rw [List.drop_nil] at h
        intro d hd
        rcases List.mem_cons.1 hd with rfl | hd
        · rfl
        · exact (fit_stars p).1 h d hd
      · intro h
        exact ⟨0, by simp, by rw [List.drop_nil]; exact (fit_stars p).2 (fun d hd => h d (List.mem_cons_of_mem _ hd))⟩
    · rw [fit_end hc]
      simp only [Bool.false_eq_true, false_iff]
      intro h
      exact hc (h c (by simp))
theorem fit_len : ∀ {q t : List UInt8}, (∀ c ∈ q, ¬ c = 42) → fitL q t = true → t.length = q.length
  | [], t, _, h => by rw [fit_nil.1 h]
  | c :: q, [], hq, h => by rw [fit_end (hq c (by simp))] at h; cases h
  | c :: q, b :: s, hq, h => by
    rw [fit_one (hq c (by simp)), Bool.and_eq_true] at h
    simp [fit_len (fun d hd => hq d (List.mem_cons_of_mem _ hd)) h.2]
theorem fit_behind {p t : List UInt8} (m : List UInt8) (h : fitL p t = true) : fitL (p ++ [42]) (t ++ m) = true :=
  (fit_app _ _ _).2 ⟨t.length, by simp, by rwa [List.take_left], star_any _⟩
theorem fit_ahead {p t : List UInt8} (m : List UInt8) (h : fitL p t = true) : fitL ([42] ++ p) (m ++ t) = true :=
  fit_star.2 ⟨m.length, by simp, by rwa [List.drop_left]⟩
theorem fit_plain : ∀ {p t : List UInt8}, (∀ c ∈ p, ¬ c = 42 ∧ ¬ c = 63) → (fitL p t = true ↔ p = t)
  | [], t, _ => by rw [fit_nil]; exact ⟨fun h => h.symm, fun h => h.symm⟩
  | c :: p, [], h => by rw [fit_end (h c (by simp)).1]; simp
  | c :: p, b :: s, h => by
    obtain ⟨h1, h2⟩ := h c (by simp)
    rw [fit_one h1, Bool.and_eq_true, fit_plain (fun d hd => h d (List.mem_cons_of_mem _ hd))]
    have : hitB c b = true ↔ c = b := by simp [hitB, h2]
    rw [this]
    constructor
    · rintro ⟨rfl, rfl⟩; rfl
    · intro e; cases e; exact ⟨rfl, rfl⟩
/- from left to right -/
/-- where it stands: i bytes of the pattern are read, and a bytes of the text; the last star that was met stands at s, and what it stands for ends at e -/
def Gr (P T : List UInt8) (i a : Nat) (s : Int) (e : Nat) : Prop :=
  i ≤ P.length ∧ a ≤ T.length ∧ e ≤ a ∧ ((s = -1 ∧ fitL P T = fitL (P.drop i) (T.drop a)) ∨
    ∃ n : Nat, s = n ∧ n + 1 ≤ i ∧ a + (n + 1) = e + i ∧ (∀ j, n + 1 ≤ j → j < i → ¬ P[j]? = some 42) ∧
      (fitL P T = true ↔ fitL (P.drop i) (T.drop a) = true ∨ ∃ x, e < x ∧ x ≤ T.length ∧ fitL (P.drop (n + 1)) (T.drop x) = true))
theorem gr_start (P T : List UInt8) : Gr P T 0 0 (-1) 0 := ⟨by omega, by omega, by omega, .inl ⟨rfl, by simp⟩⟩
theorem drop_at {α : Type} {l : List α} {k : Nat} {x : α} (h : l[k]? = some x) : l.drop k = x :: l.drop (k + 1) := by
  obtain ⟨hk, rfl⟩ := List.getElem?_eq_some_iff.1 h
  rw [List.drop_eq_getElem_cons hk]
theorem lt_at {α : Type} {l : List α} {k : Nat} {x : α} (h : l[k]? = some x) : k < l.length := (List.getElem?_eq_some_iff.1 h).1
/-- what stands behind a star that gives more ends with what the bytes behind it stand for -/
theorem seg_fit {P T : List UInt8} {n i x : Nat} (hn : n + 1 ≤ i) (hi : i ≤ P.length) (hs : ∀ j, n + 1 ≤ j → j < i → ¬ P[j]? = some 42) (hx : x ≤ T.length)
    (hf : fitL (P.drop (n + 1)) (T.drop x) = true) : x + (i - (n + 1)) ≤ T.length ∧ fitL (P.drop i) (T.drop (x + (i - (n + 1)))) = true := by
  have e : P.drop (n + 1) = (P.drop (n + 1)).take (i - (n + 1)) ++ P.drop i := by
    conv => lhs; rw [← List.take_append_drop (i - (n + 1)) (P.drop (n + 1))]
    rw [List.drop_drop, show n + 1 + (i - (n + 1)) = i by omega]
  rw [e, fit_app] at hf
  obtain ⟨k, hk, h1, h2⟩ := hf
  have hl := fit_len (fun c hc => ?_) h1
  · rw [List.length_take, List.length_take, List.length_drop, List.length_drop] at hl
    rw [List.length_drop] at hk
    obtain rfl : k = i - (n + 1) := by omega
    rw [List.drop_drop] at h2
    exact ⟨by omega, h2⟩
  · obtain ⟨j, hj⟩ := List.mem_iff_getElem?.1 hc
    have hlt := lt_at hj
    rw [List.length_take, List.length_drop] at hlt
    rw [List.getElem?_take, if_pos (by omega), List.getElem?_drop] at hj
    rintro rfl
    exact hs (n + 1 + j) (by omega) (by omega) hj
theorem gr_star {P T : List UInt8} {i a e : Nat} {s : Int} (h : Gr P T i a s e) (hp : P[i]? = some 42) : Gr P T (i + 1) a i a := by
  obtain ⟨hi, ha, he, hw⟩ := h
  have hlt := lt_at hp
  have hd : fitL (P.drop i) (T.drop a) = true ↔ fitL (P.drop (i + 1)) (T.drop a) = true ∨ ∃ x, a < x ∧ x ≤ T.length ∧ fitL (P.drop (i + 1)) (T.drop x) = true := by
    rw [drop_at hp, fit_star]
    constructor
    · rintro ⟨k, hk, h⟩
      rw [List.length_drop] at hk
      rw [List.drop_drop] at h
      rcases k with _ | k
      · exact .inl h
      · exact .inr ⟨a + (k + 1), by omega, by omega, h⟩
    · rintro (h | ⟨x, h1, h2, h⟩)
      · exact ⟨0, by omega, by simpa using h⟩
      · exact ⟨x - a, by rw [List.length_drop]; omega, by rw [List.drop_drop, show a + (x - a) = x by omega]; exact h⟩
  refine ⟨by omega, ha, by omega, .inr ⟨i, rfl, by omega, by omega, fun j h1 h2 => by omega, ?_⟩⟩
  rcases hw with ⟨_, hw⟩ | ⟨n, rfl, hn, hna, hs, hw⟩
  · rw [hw, hd]
  · rw [hw, hd]
    constructor
    · rintro (h | ⟨x, h1, h2, h⟩)
      · exact h
      · obtain ⟨h3, h4⟩ := seg_fit hn hi hs h2 h
        rw [drop_at hp, fit_star] at h4
        obtain ⟨k, hk, h5⟩ := h4
        rw [List.length_drop] at hk
        rw [List.drop_drop] at h5
        exact .inr ⟨_, by omega, by omega, h5⟩
    · intro h
      exact .inl h
theorem gr_hit {P T : List UInt8} {i a e : Nat} {s : Int} {c b : UInt8} (h : Gr P T i a s e) (hp : P[i]? = some c) (hc : ¬ c = 42) (hb : T[a]? = some b) (hh : hitB c b = true) : Gr P T (i + 1) (a + 1) s e := by
  obtain ⟨hi, ha, he, hw⟩ := h
  have h1 := lt_at hp
  have h2 := lt_at hb
  have hd : fitL (P.drop i) (T.drop a) = fitL (P.drop (i + 1)) (T.drop (a + 1)) := by rw [drop_at hp, drop_at hb, fit_one hc, hh]; rfl
  refine ⟨by omega, by omega, by omega, ?_⟩
  rcases hw with ⟨rfl, hw⟩ | ⟨n, rfl, hn, hna, hs, hw⟩
  · exact .inl ⟨rfl, hw.trans hd⟩
  · refine .inr ⟨n, rfl, by omega, by omega, fun j h3 h4 => ?_, by rw [hw, hd]⟩
    by_cases hj : j = i
    · subst hj; rw [hp]; intro e; cases e; exact hc rfl
    · exact hs j h3 (by omega)
/-- it stands at no star, and does not fit there -/
theorem off_at {P T : List UInt8} {i a : Nat} {b : UInt8} (hb : T[a]? = some b) (hp : P[i]? = none ∨ ∃ c, P[i]? = some c ∧ ¬ c = 42 ∧ hitB c b = false) : fitL (P.drop i) (T.drop a) = false := by
  rw [drop_at hb]
  rcases hp with h | ⟨c, h, hc, hh⟩
  · rw [List.drop_of_length_le (List.getElem?_eq_none_iff.1 h)]; rfl
  · rw [drop_at h, fit_one hc, hh]; rfl
theorem gr_back {P T : List UInt8} {i a e n : Nat} {b : UInt8} (h : Gr P T i a n e) (hb : T[a]? = some b) (hp : P[i]? = none ∨ ∃ c, P[i]? = some c ∧ ¬ c = 42 ∧ hitB c b = false) :
    n < i ∧ Gr P T (n + 1) (e + 1) n (e + 1) := by
  obtain ⟨hi, ha, he, hw⟩ := h
  have h2 := lt_at hb
  rcases hw with ⟨h0, _⟩ | ⟨m, hm, hn, hna, hs, hw⟩
  · omega
  · obtain rfl : n = m := by omega
    refine ⟨by omega, by omega, by omega, by omega, .inr ⟨n, rfl, by omega, by omega, fun j h3 h4 => by omega, ?_⟩⟩
    rw [hw, off_at hb hp]
    constructor
    · rintro (h | ⟨x, h3, h4, h⟩)
      · cases h
      · by_cases hx : x = e + 1
        · subst hx; exact .inl h
        · exact .inr ⟨x, by omega, h4, h⟩
    · rintro (h | ⟨x, h3, h4, h⟩)
      · exact .inr ⟨e + 1, by omega, by omega, h⟩
      · exact .inr ⟨x, by omega, h4, h⟩
theorem gr_fail {P T : List UInt8} {i a e : Nat} {s : Int} {b : UInt8} (h : Gr P T i a s e) (hs : s < 0) (hb : T[a]? = some b) (hp : P[i]? = none ∨ ∃ c, P[i]? = some c ∧ ¬ c = 42 ∧ hitB c b = false) : fitL P T = false := by
  obtain ⟨hi, ha, he, hw⟩ := h
  rcases hw with ⟨_, hw⟩ | ⟨m, hm, _⟩
  · rw [hw]; exact off_at hb hp
  · omega
theorem gr_end {P T : List UInt8} {i a e : Nat} {s : Int} (h : Gr P T i a s e) (hl : T.length ≤ a) : fitL P T = fitL (P.drop i) [] := by
  obtain ⟨hi, ha, he, hw⟩ := h
  have e0 : T.drop a = [] := List.drop_of_length_le hl
  rw [e0] at hw
  rcases hw with ⟨_, hw⟩ | ⟨n, rfl, hn, hna, hs, hw⟩
  · exact hw
  · apply bool_iff
    rw [hw]
    constructor
    · rintro (h | ⟨x, h1, h2, h⟩)
      · exact h
      · obtain ⟨h3, h4⟩ := seg_fit hn hi hs h2 h
        omega
    · exact .inl
/-- what is left of a pattern without the stars at its ends is nothing, just if it is nothing but stars -/
theorem drop_while_nil {p : UInt8 → Bool} : ∀ {l : List UInt8}, l.dropWhile p = [] ↔ ∀ c ∈ l, p c = true
  | [] => by simp
  | c :: l => by
    rw [List.dropWhile_cons]
    cases h : p c
    · simp [h]
    · simp [h, drop_while_nil (l := l)]
theorem trim_stars (p : List UInt8) : Lib.trimB p 42 = [] ↔ fitL p [] = true := by
  rw [fit_stars]
  unfold Lib.trimB Lib.trimLeftB
  rw [drop_while_nil]
  unfold Lib.trimRightB
  constructor
  · intro h
    have h2 : (p.reverse.dropWhile (· == 42)) = [] := by
      rcases hd : p.reverse.dropWhile (· == 42) with _ | ⟨d, l⟩
      · rfl
      · have h3 := List.head?_dropWhile_not (fun x : UInt8 => x == 42) p.reverse
        rw [hd] at h3 h
        have h4 := h d (by simp)
        simp at h3
        simp at h4
        exact absurd h4 h3
    rw [drop_while_nil] at h2
    intro c hc
    simpa using h2 c (by simpa using hc)
  · intro h c hc
    have h1 : c ∈ p.reverse := (List.dropWhile_sublist _).subset (by simpa using hc)
    simpa using h c (by simpa using h1)
/- how texts stand to one another -/
theorem cmp_ways (a b : List UInt8) : Lib.compareBytes a b = -1 ∨ Lib.compareBytes a b = 0 ∨ Lib.compareBytes a b = 1 := by
  induction a generalizing b with
  | nil => cases b <;> simp [Lib.compareBytes]
  | cons x a ih =>
    cases b with
    | nil => simp [Lib.compareBytes]
    | cons y b =>
      unfold Lib.compareBytes
      split
      · exact .inl rfl
      · split
        · exact .inr (.inr rfl)
        · exact ih b
theorem cmp_swap (a b : List UInt8) : Lib.compareBytes b a = -Lib.compareBytes a b := by
  induction a generalizing b with
  | nil => cases b <;> simp [Lib.compareBytes]
  | cons x a ih =>
    cases b with
    | nil => simp [Lib.compareBytes]
    | cons y b =>
      unfold Lib.compareBytes
      by_cases h1 : x < y
      · have h2 : ¬ y < x := fun h => absurd (UInt8.lt_trans h1 h) (UInt8.lt_irrefl _)
        simp [h1, h2]
      · by_cases h2 : y < x
        · simp [h1, h2]
        · simp [h1, h2, ih b]
/-- a text stands ahead of another one -/
def lessL (a b : List UInt8) : Bool := decide (Lib.compareBytes a b = -1)
theorem less_cons_eq (x : UInt8) (a b : List UInt8) : lessL (x :: a) (x :: b) = lessL a b := by
  have h : ¬ x < x := UInt8.lt_irrefl x
  simp [lessL, Lib.compareBytes, h]
theorem less_cons_ne {x y : UInt8} (h : ¬ x = y) (a b : List UInt8) : lessL (x :: a) (y :: b) = decide (x < y) := by
  by_cases h1 : x < y
  · simp [lessL, Lib.compareBytes, h1]
  · have h2 : y < x := UInt8.lt_of_le_of_ne (UInt8.not_lt.1 h1) (Ne.symm h)
    simp [lessL, Lib.compareBytes, h1, h2]
theorem less_short {a b : List UInt8} (h : a = [] ∨ b = []) : lessL a b = decide (a.length < b.length) := by
  rcases a with _ | ⟨x, a⟩ <;> rcases b with _ | ⟨y, b⟩ <;> simp_all [lessL, Lib.compareBytes]
/-- as two comparisons have it -/
theorem cmp_less (a b : List UInt8) : Lib.compareBytes a b = if lessL a b then -1 else if lessL b a then 1 else 0 := by
  have h := cmp_swap a b
  unfold lessL
  rcases cmp_ways a b with e | e | e <;> simp [h, e]
end Go.Proofs.YtbjomidkeignjaaGreatDoor.Crt
namespace Go.Proofs.YtbjomidkeignjaaGreatDoor.Crt
open Go.RowKit Kit Reg Dec Dig

theorem byte_eq {c : UInt8} {n : Nat} (hn : n < 256) : (c.toNat : Int) = n ↔ c = UInt8.ofNat n := by
  have h1 : (UInt8.ofNat n).toNat = n := by rw [UInt8.toNat_ofNat']; omega
  constructor
  · intro h; exact UInt8.toNat_inj.1 (by omega)
  · rintro rfl; omega
set_option maxRecDepth 100000 in
set_option maxHeartbeats 1000000 in
theorem fits_c (c b : UInt8) (r : Bool) (h : hitB c b = r) (w : World) : Calls Tryz.prog 104 #[.int .u8 (c.toNat : Int), .int .u8 (b.toNat : Int)] w fun e w' => e = .returned (.bool r) ∧ w = w' := by
  by_cases h1 : c = 63
  · subst h1
    obtain rfl : r = true := by rw [← h]; simp [hitB]
    have q1 : (((63 : UInt8).toNat : Int) == 63) = true := rfl
    clear h
    go_enter Tryz.func104, Tryz.ntmps104
    go_wp2
    go_ret
    exact ⟨rfl, rfl⟩
  · have q1 : ((c.toNat : Int) == 63) = false := by
      rw [beq_eq_false_iff_ne]
      intro e
      exact h1 ((byte_eq (n := 63) (by omega)).1 e)
    have q2 : (c.toNat == b.toNat) = r := by
      rw [← h, Bool.eq_iff_iff]
      simp [hitB, h1, UInt8.toNat_inj]
    have q3 : ((c.toNat : Int) == (b.toNat : Int)) = r := by
      rw [← q2, Bool.eq_iff_iff, beq_iff_eq, beq_iff_eq]
      constructor <;> intro e <;> omega
    clear h
    go_enter Tryz.func104, Tryz.ntmps104
    go_wp2
    go_ret
    exact ⟨by first | rfl | rw [q3] | rw [q2] | simp [q3], rfl⟩
/-- what strings.Trim has to answer where stars are cut off -/
def TrimsStars : Prop := ∀ (s : ByteArray) (w : World), s.size ≤ 1000000 → Calls Tryz.prog 105 #[.string s, .string ⟨#[42]⟩] w fun e w' => e = .returned (.string ⟨(Lib.trimB s.data.toList 42).toArray⟩) ∧ (w' = w ∨ w' = w.drew)
theorem like_at (p : ByteArray) (k : Nat) (x : UInt8) (h : p.data.toList[k]? = some x) : ∃ hk : k < p.size, p[k] = x := by
  have h1 := lt_at h
  rw [len] at h1
  refine ⟨h1, ?_⟩
  have h2 := Lib.data_getElem? p k h1
  rw [h] at h2
  exact (Option.some.inj h2).symm
set_option maxRecDepth 100000 in
set_option maxHeartbeats 4000000 in
theorem like_c (HTS : TrimsStars) (p t : ByteArray) (hp : p.size ≤ 1000) (ht : t.size ≤ 1000) (r : Bool) (hr : fitL p.data.toList t.data.toList = r) (w : World) :
    Calls Tryz.prog 85 #[.string p, .string t] w fun e w' => e = .returned (.bool r) ∧ Below w.heap.size w w' := by
  have HF := Lib.hid (fun c b r h w => fits_c c b r h w)
  have HTS := Lib.hid HTS
  have HR := Lib.hid hr
  have HS : Hid (Gr p.data.toList t.data.toList 0 0 (-1) 0) := Lib.hid (gr_start _ _)
  have HP := Lib.hid (fun k x h => like_at p k x h)
  have HT := Lib.hid (fun k x h => like_at t k x h)
  have HLP := Lib.hid (len p)
  have HLT := Lib.hid (len t)
  clear hr
  go_enter Tryz.func85, Tryz.ntmps85
  go_wp2
  go_loopw [5, 6, 7, 8] (fun iv av sv ev wr => ∃ (i a e : Nat) (s : Int), i ≤ p.size ∧ a ≤ t.size ∧ e ≤ a ∧ -1 ≤ s ∧ s ≤ 1000 ∧ iv = .int .i64 i ∧ av = .int .i64 a ∧ sv = .int .i64 s ∧ ev = .int .i64 e ∧
    Hid (Gr p.data.toList t.data.toList i a s e) ∧ Below w.heap.size w wr) (fun iv _ _ ev _ => (t.size - (intOf ev).toNat) * 2000 + (p.size - (intOf iv).toNat))
  case atStart => exact ⟨0, 0, 0, -1, by omega, by omega, by omega, by omega, by omega, rfl, rfl, rfl, rfl, HS, Below.refl _ _⟩
  case round =>
    clear HS
    obtain ⟨i, a, e, s, hi, ha, he, hs1, hs2, rfl, rfl, rfl, rfl, hg, hb⟩ := hrel
    by_cases hlt : a < t.size
    · obtain ⟨b, hb1⟩ : ∃ b, t.data.toList[a]? = some b := ⟨_, List.getElem?_eq_getElem (by rw [HLT.out]; exact hlt)⟩
      obtain ⟨hat, hbt⟩ := HT.out a b hb1
      have d0 : decide (a < t.size) = true := decide_eq_true hlt
      by_cases hli : i < p.size
      · obtain ⟨c, hc1⟩ : ∃ c, p.data.toList[i]? = some c := ⟨_, List.getElem?_eq_getElem (by rw [HLP.out]; exact hli)⟩
        obtain ⟨hip, hcp⟩ := HP.out i c hc1
        have d1 : decide (i < p.size) = true := decide_eq_true hli
        by_cases hc : c = 42
        · -- a star
          have q1 : ((c.toNat : Int) == 42) = true := by rw [hc]; rfl
          have HN : Hid (Gr p.data.toList t.data.toList (i + 1) a i a) := Lib.hid (gr_star hg.out (hc ▸ hc1))
          clear hc hc1 hb1 hg HP HT HLP HLT HF HTS
          go_wp2
          go_roundw
          case rel => exact ⟨i + 1, a, a, i, by omega, ha, by omega, by omega, by omega, by go_num, rfl, rfl, rfl, HN, hb⟩
          case measure => simp [intOf]; omega
        · have q1 : ((c.toNat : Int) == 42) = false := by
            rw [beq_eq_false_iff_ne]
            intro e
            exact hc ((byte_eq (n := 42) (by omega)).1 e)
          cases hh : hitB c b
          · have HO : Hid (p.data.toList[i]? = none ∨ ∃ c, p.data.toList[i]? = some c ∧ ¬ c = 42 ∧ hitB c b = false) := Lib.hid (.inr ⟨c, hc1, hc, hh⟩)
            have HFF := Lib.hid (HF.out c b false hh)
            by_cases hs : 0 ≤ s
            · obtain ⟨n, rfl⟩ := Int.eq_ofNat_of_zero_le hs
              obtain ⟨hni, hN⟩ := gr_back hg.out hb1 HO.out
              have HN := Lib.hid hN
              clear hh hc hc1 hb1 hg HP HT HLP HLT HF HTS HO hN
              go_wp2
              go_quiet ((go_at_call 104; refine Calls.quiet_of_same ((HFF.out _).mono fun _ _ h => ⟨h.1, h.2.symm⟩)))
              go_wp2
              go_roundw
              case rel => exact ⟨n + 1, e + 1, e + 1, n, by omega, by omega, by omega, by omega, by omega, by go_num, by go_num, rfl, by go_num, HN, on hb (drew_below rfl)⟩
              case measure => simp [intOf]; omega
            · have HN := Lib.hid (gr_fail hg.out (by omega) hb1 HO.out)
              obtain rfl : s = -1 := by omega
              rw [HR.out] at HN
              obtain rfl := HN.out
              clear hh hc hc1 hb1 hg HP HT HLP HLT HF HTS HO HN
              go_wp2
              go_quiet ((go_at_call 104; refine Calls.quiet_of_same ((HFF.out _).mono fun _ _ h => ⟨h.1, h.2.symm⟩)))
              go_wp2
              go_ret
              exact ⟨rfl, on hb (drew_below rfl)⟩
          · have HFF := Lib.hid (HF.out c b true hh)
            have HN := Lib.hid (gr_hit hg.out hc1 hc hb1 hh)
            clear hh hc hc1 hb1 hg HP HT HLP HLT HF HTS
            go_wp2
            go_quiet ((go_at_call 104; refine Calls.quiet_of_same ((HFF.out _).mono fun _ _ h => ⟨h.1, h.2.symm⟩)))
            go_wp2
            go_roundw
            case rel => exact ⟨i + 1, a + 1, e, s, by omega, by omega, by omega, by omega, by omega, by go_num, by go_num, rfl, rfl, HN, on hb (drew_below rfl)⟩
            case measure => simp [intOf]; omega
      · have HO : Hid (p.data.toList[i]? = none ∨ ∃ c, p.data.toList[i]? = some c ∧ ¬ c = 42 ∧ hitB c b = false) := Lib.hid (.inl (List.getElem?_eq_none_iff.2 (by rw [HLP.out]; omega)))
        have d1 : decide (i < p.size) = false := decide_eq_false hli
        by_cases hs : 0 ≤ s
        · obtain ⟨n, rfl⟩ := Int.eq_ofNat_of_zero_le hs
          obtain ⟨hni, hN⟩ := gr_back hg.out hb1 HO.out
          have HN := Lib.hid hN
          clear hb1 hg HP HT HLP HLT HF HTS HO hN
          go_wp2
          go_quiet (fail)
          go_wp2
          go_roundw
          case rel => exact ⟨n + 1, e + 1, e + 1, n, by omega, by omega, by omega, by omega, by omega, by go_num, by go_num, rfl, by go_num, HN, on hb (drew_below rfl)⟩
          case measure => simp [intOf]; omega
        · have HN := Lib.hid (gr_fail hg.out (by omega) hb1 HO.out)
          obtain rfl : s = -1 := by omega
          rw [HR.out] at HN
          obtain rfl := HN.out
          clear hb1 hg HP HT HLP HLT HF HTS HO HN
          go_wp2
          go_quiet (fail)
          go_wp2
          go_ret
          exact ⟨rfl, on hb (drew_below rfl)⟩
    · have HE := Lib.hid (gr_end hg.out (by rw [HLT.out]; omega))
      rw [HR.out] at HE
      have d0 : decide (a < t.size) = false := decide_eq_false hlt
      have HTT := Lib.hid (fun w1 => HTS.out (p.extract i p.size) w1 (by rw [← len, ext_drop, List.length_drop, HLP.out]; omega))
      rw [ext_drop] at HTT
      have HX : Hid (((⟨(Lib.trimB (p.data.toList.drop i) 42).toArray⟩ : ByteArray).toList == []) = r) := Lib.hid (by
        rw [HE.out, Bool.eq_iff_iff, ← trim_stars, Lib.toList_data]
        simp)
      generalize (⟨(Lib.trimB (p.data.toList.drop i) 42).toArray⟩ : ByteArray) = z at *
      clear HE hg HP HT HLP HLT HF HTS HR
      have hz := HX.out
      go_wp2_with fail
      refine (HTT.out _).mono ?_
      rintro e1 w2 ⟨rfl, hw2⟩
      have hb2 : Below w.heap.size w w2 := by rcases hw2 with rfl | rfl; exact hb; exact on hb (drew_below (n := 1) rfl)
      clear hw2
      go_wp2
      go_ret
      exact ⟨by first | rfl | rw [hz], hb2⟩
end Go.Proofs.YtbjomidkeignjaaGreatDoor.Crt

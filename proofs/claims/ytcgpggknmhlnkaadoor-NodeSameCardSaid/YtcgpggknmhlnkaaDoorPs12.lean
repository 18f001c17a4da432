/- Sets of categories as text, in plain lists: what is told is read back, and only what is told is read. No condition; no program is named here. -/
import Derived.Test.YtcgpggknmhlnkaaDoorPs09
import Derived.Lib.ItoaNum
import Derived.Lib.Join
import Derived.Lib.Bytealg
namespace Go.Proofs.YtcgpggknmhlnkaaDoor.Cats
/-- a number below 100 in digits -/
def digs (c : Nat) : List UInt8 := if c < 10 then [UInt8.ofNat (48 + c)] else [UInt8.ofNat (48 + c / 10), UInt8.ofNat (48 + c % 10)]
theorem digs_eq {c : Nat} (h : c < 100) : Lib.decDigits c = digs c := by
  unfold digs
  by_cases h1 : c < 10
  · rw [Lib.decDigits_one h1, if_pos h1]
  · rw [Lib.decDigits_two h1 h, if_neg h1]
theorem digs_facts : ∀ c, c < 64 → (∀ b, b ∈ digs c → b ≠ 44) ∧ digs c ≠ [] := by decide +kernel

/-- the words between commas -/
def splitC : List UInt8 → List (List UInt8)
  | [] => [[]]
  | c :: r => if c = 44 then [] :: splitC r else match splitC r with
    | [] => [[c]]
    | w :: ws => (c :: w) :: ws
theorem splitC_cons (c : UInt8) (r : List UInt8) : splitC (c :: r) = if c = 44 then [] :: splitC r else match splitC r with
    | [] => [[c]]
    | w :: ws => (c :: w) :: ws := rfl
theorem splitC_ne (l : List UInt8) : splitC l ≠ [] := by
  cases l with
  | nil => simp [splitC]
  | cons c r =>
    unfold splitC
    split
    · simp
    · split <;> simp
/-- the first word, and what stands behind its comma -/
def cutC : List UInt8 → Option (List UInt8 × List UInt8)
  | [] => none
  | c :: r => if c = 44 then some ([], r) else (cutC r).map fun p => (c :: p.1, p.2)
theorem cutC_cons (c : UInt8) (r : List UInt8) : cutC (c :: r) = if c = 44 then some ([], r) else (cutC r).map fun p => (c :: p.1, p.2) := rfl
theorem splitC_cut (l : List UInt8) : splitC l = match cutC l with
    | none => [l]
    | some (a, b) => a :: splitC b := by
  induction l with
  | nil => rfl
  | cons c r ih =>
    rw [splitC_cons, cutC_cons]
    by_cases h : c = 44
    · rw [if_pos h, if_pos h]
    · rw [if_neg h, if_neg h, ih]
      cases hc : cutC r with
      | none => rfl
      | some p => rfl
theorem splitC_none {l : List UInt8} (h : cutC l = none) : splitC l = [l] := by rw [splitC_cut, h]
theorem splitC_some {l a b : List UInt8} (h : cutC l = some (a, b)) : splitC l = a :: splitC b := by rw [splitC_cut, h]
theorem cutC_length {l a b : List UInt8} (h : cutC l = some (a, b)) : a.length + b.length + 1 = l.length := by
  induction l generalizing a b with
  | nil => simp [cutC] at h
  | cons c r ih =>
    unfold cutC at h
    by_cases hc : c = 44
    · simp only [hc, if_true, Option.some.injEq, Prod.mk.injEq] at h
      obtain ⟨rfl, rfl⟩ := h
      simp
    · simp only [hc, if_false, Option.map_eq_some_iff] at h
      obtain ⟨⟨p, q⟩, h1, h2⟩ := h
      simp only [Prod.mk.injEq] at h2
      obtain ⟨rfl, rfl⟩ := h2
      have := ih h1
      simp; omega
theorem cutC_index (l : List UInt8) : (Lib.indexByte l 44 = -1 ∧ cutC l = none) ∨ ∃ i : Nat, Lib.indexByte l 44 = i ∧ i + 1 ≤ l.length ∧ cutC l = some (l.take i, l.drop (i + 1)) := by
  induction l with
  | nil => exact .inl ⟨rfl, rfl⟩
  | cons c r ih =>
    unfold Lib.indexByte cutC
    by_cases hc : c = 44
    · subst hc
      exact .inr ⟨0, by simp, by simp, by simp⟩
    · have hb : (c == 44) = false := by simpa using hc
      rcases ih with ⟨h1, h2⟩ | ⟨i, h1, h2, h3⟩
      · exact .inl ⟨by simp [hb, h1], by simp [hc, h2]⟩
      · refine .inr ⟨i + 1, ?_, by simp; omega, by simp [hc, h3]⟩
        rw [h1]
        have : ((i : Int) == -1) = false := by simp
        simp [hb, this]

/-- words with commas between them -/
def joinC (ws : List (List UInt8)) : List UInt8 := Lib.join ws [44]
theorem joinC_nil : joinC [] = [] := rfl
theorem joinC_one (w : List UInt8) : joinC [w] = w := Lib.join_one w [44]
theorem joinC_cons (w x : List UInt8) (ws : List (List UInt8)) : joinC (w :: x :: ws) = w ++ 44 :: joinC (x :: ws) := by
  unfold joinC
  rw [Lib.join_cons, Lib.join_cons, Lib.joinTail, Lib.joinTail]
  simp
theorem joinC_cons' (w : List UInt8) (ws : List (List UInt8)) (h : ws ≠ []) : joinC (w :: ws) = w ++ 44 :: joinC ws := by
  cases ws with
  | nil => exact absurd rfl h
  | cons x r => exact joinC_cons w x r
theorem join_split (l : List UInt8) : joinC (splitC l) = l := by
  induction l with
  | nil => rfl
  | cons c r ih =>
    rw [splitC_cons]
    by_cases h : c = 44
    · rw [if_pos h, h]
      rw [joinC_cons' _ _ (splitC_ne r), ih]
      rfl
    · rw [if_neg h]
      have hne := splitC_ne r
      match hs : splitC r, hne with
      | w :: ws, _ =>
        rw [hs] at ih
        simp only
        cases ws with
        | nil =>
          rw [joinC_one] at ih ⊢
          rw [ih]
        | cons x xs =>
          rw [joinC_cons] at ih ⊢
          rw [List.cons_append, ih]
theorem split_word (w : List UInt8) (h : ∀ b, b ∈ w → b ≠ 44) : cutC w = none := by
  induction w with
  | nil => rfl
  | cons c r ih =>
    unfold cutC
    rw [if_neg (h c (by simp)), ih fun b hb => h b (by simp [hb])]
    rfl
theorem cut_word (w r : List UInt8) (h : ∀ b, b ∈ w → b ≠ 44) : cutC (w ++ 44 :: r) = some (w, r) := by
  induction w with
  | nil => simp [cutC]
  | cons c x ih =>
    rw [List.cons_append]
    unfold cutC
    rw [if_neg (h c (by simp)), ih fun b hb => h b (by simp [hb])]
    rfl
theorem split_join (ws : List (List UInt8)) (hne : ws ≠ []) (h : ∀ w ∈ ws, ∀ b, b ∈ w → b ≠ 44) : splitC (joinC ws) = ws := by
  induction ws with
  | nil => exact absurd rfl hne
  | cons w r ih =>
    cases r with
    | nil =>
      rw [joinC_one, splitC_none (split_word w (h w (by simp)))]
    | cons x xs =>
      rw [joinC_cons, splitC_some (cut_word w _ (h w (by simp))), ih (by simp) fun y hy => h y (by simp [hy])]

/-- the category that a word tells -/
def catN : List UInt8 → Option Nat
  | [a] => if 48 ≤ a ∧ a ≤ 57 then some (a.toNat - 48) else none
  | [a, b] => if a = 48 then none else if 48 ≤ a ∧ a ≤ 57 ∧ 48 ≤ b ∧ b ≤ 57 ∧ (a.toNat - 48) * 10 + (b.toNat - 48) < 64 then some ((a.toNat - 48) * 10 + (b.toNat - 48)) else none
  | _ => none
theorem catN_digs : ∀ c, c < 64 → catN (digs c) = some c := by decide +kernel
theorem u8_of (a : UInt8) (n : Nat) (h : a.toNat = n) : UInt8.ofNat n = a := by subst h; simp
theorem catN_1 (a : UInt8) : catN [a] = if 48 ≤ a ∧ a ≤ 57 then some (a.toNat - 48) else none := rfl
theorem catN_2 (a b : UInt8) : catN [a, b] = if a = 48 then none else if 48 ≤ a ∧ a ≤ 57 ∧ 48 ≤ b ∧ b ≤ 57 ∧ (a.toNat - 48) * 10 + (b.toNat - 48) < 64 then some ((a.toNat - 48) * 10 + (b.toNat - 48)) else none := rfl
theorem catN_3 (a b c : UInt8) (r : List UInt8) : catN (a :: b :: c :: r) = none := rfl
theorem catN_some {w : List UInt8} {c : Nat} (h : catN w = some c) : c < 64 ∧ w = digs c := by
  have e1 : (48 : UInt8).toNat = 48 := rfl
  have e2 : (57 : UInt8).toNat = 57 := rfl
  rcases w with _ | ⟨a, _ | ⟨b, _ | ⟨x, r⟩⟩⟩
  · cases h
  · rw [catN_1] at h
    by_cases hd : 48 ≤ a ∧ a ≤ 57
    · rw [if_pos hd] at h
      obtain ⟨h1, h2⟩ := hd
      rw [UInt8.le_iff_toNat_le] at h1 h2
      simp only [Option.some.injEq] at h
      refine ⟨by omega, ?_⟩
      unfold digs
      rw [if_pos (by omega), u8_of a _ (by omega)]
    · rw [if_neg hd] at h
      cases h
  · rw [catN_2] at h
    by_cases h0 : a = 48
    · rw [if_pos h0] at h
      cases h
    · rw [if_neg h0] at h
      by_cases hd : 48 ≤ a ∧ a ≤ 57 ∧ 48 ≤ b ∧ b ≤ 57 ∧ (a.toNat - 48) * 10 + (b.toNat - 48) < 64
      · rw [if_pos hd] at h
        obtain ⟨h1, h2, h3, h4, h5⟩ := hd
        rw [UInt8.le_iff_toNat_le] at h1 h2 h3 h4
        simp only [Option.some.injEq] at h
        have hne : a.toNat ≠ 48 := fun e => h0 (UInt8.toNat_inj.1 e)
        refine ⟨by omega, ?_⟩
        unfold digs
        rw [if_neg (by omega), u8_of a _ (by omega), u8_of b _ (by omega)]
      · rw [if_neg hd] at h
        cases h
  · rw [catN_3] at h
    cases h

/-- digits read one by one -/
def digV (acc : Nat) : List UInt8 → Option Nat
  | [] => some acc
  | b :: r => if 48 ≤ b.toNat ∧ b.toNat ≤ 57 then digV (acc * 10 + (b.toNat - 48)) r else none
theorem catN_digV {l : List UInt8} (h0 : l ≠ []) (h2 : l.length ≤ 2) (hz : l.length = 2 → l[0]? ≠ some 48) :
    catN l = match digV 0 l with
      | none => none
      | some c => if c < 64 then some c else none := by
  have e1 : (48 : UInt8).toNat = 48 := rfl
  have e2 : (57 : UInt8).toNat = 57 := rfl
  rcases l with _ | ⟨a, _ | ⟨b, _ | ⟨x, r⟩⟩⟩
  · exact absurd rfl h0
  · rw [catN_1]
    simp only [digV, UInt8.le_iff_toNat_le, e1, e2]
    by_cases hd : 48 ≤ a.toNat ∧ a.toNat ≤ 57
    · rw [if_pos hd, if_pos hd]
      simp only
      rw [if_pos (by omega)]
      simp
    · rw [if_neg hd, if_neg hd]
  · rw [catN_2]
    have ha : a ≠ 48 := fun e => hz rfl (by simp [e])
    simp only [digV, UInt8.le_iff_toNat_le, e1, e2]
    rw [if_neg ha]
    by_cases hd : 48 ≤ a.toNat ∧ a.toNat ≤ 57
    · rw [if_pos hd]
      by_cases hb : 48 ≤ b.toNat ∧ b.toNat ≤ 57
      · rw [if_pos hb]
        simp only [Nat.zero_mul, Nat.zero_add]
        by_cases hc : (a.toNat - 48) * 10 + (b.toNat - 48) < 64
        · rw [if_pos ⟨hd.1, hd.2, hb.1, hb.2, hc⟩, if_pos hc]
        · rw [if_neg fun h => hc h.2.2.2.2, if_neg hc]
      · rw [if_neg hb, if_neg fun h => hb ⟨h.2.2.1, h.2.2.2.1⟩]
    · rw [if_neg hd, if_neg fun h => hd ⟨h.1, h.2.1⟩]
  · simp at h2
theorem catN_long {l : List UInt8} (h : 2 < l.length) : catN l = none := by
  rcases l with _ | ⟨a, _ | ⟨b, _ | ⟨x, r⟩⟩⟩
  · simp at h
  · simp at h
  · simp at h
  · exact catN_3 a b x r
theorem catN_zero {l : List UInt8} (h : l.length = 2) (h0 : l[0]? = some 48) : catN l = none := by
  rcases l with _ | ⟨a, _ | ⟨b, _ | ⟨x, r⟩⟩⟩
  · simp at h
  · simp at h
  · rw [catN_2, if_pos (by simpa using h0)]
  · simp at h

/-- words read as rising categories -/
def parseWords (s next : Nat) : List (List UInt8) → Nat × Bool
  | [] => (s, true)
  | w :: r => match catN w with
    | none => (0, false)
    | some c => if c < next then (0, false) else parseWords (s ||| 2 ^ c) (c + 1) r
def parseF (t : List UInt8) : Nat × Bool := if t = [] then (0, true) else parseWords 0 0 (splitC t)
def textL (s : Nat) : List UInt8 := joinC ((bitsTo s 64).map digs)

def orAll (s : Nat) (cs : List Nat) : Nat := cs.foldl (fun s c => s ||| 2 ^ c) s
theorem testBit_orAll (cs : List Nat) (s i : Nat) : (orAll s cs).testBit i = (s.testBit i || decide (i ∈ cs)) := by
  induction cs generalizing s with
  | nil => simp [orAll]
  | cons c r ih =>
    show (orAll (s ||| 2 ^ c) r).testBit i = _
    rw [ih, Nat.testBit_or, Nat.testBit_two_pow]
    by_cases h : c = i
    · subst h; simp
    · have h' : ¬ i = c := fun e => h e.symm
      simp [h, h']
/-- rising from next on, below 64 -/
def Rising (next : Nat) : List Nat → Prop
  | [] => True
  | c :: r => next ≤ c ∧ c < 64 ∧ Rising (c + 1) r
theorem Rising.mono {a b : Nat} (hab : a ≤ b) : ∀ {cs : List Nat}, Rising b cs → Rising a cs
  | [], _ => trivial
  | _ :: _, h => ⟨by have := h.1; omega, h.2.1, h.2.2⟩
theorem Rising.mem {a : Nat} {cs : List Nat} (h : Rising a cs) : ∀ c ∈ cs, a ≤ c ∧ c < 64 := by
  induction cs generalizing a with
  | nil => intro c hc; cases hc
  | cons x r ih =>
    intro c hc
    rcases List.mem_cons.1 hc with rfl | hc
    · exact ⟨h.1, h.2.1⟩
    · have := ih h.2.2 c hc
      have := h.1
      omega
theorem Rising.ext {a b : Nat} {cs ds : List Nat} (hc : Rising a cs) (hd : Rising b ds) (h : ∀ x, x ∈ cs ↔ x ∈ ds) : cs = ds := by
  induction cs generalizing a b ds with
  | nil =>
    cases ds with
    | nil => rfl
    | cons y r => exact absurd ((h y).2 (by simp)) (by simp)
  | cons x r ih =>
    cases ds with
    | nil => exact absurd ((h x).1 (by simp)) (by simp)
    | cons y q =>
      have hx := hc.2.2.mem
      have hy := hd.2.2.mem
      have exy : x = y := by
        rcases List.mem_cons.1 ((h x).1 (by simp)) with e | e
        · exact e
        · rcases List.mem_cons.1 ((h y).2 (by simp)) with e2 | e2
          · exact e2.symm
          · have := hx y e2; have := hy x e; omega
      subst exy
      congr 1
      refine ih hc.2.2 hd.2.2 fun z => ?_
      constructor
      · intro hz
        rcases List.mem_cons.1 ((h z).1 (by simp [hz])) with e | e
        · have := hx z hz; omega
        · exact e
      · intro hz
        rcases List.mem_cons.1 ((h z).2 (by simp [hz])) with e | e
        · have := hy z hz; omega
        · exact e
theorem Rising.range_filter (p : Nat → Bool) (a n : Nat) (h : a + n ≤ 64) : Rising a ((List.range' a n).filter p) := by
  induction n generalizing a with
  | zero => trivial
  | succ n ih =>
    rw [List.range'_succ, List.filter_cons]
    have h2 := ih (a + 1) (by omega)
    split
    · exact ⟨Nat.le_refl _, by omega, h2⟩
    · exact h2.mono (by omega)
theorem rising_bits (s : Nat) : Rising 0 (bitsTo s 64) := by
  unfold bitsTo
  rw [List.range_eq_range']
  exact Rising.range_filter _ 0 64 (by omega)
theorem mem_bits (s i : Nat) : i ∈ bitsTo s 64 ↔ i < 64 ∧ s.testBit i = true := by simp [bitsTo]
theorem orAll_bits {s : Nat} (hs : U s) : orAll 0 (bitsTo s 64) = s := by
  apply Nat.eq_of_testBit_eq
  intro i
  rw [testBit_orAll, Nat.zero_testBit, Bool.false_or]
  cases h : s.testBit i
  · simp [mem_bits, h]
  · simp [mem_bits, h, testBit_lt hs h]
theorem bits_orAll {cs : List Nat} (h : Rising 0 cs) : bitsTo (orAll 0 cs) 64 = cs := by
  refine (rising_bits _).ext h fun x => ?_
  rw [mem_bits, testBit_orAll, Nat.zero_testBit, Bool.false_or, decide_eq_true_eq]
  exact ⟨fun h => h.2, fun hx => ⟨(h.mem x hx).2, hx⟩⟩
theorem U_orAll {cs : List Nat} {s a : Nat} (hs : U s) (h : Rising a cs) : U (orAll s cs) := by
  induction cs generalizing s a with
  | nil => exact hs
  | cons c r ih => exact ih (U_or hs (U_pow h.2.1)) h.2.2

theorem parse_rising {cs : List Nat} {s next : Nat} (h : Rising next cs) : parseWords s next (cs.map digs) = (orAll s cs, true) := by
  induction cs generalizing s next with
  | nil => rfl
  | cons c r ih =>
    rw [List.map_cons]
    unfold parseWords
    rw [catN_digs c h.2.1]
    simp only
    rw [if_neg (by have := h.1; omega), ih h.2.2]
    rfl
theorem parse_some {ws : List (List UInt8)} {s next S : Nat} (h : parseWords s next ws = (S, true)) : ∃ cs, Rising next cs ∧ ws = cs.map digs ∧ S = orAll s cs := by
  induction ws generalizing s next with
  | nil =>
    simp only [parseWords, Prod.mk.injEq] at h
    exact ⟨[], trivial, rfl, h.1.symm⟩
  | cons w r ih =>
    unfold parseWords at h
    cases hc : catN w with
    | none => simp [hc] at h
    | some c =>
      simp only [hc] at h
      by_cases hlt : c < next
      · simp [hlt] at h
      · rw [if_neg hlt] at h
        obtain ⟨cs, h1, h2, h3⟩ := ih h
        obtain ⟨h4, h5⟩ := catN_some hc
        exact ⟨c :: cs, ⟨by omega, h4, h1⟩, by simp [h2, h5], h3⟩
theorem parse_none {ws : List (List UInt8)} {s next S : Nat} (h : parseWords s next ws = (S, false)) : S = 0 := by
  induction ws generalizing s next with
  | nil => simp [parseWords] at h
  | cons w r ih =>
    unfold parseWords at h
    cases hc : catN w with
    | none => simp [hc] at h; exact h.symm
    | some c =>
      simp only [hc] at h
      by_cases hlt : c < next
      · simp [hlt] at h; exact h.symm
      · rw [if_neg hlt] at h
        exact ih h

theorem digs_words {cs : List Nat} {a : Nat} (h : Rising a cs) : ∀ w ∈ cs.map digs, ∀ b, b ∈ w → b ≠ 44 := by
  intro w hw
  obtain ⟨c, hc, rfl⟩ := List.mem_map.1 hw
  exact (digs_facts c (h.mem c hc).2).1
theorem textL_ne {s : Nat} (h : bitsTo s 64 ≠ []) : textL s ≠ [] := by
  unfold textL
  match hb : bitsTo s 64, h with
  | c :: r, _ =>
    have hc : c < 64 := ((rising_bits s).mem c (by rw [hb]; simp)).2
    have hd := (digs_facts c hc).2
    rw [List.map_cons]
    cases hr : r.map digs with
    | nil => rw [joinC_one]; exact hd
    | cons x xs => rw [joinC_cons]; simp
/-- what is told is read back -/
theorem parse_text {s : Nat} (hs : U s) : parseF (textL s) = (s, true) := by
  unfold parseF
  by_cases hb : bitsTo s 64 = []
  · have ht : textL s = [] := by unfold textL; rw [hb]; rfl
    have h0 := orAll_bits hs
    rw [hb] at h0
    rw [if_pos ht]
    rw [← h0]
    rfl
  · rw [if_neg (textL_ne hb)]
    unfold textL
    rw [split_join _ (by simpa using hb) (digs_words (rising_bits s)), parse_rising (rising_bits s), orAll_bits hs]
/-- only what is told is read -/
theorem text_parse {t : List UInt8} {S : Nat} (h : parseF t = (S, true)) : textL S = t ∧ U S := by
  unfold parseF at h
  split at h
  · rename_i ht
    simp only [Prod.mk.injEq] at h
    obtain ⟨rfl, _⟩ := h
    rw [ht]
    refine ⟨?_, U_zero⟩
    have : bitsTo 0 64 = [] := by simp [bitsTo]
    unfold textL
    rw [this]
    rfl
  · obtain ⟨cs, h1, h2, h3⟩ := parse_some h
    subst h3
    refine ⟨?_, U_orAll U_zero h1⟩
    unfold textL
    rw [bits_orAll h1, ← h2, join_split]
theorem parse_no {t : List UInt8} {S : Nat} (h : parseF t = (S, false)) : S = 0 := by
  unfold parseF at h
  split at h
  · simp at h
  · exact parse_none h
theorem parse_u (t : List UInt8) : U (parseF t).1 := by
  cases h : parseF t with
  | mk S b =>
    cases b
    · rw [parse_no h]; exact U_zero
    · exact (text_parse h).2
end Go.Proofs.YtcgpggknmhlnkaaDoor.Cats

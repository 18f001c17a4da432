/- The reference's way to read a set's text, digit by digit, gives what the other way gives: for every text. No program is named here. -/
import Derived.Test.YtobjmldfnnhofaaDoorCatsText
namespace Go.Proofs.YtobjmldfnnhofaaDoor.Cats

/-- one step: a digit goes on with the number; all else ends it -/
def scanStep (st : Nat × Int) : Option UInt8 → Nat × Int
  | some b => if 48 ≤ b.toNat ∧ b.toNat ≤ 57 ∧ st.2 < 100 then (st.1, max st.2 0 * 10 + (b.toNat : Int) - 48) else (if 0 ≤ st.2 ∧ st.2 < 64 then st.1 ||| 2 ^ st.2.toNat else st.1, -1)
  | none => (if 0 ≤ st.2 ∧ st.2 < 64 then st.1 ||| 2 ^ st.2.toNat else st.1, -1)
def seqOf (t : List UInt8) : List (Option UInt8) := t.map some ++ [none]
def scan (t : List UInt8) : Nat := ((seqOf t).foldl scanStep (0, -1)).1
theorem step_digit (q : Nat) (m : Int) (b : UInt8) (h : 48 ≤ b.toNat ∧ b.toNat ≤ 57 ∧ m < 100) : scanStep (q, m) (some b) = (q, max m 0 * 10 + (b.toNat : Int) - 48) := by
  simp only [scanStep]
  rw [if_pos h]
theorem step_end (q : Nat) (m : Int) (b : UInt8) (h : ¬ (48 ≤ b.toNat ∧ b.toNat ≤ 57 ∧ m < 100)) : scanStep (q, m) (some b) = scanStep (q, m) none := by
  simp only [scanStep]
  rw [if_neg h]
theorem step_flush (q : Nat) (m : Int) (h0 : 0 ≤ m) (h1 : m < 64) : scanStep (q, m) none = (q ||| 2 ^ m.toNat, -1) := by
  simp only [scanStep]
  rw [if_pos ⟨h0, h1⟩]
theorem step_skip (q : Nat) (m : Int) (h : m < 0 ∨ 64 ≤ m) : scanStep (q, m) none = (q, -1) := by
  simp only [scanStep]
  rw [if_neg (by omega)]
theorem scan_word (q c : Nat) (hc : c < 64) : ((digs c).map some).foldl scanStep (q, -1) = (q, (c : Int)) := by
  unfold digs
  split
  · rename_i h
    have e : (UInt8.ofNat (48 + c)).toNat = 48 + c := by rw [UInt8.toNat_ofNat']; omega
    simp only [List.map_cons, List.map_nil, List.foldl_cons, List.foldl_nil]
    rw [step_digit _ _ _ (by rw [e]; omega), e]
    simp only [Prod.mk.injEq, true_and]
    omega
  · rename_i h
    have e1 : (UInt8.ofNat (48 + c / 10)).toNat = 48 + c / 10 := by rw [UInt8.toNat_ofNat']; omega
    have e2 : (UInt8.ofNat (48 + c % 10)).toNat = 48 + c % 10 := by rw [UInt8.toNat_ofNat']; omega
    simp only [List.map_cons, List.map_nil, List.foldl_cons, List.foldl_nil]
    rw [step_digit q (-1) _ (by rw [e1]; omega), step_digit _ _ _ (by rw [e1, e2]; omega), e1, e2]
    simp only [Prod.mk.injEq, true_and]
    omega
theorem scan_join (cs : List Nat) (q : Nat) (h : ∀ c ∈ cs, c < 64) (hne : cs ≠ []) : (seqOf (joinC (cs.map digs))).foldl scanStep (q, -1) = (orAll q cs, -1) := by
  induction cs generalizing q with
  | nil => exact absurd rfl hne
  | cons c r ih =>
    have hc := h c (by simp)
    cases r with
    | nil =>
      rw [List.map_cons, List.map_nil, joinC_one, seqOf, List.foldl_append, scan_word q c hc, List.foldl_cons, List.foldl_nil, step_flush _ _ (by omega) (by omega)]
      rfl
    | cons d r =>
      have e : seqOf (digs c ++ 44 :: joinC (digs d :: r.map digs)) = (digs c).map some ++ (some 44 :: seqOf (joinC (digs d :: r.map digs))) := by simp [seqOf]
      rw [List.map_cons, List.map_cons, joinC_cons, e, List.foldl_append, scan_word q c hc, List.foldl_cons, step_end _ _ _ (fun h => absurd h.1 (by decide)), step_flush _ _ (by omega) (by omega)]
      have := ih (q ||| 2 ^ c) (fun x hx => h x (by simp [hx])) (by simp)
      rw [List.map_cons] at this
      exact this
theorem scan_text {s : Nat} (hs : U s) : scan (textL s) = s := by
  unfold scan textL
  by_cases hb : bitsTo s 64 = []
  · have h0 := orAll_bits hs
    rw [hb] at h0 ⊢
    rw [← h0]
    rfl
  · rw [scan_join _ _ (fun c hc => ((rising_bits s).mem c hc).2) hb]
    exact orAll_bits hs
/-- both ways to read give the same -/
theorem scan_parse {t : List UInt8} (hu : U (scan t)) : parseF t = if textL (scan t) = t then (scan t, true) else (0, false) := by
  by_cases h : textL (scan t) = t
  · rw [if_pos h]
    exact parse_iff hu h
  · rw [if_neg h]
    cases hp : parseF t with
    | mk S b =>
      cases b
      · rw [parse_no hp]
      · obtain ⟨h1, h2⟩ := text_parse hp
        exfalso
        apply h
        have : scan t = S := by rw [← h1]; exact scan_text h2
        rw [this, h1]

/-- how far the scan has come -/
def ScanAt (t : List UInt8) (k q : Nat) (m : Int) : Prop := ((seqOf t).take k).foldl scanStep (0, -1) = (q, m) ∧ U q ∧ -1 ≤ m ∧ m ≤ 1009
theorem ScanAt.zero (t : List UInt8) : ScanAt t 0 0 (-1) := ⟨rfl, U_zero, by omega, by omega⟩
theorem ScanAt.done {t : List UInt8} {q : Nat} {m : Int} (h : ScanAt t (t.length + 1) q m) : scan t = q ∧ U q := by
  refine ⟨?_, h.2.1⟩
  have e : (seqOf t).take (t.length + 1) = seqOf t := List.take_of_length_le (by simp [seqOf])
  unfold scan
  rw [← e, h.1]
theorem ScanAt.step {t : List UInt8} {k q q' : Nat} {m m' : Int} {o : Option UInt8} (h : ScanAt t k q m) (ho : (seqOf t)[k]? = some o) (hs : scanStep (q, m) o = (q', m')) (hu : U q') (h1 : -1 ≤ m') (h2 : m' ≤ 1009) : ScanAt t (k + 1) q' m' := by
  obtain ⟨hk, rfl⟩ := List.getElem?_eq_some_iff.1 ho
  refine ⟨?_, hu, h1, h2⟩
  rw [List.take_succ_eq_append_getElem hk, List.foldl_append, h.1]
  exact hs
theorem seq_at {t : List UInt8} {k : Nat} (hk : k < t.length) : (seqOf t)[k]? = some (some t[k]) := by
  rw [seqOf, List.getElem?_append_left (by simpa using hk)]
  simp [hk]
theorem seq_end (t : List UInt8) : (seqOf t)[t.length]? = some none := by
  rw [seqOf, List.getElem?_append_right (by simp)]
  simp
theorem ScanAt.digit {t : List UInt8} {k q : Nat} {m : Int} (h : ScanAt t k q m) (hk : k < t.length) (h1 : 48 ≤ t[k].toNat) (h2 : t[k].toNat ≤ 57) (h3 : m < 100) : ScanAt t (k + 1) q (max m 0 * 10 + (t[k].toNat : Int) - 48) := by
  have := h.2.2.1
  exact h.step (seq_at hk) (step_digit q m _ ⟨h1, h2, h3⟩) h.2.1 (by omega) (by omega)
theorem ScanAt.over {t : List UInt8} {k q q' : Nat} {m m' : Int} (h : ScanAt t k q m) (hk : k ≤ t.length) (hn : ∀ hk : k < t.length, ¬ (48 ≤ t[k].toNat ∧ t[k].toNat ≤ 57 ∧ m < 100)) (hs : scanStep (q, m) none = (q', m')) (hu : U q') (h1 : -1 ≤ m') (h2 : m' ≤ 1009) : ScanAt t (k + 1) q' m' := by
  by_cases hlt : k < t.length
  · exact h.step (seq_at hlt) ((step_end q m _ (hn hlt)).trans hs) hu h1 h2
  · obtain rfl : k = t.length := by omega
    exact h.step (seq_end t) hs hu h1 h2
theorem ScanAt.skip {t : List UInt8} {k q : Nat} {m : Int} (h : ScanAt t k q m) (hk : k ≤ t.length) (hn : ∀ hk : k < t.length, ¬ (48 ≤ t[k].toNat ∧ t[k].toNat ≤ 57 ∧ m < 100)) (hm : m < 0 ∨ 64 ≤ m) : ScanAt t (k + 1) q (-1) :=
  h.over hk hn (step_skip q m hm) h.2.1 (by omega) (by omega)
theorem ScanAt.flush {t : List UInt8} {k q : Nat} {m : Int} (h : ScanAt t k q m) (hk : k ≤ t.length) (hn : ∀ hk : k < t.length, ¬ (48 ≤ t[k].toNat ∧ t[k].toNat ≤ 57 ∧ m < 100)) (h0 : 0 ≤ m) (h64 : m < 64) : ScanAt t (k + 1) (q ||| 2 ^ m.toNat) (-1) :=
  h.over hk hn (step_flush q m h0 h64) (U_or h.2.1 (U_pow (by omega))) (by omega) (by omega)
end Go.Proofs.YtobjmldfnnhofaaDoor.Cats

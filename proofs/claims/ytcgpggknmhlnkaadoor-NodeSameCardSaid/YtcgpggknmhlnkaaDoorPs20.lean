/- Decimals as text, in lists and integers alone: digits, the text of a decimal, what a text means, with what it begins. No function of the program is named here. -/
import Derived.Test.YtcgpggknmhlnkaaDoorPs19
import Derived.Lib.ItoaNum
import Derived.Lib.ParseIntB
import Derived.Lib.TrimByte
import Derived.Lib.Repeat
namespace Go.Proofs.YtcgpggknmhlnkaaDoor.Dig
open Dec
/-- the byte of a digit -/
def dg (d : Nat) : UInt8 := UInt8.ofNat (48 + d)
theorem dg_nat {d : Nat} (h : d < 10) : (dg d).toNat = 48 + d := by unfold dg; rw [UInt8.toNat_ofNat']; omega
def isD (b : UInt8) : Bool := decide (48 ≤ b.toNat) && decide (b.toNat ≤ 57)
theorem isD_iff {b : UInt8} : isD b = true ↔ 48 ≤ b.toNat ∧ b.toNat ≤ 57 := by simp [isD]
theorem dg_isD {d : Nat} (h : d < 10) : isD (dg d) = true := by rw [isD_iff, dg_nat h]; omega
def AllD (l : List UInt8) : Prop := ∀ b ∈ l, isD b = true
theorem AllD.nil : AllD [] := fun _ h => by cases h
theorem AllD.app {a b : List UInt8} (h : AllD a) (k : AllD b) : AllD (a ++ b) := fun x hx => (List.mem_append.1 hx).elim (h x) (k x)
theorem AllD.cons {c : UInt8} {b : List UInt8} (h : isD c = true) (k : AllD b) : AllD (c :: b) := fun x hx => (List.mem_cons.1 hx).elim (fun e => e ▸ h) (k x)
theorem AllD.take {a : List UInt8} (h : AllD a) (k : Nat) : AllD (a.take k) := fun x hx => h x (List.mem_of_mem_take hx)
/-- the number of digits, behind another number -/
def stepF (a : Nat) (c : UInt8) : Nat := a * 10 + (c.toNat - 48)
def valF (a : Nat) (l : List UInt8) : Nat := l.foldl stepF a
theorem valF_nil (a : Nat) : valF a [] = a := List.foldl_nil
theorem valF_cons (a : Nat) (c : UInt8) (r : List UInt8) : valF a (c :: r) = valF (a * 10 + (c.toNat - 48)) r := List.foldl_cons ..
theorem valF_app (l r : List UInt8) (a : Nat) : valF a (l ++ r) = valF (valF a l) r := by
  induction l generalizing a with
  | nil => rw [List.nil_append, valF_nil]
  | cons c l ih => rw [List.cons_append, valF_cons, valF_cons, ih]
def sgnL (neg : Bool) : List UInt8 := if neg then [45] else []
/- how many digits a text begins with -/
def leadN : Nat → List UInt8 → Nat
  | 0, _ => 0
  | _ + 1, [] => 0
  | m + 1, c :: r => if isD c = true then leadN m r + 1 else 0
def digAt (l : List UInt8) (i : Nat) : Bool := match l[i]? with | some c => isD c | none => false
theorem digAt_in {l : List UInt8} {i : Nat} {c : UInt8} (h : l[i]? = some c) : digAt l i = isD c := by unfold digAt; rw [h]
theorem lead_le : ∀ (m : Nat) (l : List UInt8), leadN m l ≤ m ∧ leadN m l ≤ l.length
  | 0, _ => ⟨Nat.le_refl _, Nat.zero_le _⟩
  | _ + 1, [] => ⟨Nat.zero_le _, Nat.le_refl _⟩
  | m + 1, c :: r => by
    have := lead_le m r
    simp only [leadN, List.length_cons]
    split <;> omega
theorem lead_is : ∀ (n m : Nat) (l : List UInt8), n ≤ m → (∀ j, j < n → digAt l j = true) → (n = m ∨ digAt l n = false) → leadN m l = n
  | 0, 0, _, _, _, _ => rfl
  | 0, _ + 1, [], _, _, _ => rfl
  | 0, m + 1, c :: r, _, _, h => by
    have hc : isD c = false := h.elim (fun e => by omega) id
    simp only [leadN]
    rw [if_neg (by rw [hc]; simp)]
  | _ + 1, 0, _, h, _, _ => absurd h (by omega)
  | n + 1, _ + 1, [], _, h, _ => absurd (h 0 (by omega)) (by simp [digAt])
  | n + 1, m + 1, c :: r, h1, h2, h3 => by
    have hc : isD c = true := h2 0 (by omega)
    simp only [leadN]
    rw [if_pos hc, lead_is n m r (by omega) (fun j hj => h2 (j + 1) (by omega)) (h3.imp (fun e => by omega) id)]
theorem lead_all : ∀ (m : Nat) (l : List UInt8), AllD (l.take (leadN m l))
  | 0, _ => by simp only [leadN, List.take_zero]; exact AllD.nil
  | _ + 1, [] => by simp only [leadN, List.take_zero]; exact AllD.nil
  | m + 1, c :: r => by
    simp only [leadN]
    split
    · rename_i hc
      rw [List.take_succ_cons]
      exact AllD.cons hc (lead_all m r)
    · rw [List.take_zero]; exact AllD.nil
theorem lead_app {m : Nat} {w r : List UInt8} (hw : AllD w) (hm : w.length ≤ m) (hr : w.length = m ∨ digAt r 0 = false) : leadN m (w ++ r) = w.length := by
  refine lead_is _ _ _ hm (fun j hj => ?_) (hr.imp id fun h => ?_)
  · rw [digAt_in (c := w[j]) (by rw [List.getElem?_append_left hj, List.getElem?_eq_getElem hj])]
    exact hw _ (List.getElem_mem hj)
  · unfold digAt at h ⊢
    rw [List.getElem?_append_right (Nat.le_refl _), Nat.sub_self]
    exact h
def wholeL (m : Nat) (l : List UInt8) : List UInt8 := l.take (leadN m l)
def restL (m : Nat) (l : List UInt8) : List UInt8 := l.drop (leadN m l)
/-- the digits behind a point with which a text begins: at most four -/
def partR (r : List UInt8) : List UInt8 := if r.head? = some 46 then (r.drop 1).take (leadN 4 (r.drop 1)) else []
theorem partR_point (r : List UInt8) : partR (46 :: r) = r.take (leadN 4 r) := by unfold partR; rw [if_pos (List.head?_cons ..)]; rfl
theorem partR_odd {r : List UInt8} (h : r.head? ≠ some 46) : partR r = [] := by unfold partR; rw [if_neg h]
theorem partR_len (r : List UInt8) : (partR r).length ≤ 4 := by
  unfold partR
  split
  · rw [List.length_take]; have := (lead_le 4 (r.drop 1)).1; omega
  · simp
theorem partR_all (r : List UInt8) : AllD (partR r) := by
  unfold partR
  split
  · exact lead_all _ _
  · exact AllD.nil
theorem wholeL_all (m : Nat) (l : List UInt8) : AllD (wholeL m l) := lead_all _ _
theorem wholeL_len (m : Nat) (l : List UInt8) : (wholeL m l).length ≤ m := by unfold wholeL; rw [List.length_take]; have := (lead_le m l).1; omega
theorem wholeL_app {m : Nat} {w r : List UInt8} (hw : AllD w) (hm : w.length ≤ m) (hr : w.length = m ∨ digAt r 0 = false) : wholeL m (w ++ r) = w ∧ restL m (w ++ r) = r := by
  unfold wholeL restL
  rw [lead_app hw hm hr]
  exact ⟨List.take_left, List.drop_left⟩
def sizeL (w p : List UInt8) : Nat := if p = [] then w.length else w.length + 1 + p.length
/-- the decimal of digits ahead of a point and behind it -/
def meantD (neg : Bool) (w p : List UInt8) : Int × Bool := if w = [] then (0, false) else giveD true (signed neg (valF 0 (w ++ p ++ List.replicate (4 - p.length) 48)))
/-- what a text means, behind its sign -/
def readB (neg : Bool) (l : List UInt8) : Int × Bool := if sizeL (wholeL 40 l) (partR (restL 40 l)) < l.length then (0, false) else meantD neg (wholeL 40 l) (partR (restL 40 l))
def readD (t : List UInt8) : Int × Bool := if 40 < t.length then (0, false) else if t.head? = some 45 then readB true (t.drop 1) else readB false t
/-- with which decimal a text begins -/
def leadD (t : List UInt8) : Int × Nat × Bool :=
  if (meantD false (wholeL 30 t) (partR (restL 30 t))).2 = true then ((meantD false (wholeL 30 t) (partR (restL 30 t))).1, sizeL (wholeL 30 t) (partR (restL 30 t)), true) else (0, 0, false)

/- what a text means, by its form -/
theorem readB_all (neg : Bool) {l : List UInt8} (h : AllD l) (hl : l.length ≤ 40) : readB neg l = meantD neg l [] := by
  obtain ⟨h1, h2⟩ := wholeL_app (m := 40) (w := l) (r := []) h hl (.inr rfl)
  rw [List.append_nil] at h1 h2
  unfold readB
  rw [h1, h2, show partR [] = [] from rfl, if_neg (by simp [sizeL])]
theorem part_all {r : List UInt8} (h : AllD r) : r.take (leadN 4 r) = r.take 4 := by
  by_cases h4 : r.length ≤ 4
  · have := lead_app (m := 4) (w := r) (r := []) h h4 (.inr rfl)
    rw [List.append_nil] at this
    rw [this, List.take_of_length_le (Nat.le_refl _), List.take_of_length_le h4]
  · have e : r.take 4 ++ r.drop 4 = r := List.take_append_drop 4 r
    have hl : (r.take 4).length = 4 := by rw [List.length_take]; omega
    have := lead_app (m := 4) (w := r.take 4) (r := r.drop 4) (h.take 4) (by omega) (.inl hl)
    rw [e, hl] at this
    rw [this]
theorem dot_no (r : List UInt8) : digAt (46 :: r) 0 = false := rfl
theorem readB_point (neg : Bool) {w r : List UInt8} (hw : AllD w) (hr : AllD r) (hl : (w ++ 46 :: r).length ≤ 40) : readB neg (w ++ 46 :: r) = if 1 ≤ r.length ∧ r.length ≤ 4 then meantD neg w r else (0, false) := by
  have hl2 : w.length + (r.length + 1) ≤ 40 := by simpa using hl
  obtain ⟨h1, h2⟩ := wholeL_app (m := 40) (w := w) (r := 46 :: r) hw (by omega) (.inr (dot_no r))
  unfold readB
  rw [h1, h2, partR_point, part_all hr]
  by_cases h0 : r = []
  · subst h0
    rw [if_pos (by simp [sizeL]), if_neg (by simp)]
  · have hlen : 1 ≤ r.length := List.length_pos_iff.2 h0
    have hne : r.take 4 ≠ [] := fun e => by
      have := congrArg List.length e
      rw [List.length_take, List.length_nil] at this
      omega
    unfold sizeL
    rw [if_neg hne, List.length_take, List.length_append, List.length_cons]
    clear hl
    by_cases h4 : r.length ≤ 4
    · rw [if_neg (by omega), if_pos ⟨hlen, h4⟩, List.take_of_length_le h4]
    · rw [if_pos (by omega), if_neg (by omega)]
theorem meantD_nil (neg : Bool) (p : List UInt8) : meantD neg [] p = (0, false) := rfl
/- the loop of a reader: where it stands in a text, how many digits behind the point, and all digits so far -/
def ScanAt (l : List UInt8) (i : Nat) (b : Int) (ds : List UInt8) : Prop :=
  i ≤ l.length ∧ AllD ds ∧ ((b = -1 ∧ ds = l.take i) ∨ ∃ w r k, b = ((k : Nat) : Int) ∧ l = w ++ 46 :: r ∧ w ≠ [] ∧ AllD w ∧ k ≤ r.length ∧ i = w.length + 1 + k ∧ ds = w ++ r.take k)
theorem ScanAt.start (l : List UInt8) : ScanAt l 0 (-1) [] := ⟨Nat.zero_le _, AllD.nil, .inl ⟨rfl, rfl⟩⟩
/-- at the end -/
theorem ScanAt.none {l : List UInt8} {i : Nat} {b : Int} {ds : List UInt8} (h : ScanAt l i b ds) (hl : l.length ≤ 40) (hi : i = l.length) (hb : l.length = 0 ∨ b = 0 ∨ 4 < b) (neg : Bool) : readB neg l = (0, false) := by
  obtain ⟨h1, h2, ⟨rfl, rfl⟩ | ⟨w, r, k, rfl, rfl, hw, ha, hk, he, rfl⟩⟩ := h
  · have h0 : l = [] := List.length_eq_zero_iff.1 (by omega)
    subst h0
    rfl
  · have hkr : k = r.length := by simp at hi; omega
    have hrd : AllD r := fun x hx => h2 x (by rw [hkr, List.take_of_length_le (Nat.le_refl _)]; exact List.mem_append_right _ hx)
    rw [readB_point neg ha hrd hl, if_neg]
    simp at hb
    omega
theorem ScanAt.done {l : List UInt8} {i : Nat} {b : Int} {ds : List UInt8} (h : ScanAt l i b ds) (hl : l.length ≤ 40) (hi : i = l.length) (h0 : l.length ≠ 0) (hb : b ≠ 0) (hb4 : b ≤ 4) (neg : Bool) :
    readB neg l = giveD true (signed neg (valF 0 (ds ++ List.replicate (4 - b.toNat) 48))) := by
  obtain ⟨h1, h2, ⟨rfl, rfl⟩ | ⟨w, r, k, rfl, rfl, hw, ha, hk, he, rfl⟩⟩ := h
  · have e : l.take i = l := List.take_of_length_le (by omega)
    rw [e] at h2 ⊢
    rw [readB_all neg h2 hl]
    unfold meantD
    rw [if_neg (fun e => h0 (by rw [e]; rfl)), List.append_nil]
    rfl
  · have hkr : k = r.length := by simp at hi; omega
    have e : r.take k = r := List.take_of_length_le (by omega)
    have hrd : AllD r := fun x hx => h2 x (by rw [e]; exact List.mem_append_right _ hx)
    rw [readB_point neg ha hrd hl, if_pos (by omega), e]
    unfold meantD
    rw [if_neg hw, show (k : Int).toNat = r.length by omega]
end Go.Proofs.YtcgpggknmhlnkaaDoor.Dig

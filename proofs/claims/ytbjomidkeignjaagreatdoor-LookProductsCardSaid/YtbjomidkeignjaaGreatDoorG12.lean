/- Texts, changed: letters, blanks, repeated, put, joined. In lists alone. No function of the program is named here.
   What the program's isGreat, isSmall, isLetter, turned, fits and the reference's letter, up, down, room answer (over the landed text of package text).
   What Join answers, the program's and the reference's; and the reference's Rept: for at most 60 texts of at most a thousand bytes. -/
import Derived.Lib.ReplaceLaws
import Derived.Lib.Replace
import Derived.Lib.Repeat
import Derived.Lib.Strings
import Derived.WalkSmall
import Derived.Test.YtbjomidkeignjaaGreatDoorKit
import Derived.Test.YtbjomidkeignjaaGreatDoorKit4
import Derived.Test.YtbjomidkeignjaaGreatDoorG10
namespace Go.Proofs.YtbjomidkeignjaaGreatDoor.Txt

/- letters -/
def isG (c : UInt8) : Bool := decide (65 ≤ c.toNat) && decide (c.toNat ≤ 90)
def isS (c : UInt8) : Bool := decide (97 ≤ c.toNat) && decide (c.toNat ≤ 122)
def isL (c : UInt8) : Bool := isG c || isS c
def upB (c : UInt8) : UInt8 := if isS c then c - 32 else c
def downB (c : UInt8) : UInt8 := if isG c then c + 32 else c
/-- a byte in a way: 0 great, else small -/
def wayB (w : Nat) (c : UInt8) : UInt8 := if w = 0 then upB c else downB c
theorem all_bytes {p : UInt8 → Bool} (h : ∀ n : Fin 256, p (UInt8.ofNat n.1) = true) (c : UInt8) : p c = true := by
  have := h ⟨c.toNat, c.toNat_lt⟩
  simpa using this
theorem up_is (c : UInt8) : (isL (upB c) == isL c && (upB (upB c) == upB c) && (upB (downB c) == upB c) && (downB (downB c) == downB c) && (isL (downB c) == isL c)) = true :=
  all_bytes (p := fun c => isL (upB c) == isL c && (upB (upB c) == upB c) && (upB (downB c) == upB c) && (downB (downB c) == downB c) && (isL (downB c) == isL c)) (by decide +kernel) c
theorem isL_way (w : Nat) (c : UInt8) : isL (wayB w c) = isL c := by
  have h := up_is c
  simp only [Bool.and_eq_true, beq_iff_eq] at h
  unfold wayB
  split
  · exact h.1.1.1.1
  · exact h.2
theorem way_way (w : Nat) (c : UInt8) : wayB w (wayB w c) = wayB w c := by
  have h := up_is c
  simp only [Bool.and_eq_true, beq_iff_eq] at h
  unfold wayB
  split
  · exact h.1.1.1.2
  · exact h.1.2
theorem way_low (c : UInt8) : wayB 0 (wayB 1 c) = wayB 0 c := by
  have h := up_is c
  simp only [Bool.and_eq_true, beq_iff_eq] at h
  exact h.1.1.2
/-- how the next letter is written, behind a byte -/
def nextW (f o : Nat) (c : UInt8) : Nat := if isL c then o else f
def wrL (f o : Nat) : Nat → List UInt8 → List UInt8
  | _, [] => []
  | nx, c :: r => wayB nx c :: wrL f o (nextW f o c) r
theorem wr_cons (f o nx : Nat) (c : UInt8) (r : List UInt8) : wrL f o nx (c :: r) = wayB nx c :: wrL f o (nextW f o c) r := rfl
theorem wr_len (f o : Nat) (l : List UInt8) : ∀ nx, (wrL f o nx l).length = l.length := by
  induction l with
  | nil => intro _; rfl
  | cons c r ih => intro nx; rw [wr_cons, List.length_cons, List.length_cons, ih]
theorem next_way (f o w : Nat) (c : UInt8) : nextW f o (wayB w c) = nextW f o c := by unfold nextW; rw [isL_way]
theorem wr_twice (f o : Nat) (l : List UInt8) : ∀ nx, wrL f o nx (wrL f o nx l) = wrL f o nx l := by
  induction l with
  | nil => intro _; rfl
  | cons c r ih => intro nx; rw [wr_cons, wr_cons, next_way, way_way, ih]
theorem wr_low (l : List UInt8) : wrL 0 0 0 (wrL 1 1 1 l) = wrL 0 0 0 l := by
  have e0 : ∀ c, nextW 0 0 c = 0 := fun c => by unfold nextW; split <;> rfl
  have e1 : ∀ c, nextW 1 1 c = 1 := fun c => by unfold nextW; split <;> rfl
  induction l with
  | nil => rfl
  | cons c r ih => rw [wr_cons, wr_cons, wr_cons, e0, e1, e0, way_low, ih]

/- blanks -/
def allB (l : List UInt8) : Bool := l.all fun c => c == 32
/-- the program's way: of blanks behind one another the first one stays -/
def trP : UInt8 → List UInt8 → List UInt8
  | _, [] => []
  | a, c :: r => (if c = 32 ∧ a = 32 then [] else [c]) ++ trP c r
/-- the reference's way: a blank stays behind no blank, if not all behind it are blanks -/
def trR : UInt8 → List UInt8 → List UInt8
  | _, [] => []
  | a, c :: r => (if c = 32 then (if a ≠ 32 ∧ allB r = false then [32] else []) else [c]) ++ trR c r
def trimL (l : List UInt8) : List UInt8 := trR 32 l
theorem trP_cons (a c : UInt8) (r : List UInt8) : trP a (c :: r) = (if c = 32 ∧ a = 32 then [] else [c]) ++ trP c r := rfl
theorem trR_cons (a c : UInt8) (r : List UInt8) : trR a (c :: r) = (if c = 32 then (if a ≠ 32 ∧ allB r = false then [32] else []) else [c]) ++ trR c r := rfl
theorem allB_cons (c : UInt8) (r : List UInt8) : allB (c :: r) = ((c == 32) && allB r) := rfl
theorem trP_blank {r : List UInt8} (h : allB r = true) : trP 32 r = [] := by
  induction r with
  | nil => rfl
  | cons c r ih =>
    rw [allB_cons, Bool.and_eq_true, beq_iff_eq] at h
    obtain ⟨rfl, h⟩ := h
    rw [trP_cons, if_pos ⟨rfl, rfl⟩, ih h]; rfl
theorem trR_blank {r : List UInt8} (h : allB r = true) : ∀ a, trR a r = [] := by
  induction r with
  | nil => intro _; rfl
  | cons c r ih =>
    intro a
    rw [allB_cons, Bool.and_eq_true, beq_iff_eq] at h
    obtain ⟨rfl, h⟩ := h
    rw [trR_cons, if_pos rfl, if_neg (by rw [h]; simp), ih h]; rfl
theorem trP_some {r : List UInt8} (h : allB r = false) : ∀ a, trP a r ≠ [] := by
  induction r with
  | nil => cases h
  | cons c r ih =>
    intro a
    rw [trP_cons]
    by_cases hc : c = 32
    · subst hc
      have h2 : allB r = false := by rw [allB_cons] at h; simpa using h
      intro e
      exact ih h2 32 (List.append_eq_nil_iff.1 e).2
    · rw [if_neg (fun e => hc e.1)]; simp
theorem trR_some {r : List UInt8} (h : allB r = false) : ∀ a, trR a r ≠ [] := by
  induction r with
  | nil => cases h
  | cons c r ih =>
    intro a
    rw [trR_cons]
    by_cases hc : c = 32
    · subst hc
      have h2 : allB r = false := by rw [allB_cons] at h; simpa using h
      intro e
      exact ih h2 32 (List.append_eq_nil_iff.1 e).2
    · rw [if_neg hc]; simp
theorem suffix_cons {c : UInt8} {x : List UInt8} (h : c ≠ 32 ∨ x ≠ []) : Lib.trimSuffix (c :: x) [32] = c :: Lib.trimSuffix x [32] := by
  unfold Lib.trimSuffix Lib.hasSuffix
  have e : ([32] : List UInt8).isSuffixOf (c :: x) = ([32] : List UInt8).isSuffixOf x := by
    rw [Bool.eq_iff_iff, List.isSuffixOf_iff_suffix, List.isSuffixOf_iff_suffix, List.suffix_cons_iff]
    constructor
    · rintro (h1 | h1)
      · obtain ⟨rfl, rfl⟩ := List.cons.inj h1
        rcases h with h | h
        · exact absurd rfl h
        · exact absurd rfl h
      · exact h1
    · exact Or.inr
  rw [e]
  by_cases hs : ([32] : List UInt8).isSuffixOf x = true
  · rw [if_pos hs, if_pos hs]
    have hx : x ≠ [] := by
      rintro rfl
      cases hs
    have hl := List.length_pos_iff.2 hx
    rw [List.length_cons, List.length_singleton, show x.length + 1 - 1 = (x.length - 1) + 1 by omega, List.take_succ_cons]
  · rw [if_neg hs, if_neg hs]
/-- both ways are one -/
theorem trim_eq (l : List UInt8) : ∀ a, Lib.trimSuffix (trP a l) [32] = trR a l := by
  induction l with
  | nil => intro _; rfl
  | cons c r ih =>
    intro a
    rw [trP_cons, trR_cons]
    by_cases hc : c = 32
    · subst hc
      by_cases ha : a = 32
      · rw [if_pos ⟨rfl, ha⟩, if_pos rfl, if_neg (fun e => e.1 ha), List.nil_append, List.nil_append, ih]
      · rw [if_neg (fun e => ha e.2), if_pos rfl]
        cases hb : allB r
        · rw [if_pos ⟨ha, rfl⟩, List.singleton_append, List.singleton_append, suffix_cons (.inr (trP_some hb _)), ih]
        · rw [if_neg (by simp), trP_blank hb, trR_blank hb]; rfl
    · rw [if_neg (fun e => hc e.1), if_neg hc, List.singleton_append, List.singleton_append, suffix_cons (.inl hc), ih]
/-- nothing is needless in it -/
def Tidy : UInt8 → List UInt8 → Prop
  | _, [] => True
  | a, c :: r => (c = 32 → a ≠ 32 ∧ r ≠ []) ∧ Tidy c r
theorem Tidy.any {l : List UInt8} (h : Tidy 32 l) (a : UInt8) : Tidy a l := by
  match l, h with
  | [], _ => trivial
  | c :: r, ⟨h1, h2⟩ => exact ⟨fun e => absurd rfl (h1 e).1, h2⟩
theorem tidy_trim (l : List UInt8) : ∀ a, Tidy a (trR a l) := by
  induction l with
  | nil => intro _; trivial
  | cons c r ih =>
    intro a
    rw [trR_cons]
    by_cases hc : c = 32
    · subst hc
      rw [if_pos rfl]
      by_cases h : a ≠ 32 ∧ allB r = false
      · rw [if_pos h]
        exact ⟨fun _ => ⟨h.1, trR_some h.2 _⟩, ih 32⟩
      · rw [if_neg h]
        exact (ih 32).any a
    · rw [if_neg hc]
      exact ⟨fun e => absurd e hc, ih c⟩
theorem trim_tidy (l : List UInt8) : ∀ a, Tidy a l → trR a l = l := by
  induction l with
  | nil => intro _ _; rfl
  | cons c r ih =>
    intro a h
    rw [trR_cons, ih c h.2]
    by_cases hc : c = 32
    · subst hc
      obtain ⟨h1, h2⟩ := h.1 rfl
      have hb : allB r = false := by
        match r, h2, h.2 with
        | d :: r, _, ⟨h3, _⟩ =>
          rw [allB_cons]
          have : d ≠ 32 := fun e => (h3 e).1 rfl
          simp [this]
      rw [if_pos rfl, if_pos ⟨h1, hb⟩]; rfl
    · rw [if_neg hc]; rfl
theorem trim_twice (l : List UInt8) : trimL (trimL l) = trimL l := trim_tidy _ _ (tidy_trim _ _)
theorem trR_len (l : List UInt8) : ∀ a, (trR a l).length ≤ l.length := by
  induction l with
  | nil => intro _; exact Nat.le_refl _
  | cons c r ih =>
    intro a
    have := ih c
    rw [trR_cons, List.length_append, List.length_cons]
    split
    · split <;> simp <;> omega
    · simp; omega
theorem trP_len (l : List UInt8) : ∀ a, (trP a l).length ≤ l.length := by
  induction l with
  | nil => intro _; exact Nat.le_refl _
  | cons c r ih =>
    intro a
    have := ih c
    rw [trP_cons, List.length_append, List.length_cons]
    split <;> simp <;> omega
theorem trimL_len (l : List UInt8) : (trimL l).length ≤ l.length := trR_len l 32

/- room -/
def roomD (l : List UInt8) : List UInt8 × Bool := if l.length ≤ 256 then (l, true) else ([], false)
theorem room_in {l : List UInt8} (h : l.length ≤ 256) : roomD l = (l, true) := if_pos h
theorem room_out {l : List UInt8} (h : 256 < l.length) : roomD l = ([], false) := if_neg (by omega)
theorem room_len {l m : List UInt8} {b : Bool} (h : roomD l = (m, b)) : m.length ≤ 256 := by
  unfold roomD at h
  split at h
  · obtain ⟨rfl, rfl⟩ := Prod.mk.inj h; assumption
  · obtain ⟨rfl, rfl⟩ := Prod.mk.inj h; simp
theorem room_eq (l : List UInt8) : (roomD l).2 = decide (l.length ≤ 256) := by
  unfold roomD
  split
  · rename_i h; rw [decide_eq_true h]
  · rename_i h; rw [decide_eq_false h]
/-- several times -/
def reptD (l : List UInt8) (n : Int) : List UInt8 × Bool := if n < 0 ∨ 256 < n.toNat * l.length then ([], false) else (Lib.repeatL l n.toNat, true)
theorem rept_room {l : List UInt8} {n : Nat} : reptD l n = roomD (Lib.repeatL l n) := by
  unfold reptD roomD
  rw [Lib.repeatL_length, Int.toNat_natCast]
  by_cases h : n * l.length ≤ 256
  · rw [if_pos h, if_neg (by omega)]
  · rw [if_neg h, if_pos (by omega)]

/- each old one -/
def putL (old new l : List UInt8) : List UInt8 := if old = [] then l else Lib.replaceK old new (Lib.count l old) l
theorem put_none (new l : List UInt8) : putL [] new l = l := if_pos rfl
theorem index_nil {old : List UInt8} (h : old ≠ []) : Lib.index [] old = -1 := by
  unfold Lib.index
  cases old with
  | nil => exact absurd rfl h
  | cons c r => rfl
theorem put_nil (old new : List UInt8) : putL old new [] = [] ∧ (old ≠ [] → Lib.count [] old = 0) := by
  have h2 : old ≠ [] → Lib.count [] old = 0 := fun h => Lib.count_miss (index_nil h)
  refine ⟨?_, h2⟩
  unfold putL
  split
  · rfl
  · rename_i h; rw [h2 h]; rfl
theorem put_hit {old x : List UInt8} (new : List UInt8) (h : old ≠ []) (hp : old.isPrefixOf x = true) :
    putL old new x = new ++ putL old new (x.drop old.length) ∧ Lib.count x old = 1 + Lib.count (x.drop old.length) old := by
  have hi : Lib.index x old = (0 : Nat) := by
    cases x with
    | nil =>
      cases old with
      | nil => exact absurd rfl h
      | cons c r => cases hp
    | cons c r => unfold Lib.index; rw [if_pos hp]; rfl
  have hc := Lib.count_hit h hi
  rw [Nat.zero_add] at hc
  refine ⟨?_, hc⟩
  unfold putL
  rw [if_neg h, if_neg h, hc, Nat.add_comm, Lib.replaceK_hit _ _ _ _ 0 hi, List.take_zero, List.nil_append, Nat.zero_add]
theorem put_miss {old : List UInt8} (new : List UInt8) {c : UInt8} {r : List UInt8} (h : old ≠ []) (hp : old.isPrefixOf (c :: r) = false) :
    putL old new (c :: r) = c :: putL old new r ∧ Lib.count (c :: r) old = Lib.count r old := by
  have e : Lib.index (c :: r) old = if Lib.index r old == -1 then -1 else Lib.index r old + 1 := by
    conv => lhs; unfold Lib.index
    rw [if_neg (by rw [hp]; simp)]
  by_cases hi : Lib.index r old = -1
  · rw [hi] at e
    have h1 := Lib.count_miss (show Lib.index (c :: r) old = -1 from e)
    have h2 := Lib.count_miss hi
    refine ⟨?_, by rw [h1, h2]⟩
    unfold putL
    rw [if_neg h, if_neg h, h1, h2]; rfl
  · have hg := Lib.index_ge r old
    obtain ⟨i, hi2⟩ : ∃ i : Nat, Lib.index r old = i := ⟨(Lib.index r old).toNat, by omega⟩
    rw [hi2, if_neg (by simp)] at e
    have e2 : Lib.index (c :: r) old = ((i + 1 : Nat) : Int) := by rw [e]; omega
    have h1 := Lib.count_hit h e2
    have h2 := Lib.count_hit h hi2
    have ed : (c :: r).drop (i + 1 + old.length) = r.drop (i + old.length) := by rw [show i + 1 + old.length = (i + old.length) + 1 by omega, List.drop_succ_cons]
    rw [ed] at h1
    refine ⟨?_, by rw [h1, h2]⟩
    unfold putL
    rw [if_neg h, if_neg h, h1, h2, Nat.add_comm, Lib.replaceK_hit _ _ _ _ _ e2, Lib.replaceK_hit _ _ _ _ _ hi2, ed]
    simp
/-- how long it becomes; and put in its own place it stays -/
theorem put_facts {old : List UInt8} (new : List UInt8) (h : old ≠ []) (k : Nat) : ∀ x : List UInt8, x.length ≤ k →
    (putL old new x).length + Lib.count x old * old.length = x.length + Lib.count x old * new.length ∧ putL old old x = x := by
  induction k with
  | zero =>
    intro x hx
    obtain rfl : x = [] := List.length_eq_zero_iff.1 (by omega)
    rw [(put_nil old new).1, (put_nil old old).1, (put_nil old new).2 h]
    simp
  | succ k ih =>
    intro x hx
    cases x with
    | nil =>
      rw [(put_nil old new).1, (put_nil old old).1, (put_nil old new).2 h]
      simp
    | cons c r =>
      cases hp : old.isPrefixOf (c :: r)
      · obtain ⟨h1, h2⟩ := put_miss new h hp
        obtain ⟨h3, _⟩ := put_miss old h hp
        obtain ⟨h4, h5⟩ := ih r (by simpa using hx)
        rw [h1, h2, h3, h5, List.length_cons, List.length_cons]
        exact ⟨by omega, rfl⟩
      · obtain ⟨h1, h2⟩ := put_hit new h hp
        obtain ⟨h3, _⟩ := put_hit old h hp
        have hl := List.length_pos_iff.2 h
        have hpl := List.IsPrefix.length_le (List.isPrefixOf_iff_prefix.1 hp)
        obtain ⟨h4, h5⟩ := ih ((c :: r).drop old.length) (by rw [List.length_drop]; omega)
        rw [h1, h2, h3, h5]
        rw [List.length_append, Nat.add_mul, Nat.add_mul, Nat.one_mul, Nat.one_mul]
        rw [List.length_drop] at h4
        refine ⟨by omega, ?_⟩
        obtain ⟨t, ht⟩ := List.isPrefixOf_iff_prefix.1 hp
        rw [← ht, List.drop_left]
theorem put_len {old : List UInt8} (new x : List UInt8) (h : old ≠ []) : (putL old new x).length + Lib.count x old * old.length = x.length + Lib.count x old * new.length := (put_facts new h _ x (Nat.le_refl _)).1
theorem put_same (old x : List UInt8) : putL old old x = x := by
  by_cases h : old = []
  · rw [h, put_none]
  · exact (put_facts old h _ x (Nat.le_refl _)).2
theorem put_replace {old : List UInt8} (new x : List UInt8) (h : old ≠ []) : Lib.replaceAll x old new = putL old new x := by
  unfold Lib.replaceAll Lib.replace
  by_cases e : old = new
  · subst e
    rw [put_same]; simp
  · rw [if_neg (by simpa using e)]
    unfold putL Lib.replaceNum
    rw [if_neg h, if_pos (.inl (by omega))]
theorem count_le (old x : List UInt8) (h : old ≠ []) : Lib.count x old * old.length ≤ x.length := by
  have := put_len [] x h
  rw [List.length_nil, Nat.mul_zero] at this
  omega
end Go.Proofs.YtbjomidkeignjaaGreatDoor.Txt
namespace Go.Proofs.YtbjomidkeignjaaGreatDoor.Txt
open Go.RowKit Kit Reg

theorem len (t : ByteArray) : t.data.toList.length = t.size := (Lib.size_eq t).symm
theorem bytes_eq {a b : ByteArray} (h : a.data.toList = b.data.toList) : a = b := ByteArray.ext (Array.toList_inj.1 h)
theorem str_is {t : ByteArray} {l : List UInt8} (h : t.data.toList = l) : t = ⟨l.toArray⟩ := bytes_eq (by simp [h])
theorem up_val (c : UInt8) : (isS c = true → ((upB c).toNat : Int) = (c.toNat : Int) - 97 + 65) ∧ (isS c = false → upB c = c) := by
  have h := all_bytes (p := fun c => !(isS c) || (decide ((upB c).toNat + 97 = c.toNat + 65))) (by decide +kernel) c
  refine ⟨fun hs => ?_, fun hs => ?_⟩
  · rw [hs] at h
    have := of_decide_eq_true (show decide ((upB c).toNat + 97 = c.toNat + 65) = true by simpa using h)
    omega
  · unfold upB; rw [hs]; rfl
theorem down_val (c : UInt8) : (isG c = true → ((downB c).toNat : Int) = (c.toNat : Int) - 65 + 97) ∧ (isG c = false → downB c = c) := by
  have h := all_bytes (p := fun c => !(isG c) || (decide ((downB c).toNat + 65 = c.toNat + 97))) (by decide +kernel) c
  refine ⟨fun hs => ?_, fun hs => ?_⟩
  · rw [hs] at h
    have := of_decide_eq_true (show decide ((downB c).toNat + 65 = c.toNat + 97) = true by simpa using h)
    omega
  · unfold downB; rw [hs]; rfl
theorem isG_iff (c : UInt8) : isG c = true ↔ 65 ≤ c.toNat ∧ c.toNat ≤ 90 := by simp [isG]
theorem isS_iff (c : UInt8) : isS c = true ↔ 97 ≤ c.toNat ∧ c.toNat ≤ 122 := by simp [isS]
/-- how a byte lies to two bounds -/
theorem range_ways (c : UInt8) (a b : Nat) (x y : Int) (hx : x = a) (hy : y = b) : (¬ a ≤ c.toNat ∧ decide (x ≤ (c.toNat : Int)) = false) ∨ (a ≤ c.toNat ∧ ¬ c.toNat ≤ b ∧ decide (x ≤ (c.toNat : Int)) = true ∧ decide ((c.toNat : Int) ≤ y) = false) ∨
    (a ≤ c.toNat ∧ c.toNat ≤ b ∧ decide (x ≤ (c.toNat : Int)) = true ∧ decide ((c.toNat : Int) ≤ y) = true) := by
  by_cases h1 : a ≤ c.toNat
  · by_cases h2 : c.toNat ≤ b
    · exact .inr (.inr ⟨h1, h2, decide_eq_true (by omega), decide_eq_true (by omega)⟩)
    · exact .inr (.inl ⟨h1, h2, decide_eq_true (by omega), decide_eq_false (by omega)⟩)
  · exact .inl ⟨h1, decide_eq_false (by omega)⟩
/-- do they fit? -/
def fitsB (s : Nat) (n left : Int) : Bool := decide (0 ≤ left) && (decide (n = 0) || decide ((s : Int) * n ≤ left))
theorem fits_div (s : Nat) (n l : Int) (hn : 0 < n) (hl : 0 ≤ l) : decide ((s : Int) ≤ l.tdiv n) = decide ((s : Int) * n ≤ l) := by
  rw [Int.tdiv_eq_ediv_of_nonneg hl]
  by_cases h : (s : Int) * n ≤ l
  · rw [decide_eq_true h, decide_eq_true ((Int.le_ediv_iff_mul_le hn).2 h)]
  · rw [decide_eq_false h, decide_eq_false (fun e => h ((Int.le_ediv_iff_mul_le hn).1 e))]
/- the reference's -/
theorem up_val2 (c : UInt8) (h : isS c = true) : ((upB c).toNat : Int) = (c.toNat : Int) - 32 := by have := (up_val c).1 h; omega
theorem down_val2 (c : UInt8) (h : isG c = true) : ((downB c).toNat : Int) = (c.toNat : Int) + 32 := by have := (down_val c).1 h; omega
/-- a text, or that there is none, as the reference tells it -/
def GotS (m : List UInt8) (b : Bool) (w : World) : Ending → World → Prop := fun e w' => e = .returned (.agg #[.string ⟨m.toArray⟩, .bool b]) ∧ Below w.heap.size w w'
end Go.Proofs.YtbjomidkeignjaaGreatDoor.Txt
namespace Go.Proofs.YtbjomidkeignjaaGreatDoor.Txt
open Go.RowKit Kit Reg

/-- a slice that reads as texts -/
def StrsO (w : World) (A : Option Addr) (ws : List (List UInt8)) : Prop := ws = [] ∨ ∃ g o, A = some ⟨g, o, none⟩ ∧ g < w.heap.size ∧ ∀ i n, ws[i]? = some n → w.cell? ⟨g, o + i, none⟩ = some (.string ⟨n.toArray⟩)
theorem StrsO.on {w w' : World} {A : Option Addr} {ws : List (List UInt8)} (h : StrsO w A ws) (hb : Below w.heap.size w w') : StrsO w' A ws := by
  rcases h with h | ⟨g, o, hA, hg, h⟩
  · exact .inl h
  · exact .inr ⟨g, o, hA, Nat.lt_of_lt_of_le hg hb.size, fun i c hc => (hb.cell (p := ⟨g, o + i, none⟩) hg).trans (h i c hc)⟩
theorem flat_snoc {L : List (List UInt8)} {k : Nat} {x : List UInt8} (h : L[k]? = some x) : (L.take (k + 1)).flatten = (L.take k).flatten ++ x := by
  rw [List.take_add_one, h]
  simp
theorem flat_le (L : List (List UInt8)) (k : Nat) : (L.take k).flatten.length ≤ L.flatten.length := by
  have h2 : L.flatten = (L.take k).flatten ++ (L.drop k).flatten := by rw [← List.flatten_append, List.take_append_drop]
  rw [h2, List.length_append]
  omega
theorem flat_part {L : List (List UInt8)} {k : Nat} {x : List UInt8} (h : L[k]? = some x) : (L.take k).flatten.length + x.length ≤ L.flatten.length := by
  have := flat_le L (k + 1)
  rw [flat_snoc h, List.length_append] at this
  exact this
theorem arr_size (p : List UInt8) : (⟨p.toArray⟩ : ByteArray).size = p.length := by rw [ByteArray.size, List.size_toArray]
theorem fits_one {x y : Nat} (h : x ≤ 256) : fitsB y 1 (256 - (x : Int)) = decide (x + y ≤ 256) := by
  unfold fitsB
  rw [decide_eq_true (show (0 : Int) ≤ 256 - (x : Int) by omega), decide_eq_false (show ¬ (1 : Int) = 0 by omega), Bool.true_and, Bool.false_or]
  by_cases h2 : x + y ≤ 256
  · rw [decide_eq_true h2, decide_eq_true (by omega)]
  · rw [decide_eq_false h2, decide_eq_false (by omega)]
end Go.Proofs.YtbjomidkeignjaaGreatDoor.Txt

/- A table of rows of a text and a number each, as a row lists it: what its cells are; and the table of operators.
   Texts, changed: letters, blanks, repeated, put, joined. In lists alone. No function of the program is named here.
   Values summed up, in plain lists: the first fault, the numbers, what is reckoned from them one behind the other, the least and the greatest, how many are of a kind, all as texts, and how many are true. No function of the program is named here.
   Tables, what stands in them, where a value is found, what is looked up beside it, what is hit, and sums of products: in plain lists. No function of the program is named here.
   Rounding to a step, and what is left of a division, in integers alone. No function of the program is named here.
   What package round's Places answers: for every number of 64 bits. -/
import Derived.Test.YtebjedbppiphgaaGreatDoorKop15
import Derived.Lib.LaidTab
import Derived.ChangeSame
import Derived.Test.YtebjedbppiphgaaGreatDoorKop03
import Derived.Lib.ReplaceLaws
import Derived.Lib.Replace
import Derived.Lib.Repeat
import Derived.Lib.Strings
import Derived.Test.YtebjedbppiphgaaGreatDoorKop08
import Derived.Test.YtebjedbppiphgaaGreatDoorKop14
import Derived.Test.YtebjedbppiphgaaGreatDoorKop01
import Derived.Test.YtebjedbppiphgaaGreatDoorKop06
namespace Go.Proofs.YtebjedbppiphgaaGreatDoor.Crt
open Go.RowKit Kit Reg Dec Dig Val Go.ChangeShapes Go.WideShapes Go.WideElems Go.Maps
/-- a row of such a table, as a datum; as cells -/
def signData {H : Type} (x : List UInt8 × Int) : DataW H := .agg [.lit (.string x.1), .lit (.int .i64 x.2)]
/-- a table that reads as these rows holds them, cell for cell -/
theorem cells_of_rows {H : Type} {enc : TypeId × Value → H} {P : Program} {w : World} {base : Nat} {sp : Nat → Bool} {held : Bool} {fuel : Nat} {t e : TypeId} {n : Nat} {f0 f1 : Field} {cs : List Value} {zs : List (List UInt8 × Int)} {p : List MemPlace}
    (ht : P.underlying t = some (.array n e)) (hce : P.cellsOf e = 2) (hct : P.cellsOf t = n * 2) (he : P.underlying e = some (.struct #[f0, f1])) (ho : f0.offset = 0 ∧ f1.offset = 1 ∧ P.cellsOf f0.type = 1 ∧ P.cellsOf f1.type = 1)
    (h0 : P.underlying f0.type = some .string) (h1 : P.underlying f1.type = some (.int .i64)) (h : DataW.trod enc P w base sp held fuel t cs = some (.agg (zs.map signData), p)) :
    ∀ i z, zs[i]? = some z → cs[i * 2]? = some (.string ⟨z.1.toArray⟩) ∧ cs[i * 2 + 1]? = some (.int .i64 z.2) := by
  cases fuel with
  | zero => simp [DataW.trod] at h
  | succ fuel =>
    simp only [DataW.trod, ht, hce, hct] at h
    split at h
    · rename_i hl
      obtain ⟨xs, hm, hx⟩ := Option.map_eq_some_iff.1 h
      have hxs : xs.map (·.1) = zs.map (signData (H := H)) := by
        have := congrArg Prod.fst hx
        simpa using this
      have hxl : xs.length = n := by simpa using Lib.mapM_length hm
      have hzl : zs.length = n := by
        have := congrArg List.length hxs
        simp at this
        omega
      intro i z hz
      have hi : i < n := by rw [← hzl]; exact (List.getElem?_eq_some_iff.1 hz).1
      obtain ⟨b, hb, hf⟩ := Lib.mapM_at hm i i (by simp [hi])
      have h2 : (xs.map (·.1))[i]? = some (signData z : DataW H) := by rw [hxs]; simp [hz]
      have hb1 : b.1 = signData z := by simpa [hb] using h2
      obtain ⟨o0, o1, k0, k1⟩ := ho
      obtain ⟨y0, y1, m, rfl, _, g0, g1⟩ := trod_struct2 he hf
      rw [o0, k0] at g0
      rw [o1, k1] at g1
      obtain ⟨s, c0, rfl, _⟩ := DataW.trod_string h0 g0
      obtain ⟨v, c1, rfl, _⟩ := DataW.trod_int h1 g1
      simp only [signData, DataW.agg.injEq, List.cons.injEq, DataW.lit.injEq, Lit.string.injEq, Lit.int.injEq, true_and, and_true] at hb1
      obtain ⟨e1, e2⟩ := hb1
      have q0 := congrArg (·[0]?) c0
      have q1 := congrArg (·[0]?) c1
      simp [List.getElem?_drop] at q0 q1
      refine ⟨?_, by rw [q1, e2]⟩
      rw [q0]
      congr 2
      exact bytes_eq (by rw [e1])
    · cases h
def signRows : List (List UInt8 × Int) := [([60, 62], 8), ([60, 61], 10), ([62, 61], 12), ([60], 9), ([62], 11), ([61], 7)]
theorem signs_of_head {W : World} {rest : List (String × DataW Unit)} (h : laidMet Tryz.prog (("oculus/crit.signs", .agg (signRows.map signData)) :: rest) W) : Signs W := by
  obtain ⟨ps, ⟨g', t', cs, fuel, p, q, hg', ht', hvar, hd, _, _⟩, _⟩ := h
  obtain rfl := Option.some.inj ((show Tryz.prog.globalNamed "oculus/crit.signs" = some 3 by kernel_rfl).symm.trans hg')
  obtain rfl := Option.some.inj ((show (Tryz.prog.globals[3]?).map (·.type) = some 281 by kernel_rfl).symm.trans ht')
  have H := cells_of_rows Tryz.underlying281 (by kernel_rfl) (by kernel_rfl) Tryz.underlying280 ⟨rfl, rfl, by kernel_rfl, by kernel_rfl⟩ Tryz.underlying9 Tryz.underlying3 hd
  intro i x hx
  have hc := World.var?_cell (g := 3) (by kernel_rfl) hvar i
  have hi : i < 12 := (List.getElem?_eq_some_iff.1 hx).1
  rw [hc, ← Array.getElem?_toList]
  obtain rfl | rfl | rfl | rfl | rfl | rfl | rfl | rfl | rfl | rfl | rfl | rfl : i = 0 ∨ i = 1 ∨ i = 2 ∨ i = 3 ∨ i = 4 ∨ i = 5 ∨ i = 6 ∨ i = 7 ∨ i = 8 ∨ i = 9 ∨ i = 10 ∨ i = 11 := by omega
  · rw [← hx]; exact (H 0 ([60, 62], 8) rfl).1
  · rw [← hx]; exact (H 0 ([60, 62], 8) rfl).2
  · rw [← hx]; exact (H 1 ([60, 61], 10) rfl).1
  · rw [← hx]; exact (H 1 ([60, 61], 10) rfl).2
  · rw [← hx]; exact (H 2 ([62, 61], 12) rfl).1
  · rw [← hx]; exact (H 2 ([62, 61], 12) rfl).2
  · rw [← hx]; exact (H 3 ([60], 9) rfl).1
  · rw [← hx]; exact (H 3 ([60], 9) rfl).2
  · rw [← hx]; exact (H 4 ([62], 11) rfl).1
  · rw [← hx]; exact (H 4 ([62], 11) rfl).2
  · rw [← hx]; exact (H 5 ([61], 7) rfl).1
  · rw [← hx]; exact (H 5 ([61], 7) rfl).2
end Go.Proofs.YtebjedbppiphgaaGreatDoor.Crt
namespace Go.Proofs.YtebjedbppiphgaaGreatDoor.Txt
/- blanks -/
def allB (l : List UInt8) : Bool := l.all fun c => c == 32
/-- the program's way: of blanks behind one another the first one stays -/
def trP : UInt8 → List UInt8 → List UInt8
  | _, [] => []
  | a, c :: r => (if c = 32 ∧ a = 32 then [] else [c]) ++ trP c r
/-- the reference's way: a blank stays behind no blank, if not all behind it are blanks -/
def trR : UInt8 → List UInt8 → List UInt8
  | _, [] => []
  | a, c :: r => (if c = 32 then (if a ≠ 32 ∧ allB r = false then [32] else []) else [c]) ++ trR c r
def trimL (l : List UInt8) : List UInt8 := trR 32 l
theorem trP_cons (a c : UInt8) (r : List UInt8) : trP a (c :: r) = (if c = 32 ∧ a = 32 then [] else [c]) ++ trP c r := rfl
theorem trR_cons (a c : UInt8) (r : List UInt8) : trR a (c :: r) = (if c = 32 then (if a ≠ 32 ∧ allB r = false then [32] else []) else [c]) ++ trR c r := rfl
theorem allB_cons (c : UInt8) (r : List UInt8) : allB (c :: r) = ((c == 32) && allB r) := rfl
theorem trP_blank {r : List UInt8} (h : allB r = true) : trP 32 r = [] := by
  induction r with
  | nil => rfl
  | cons c r ih =>
    rw [allB_cons, Bool.and_eq_true, beq_iff_eq] at h
    obtain ⟨rfl, h⟩ := h
    rw [trP_cons, if_pos ⟨rfl, rfl⟩, ih h]; rfl
theorem trR_blank {r : List UInt8} (h : allB r = true) : ∀ a, trR a r = [] := by
  induction r with
  | nil => intro _; rfl
  | cons c r ih =>
    intro a
    rw [allB_cons, Bool.and_eq_true, beq_iff_eq] at h
    obtain ⟨rfl, h⟩ := h
    rw [trR_cons, if_pos rfl, if_neg (by rw [h]; simp), ih h]; rfl
theorem trP_some {r : List UInt8} (h : allB r = false) : ∀ a, trP a r ≠ [] := by
  induction r with
  | nil => cases h
  | cons c r ih =>
    intro a
    rw [trP_cons]
    by_cases hc : c = 32
    · subst hc
      have h2 : allB r = false := by rw [allB_cons] at h; simpa using h
      intro e
      exact ih h2 32 (List.append_eq_nil_iff.1 e).2
    · rw [if_neg (fun e => hc e.1)]; simp
theorem suffix_cons {c : UInt8} {x : List UInt8} (h : c ≠ 32 ∨ x ≠ []) : Lib.trimSuffix (c :: x) [32] = c :: Lib.trimSuffix x [32] := by
  unfold Lib.trimSuffix Lib.hasSuffix
  have e : ([32] : List UInt8).isSuffixOf (c :: x) = ([32] : List UInt8).isSuffixOf x := by
    rw [Bool.eq_iff_iff, List.isSuffixOf_iff_suffix, List.isSuffixOf_iff_suffix, List.suffix_cons_iff]
    constructor
    · rintro (h1 | h1)
      · obtain ⟨rfl, rfl⟩ := List.cons.inj h1
        rcases h with h | h
        · exact absurd rfl h
        · exact absurd rfl h
      · exact h1
    · exact Or.inr
  rw [e]
  by_cases hs : ([32] : List UInt8).isSuffixOf x = true
  · rw [if_pos hs, if_pos hs]
    have hx : x ≠ [] := by
      rintro rfl
      cases hs
    have hl := List.length_pos_iff.2 hx
    rw [List.length_cons, List.length_singleton, show x.length + 1 - 1 = (x.length - 1) + 1 by omega, List.take_succ_cons]
  · rw [if_neg hs, if_neg hs]
/-- both ways are one -/
theorem trim_eq (l : List UInt8) : ∀ a, Lib.trimSuffix (trP a l) [32] = trR a l := by
  induction l with
  | nil => intro _; rfl
  | cons c r ih =>
    intro a
    rw [trP_cons, trR_cons]
    by_cases hc : c = 32
    · subst hc
      by_cases ha : a = 32
      · rw [if_pos ⟨rfl, ha⟩, if_pos rfl, if_neg (fun e => e.1 ha), List.nil_append, List.nil_append, ih]
      · rw [if_neg (fun e => ha e.2), if_pos rfl]
        cases hb : allB r
        · rw [if_pos ⟨ha, rfl⟩, List.singleton_append, List.singleton_append, suffix_cons (.inr (trP_some hb _)), ih]
        · rw [if_neg (by simp), trP_blank hb, trR_blank hb]; rfl
    · rw [if_neg (fun e => hc e.1), if_neg hc, List.singleton_append, List.singleton_append, suffix_cons (.inl hc), ih]
/-- nothing is needless in it -/
def Tidy : UInt8 → List UInt8 → Prop
  | _, [] => True
  | a, c :: r => (c = 32 → a ≠ 32 ∧ r ≠ []) ∧ Tidy c r
theorem Tidy.any {l : List UInt8} (h : Tidy 32 l) (a : UInt8) : Tidy a l := by
  match l, h with
  | [], _ => trivial
  | c :: r, ⟨h1, h2⟩ => exact ⟨fun e => absurd rfl (h1 e).1, h2⟩
theorem trP_len (l : List UInt8) : ∀ a, (trP a l).length ≤ l.length := by
  induction l with
  | nil => intro _; exact Nat.le_refl _
  | cons c r ih =>
    intro a
    have := ih c
    rw [trP_cons, List.length_append, List.length_cons]
    split <;> simp <;> omega
/- room -/
def roomD (l : List UInt8) : List UInt8 × Bool := if l.length ≤ 256 then (l, true) else ([], false)
theorem room_in {l : List UInt8} (h : l.length ≤ 256) : roomD l = (l, true) := if_pos h
theorem room_out {l : List UInt8} (h : 256 < l.length) : roomD l = ([], false) := if_neg (by omega)
theorem room_len {l m : List UInt8} {b : Bool} (h : roomD l = (m, b)) : m.length ≤ 256 := by
  unfold roomD at h
  split at h
  · obtain ⟨rfl, rfl⟩ := Prod.mk.inj h; assumption
  · obtain ⟨rfl, rfl⟩ := Prod.mk.inj h; simp
end Go.Proofs.YtebjedbppiphgaaGreatDoor.Txt
namespace Go.Proofs.YtebjedbppiphgaaGreatDoor.Fld
open Dec Dig Val Txt
structure Vl where
  k : Int
  n : Int
  t : ByteArray
def Vl.cells (v : Vl) : List Value := [.int .i64 v.k, .int .i64 v.n, .string v.t]
/-- a value that may be, of 64 bits -/
def Vl.may (v : Vl) : Prop := mayV v.k v.n v.t = true
def Vl.fits (v : Vl) : Prop := -9223372036854775808 ≤ v.n ∧ v.n ≤ 9223372036854775807
theorem size_zero {t : ByteArray} (h : t.size = 0) : t = ⟨#[]⟩ := by
  cases t with
  | mk d =>
    congr 1
    exact Array.eq_empty_of_size_eq_zero h
theorem may_ways {v : Vl} (h : v.may) : v = ⟨0, 0, ⟨#[]⟩⟩ ∨ (∃ n, v = ⟨1, n, ⟨#[]⟩⟩ ∧ -9223372036854775807 ≤ n) ∨ (∃ t, v = ⟨2, 0, t⟩ ∧ t.size ≤ 256) ∨ v = ⟨3, 0, ⟨#[]⟩⟩ ∨ v = ⟨3, 1, ⟨#[]⟩⟩ ∨ ∃ n, v = ⟨4, n, ⟨#[]⟩⟩ ∧ 1 ≤ n ∧ n ≤ 7 := by
  obtain ⟨k, n, t⟩ := v
  unfold Vl.may mayV mayD at h
  simp only [Bool.or_eq_true, Bool.and_eq_true, decide_eq_true_eq] at h
  rcases h with (((⟨⟨rfl, h1⟩, rfl⟩ | ⟨⟨rfl, h1⟩, h2⟩) | ⟨⟨rfl, rfl⟩, h1⟩) | ⟨⟨rfl, h1⟩, h2⟩) | ⟨⟨⟨rfl, h1⟩, h2⟩, h3⟩
  · exact .inl (by rw [size_zero h1])
  · exact .inr (.inl ⟨n, by rw [size_zero h1], h2⟩)
  · exact .inr (.inr (.inl ⟨t, rfl, h1⟩))
  · rw [size_zero h1]
    rcases h2 with rfl | rfl
    · exact .inr (.inr (.inr (.inl rfl)))
    · exact .inr (.inr (.inr (.inr (.inl rfl))))
  · exact .inr (.inr (.inr (.inr (.inr ⟨n, by rw [size_zero h1], h2, h3⟩))))
theorem may_fault {v : Vl} (h : v.may) (h4 : v.k = 4) : v = ⟨4, v.n, ⟨#[]⟩⟩ := by
  rcases may_ways h with rfl | ⟨n, rfl, _⟩ | ⟨t, rfl, _⟩ | rfl | rfl | ⟨n, rfl, _⟩ <;> first | rfl | (simp at h4; done)
theorem may_num_low {v : Vl} (h : v.may) (h1 : v.k = 1) : -9223372036854775807 ≤ v.n := by
  rcases may_ways h with rfl | ⟨n, rfl, h2⟩ | ⟨t, rfl, _⟩ | rfl | rfl | ⟨n, rfl, _⟩ <;> first | exact h2 | (simp at h1; done)
/-- no fault among them; the first one -/
def NoF (L : List Vl) : Prop := ∀ v ∈ L, ¬ v.k = 4
def FirstF (L : List Vl) (p : Nat) (v : Vl) : Prop := L[p]? = some v ∧ v.k = 4 ∧ ∀ i u, i < p → L[i]? = some u → ¬ u.k = 4
theorem fault_ways : ∀ L : List Vl, NoF L ∨ ∃ p v, FirstF L p v
  | [] => .inl fun v h => by cases h
  | u :: r => by
    by_cases h : u.k = 4
    · exact .inr ⟨0, u, rfl, h, fun i x hi => by omega⟩
    · rcases fault_ways r with h1 | ⟨p, v, h1, h2, h3⟩
      · exact .inl fun v hv => by
          rcases List.mem_cons.1 hv with rfl | hv
          · exact h
          · exact h1 v hv
      · refine .inr ⟨p + 1, v, by simpa using h1, h2, fun i x hi hx => ?_⟩
        cases i with
        | zero => simp at hx; subst hx; exact h
        | succ i => exact h3 i x (by omega) (by simpa using hx)
theorem NoF.at {L : List Vl} (h : NoF L) {k : Nat} {v : Vl} (hv : L[k]? = some v) : ¬ v.k = 4 := h v (List.mem_of_getElem? hv)
theorem FirstF.lt {L : List Vl} {p : Nat} {v : Vl} (h : FirstF L p v) : p < L.length := (List.getElem?_eq_some_iff.1 h.1).1
def faultF (L : List Vl) : Option Vl := L.find? fun v => decide (v.k = 4)
theorem faultF_none {L : List Vl} (h : NoF L) : faultF L = none := List.find?_eq_none.2 fun v hv => by simpa using h v hv
theorem faultF_some : ∀ {L : List Vl} {p : Nat} {v : Vl}, FirstF L p v → faultF L = some v
  | [], p, v, h => by have := h.lt; simp at this
  | u :: r, 0, v, h => by
    obtain ⟨h1, h2, _⟩ := h
    simp at h1
    subst h1
    unfold faultF
    rw [List.find?_cons, decide_eq_true h2]
  | u :: r, p + 1, v, h => by
    obtain ⟨h1, h2, h3⟩ := h
    have h0 := h3 0 u (by omega) rfl
    have ih := faultF_some (L := r) (p := p) (v := v) ⟨by simpa using h1, h2, fun i x hi hx => h3 (i + 1) x (by omega) (by simpa using hx)⟩
    unfold faultF at ih ⊢
    rw [List.find?_cons, decide_eq_false h0]
    exact ih
/-- the numbers of a list -/
def numsF (L : List Vl) : List Int := L.filterMap fun v => if v.k = 1 then some v.n else none
theorem numsF_hit {L : List Vl} {k : Nat} {v : Vl} (h : L[k]? = some v) (h1 : v.k = 1) : numsF (L.take (k + 1)) = numsF (L.take k) ++ [v.n] := by
  rw [List.take_add_one, h]
  simp [numsF, List.filterMap_append, h1]
theorem numsF_miss {L : List Vl} {k : Nat} {v : Vl} (h : L[k]? = some v) (h1 : ¬ v.k = 1) : numsF (L.take (k + 1)) = numsF (L.take k) := by
  rw [List.take_add_one, h]
  simp [numsF, List.filterMap_append, h1]
theorem numsF_len (L : List Vl) : (numsF L).length ≤ L.length := List.length_filterMap_le _ _
theorem numsF_mem {L : List Vl} {x : Int} (h : x ∈ numsF L) : ∃ v ∈ L, v.k = 1 ∧ v.n = x := by
  obtain ⟨v, hv, he⟩ := List.mem_filterMap.1 h
  split at he
  · exact ⟨v, hv, by assumption, by simpa using he⟩
  · cases he
theorem numsF_room {L : List Vl} (hm : ∀ v ∈ L, v.may) (hf : ∀ v ∈ L, v.fits) {x : Int} (h : x ∈ numsF L) : -9223372036854775807 ≤ x ∧ x ≤ 9223372036854775807 := by
  obtain ⟨v, hv, h1, rfl⟩ := numsF_mem h
  exact ⟨may_num_low (hm v hv) h1, (hf v hv).2⟩
/-- what comes of numbers, from a start on: it ends at the first step that has no answer -/
def totalD (step : Int → Int → Int × Bool) : Int → List Int → Int × Bool
  | s, [] => (s, true)
  | s, x :: r => match step s x with
    | (n, true) => totalD step n r
    | (n, false) => (n, false)
theorem drop_at {α : Type} {l : List α} {k : Nat} {z : α} (h : l[k]? = some z) : l.drop k = z :: l.drop (k + 1) := by
  obtain ⟨hk, rfl⟩ := List.getElem?_eq_some_iff.1 h
  exact List.drop_eq_getElem_cons hk
theorem total_yes {step : Int → Int → Int × Bool} {xs : List Int} {k : Nat} {s x n : Int} (h : xs[k]? = some x) (hs : step s x = (n, true)) : totalD step s (xs.drop k) = totalD step n (xs.drop (k + 1)) := by
  rw [drop_at h, totalD, hs]
theorem total_no {step : Int → Int → Int × Bool} {xs : List Int} {k : Nat} {s x n : Int} (h : xs[k]? = some x) (hs : step s x = (n, false)) : totalD step s (xs.drop k) = (n, false) := by
  rw [drop_at h, totalD, hs]
theorem total_end (step : Int → Int → Int × Bool) (s : Int) (xs : List Int) : totalD step s (xs.drop xs.length) = (s, true) := by rw [List.drop_length]; rfl
/-- what is reckoned of a list of values: its kind and its number -/
def allD (step : Int → Int → Int × Bool) (start : Int) (xs : List Int) : Int × Int := if xs = [] then (1, 0) else gotV (totalD step start xs).1 (totalD step start xs).2
def allV (step : Int → Int → Int × Bool) (start : Int) (L : List Vl) : Int × Int := match faultF L with
  | some v => (4, v.n)
  | none => allD step start (numsF L)
theorem allV_no {step : Int → Int → Int × Bool} {start : Int} {L : List Vl} (h : NoF L) : allV step start L = allD step start (numsF L) := by rw [allV, faultF_none h]
theorem allV_yes {step : Int → Int → Int × Bool} {start : Int} {L : List Vl} {p : Nat} {v : Vl} (h : FirstF L p v) : allV step start L = (4, v.n) := by rw [allV, faultF_some h]
/-- how many are of a kind -/
def isK (kind : Int) (v : Vl) : Bool := if kind = 1 then decide (v.k = 1) else if kind = 0 then decide (v.k = 0) || (decide (v.k = 2) && decide (v.t = ⟨#[]⟩)) else !decide (v.k = 0)
def countF (kind : Int) (L : List Vl) : Nat := L.countP (isK kind)
theorem count_hit {kind : Int} {L : List Vl} {k : Nat} {v : Vl} (h : L[k]? = some v) (h1 : isK kind v = true) : countF kind (L.take (k + 1)) = countF kind (L.take k) + 1 := by
  rw [List.take_add_one, h]
  simp [countF, List.countP_append, h1]
theorem count_miss {kind : Int} {L : List Vl} {k : Nat} {v : Vl} (h : L[k]? = some v) (h1 : isK kind v = false) : countF kind (L.take (k + 1)) = countF kind (L.take k) := by
  rw [List.take_add_one, h]
  simp [countF, List.countP_append, h1]
/-- a value's text, where it is no fault -/
def wordsF (v : Vl) : List UInt8 := if v.k = 0 then [] else if v.k = 1 then textD v.n else if v.k = 2 then v.t.data.toList else if v.n = 0 then noT.data.toList else yesT.data.toList
theorem words_len {v : Vl} (hm : v.may) (hf : v.fits) : (wordsF v).length ≤ 256 := by
  rcases may_ways hm with rfl | ⟨n, rfl, _⟩ | ⟨t, rfl, h⟩ | rfl | rfl | ⟨n, rfl, _⟩
  · exact Nat.zero_le _
  · have := text_len hf.1 hf.2
    show (textD n).length ≤ 256
    dsimp only at this
    omega
  · show t.data.toList.length ≤ 256
    rw [← Lib.size_eq]
    exact h
  · decide
  · decide
  · show (if n = 0 then noT.data.toList else yesT.data.toList).length ≤ 256
    split <;> decide
/-- a value as a truth -/
def truthF (v : Vl) : Int × Int := if v.k = 0 then (3, 0) else if v.k = 1 then (3, if v.n = 0 then 0 else 1) else if v.k = 2 then (if v.t = yesT then (3, 1) else if v.t = noT then (3, 0) else (4, 2)) else (v.k, v.n)
end Go.Proofs.YtebjedbppiphgaaGreatDoor.Fld
namespace Go.Proofs.YtebjedbppiphgaaGreatDoor.Lok
open Dec Dig Val Fld
/-- a table has as many values as its rows and columns say, and not too many -/
def Good (r c : Int) (n : Nat) : Prop := 1 ≤ r ∧ 1 ≤ c ∧ n ≤ 1000 ∧ r * c = n
theorem Good.nat {r c : Int} {n : Nat} (h : Good r c n) : ∃ R C : Nat, r = R ∧ c = C ∧ 1 ≤ R ∧ 1 ≤ C ∧ n ≤ 1000 ∧ R * C = n ∧ R ≤ n ∧ C ≤ n := by
  obtain ⟨h1, h2, h3, h4⟩ := h
  obtain ⟨R, rfl⟩ := Int.eq_ofNat_of_zero_le (show 0 ≤ r by omega)
  obtain ⟨C, rfl⟩ := Int.eq_ofNat_of_zero_le (show 0 ≤ c by omega)
  have h5 : R * C = n := by exact_mod_cast h4
  have h6 : 1 ≤ R := by omega
  have h7 : 1 ≤ C := by omega
  exact ⟨R, C, rfl, rfl, h6, h7, h3, h5, by rw [← h5]; exact Nat.le_mul_of_pos_right R h7, by rw [← h5]; exact Nat.le_mul_of_pos_left C h6⟩
theorem good_of {R C n : Nat} (h1 : 1 ≤ R) (h2 : 1 ≤ C) (h3 : n ≤ 1000) (h4 : R * C = n) : Good R C n := ⟨by omega, by omega, h3, by exact_mod_cast h4⟩
theorem good_div {R C n : Nat} (h2 : 1 ≤ C) (h4 : R * C = n) : (n : Int).tmod C = 0 ∧ (n : Int).tdiv C = R := by
  have e : (n : Int) = (R : Int) * (C : Int) := by exact_mod_cast h4.symm
  rw [e]
  exact ⟨Int.mul_tmod_left _ _, Int.mul_tdiv_cancel _ (by omega)⟩
theorem bad_ways {r c : Int} {n : Nat} (h : ¬ Good r c n) : r < 1 ∨ (1 ≤ r ∧ c < 1) ∨ (1 ≤ r ∧ 1 ≤ c ∧ 1000 < n) ∨ (1 ≤ r ∧ 1 ≤ c ∧ n ≤ 1000 ∧ ¬ (n : Int).tmod c = 0) ∨
    (1 ≤ r ∧ 1 ≤ c ∧ n ≤ 1000 ∧ (n : Int).tmod c = 0 ∧ ¬ (n : Int).tdiv c = r) := by
  by_cases h1 : r < 1
  · exact .inl h1
  by_cases h2 : c < 1
  · exact .inr (.inl ⟨by omega, h2⟩)
  by_cases h3 : 1000 < n
  · exact .inr (.inr (.inl ⟨by omega, by omega, h3⟩))
  by_cases h4 : (n : Int).tmod c = 0
  · refine .inr (.inr (.inr (.inr ⟨by omega, by omega, by omega, h4, fun e => h ⟨by omega, by omega, by omega, ?_⟩⟩)))
    have := Int.mul_tdiv_add_tmod (n : Int) c
    rw [h4, e, Int.add_zero, Int.mul_comm] at this
    exact this
  · exact .inr (.inr (.inr (.inl ⟨by omega, by omega, by omega, h4⟩)))
/-- the place of a row's and a column's value -/
theorem place_lt {R C n i j : Nat} (h4 : R * C = n) (hi : i < R) (hj : j < C) : i * C + j < n := by
  have h1 : (i + 1) * C ≤ R * C := Nat.mul_le_mul_right C hi
  rw [Nat.add_mul, Nat.one_mul] at h1
  omega
/-- a value is found as another one -/
def sameV (x v : Vl) : Bool := decide (x.k = 0 ∨ v.k = 0 ∨ x.k = v.k) && (decide (x.n = v.n) && decide (x.t = v.t))
def hitS (x v : Vl) : Bool := !decide (v.k = 4) && sameV x v
def FirstS (x : Vl) (L : List Vl) (p : Nat) (v : Vl) : Prop := L[p]? = some v ∧ hitS x v = true ∧ ∀ (i : Nat) (u : Vl), i < p → L[i]? = some u → hitS x u = false
theorem FirstS.lt {x : Vl} {L : List Vl} {p : Nat} {v : Vl} (h : FirstS x L p v) : p < L.length := (List.getElem?_eq_some_iff.1 h.1).1
end Go.Proofs.YtebjedbppiphgaaGreatDoor.Lok
namespace Go.Proofs.YtebjedbppiphgaaGreatDoor.Rnd
open Dec
/-- the greatest multiple of a step that is not above x: its quotient, and what is left -/
structure Fl (x s q l : Int) : Prop where
  eq : x = q * s + l
  l0 : 0 ≤ l
  ls : l < s
end Go.Proofs.YtebjedbppiphgaaGreatDoor.Rnd
namespace Go.Proofs.YtebjedbppiphgaaGreatDoor.Rnd
open Go.RowKit Kit Dec
def TenAt (k q : Nat) : Prop := q = 10 ^ k
theorem TenAt.next {k q : Nat} (h : TenAt k q) : TenAt (k + 1) (q * 10) := by unfold TenAt at *; rw [h, Nat.pow_succ]
theorem TenAt.room {k q : Nat} (h : TenAt k q) (hk : k ≤ 18) : 0 < q ∧ q ≤ 1000000000000000000 := by
  rw [h]
  exact ⟨Nat.pow_pos (by omega), Nat.le_trans (Nat.pow_le_pow_right (by omega) hk) (by decide)⟩
end Go.Proofs.YtebjedbppiphgaaGreatDoor.Rnd

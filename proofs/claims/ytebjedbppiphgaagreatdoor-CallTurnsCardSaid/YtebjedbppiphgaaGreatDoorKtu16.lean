/- A table of rows of a text and a number each, as a row lists it: what its cells are; and the table of operators.
   Texts, changed: letters, blanks, repeated, put, joined. In lists alone. No function of the program is named here. -/
import Derived.Test.YtebjedbppiphgaaGreatDoorKtu15
import Derived.Lib.LaidTab
import Derived.ChangeSame
import Derived.Test.YtebjedbppiphgaaGreatDoorKtu03
import Derived.Lib.ReplaceLaws
import Derived.Lib.Replace
import Derived.Lib.Repeat
import Derived.Lib.Strings
namespace Go.Proofs.YtebjedbppiphgaaGreatDoor.Crt
open Go.RowKit Kit Reg Dec Dig Val Go.ChangeShapes Go.WideShapes Go.WideElems Go.Maps
/-- a row of such a table, as a datum; as cells -/
def signData {H : Type} (x : List UInt8 × Int) : DataW H := .agg [.lit (.string x.1), .lit (.int .i64 x.2)]
/-- a table that reads as these rows holds them, cell for cell -/
theorem cells_of_rows {H : Type} {enc : TypeId × Value → H} {P : Program} {w : World} {base : Nat} {sp : Nat → Bool} {held : Bool} {fuel : Nat} {t e : TypeId} {n : Nat} {f0 f1 : Field} {cs : List Value} {zs : List (List UInt8 × Int)} {p : List MemPlace}
    (ht : P.underlying t = some (.array n e)) (hce : P.cellsOf e = 2) (hct : P.cellsOf t = n * 2) (he : P.underlying e = some (.struct #[f0, f1])) (ho : f0.offset = 0 ∧ f1.offset = 1 ∧ P.cellsOf f0.type = 1 ∧ P.cellsOf f1.type = 1)
    (h0 : P.underlying f0.type = some .string) (h1 : P.underlying f1.type = some (.int .i64)) (h : DataW.trod enc P w base sp held fuel t cs = some (.agg (zs.map signData), p)) :
    ∀ i z, zs[i]? = some z → cs[i * 2]? = some (.string ⟨z.1.toArray⟩) ∧ cs[i * 2 + 1]? = some (.int .i64 z.2) := by
  cases fuel with
  | zero => simp [DataW.trod] at h
  | succ fuel =>
    simp only [DataW.trod, ht, hce, hct] at h
    split at h
    · rename_i hl
      obtain ⟨xs, hm, hx⟩ := Option.map_eq_some_iff.1 h
      have hxs : xs.map (·.1) = zs.map (signData (H := H)) := by
        have := congrArg Prod.fst hx
        simpa using this
      have hxl : xs.length = n := by simpa using Lib.mapM_length hm
      have hzl : zs.length = n := by
        have := congrArg List.length hxs
        simp at this
        omega
      intro i z hz
      have hi : i < n := by rw [← hzl]; exact (List.getElem?_eq_some_iff.1 hz).1
      obtain ⟨b, hb, hf⟩ := Lib.mapM_at hm i i (by simp [hi])
      have h2 : (xs.map (·.1))[i]? = some (signData z : DataW H) := by rw [hxs]; simp [hz]
      have hb1 : b.1 = signData z := by simpa [hb] using h2
      obtain ⟨o0, o1, k0, k1⟩ := ho
      obtain ⟨y0, y1, m, rfl, _, g0, g1⟩ := trod_struct2 he hf
      rw [o0, k0] at g0
      rw [o1, k1] at g1
      obtain ⟨s, c0, rfl, _⟩ := DataW.trod_string h0 g0
      obtain ⟨v, c1, rfl, _⟩ := DataW.trod_int h1 g1
      simp only [signData, DataW.agg.injEq, List.cons.injEq, DataW.lit.injEq, Lit.string.injEq, Lit.int.injEq, true_and, and_true] at hb1
      obtain ⟨e1, e2⟩ := hb1
      have q0 := congrArg (·[0]?) c0
      have q1 := congrArg (·[0]?) c1
      simp [List.getElem?_drop] at q0 q1
      refine ⟨?_, by rw [q1, e2]⟩
      rw [q0]
      congr 2
      exact bytes_eq (by rw [e1])
    · cases h
def signRows : List (List UInt8 × Int) := [([60, 62], 8), ([60, 61], 10), ([62, 61], 12), ([60], 9), ([62], 11), ([61], 7)]
theorem signs_of_head {W : World} {rest : List (String × DataW Unit)} (h : laidMet Tryz.prog (("oculus/crit.signs", .agg (signRows.map signData)) :: rest) W) : Signs W := by
  obtain ⟨ps, ⟨g', t', cs, fuel, p, q, hg', ht', hvar, hd, _, _⟩, _⟩ := h
  obtain rfl := Option.some.inj ((show Tryz.prog.globalNamed "oculus/crit.signs" = some 3 by kernel_rfl).symm.trans hg')
  obtain rfl := Option.some.inj ((show (Tryz.prog.globals[3]?).map (·.type) = some 281 by kernel_rfl).symm.trans ht')
  have H := cells_of_rows Tryz.underlying281 (by kernel_rfl) (by kernel_rfl) Tryz.underlying280 ⟨rfl, rfl, by kernel_rfl, by kernel_rfl⟩ Tryz.underlying9 Tryz.underlying3 hd
  intro i x hx
  have hc := World.var?_cell (g := 3) (by kernel_rfl) hvar i
  have hi : i < 12 := (List.getElem?_eq_some_iff.1 hx).1
  rw [hc, ← Array.getElem?_toList]
  obtain rfl | rfl | rfl | rfl | rfl | rfl | rfl | rfl | rfl | rfl | rfl | rfl : i = 0 ∨ i = 1 ∨ i = 2 ∨ i = 3 ∨ i = 4 ∨ i = 5 ∨ i = 6 ∨ i = 7 ∨ i = 8 ∨ i = 9 ∨ i = 10 ∨ i = 11 := by omega
  · rw [← hx]; exact (H 0 ([60, 62], 8) rfl).1
  · rw [← hx]; exact (H 0 ([60, 62], 8) rfl).2
  · rw [← hx]; exact (H 1 ([60, 61], 10) rfl).1
  · rw [← hx]; exact (H 1 ([60, 61], 10) rfl).2
  · rw [← hx]; exact (H 2 ([62, 61], 12) rfl).1
  · rw [← hx]; exact (H 2 ([62, 61], 12) rfl).2
  · rw [← hx]; exact (H 3 ([60], 9) rfl).1
  · rw [← hx]; exact (H 3 ([60], 9) rfl).2
  · rw [← hx]; exact (H 4 ([62], 11) rfl).1
  · rw [← hx]; exact (H 4 ([62], 11) rfl).2
  · rw [← hx]; exact (H 5 ([61], 7) rfl).1
  · rw [← hx]; exact (H 5 ([61], 7) rfl).2
end Go.Proofs.YtebjedbppiphgaaGreatDoor.Crt
namespace Go.Proofs.YtebjedbppiphgaaGreatDoor.Txt
/- blanks -/
def allB (l : List UInt8) : Bool := l.all fun c => c == 32
/-- the program's way: of blanks behind one another the first one stays -/
def trP : UInt8 → List UInt8 → List UInt8
  | _, [] => []
  | a, c :: r => (if c = 32 ∧ a = 32 then [] else [c]) ++ trP c r
/-- the reference's way: a blank stays behind no blank, if not all behind it are blanks -/
def trR : UInt8 → List UInt8 → List UInt8
  | _, [] => []
  | a, c :: r => (if c = 32 then (if a ≠ 32 ∧ allB r = false then [32] else []) else [c]) ++ trR c r
def trimL (l : List UInt8) : List UInt8 := trR 32 l
theorem trP_cons (a c : UInt8) (r : List UInt8) : trP a (c :: r) = (if c = 32 ∧ a = 32 then [] else [c]) ++ trP c r := rfl
theorem trR_cons (a c : UInt8) (r : List UInt8) : trR a (c :: r) = (if c = 32 then (if a ≠ 32 ∧ allB r = false then [32] else []) else [c]) ++ trR c r := rfl
theorem allB_cons (c : UInt8) (r : List UInt8) : allB (c :: r) = ((c == 32) && allB r) := rfl
theorem trP_blank {r : List UInt8} (h : allB r = true) : trP 32 r = [] := by
  induction r with
  | nil => rfl
  | cons c r ih =>
    rw [allB_cons, Bool.and_eq_true, beq_iff_eq] at h
    obtain ⟨rfl, h⟩ := h
    rw [trP_cons, if_pos ⟨rfl, rfl⟩, ih h]; rfl
theorem trR_blank {r : List UInt8} (h : allB r = true) : ∀ a, trR a r = [] := by
  induction r with
  | nil => intro _; rfl
  | cons c r ih =>
    intro a
    rw [allB_cons, Bool.and_eq_true, beq_iff_eq] at h
    obtain ⟨rfl, h⟩ := h
    rw [trR_cons, if_pos rfl, if_neg (by rw [h]; simp), ih h]; rfl
theorem trP_some {r : List UInt8} (h : allB r = false) : ∀ a, trP a r ≠ [] := by
  induction r with
  | nil => cases h
  | cons c r ih =>
    intro a
    rw [trP_cons]
    by_cases hc : c = 32
    · subst hc
      have h2 : allB r = false := by rw [allB_cons] at h; simpa using h
      intro e
      exact ih h2 32 (List.append_eq_nil_iff.1 e).2
    · rw [if_neg (fun e => hc e.1)]; simp
theorem suffix_cons {c : UInt8} {x : List UInt8} (h : c ≠ 32 ∨ x ≠ []) : Lib.trimSuffix (c :: x) [32] = c :: Lib.trimSuffix x [32] := by
  unfold Lib.trimSuffix Lib.hasSuffix
  have e : ([32] : List UInt8).isSuffixOf (c :: x) = ([32] : List UInt8).isSuffixOf x := by
    rw [Bool.eq_iff_iff, List.isSuffixOf_iff_suffix, List.isSuffixOf_iff_suffix, List.suffix_cons_iff]
    constructor
    · rintro (h1 | h1)
      · obtain ⟨rfl, rfl⟩ := List.cons.inj h1
        rcases h with h | h
        · exact absurd rfl h
        · exact absurd rfl h
      · exact h1
    · exact Or.inr
  rw [e]
  by_cases hs : ([32] : List UInt8).isSuffixOf x = true
  · rw [if_pos hs, if_pos hs]
    have hx : x ≠ [] := by
      rintro rfl
      cases hs
    have hl := List.length_pos_iff.2 hx
    rw [List.length_cons, List.length_singleton, show x.length + 1 - 1 = (x.length - 1) + 1 by omega, List.take_succ_cons]
  · rw [if_neg hs, if_neg hs]
/-- both ways are one -/
theorem trim_eq (l : List UInt8) : ∀ a, Lib.trimSuffix (trP a l) [32] = trR a l := by
  induction l with
  | nil => intro _; rfl
  | cons c r ih =>
    intro a
    rw [trP_cons, trR_cons]
    by_cases hc : c = 32
    · subst hc
      by_cases ha : a = 32
      · rw [if_pos ⟨rfl, ha⟩, if_pos rfl, if_neg (fun e => e.1 ha), List.nil_append, List.nil_append, ih]
      · rw [if_neg (fun e => ha e.2), if_pos rfl]
        cases hb : allB r
        · rw [if_pos ⟨ha, rfl⟩, List.singleton_append, List.singleton_append, suffix_cons (.inr (trP_some hb _)), ih]
        · rw [if_neg (by simp), trP_blank hb, trR_blank hb]; rfl
    · rw [if_neg (fun e => hc e.1), if_neg hc, List.singleton_append, List.singleton_append, suffix_cons (.inl hc), ih]
/-- nothing is needless in it -/
def Tidy : UInt8 → List UInt8 → Prop
  | _, [] => True
  | a, c :: r => (c = 32 → a ≠ 32 ∧ r ≠ []) ∧ Tidy c r
theorem Tidy.any {l : List UInt8} (h : Tidy 32 l) (a : UInt8) : Tidy a l := by
  match l, h with
  | [], _ => trivial
  | c :: r, ⟨h1, h2⟩ => exact ⟨fun e => absurd rfl (h1 e).1, h2⟩
theorem trP_len (l : List UInt8) : ∀ a, (trP a l).length ≤ l.length := by
  induction l with
  | nil => intro _; exact Nat.le_refl _
  | cons c r ih =>
    intro a
    have := ih c
    rw [trP_cons, List.length_append, List.length_cons]
    split <;> simp <;> omega
/- room -/
def roomD (l : List UInt8) : List UInt8 × Bool := if l.length ≤ 256 then (l, true) else ([], false)
theorem room_in {l : List UInt8} (h : l.length ≤ 256) : roomD l = (l, true) := if_pos h
theorem room_out {l : List UInt8} (h : 256 < l.length) : roomD l = ([], false) := if_neg (by omega)
theorem room_len {l m : List UInt8} {b : Bool} (h : roomD l = (m, b)) : m.length ≤ 256 := by
  unfold roomD at h
  split at h
  · obtain ⟨rfl, rfl⟩ := Prod.mk.inj h; assumption
  · obtain ⟨rfl, rfl⟩ := Prod.mk.inj h; simp
end Go.Proofs.YtebjedbppiphgaaGreatDoor.Txt

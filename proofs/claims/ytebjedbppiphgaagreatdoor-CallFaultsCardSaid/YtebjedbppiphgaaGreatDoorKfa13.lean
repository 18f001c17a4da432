/- A table of rows of a text and a number each, as a row lists it: what its cells are; and the table of operators.
   Texts, changed: letters, blanks, repeated, put, joined. In lists alone. No function of the program is named here.
   Values summed up, in plain lists: the first fault, the numbers, what is reckoned from them one behind the other, the least and the greatest, how many are of a kind, all as texts, and how many are true. No function of the program is named here. -/
import Derived.Test.YtebjedbppiphgaaGreatDoorKfa12
import Derived.Lib.LaidTab
import Derived.ChangeSame
import Derived.Test.YtebjedbppiphgaaGreatDoorKfa03
import Derived.Lib.ReplaceLaws
import Derived.Lib.Replace
import Derived.Lib.Repeat
import Derived.Lib.Strings
import Derived.Test.YtebjedbppiphgaaGreatDoorKfa07
import Derived.Test.YtebjedbppiphgaaGreatDoorKfa11
namespace Go.Proofs.YtebjedbppiphgaaGreatDoor.Crt
open Go.RowKit Kit Reg Dec Dig Val Go.ChangeShapes Go.WideShapes Go.WideElems Go.Maps
/-- a row of such a table, as a datum; as cells -/
def signData {H : Type} (x : List UInt8 × Int) : DataW H := .agg [.lit (.string x.1), .lit (.int .i64 x.2)]
/-- a table that reads as these rows holds them, cell for cell -/
theorem cells_of_rows {H : Type} {enc : TypeId × Value → H} {P : Program} {w : World} {base : Nat} {sp : Nat → Bool} {held : Bool} {fuel : Nat} {t e : TypeId} {n : Nat} {f0 f1 : Field} {cs : List Value} {zs : List (List UInt8 × Int)} {p : List MemPlace}
    (ht : P.underlying t = some (.array n e)) (hce : P.cellsOf e = 2) (hct : P.cellsOf t = n * 2) (he : P.underlying e = some (.struct #[f0, f1])) (ho : f0.offset = 0 ∧ f1.offset = 1 ∧ P.cellsOf f0.type = 1 ∧ P.cellsOf f1.type = 1)
    (h0 : P.underlying f0.type = some .string) (h1 : P.underlying f1.type = some (.int .i64)) (h : DataW.trod enc P w base sp held fuel t cs = some (.agg (zs.map signData), p)) :
    ∀ i z, zs[i]? = some z → cs[i * 2]? = some (.string ⟨z.1.toArray⟩) ∧ cs[i * 2 + 1]? = some (.int .i64 z.2) := by
  cases fuel with
  | zero => simp [DataW.trod] at h
  | succ fuel =>
    simp only [DataW.trod, ht, hce, hct] at h
    split at h
    · rename_i hl
      obtain ⟨xs, hm, hx⟩ := Option.map_eq_some_iff.1 h
      have hxs : xs.map (·.1) = zs.map (signData (H := H)) := by
        have := congrArg Prod.fst hx
        simpa using this
      have hxl : xs.length = n := by simpa using Lib.mapM_length hm
      have hzl : zs.length = n := by
        have := congrArg List.length hxs
        simp at this
        omega
      intro i z hz
      have hi : i < n := by rw [← hzl]; exact (List.getElem?_eq_some_iff.1 hz).1
      obtain ⟨b, hb, hf⟩ := Lib.mapM_at hm i i (by simp [hi])
      have h2 : (xs.map (·.1))[i]? = some (signData z : DataW H) := by rw [hxs]; simp [hz]
      have hb1 : b.1 = signData z := by simpa [hb] using h2
      obtain ⟨o0, o1, k0, k1⟩ := ho
      obtain ⟨y0, y1, m, rfl, _, g0, g1⟩ := trod_struct2 he hf
      rw [o0, k0] at g0
      rw [o1, k1] at g1
      obtain ⟨s, c0, rfl, _⟩ := DataW.trod_string h0 g0
      obtain ⟨v, c1, rfl, _⟩ := DataW.trod_int h1 g1
      simp only [signData, DataW.agg.injEq, List.cons.injEq, DataW.lit.injEq, Lit.string.injEq, Lit.int.injEq, true_and, and_true] at hb1
      obtain ⟨e1, e2⟩ := hb1
      have q0 := congrArg (·[0]?) c0
      have q1 := congrArg (·[0]?) c1
      simp [List.getElem?_drop] at q0 q1
      refine ⟨?_, by rw [q1, e2]⟩
      rw [q0]
      congr 2
      exact bytes_eq (by rw [e1])
    · cases h
def signRows : List (List UInt8 × Int) := [([60, 62], 8), ([60, 61], 10), ([62, 61], 12), ([60], 9), ([62], 11), ([61], 7)]
theorem signs_of_head {W : World} {rest : List (String × DataW Unit)} (h : laidMet Tryz.prog (("oculus/crit.signs", .agg (signRows.map signData)) :: rest) W) : Signs W := by
  obtain ⟨ps, ⟨g', t', cs, fuel, p, q, hg', ht', hvar, hd, _, _⟩, _⟩ := h
  obtain rfl := Option.some.inj ((show Tryz.prog.globalNamed "oculus/crit.signs" = some 3 by kernel_rfl).symm.trans hg')
  obtain rfl := Option.some.inj ((show (Tryz.prog.globals[3]?).map (·.type) = some 281 by kernel_rfl).symm.trans ht')
  have H := cells_of_rows Tryz.underlying281 (by kernel_rfl) (by kernel_rfl) Tryz.underlying280 ⟨rfl, rfl, by kernel_rfl, by kernel_rfl⟩ Tryz.underlying9 Tryz.underlying3 hd
  intro i x hx
  have hc := World.var?_cell (g := 3) (by kernel_rfl) hvar i
  have hi : i < 12 := (List.getElem?_eq_some_iff.1 hx).1
  rw [hc, ← Array.getElem?_toList]
  obtain rfl | rfl | rfl | rfl | rfl | rfl | rfl | rfl | rfl | rfl | rfl | rfl : i = 0 ∨ i = 1 ∨ i = 2 ∨ i = 3 ∨ i = 4 ∨ i = 5 ∨ i = 6 ∨ i = 7 ∨ i = 8 ∨ i = 9 ∨ i = 10 ∨ i = 11 := by omega
  · rw [← hx]; exact (H 0 ([60, 62], 8) rfl).1
  · rw [← hx]; exact (H 0 ([60, 62], 8) rfl).2
  · rw [← hx]; exact (H 1 ([60, 61], 10) rfl).1
  · rw [← hx]; exact (H 1 ([60, 61], 10) rfl).2
  · rw [← hx]; exact (H 2 ([62, 61], 12) rfl).1
  · rw [← hx]; exact (H 2 ([62, 61], 12) rfl).2
  · rw [← hx]; exact (H 3 ([60], 9) rfl).1
  · rw [← hx]; exact (H 3 ([60], 9) rfl).2
  · rw [← hx]; exact (H 4 ([62], 11) rfl).1
  · rw [← hx]; exact (H 4 ([62], 11) rfl).2
  · rw [← hx]; exact (H 5 ([61], 7) rfl).1
  · rw [← hx]; exact (H 5 ([61], 7) rfl).2
end Go.Proofs.YtebjedbppiphgaaGreatDoor.Crt
namespace Go.Proofs.YtebjedbppiphgaaGreatDoor.Txt
/- letters -/
def isG (c : UInt8) : Bool := decide (65 ≤ c.toNat) && decide (c.toNat ≤ 90)
def isS (c : UInt8) : Bool := decide (97 ≤ c.toNat) && decide (c.toNat ≤ 122)
def isL (c : UInt8) : Bool := isG c || isS c
def upB (c : UInt8) : UInt8 := if isS c then c - 32 else c
def downB (c : UInt8) : UInt8 := if isG c then c + 32 else c
/-- a byte in a way: 0 great, else small -/
def wayB (w : Nat) (c : UInt8) : UInt8 := if w = 0 then upB c else downB c
theorem all_bytes {p : UInt8 → Bool} (h : ∀ n : Fin 256, p (UInt8.ofNat n.1) = true) (c : UInt8) : p c = true := by
  have := h ⟨c.toNat, c.toNat_lt⟩
  simpa using this
/-- how the next letter is written, behind a byte -/
def nextW (f o : Nat) (c : UInt8) : Nat := if isL c then o else f
def wrL (f o : Nat) : Nat → List UInt8 → List UInt8
  | _, [] => []
  | nx, c :: r => wayB nx c :: wrL f o (nextW f o c) r
theorem wr_cons (f o nx : Nat) (c : UInt8) (r : List UInt8) : wrL f o nx (c :: r) = wayB nx c :: wrL f o (nextW f o c) r := rfl
theorem wr_len (f o : Nat) (l : List UInt8) : ∀ nx, (wrL f o nx l).length = l.length := by
  induction l with
  | nil => intro _; rfl
  | cons c r ih => intro nx; rw [wr_cons, List.length_cons, List.length_cons, ih]
/- blanks -/
def allB (l : List UInt8) : Bool := l.all fun c => c == 32
/-- the program's way: of blanks behind one another the first one stays -/
def trP : UInt8 → List UInt8 → List UInt8
  | _, [] => []
  | a, c :: r => (if c = 32 ∧ a = 32 then [] else [c]) ++ trP c r
/-- the reference's way: a blank stays behind no blank, if not all behind it are blanks -/
def trR : UInt8 → List UInt8 → List UInt8
  | _, [] => []
  | a, c :: r => (if c = 32 then (if a ≠ 32 ∧ allB r = false then [32] else []) else [c]) ++ trR c r
def trimL (l : List UInt8) : List UInt8 := trR 32 l
theorem trP_cons (a c : UInt8) (r : List UInt8) : trP a (c :: r) = (if c = 32 ∧ a = 32 then [] else [c]) ++ trP c r := rfl
theorem trR_cons (a c : UInt8) (r : List UInt8) : trR a (c :: r) = (if c = 32 then (if a ≠ 32 ∧ allB r = false then [32] else []) else [c]) ++ trR c r := rfl
theorem allB_cons (c : UInt8) (r : List UInt8) : allB (c :: r) = ((c == 32) && allB r) := rfl
theorem trP_blank {r : List UInt8} (h : allB r = true) : trP 32 r = [] := by
  induction r with
  | nil => rfl
  | cons c r ih =>
    rw [allB_cons, Bool.and_eq_true, beq_iff_eq] at h
    obtain ⟨rfl, h⟩ := h
    rw [trP_cons, if_pos ⟨rfl, rfl⟩, ih h]; rfl
theorem trR_blank {r : List UInt8} (h : allB r = true) : ∀ a, trR a r = [] := by
  induction r with
  | nil => intro _; rfl
  | cons c r ih =>
    intro a
    rw [allB_cons, Bool.and_eq_true, beq_iff_eq] at h
    obtain ⟨rfl, h⟩ := h
    rw [trR_cons, if_pos rfl, if_neg (by rw [h]; simp), ih h]; rfl
theorem trP_some {r : List UInt8} (h : allB r = false) : ∀ a, trP a r ≠ [] := by
  induction r with
  | nil => cases h
  | cons c r ih =>
    intro a
    rw [trP_cons]
    by_cases hc : c = 32
    · subst hc
      have h2 : allB r = false := by rw [allB_cons] at h; simpa using h
      intro e
      exact ih h2 32 (List.append_eq_nil_iff.1 e).2
    · rw [if_neg (fun e => hc e.1)]; simp
theorem suffix_cons {c : UInt8} {x : List UInt8} (h : c ≠ 32 ∨ x ≠ []) : Lib.trimSuffix (c :: x) [32] = c :: Lib.trimSuffix x [32] := by
  unfold Lib.trimSuffix Lib.hasSuffix
  have e : ([32] : List UInt8).isSuffixOf (c :: x) = ([32] : List UInt8).isSuffixOf x := by
    rw [Bool.eq_iff_iff, List.isSuffixOf_iff_suffix, List.isSuffixOf_iff_suffix, List.suffix_cons_iff]
    constructor
    · rintro (h1 | h1)
      · obtain ⟨rfl, rfl⟩ := List.cons.inj h1
        rcases h with h | h
        · exact absurd rfl h
        · exact absurd rfl h
      · exact h1
    · exact Or.inr
  rw [e]
  by_cases hs : ([32] : List UInt8).isSuffixOf x = true
  · rw [if_pos hs, if_pos hs]
    have hx : x ≠ [] := by
      rintro rfl
      cases hs
    have hl := List.length_pos_iff.2 hx
    rw [List.length_cons, List.length_singleton, show x.length + 1 - 1 = (x.length - 1) + 1 by omega, List.take_succ_cons]
  · rw [if_neg hs, if_neg hs]
/-- both ways are one -/
theorem trim_eq (l : List UInt8) : ∀ a, Lib.trimSuffix (trP a l) [32] = trR a l := by
  induction l with
  | nil => intro _; rfl
  | cons c r ih =>
    intro a
    rw [trP_cons, trR_cons]
    by_cases hc : c = 32
    · subst hc
      by_cases ha : a = 32
      · rw [if_pos ⟨rfl, ha⟩, if_pos rfl, if_neg (fun e => e.1 ha), List.nil_append, List.nil_append, ih]
      · rw [if_neg (fun e => ha e.2), if_pos rfl]
        cases hb : allB r
        · rw [if_pos ⟨ha, rfl⟩, List.singleton_append, List.singleton_append, suffix_cons (.inr (trP_some hb _)), ih]
        · rw [if_neg (by simp), trP_blank hb, trR_blank hb]; rfl
    · rw [if_neg (fun e => hc e.1), if_neg hc, List.singleton_append, List.singleton_append, suffix_cons (.inl hc), ih]
/-- nothing is needless in it -/
def Tidy : UInt8 → List UInt8 → Prop
  | _, [] => True
  | a, c :: r => (c = 32 → a ≠ 32 ∧ r ≠ []) ∧ Tidy c r
theorem Tidy.any {l : List UInt8} (h : Tidy 32 l) (a : UInt8) : Tidy a l := by
  match l, h with
  | [], _ => trivial
  | c :: r, ⟨h1, h2⟩ => exact ⟨fun e => absurd rfl (h1 e).1, h2⟩
theorem trR_len (l : List UInt8) : ∀ a, (trR a l).length ≤ l.length := by
  induction l with
  | nil => intro _; exact Nat.le_refl _
  | cons c r ih =>
    intro a
    have := ih c
    rw [trR_cons, List.length_append, List.length_cons]
    split
    · split <;> simp <;> omega
    · simp; omega
theorem trP_len (l : List UInt8) : ∀ a, (trP a l).length ≤ l.length := by
  induction l with
  | nil => intro _; exact Nat.le_refl _
  | cons c r ih =>
    intro a
    have := ih c
    rw [trP_cons, List.length_append, List.length_cons]
    split <;> simp <;> omega
theorem trimL_len (l : List UInt8) : (trimL l).length ≤ l.length := trR_len l 32

/- room -/
def roomD (l : List UInt8) : List UInt8 × Bool := if l.length ≤ 256 then (l, true) else ([], false)
theorem room_in {l : List UInt8} (h : l.length ≤ 256) : roomD l = (l, true) := if_pos h
theorem room_out {l : List UInt8} (h : 256 < l.length) : roomD l = ([], false) := if_neg (by omega)
theorem room_len {l m : List UInt8} {b : Bool} (h : roomD l = (m, b)) : m.length ≤ 256 := by
  unfold roomD at h
  split at h
  · obtain ⟨rfl, rfl⟩ := Prod.mk.inj h; assumption
  · obtain ⟨rfl, rfl⟩ := Prod.mk.inj h; simp
end Go.Proofs.YtebjedbppiphgaaGreatDoor.Txt
namespace Go.Proofs.YtebjedbppiphgaaGreatDoor.Fld
open Dec Dig Val Txt
structure Vl where
  k : Int
  n : Int
  t : ByteArray
def Vl.cells (v : Vl) : List Value := [.int .i64 v.k, .int .i64 v.n, .string v.t]
/-- a value that may be, of 64 bits -/
def Vl.may (v : Vl) : Prop := mayV v.k v.n v.t = true
def Vl.fits (v : Vl) : Prop := -9223372036854775808 ≤ v.n ∧ v.n ≤ 9223372036854775807
theorem size_zero {t : ByteArray} (h : t.size = 0) : t = ⟨#[]⟩ := by
  cases t with
  | mk d =>
    congr 1
    exact Array.eq_empty_of_size_eq_zero h
theorem may_ways {v : Vl} (h : v.may) : v = ⟨0, 0, ⟨#[]⟩⟩ ∨ (∃ n, v = ⟨1, n, ⟨#[]⟩⟩ ∧ -9223372036854775807 ≤ n) ∨ (∃ t, v = ⟨2, 0, t⟩ ∧ t.size ≤ 256) ∨ v = ⟨3, 0, ⟨#[]⟩⟩ ∨ v = ⟨3, 1, ⟨#[]⟩⟩ ∨ ∃ n, v = ⟨4, n, ⟨#[]⟩⟩ ∧ 1 ≤ n ∧ n ≤ 7 := by
  obtain ⟨k, n, t⟩ := v
  unfold Vl.may mayV mayD at h
  simp only [Bool.or_eq_true, Bool.and_eq_true, decide_eq_true_eq] at h
  rcases h with (((⟨⟨rfl, h1⟩, rfl⟩ | ⟨⟨rfl, h1⟩, h2⟩) | ⟨⟨rfl, rfl⟩, h1⟩) | ⟨⟨rfl, h1⟩, h2⟩) | ⟨⟨⟨rfl, h1⟩, h2⟩, h3⟩
  · exact .inl (by rw [size_zero h1])
  · exact .inr (.inl ⟨n, by rw [size_zero h1], h2⟩)
  · exact .inr (.inr (.inl ⟨t, rfl, h1⟩))
  · rw [size_zero h1]
    rcases h2 with rfl | rfl
    · exact .inr (.inr (.inr (.inl rfl)))
    · exact .inr (.inr (.inr (.inr (.inl rfl))))
  · exact .inr (.inr (.inr (.inr (.inr ⟨n, by rw [size_zero h1], h2, h3⟩))))
theorem may_fault {v : Vl} (h : v.may) (h4 : v.k = 4) : v = ⟨4, v.n, ⟨#[]⟩⟩ := by
  rcases may_ways h with rfl | ⟨n, rfl, _⟩ | ⟨t, rfl, _⟩ | rfl | rfl | ⟨n, rfl, _⟩ <;> first | rfl | (simp at h4; done)
theorem may_num_low {v : Vl} (h : v.may) (h1 : v.k = 1) : -9223372036854775807 ≤ v.n := by
  rcases may_ways h with rfl | ⟨n, rfl, h2⟩ | ⟨t, rfl, _⟩ | rfl | rfl | ⟨n, rfl, _⟩ <;> first | exact h2 | (simp at h1; done)
/-- no fault among them; the first one -/
def NoF (L : List Vl) : Prop := ∀ v ∈ L, ¬ v.k = 4
def FirstF (L : List Vl) (p : Nat) (v : Vl) : Prop := L[p]? = some v ∧ v.k = 4 ∧ ∀ i u, i < p → L[i]? = some u → ¬ u.k = 4
theorem fault_ways : ∀ L : List Vl, NoF L ∨ ∃ p v, FirstF L p v
  | [] => .inl fun v h => by cases h
  | u :: r => by
    by_cases h : u.k = 4
    · exact .inr ⟨0, u, rfl, h, fun i x hi => by omega⟩
    · rcases fault_ways r with h1 | ⟨p, v, h1, h2, h3⟩
      · exact .inl fun v hv => by
          rcases List.mem_cons.1 hv with rfl | hv
          · exact h
          · exact h1 v hv
      · refine .inr ⟨p + 1, v, by simpa using h1, h2, fun i x hi hx => ?_⟩
        cases i with
        | zero => simp at hx; subst hx; exact h
        | succ i => exact h3 i x (by omega) (by simpa using hx)
theorem NoF.at {L : List Vl} (h : NoF L) {k : Nat} {v : Vl} (hv : L[k]? = some v) : ¬ v.k = 4 := h v (List.mem_of_getElem? hv)
theorem FirstF.lt {L : List Vl} {p : Nat} {v : Vl} (h : FirstF L p v) : p < L.length := (List.getElem?_eq_some_iff.1 h.1).1
def faultF (L : List Vl) : Option Vl := L.find? fun v => decide (v.k = 4)
theorem faultF_none {L : List Vl} (h : NoF L) : faultF L = none := List.find?_eq_none.2 fun v hv => by simpa using h v hv
theorem faultF_some : ∀ {L : List Vl} {p : Nat} {v : Vl}, FirstF L p v → faultF L = some v
  | [], p, v, h => by have := h.lt; simp at this
  | u :: r, 0, v, h => by
    obtain ⟨h1, h2, _⟩ := h
    simp at h1
    subst h1
    unfold faultF
    rw [List.find?_cons, decide_eq_true h2]
  | u :: r, p + 1, v, h => by
    obtain ⟨h1, h2, h3⟩ := h
    have h0 := h3 0 u (by omega) rfl
    have ih := faultF_some (L := r) (p := p) (v := v) ⟨by simpa using h1, h2, fun i x hi hx => h3 (i + 1) x (by omega) (by simpa using hx)⟩
    unfold faultF at ih ⊢
    rw [List.find?_cons, decide_eq_false h0]
    exact ih
/-- the numbers of a list -/
def numsF (L : List Vl) : List Int := L.filterMap fun v => if v.k = 1 then some v.n else none
theorem numsF_hit {L : List Vl} {k : Nat} {v : Vl} (h : L[k]? = some v) (h1 : v.k = 1) : numsF (L.take (k + 1)) = numsF (L.take k) ++ [v.n] := by
  rw [List.take_add_one, h]
  simp [numsF, List.filterMap_append, h1]
theorem numsF_miss {L : List Vl} {k : Nat} {v : Vl} (h : L[k]? = some v) (h1 : ¬ v.k = 1) : numsF (L.take (k + 1)) = numsF (L.take k) := by
  rw [List.take_add_one, h]
  simp [numsF, List.filterMap_append, h1]
theorem numsF_len (L : List Vl) : (numsF L).length ≤ L.length := List.length_filterMap_le _ _
theorem numsF_mem {L : List Vl} {x : Int} (h : x ∈ numsF L) : ∃ v ∈ L, v.k = 1 ∧ v.n = x := by
  obtain ⟨v, hv, he⟩ := List.mem_filterMap.1 h
  split at he
  · exact ⟨v, hv, by assumption, by simpa using he⟩
  · cases he
theorem numsF_room {L : List Vl} (hm : ∀ v ∈ L, v.may) (hf : ∀ v ∈ L, v.fits) {x : Int} (h : x ∈ numsF L) : -9223372036854775807 ≤ x ∧ x ≤ 9223372036854775807 := by
  obtain ⟨v, hv, h1, rfl⟩ := numsF_mem h
  exact ⟨may_num_low (hm v hv) h1, (hf v hv).2⟩
/-- what comes of numbers, from a start on: it ends at the first step that has no answer -/
def totalD (step : Int → Int → Int × Bool) : Int → List Int → Int × Bool
  | s, [] => (s, true)
  | s, x :: r => match step s x with
    | (n, true) => totalD step n r
    | (n, false) => (n, false)
theorem drop_at {α : Type} {l : List α} {k : Nat} {z : α} (h : l[k]? = some z) : l.drop k = z :: l.drop (k + 1) := by
  obtain ⟨hk, rfl⟩ := List.getElem?_eq_some_iff.1 h
  exact List.drop_eq_getElem_cons hk
theorem total_yes {step : Int → Int → Int × Bool} {xs : List Int} {k : Nat} {s x n : Int} (h : xs[k]? = some x) (hs : step s x = (n, true)) : totalD step s (xs.drop k) = totalD step n (xs.drop (k + 1)) := by
  rw [drop_at h, totalD, hs]
theorem total_no {step : Int → Int → Int × Bool} {xs : List Int} {k : Nat} {s x n : Int} (h : xs[k]? = some x) (hs : step s x = (n, false)) : totalD step s (xs.drop k) = (n, false) := by
  rw [drop_at h, totalD, hs]
theorem total_end (step : Int → Int → Int × Bool) (s : Int) (xs : List Int) : totalD step s (xs.drop xs.length) = (s, true) := by rw [List.drop_length]; rfl
/-- the steps: of the sum, of the product, of the sum of the squares -/
def mulD (a b : Int) : Int × Bool := scaledD a b 10000
def sqD (a b : Int) : Int × Bool := match scaledD b b 10000 with
  | (s, true) => addD a s
  | (s, false) => (s, false)
/-- .. of the least and of the greatest number -/
def btr (most : Bool) (x a : Int) : Bool := if most then decide (a < x) else decide (x < a)
def bestD (most : Bool) (a x : Int) : Int × Bool := (if btr most x a = true then x else a, true)
def startB (most : Bool) : Int := if most then -9223372036854775807 else 9223372036854775807
/-- what is reckoned of a list of values: its kind and its number -/
def allD (step : Int → Int → Int × Bool) (start : Int) (xs : List Int) : Int × Int := if xs = [] then (1, 0) else gotV (totalD step start xs).1 (totalD step start xs).2
def allV (step : Int → Int → Int × Bool) (start : Int) (L : List Vl) : Int × Int := match faultF L with
  | some v => (4, v.n)
  | none => allD step start (numsF L)
theorem allV_no {step : Int → Int → Int × Bool} {start : Int} {L : List Vl} (h : NoF L) : allV step start L = allD step start (numsF L) := by rw [allV, faultF_none h]
theorem allV_yes {step : Int → Int → Int × Bool} {start : Int} {L : List Vl} {p : Nat} {v : Vl} (h : FirstF L p v) : allV step start L = (4, v.n) := by rw [allV, faultF_some h]
theorem got_kind (x : Int) (b : Bool) : (gotV x b = (1, x) ∧ b = true) ∨ gotV x b = (4, 4) := by
  unfold gotV
  cases b
  · exact .inr rfl
  · show ((numV x = (1, x)) ∧ true = true) ∨ numV x = (4, 4)
    unfold numV
    split
    · exact .inl ⟨rfl, rfl⟩
    · exact .inr rfl
theorem allD_kind (step : Int → Int → Int × Bool) (start : Int) (xs : List Int) : (allD step start xs).1 = 1 ∨ allD step start xs = (4, 4) := by
  unfold allD
  split
  · exact .inl rfl
  · rcases got_kind (totalD step start xs).1 (totalD step start xs).2 with ⟨h, _⟩ | h
    · exact .inl (by rw [h])
    · exact .inr h
/-- how many are of a kind -/
def isK (kind : Int) (v : Vl) : Bool := if kind = 1 then decide (v.k = 1) else if kind = 0 then decide (v.k = 0) || (decide (v.k = 2) && decide (v.t = ⟨#[]⟩)) else !decide (v.k = 0)
def countF (kind : Int) (L : List Vl) : Nat := L.countP (isK kind)
theorem count_hit {kind : Int} {L : List Vl} {k : Nat} {v : Vl} (h : L[k]? = some v) (h1 : isK kind v = true) : countF kind (L.take (k + 1)) = countF kind (L.take k) + 1 := by
  rw [List.take_add_one, h]
  simp [countF, List.countP_append, h1]
theorem count_miss {kind : Int} {L : List Vl} {k : Nat} {v : Vl} (h : L[k]? = some v) (h1 : isK kind v = false) : countF kind (L.take (k + 1)) = countF kind (L.take k) := by
  rw [List.take_add_one, h]
  simp [countF, List.countP_append, h1]
theorem count_nums : ∀ L : List Vl, countF 1 L = (numsF L).length
  | [] => rfl
  | v :: r => by
    have ih := count_nums r
    unfold countF numsF at ih ⊢
    rw [List.countP_cons, List.filterMap_cons, ih]
    by_cases h : v.k = 1 <;> simp [isK, h]
/-- the middle -/
def meanV (L : List Vl) : Int × Int := match faultF L with
  | some v => (4, v.n)
  | none => if numsF L = [] then (4, 1) else if (allD addD 0 (numsF L)).1 = 4 then (4, 4) else
      gotV (scaledD (allD addD 0 (numsF L)).2 1 (numsF L).length).1 (scaledD (allD addD 0 (numsF L)).2 1 (numsF L).length).2
theorem meanV_yes {L : List Vl} {p : Nat} {v : Vl} (h : FirstF L p v) : meanV L = (4, v.n) := by rw [meanV, faultF_some h]
theorem meanV_none {L : List Vl} (h : NoF L) (h0 : numsF L = []) : meanV L = (4, 1) := by rw [meanV, faultF_none h]; exact if_pos h0
theorem meanV_out {L : List Vl} (h : NoF L) (h0 : ¬ numsF L = []) (h1 : allD addD 0 (numsF L) = (4, 4)) : meanV L = (4, 4) := by
  rw [meanV, faultF_none h]
  simp only [if_neg h0, h1, if_true]
theorem meanV_in {L : List Vl} (h : NoF L) (h0 : ¬ numsF L = []) {x : Int} (h1 : allD addD 0 (numsF L) = (1, x)) : meanV L = gotV (scaledD x 1 (numsF L).length).1 (scaledD x 1 (numsF L).length).2 := by
  rw [meanV, faultF_none h]
  simp only [if_neg h0, h1]
  rfl
/-- a value's text, where it is no fault -/
def wordsF (v : Vl) : List UInt8 := if v.k = 0 then [] else if v.k = 1 then textD v.n else if v.k = 2 then v.t.data.toList else if v.n = 0 then noT.data.toList else yesT.data.toList
theorem words_len {v : Vl} (hm : v.may) (hf : v.fits) : (wordsF v).length ≤ 256 := by
  rcases may_ways hm with rfl | ⟨n, rfl, _⟩ | ⟨t, rfl, h⟩ | rfl | rfl | ⟨n, rfl, _⟩
  · exact Nat.zero_le _
  · have := text_len hf.1 hf.2
    show (textD n).length ≤ 256
    dsimp only at this
    omega
  · show t.data.toList.length ≤ 256
    rw [← Lib.size_eq]
    exact h
  · decide
  · decide
  · show (if n = 0 then noT.data.toList else yesT.data.toList).length ≤ 256
    split <;> decide
def concatV (L : List Vl) : Int × Int × List UInt8 := match faultF L with
  | some v => (4, v.n, [])
  | none => if (roomD (L.map wordsF).flatten).2 = true then (2, 0, (roomD (L.map wordsF).flatten).1) else (4, 2, [])
theorem concatV_yes {L : List Vl} {p : Nat} {v : Vl} (h : FirstF L p v) : concatV L = (4, v.n, []) := by rw [concatV, faultF_some h]
theorem concatV_in {L : List Vl} (h : NoF L) {m : List UInt8} (h1 : roomD (L.map wordsF).flatten = (m, true)) : concatV L = (2, 0, m) := by
  rw [concatV, faultF_none h, h1]
  rfl
theorem concatV_out {L : List Vl} (h : NoF L) {m : List UInt8} (h1 : roomD (L.map wordsF).flatten = (m, false)) : concatV L = (4, 2, []) := by
  rw [concatV, faultF_none h, h1]
  rfl
/-- a value as a truth -/
def truthF (v : Vl) : Int × Int := if v.k = 0 then (3, 0) else if v.k = 1 then (3, if v.n = 0 then 0 else 1) else if v.k = 2 then (if v.t = yesT then (3, 1) else if v.t = noT then (3, 0) else (4, 2)) else (v.k, v.n)
theorem truth_ways {v : Vl} (hm : v.may) : truthF v = (3, 0) ∨ truthF v = (3, 1) ∨ ∃ c, truthF v = (4, c) := by
  rcases may_ways hm with rfl | ⟨n, rfl, _⟩ | ⟨t, rfl, h⟩ | rfl | rfl | ⟨n, rfl, _⟩
  · exact .inl rfl
  · by_cases h : n = 0
    · exact .inl (by simp [truthF, h])
    · exact .inr (.inl (by simp [truthF, h]))
  · by_cases h1 : t = yesT
    · exact .inr (.inl (by simp [truthF, h1]))
    · by_cases h2 : t = noT
      · subst h2; exact .inl rfl
      · exact .inr (.inr ⟨2, by simp [truthF, h1, h2]⟩)
  · exact .inl rfl
  · exact .inr (.inl rfl)
  · exact .inr (.inr ⟨n, rfl⟩)
/-- whether an odd number of them is true -/
def xorV : Bool → List Vl → Int × Int
  | odd, [] => (3, if odd then 1 else 0)
  | odd, v :: r => if (truthF v).1 = 4 then (4, (truthF v).2) else xorV (odd != decide ((truthF v).2 = 1)) r
theorem xor_bad {L : List Vl} {k : Nat} {v : Vl} {odd : Bool} {c : Int} (h : L[k]? = some v) (h1 : truthF v = (4, c)) : xorV odd (L.drop k) = (4, c) := by
  rw [drop_at h, xorV, h1]
  rfl
theorem xor_zero {L : List Vl} {k : Nat} {v : Vl} {odd : Bool} (h : L[k]? = some v) (h1 : truthF v = (3, 0)) : xorV odd (L.drop k) = xorV odd (L.drop (k + 1)) := by
  rw [drop_at h, xorV, h1]
  cases odd <;> rfl
theorem xor_one {L : List Vl} {k : Nat} {v : Vl} {odd : Bool} (h : L[k]? = some v) (h1 : truthF v = (3, 1)) : xorV odd (L.drop k) = xorV (!odd) (L.drop (k + 1)) := by
  rw [drop_at h, xorV, h1]
  cases odd <;> rfl
theorem xor_end (odd : Bool) (L : List Vl) : xorV odd (L.drop L.length) = (3, if odd then 1 else 0) := by rw [List.drop_length]; rfl
end Go.Proofs.YtebjedbppiphgaaGreatDoor.Fld

/- Users and grants: who may act, who may lower, what leaks, and what is wrong, in plain lists; and slices that read as users and as grants. No function of the program is named here. -/
import Derived.Test.YteolenhgaekihaaLabDefs
import Derived.Test.YteolenhgaekihaaKit4
import Derived.Lib.Strings
namespace Go.Proofs.Yteolenhgaekihaa.Right
open Go.RowKit Kit Reg Go.Proofs.Yteolenhgaekihaa.Lab
open Go.Proofs.Yteolenhgaekihaa.Cats (U U_or U_zero)

structure Us where
  name : ByteArray
  l : Int
  s : Nat
def Us.cells (u : Us) : List Value := [.string u.name, .int .i64 u.l, .int .u64 u.s]
structure Gr where
  name : ByteArray
  l : Int
  s : Nat
  k : Int
  r : Nat
/-- a grant's user, From (l, s), To (k, r) -/
def Gr.cells (g : Gr) : List Value := [.string g.name, .int .i64 g.l, .int .u64 g.s, .int .i64 g.k, .int .u64 g.r]

/-- a small letter, a digit -/
def letB (b : UInt8) : Bool := decide (97 ≤ b.toNat) && decide (b.toNat ≤ 122)
def digB (b : UInt8) : Bool := decide (48 ≤ b.toNat) && decide (b.toNat ≤ 57)
def wordB (b : UInt8) : Bool := letB b || digB b
/-- is a text a name? -/
def nameB (t : List UInt8) : Bool := decide (1 ≤ t.length) && decide (t.length ≤ 16) && letB (t.getD 0 0) && t.all wordB
theorem all_from {t : List UInt8} {k : Nat} {b : UInt8} (h : t[k]? = some b) : (t.drop k).all wordB = (wordB b && (t.drop (k + 1)).all wordB) := by
  obtain ⟨hk, rfl⟩ := List.getElem?_eq_some_iff.1 h
  rw [List.drop_eq_getElem_cons hk, List.all_cons]

/-- are two texts the same, as the walk asks it? -/
theorem name_eq {x y : ByteArray} : (x.toList == y.toList) = true ↔ x = y := by
  rw [beq_iff_eq, Lib.toList_data, Lib.toList_data]
  exact ⟨fun h => ByteArray.ext (Array.toList_inj.1 h), fun h => by rw [h]⟩
theorem name_ne {x y : ByteArray} (h : x ≠ y) : (x.toList == y.toList) = false := by
  rw [Bool.eq_false_iff]
  exact fun e => h (name_eq.1 e)
theorem name_refl (x : ByteArray) : (x.toList == x.toList) = true := name_eq.2 rfl
/-- the place of the first user of a name, from a place on; -1: none -/
def findI : List Us → ByteArray → Nat → Int
  | [], _, _ => -1
  | u :: r, t, k => if (u.name.toList == t.toList) = true then k else findI r t (k + 1)
theorem drop_at {α : Type} {l : List α} {k : Nat} {z : α} (h : l[k]? = some z) : l.drop k = z :: l.drop (k + 1) := by
  obtain ⟨hk, rfl⟩ := List.getElem?_eq_some_iff.1 h
  exact List.drop_eq_getElem_cons hk
theorem findI_hit {us : List Us} {k : Nat} {u : Us} {t : ByteArray} (h : us[k]? = some u) (hh : (u.name.toList == t.toList) = true) : findI (us.drop k) t k = k := by rw [drop_at h, findI, if_pos hh]
theorem findI_miss {us : List Us} {k : Nat} {u : Us} {t : ByteArray} (h : us[k]? = some u) (hh : (u.name.toList == t.toList) = false) : findI (us.drop k) t k = findI (us.drop (k + 1)) t (k + 1) := by rw [drop_at h, findI, if_neg (by rw [hh]; simp)]
theorem findI_end (us : List Us) (t : ByteArray) : findI (us.drop us.length) t us.length = -1 := by rw [List.drop_length]; rfl
/-- what is found stands there, and nobody of that name ahead -/
theorem findI_or : ∀ (us : List Us) (t : ByteArray) (k : Nat), findI us t k = -1 ∨ ∃ i u, us[i]? = some u ∧ u.name = t ∧ findI us t k = ((k + i : Nat) : Int)
  | [], _, _ => .inl rfl
  | u :: r, t, k => by
    unfold findI
    by_cases h : (u.name.toList == t.toList) = true
    · rw [if_pos h]
      exact .inr ⟨0, u, rfl, name_eq.1 h, by simp⟩
    · rw [if_neg h]
      rcases findI_or r t (k + 1) with h1 | ⟨i, v, h1, h2, h3⟩
      · exact .inl h1
      · exact .inr ⟨i + 1, v, by simpa using h1, h2, by rw [h3]; congr 1; omega⟩
/-- may a user act at a label? 0, 11 or 12 -/
def actsI (us : List Us) (t : ByteArray) (l : Int) (s : Nat) : Int :=
  if findI us t 0 < 0 then 11 else match us[(findI us t 0).toNat]? with
    | some u => if mayL l = true ∧ belowL l s u.l u.s = true then 0 else 12
    | none => 0
/-- does a grant let a user lower a label to another one? -/
def Gr.lets (g : Gr) (t : ByteArray) (l : Int) (s : Nat) (k : Int) (r : Nat) : Bool := (g.name.toList == t.toList) && belowL l s g.l g.s && belowL g.k g.r k r
def lowersB (gs : List Gr) (t : ByteArray) (l : Int) (s : Nat) (k : Int) (r : Nat) : Bool := gs.any fun g => g.lets t l s k r
/-- does a grant leak to a label? -/
def Gr.leaks (g : Gr) (l : Int) (s : Nat) : Bool := belowL g.k g.r l s && !belowL g.l g.s l s
def leakyF (gs : List Gr) (l : Int) (s : Nat) : List Gr := gs.filter fun g => g.leaks l s
theorem leakyF_snoc (gs : List Gr) (g : Gr) (l : Int) (s : Nat) : leakyF (gs ++ [g]) l s = leakyF gs l s ++ (if g.leaks l s = true then [g] else []) := by
  unfold leakyF
  rw [List.filter_append]
  congr 1
  rw [List.filter_cons]
  simp
/-- names, each once, in order -/
def hasN (a : List ByteArray) (n : ByteArray) : Bool := a.any fun m => m.toList == n.toList
def stepN (a : List ByteArray) (n : ByteArray) : List ByteArray := if hasN a n = true then a else a ++ [n]
def onceF (ns : List ByteArray) : List ByteArray := ns.foldl stepN []
theorem onceF_snoc (ns : List ByteArray) (n : ByteArray) : onceF (ns ++ [n]) = stepN (onceF ns) n := by simp [onceF, List.foldl_append]
def holdersF (gs : List Gr) (l : Int) (s : Nat) : List ByteArray := onceF ((leakyF gs l s).map Gr.name)
theorem hasN_snoc (a : List ByteArray) (m n : ByteArray) : hasN (a ++ [m]) n = (hasN a n || (m.toList == n.toList)) := by simp [hasN, List.any_append]
theorem once_mem (n : ByteArray) : ∀ (ns a : List ByteArray), hasN (ns.foldl stepN a) n = (hasN a n || hasN ns n)
  | [], a => by simp [hasN]
  | m :: r, a => by
    have hc : hasN (m :: r) n = ((m.toList == n.toList) || hasN r n) := by simp [hasN]
    rw [List.foldl_cons, once_mem n r, hc]
    unfold stepN
    by_cases h : hasN a m = true
    · rw [if_pos h]
      by_cases hnm : m = n
      · subst hnm; rw [h]; simp
      · rw [name_ne hnm, Bool.false_or]
    · rw [if_neg h, hasN_snoc, Bool.or_assoc]
theorem onceF_mem (ns : List ByteArray) (n : ByteArray) : hasN (onceF ns) n = hasN ns n := by unfold onceF; rw [once_mem]; simp [hasN]
/-- what is wrong with a user at a place, those ahead of whom are given -/
def whyU (k : Nat) (u : Us) (f : Int) : Int := if 15 < k then 10 else if nameB u.name.data.toList = false then 1 else if f ≠ k then 8 else if mayL u.l = false then 7 else 0
def wrongU (us : List Us) : Nat → List Us → Int × Int
  | _, [] => (0, 0)
  | k, u :: r => if whyU k u (findI us u.name 0) = 0 then wrongU us (k + 1) r else ((k : Int), whyU k u (findI us u.name 0))
/-- .. with a grant -/
def whyG (k : Nat) (g : Gr) (us : List Us) : Int := if 31 < k then 10 else if findI us g.name 0 < 0 then 11 else if mayL g.l = false ∨ mayL g.k = false then 7 else 0
def wrongG (us : List Us) : Nat → List Gr → Int × Int
  | _, [] => (0, 0)
  | k, g :: r => if whyG k g us = 0 then wrongG us (k + 1) r else ((k : Int), whyG k g us)

/-- a slice, nil too, that reads as a list of users -/
def UsersR (w : World) (A : Option Addr) (n : Nat) (us : List Us) : Prop :=
  us.length = n ∧ n ≤ 140737488355328 ∧ (∀ z ∈ us, U z.s) ∧ (n ≠ 0 → ∃ b o, A = some ⟨b, o, none⟩ ∧ b < w.heap.size ∧ ∀ k z, us[k]? = some z → ∀ j v, z.cells[j]? = some v → w.cell? ⟨b, o + k * 3 + j, none⟩ = some v)
theorem UsersR.on {w w' : World} {A : Option Addr} {n : Nat} {us : List Us} (h : UsersR w A n us) (hb : Below w.heap.size w w') : UsersR w' A n us := by
  obtain ⟨h1, h2, hu, h3⟩ := h
  refine ⟨h1, h2, hu, fun hn => ?_⟩
  obtain ⟨b, o, rfl, hlt, hc⟩ := h3 hn
  exact ⟨b, o, rfl, Nat.lt_of_lt_of_le hlt hb.size, fun k z hk j v hj => (hb.cell (p := ⟨b, o + k * 3 + j, none⟩) hlt).trans (hc k z hk j v hj)⟩
theorem user_cells {w : World} {b o k : Nat} {z : Us} (h : ∀ j v, z.cells[j]? = some v → w.cell? ⟨b, o + k * 3 + j, none⟩ = some v) :
    w.cell? ⟨b, o + k * 3, none⟩ = some (.string z.name) ∧ w.cell? ⟨b, o + k * 3 + 1, none⟩ = some (.int .i64 z.l) ∧ w.cell? ⟨b, o + k * 3 + 2, none⟩ = some (.int .u64 z.s) := ⟨h 0 _ rfl, h 1 _ rfl, h 2 _ rfl⟩
/-- .. of grants -/
def GrantsR (w : World) (A : Option Addr) (n : Nat) (gs : List Gr) : Prop :=
  gs.length = n ∧ n ≤ 140737488355328 ∧ (∀ z ∈ gs, U z.s ∧ U z.r) ∧ (n ≠ 0 → ∃ b o, A = some ⟨b, o, none⟩ ∧ b < w.heap.size ∧ ∀ k z, gs[k]? = some z → ∀ j v, z.cells[j]? = some v → w.cell? ⟨b, o + k * 5 + j, none⟩ = some v)
theorem GrantsR.on {w w' : World} {A : Option Addr} {n : Nat} {gs : List Gr} (h : GrantsR w A n gs) (hb : Below w.heap.size w w') : GrantsR w' A n gs := by
  obtain ⟨h1, h2, hu, h3⟩ := h
  refine ⟨h1, h2, hu, fun hn => ?_⟩
  obtain ⟨b, o, rfl, hlt, hc⟩ := h3 hn
  exact ⟨b, o, rfl, Nat.lt_of_lt_of_le hlt hb.size, fun k z hk j v hj => (hb.cell (p := ⟨b, o + k * 5 + j, none⟩) hlt).trans (hc k z hk j v hj)⟩
theorem grant_cells {w : World} {b o k : Nat} {z : Gr} (h : ∀ j v, z.cells[j]? = some v → w.cell? ⟨b, o + k * 5 + j, none⟩ = some v) :
    w.cell? ⟨b, o + k * 5, none⟩ = some (.string z.name) ∧ w.cell? ⟨b, o + k * 5 + 1, none⟩ = some (.int .i64 z.l) ∧ w.cell? ⟨b, o + k * 5 + 2, none⟩ = some (.int .u64 z.s) ∧
    w.cell? ⟨b, o + k * 5 + 3, none⟩ = some (.int .i64 z.k) ∧ w.cell? ⟨b, o + k * 5 + 4, none⟩ = some (.int .u64 z.r) := ⟨h 0 _ rfl, h 1 _ rfl, h 2 _ rfl, h 3 _ rfl, h 4 _ rfl⟩
end Go.Proofs.Yteolenhgaekihaa.Right

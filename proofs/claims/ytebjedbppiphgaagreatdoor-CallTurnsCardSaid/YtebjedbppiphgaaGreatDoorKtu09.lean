/- The text of a decimal, and that what is told is read back; noughts ahead and behind. In lists and integers alone.
   What values are, in plain words: which may be, what is made, as a number, a text, a truth, and how they are shown. No function of the program is named here.
   Memory of four and of five cells: read, and written anew. No function of the program is named here. -/
import Derived.Test.YtebjedbppiphgaaGreatDoorKtu08
import Derived.Lib.ReplaceLaws
import Derived.Test.YtebjedbppiphgaaGreatDoorKtu03
namespace Go.Proofs.YtebjedbppiphgaaGreatDoor.Dig
open Dec
/- a whole number's digits -/
theorem dd_small {u : Nat} (h : u < 10) : Lib.decDigits u = [dg u] := Lib.decDigits_one h
theorem dd_big {u : Nat} (h : ¬ u < 10) : Lib.decDigits u = Lib.decDigits (u / 10) ++ [dg (u % 10)] := by rw [Lib.decDigits, dif_neg h]; rfl
theorem dd_len (k : Nat) : ∀ u, u < 10 ^ (k + 1) → (Lib.decDigits u).length ≤ k + 1 := by
  induction k with
  | zero => intro u h; rw [dd_small (by simpa using h)]; simp
  | succ k ih =>
    intro u h
    by_cases h10 : u < 10
    · rw [dd_small h10]; simp
    · rw [dd_big h10, List.length_append, List.length_singleton]
      have := ih (u / 10) (by rw [Nat.pow_succ] at h; omega)
      omega
theorem dd_len15 {u : Nat} (h : u < 1000000000000000) : (Lib.decDigits u).length ≤ 15 := dd_len 14 u h

/- what stands behind the point -/
def ds4 (r : Nat) : List UInt8 := [dg (r / 1000), dg (r / 100 % 10), dg (r / 10 % 10), dg (r % 10)]
def pl (r : Nat) : Nat := if r % 10 ≠ 0 then 4 else if r % 100 ≠ 0 then 3 else if r % 1000 ≠ 0 then 2 else if r ≠ 0 then 1 else 0
def partT (r : Nat) : List UInt8 := (ds4 r).take (pl r)
def fracL (r : Nat) : List UInt8 := if r = 0 then [] else 46 :: partT r
theorem pl_le (r : Nat) : pl r ≤ 4 := by unfold pl; repeat' split
                                         all_goals omega
theorem ds4_len (r : Nat) : (ds4 r).length = 4 := rfl
theorem part_len (r : Nat) : (partT r).length = pl r := by unfold partT; rw [List.length_take, ds4_len]; exact Nat.min_eq_left (pl_le r)
theorem dg_nought {d : Nat} (h : d < 10) : (dg d == 48) = decide (d = 0) := by
  rcases Nat.eq_zero_or_pos d with rfl | h0
  · rfl
  · rw [decide_eq_false (by omega)]
    rw [beq_eq_false_iff_ne]
    intro e
    have := congrArg UInt8.toNat e
    rw [dg_nat h, show (48 : UInt8).toNat = 48 from rfl] at this
    omega
/-- the program's way: a 1 ahead, cut off again, and noughts cut off behind -/
theorem behind_eq {r : Nat} (h : r < 10000) : Lib.decDigits (10000 + r) = 49 :: ds4 r := by
  rw [dd_big (by omega), dd_big (by omega), dd_big (by omega), dd_big (by omega), dd_small (by omega)]
  rw [show (10000 + r) / 10 / 10 / 10 / 10 = 1 by omega, show (10000 + r) / 10 / 10 / 10 % 10 = r / 1000 by omega, show (10000 + r) / 10 / 10 % 10 = r / 100 % 10 by omega, show (10000 + r) / 10 % 10 = r / 10 % 10 by omega, show (10000 + r) % 10 = r % 10 by omega]
  rfl
theorem trim_eq {r : Nat} (h : r < 10000) : Lib.trimRightB (ds4 r) 48 = partT r := by
  have e1 := dg_nought (show r / 1000 < 10 by omega)
  have e2 := dg_nought (show r / 100 % 10 < 10 by omega)
  have e3 := dg_nought (show r / 10 % 10 < 10 by omega)
  have e4 := dg_nought (show r % 10 < 10 by omega)
  unfold partT ds4 Lib.trimRightB
  generalize dg (r / 1000) = d1 at *
  generalize dg (r / 100 % 10) = d2 at *
  generalize dg (r / 10 % 10) = d3 at *
  generalize dg (r % 10) = d4 at *
  show (List.dropWhile _ [d4, d3, d2, d1]).reverse = _
  by_cases h1 : r % 10 ≠ 0
  · rw [show pl r = 4 by unfold pl; rw [if_pos h1]]
    rw [decide_eq_false h1] at e4
    rw [List.dropWhile_cons, if_neg (by rw [e4]; simp)]
    rfl
  rw [decide_eq_true (by omega)] at e4
  rw [List.dropWhile_cons, if_pos e4]
  by_cases h2 : r % 100 ≠ 0
  · rw [show pl r = 3 by unfold pl; rw [if_neg h1, if_pos h2]]
    rw [decide_eq_false (by omega)] at e3
    rw [List.dropWhile_cons, if_neg (by rw [e3]; simp)]
    rfl
  rw [decide_eq_true (by omega)] at e3
  rw [List.dropWhile_cons, if_pos e3]
  by_cases h3 : r % 1000 ≠ 0
  · rw [show pl r = 2 by unfold pl; rw [if_neg h1, if_neg h2, if_pos h3]]
    rw [decide_eq_false (by omega)] at e2
    rw [List.dropWhile_cons, if_neg (by rw [e2]; simp)]
    rfl
  rw [decide_eq_true (by omega)] at e2
  rw [List.dropWhile_cons, if_pos e2]
  by_cases h4 : r ≠ 0
  · rw [show pl r = 1 by unfold pl; rw [if_neg h1, if_neg h2, if_neg h3, if_pos h4]]
    rw [decide_eq_false (by omega)] at e1
    rw [List.dropWhile_cons, if_neg (by rw [e1]; simp)]
    rfl
  · rw [show pl r = 0 by unfold pl; rw [if_neg h1, if_neg h2, if_neg h3, if_neg h4]]
    rw [decide_eq_true (by omega)] at e1
    rw [List.dropWhile_cons, if_pos e1]
    rfl
/- a decimal's text -/
def textD (x : Int) : List UInt8 := if mayD x = true then sgnL (decide (x < 0)) ++ (Lib.decDigits (x.natAbs / 10000) ++ fracL (x.natAbs % 10000)) else []
theorem textD_may {x : Int} (h : mayD x = true) : textD x = sgnL (decide (x < 0)) ++ (Lib.decDigits (x.natAbs / 10000) ++ fracL (x.natAbs % 10000)) := by unfold textD; rw [if_pos h]
theorem textD_no {x : Int} (h : mayD x = false) : textD x = [] := by unfold textD; rw [if_neg (by rw [h]; simp)]
theorem frac_len (r : Nat) : (fracL r).length ≤ 5 := by
  unfold fracL
  split
  · simp
  · rw [List.length_cons, part_len]; have := pl_le r; omega
theorem natAbs_lt {x : Int} (h1 : -9223372036854775808 ≤ x) (h2 : x ≤ 9223372036854775807) : x.natAbs / 10000 < 1000000000000000 ∧ x.natAbs % 10000 < 10000 ∧ x.natAbs / 10000 * 10000 + x.natAbs % 10000 = x.natAbs := by omega
theorem text_len {x : Int} (h1 : -9223372036854775808 ≤ x) (h2 : x ≤ 9223372036854775807) : (textD x).length ≤ 21 := by
  obtain ⟨a, b, c⟩ := natAbs_lt h1 h2
  have dl := dd_len15 a
  have fl := frac_len (x.natAbs % 10000)
  unfold textD
  split
  · rw [List.length_append, List.length_append]
    have : (sgnL (decide (x < 0))).length ≤ 1 := by cases decide (x < 0) <;> simp [sgnL]
    omega
  · simp
/-- a number that a reader gives is in bounds -/
theorem giveD_room {b : Bool} {x n : Int} {k : Bool} (h : giveD b x = (n, k)) : -9223372036854775807 ≤ n ∧ n ≤ 9223372036854775807 := by
  unfold giveD at h
  split at h
  · rename_i hb
    obtain ⟨rfl, rfl⟩ := Prod.mk.inj h
    simp only [Bool.and_eq_true, okD, decide_eq_true_eq] at hb
    exact hb.2
  · obtain ⟨rfl, rfl⟩ := Prod.mk.inj h
    omega
theorem giveD_none {b : Bool} {x n : Int} (h : giveD b x = (n, false)) : n = 0 := by
  unfold giveD at h
  split at h
  · cases (Prod.mk.inj h).2
  · exact (Prod.mk.inj h).1.symm
theorem meantD_room {neg : Bool} {w p : List UInt8} {n : Int} {k : Bool} (h : meantD neg w p = (n, k)) : (-9223372036854775807 ≤ n ∧ n ≤ 9223372036854775807) ∧ (k = false → n = 0) := by
  unfold meantD at h
  split at h
  · obtain ⟨rfl, rfl⟩ := Prod.mk.inj h
    exact ⟨by omega, fun _ => rfl⟩
  · exact ⟨giveD_room h, fun hk => giveD_none (hk ▸ h)⟩
theorem readB_room {neg : Bool} {l : List UInt8} {n : Int} {k : Bool} (h : readB neg l = (n, k)) : (-9223372036854775807 ≤ n ∧ n ≤ 9223372036854775807) ∧ (k = false → n = 0) := by
  unfold readB at h
  split at h
  · obtain ⟨rfl, rfl⟩ := Prod.mk.inj h
    exact ⟨by omega, fun _ => rfl⟩
  · exact meantD_room h
theorem readD_room {t : List UInt8} {n : Int} {k : Bool} (h : readD t = (n, k)) : (-9223372036854775807 ≤ n ∧ n ≤ 9223372036854775807) ∧ (k = false → n = 0) := by
  unfold readD at h
  split at h
  · obtain ⟨rfl, rfl⟩ := Prod.mk.inj h
    exact ⟨by omega, fun _ => rfl⟩
  · split at h <;> exact readB_room h
end Go.Proofs.YtebjedbppiphgaaGreatDoor.Dig
namespace Go.Proofs.YtebjedbppiphgaaGreatDoor.Val
open Dec Dig
/-- may a value be? -/
def mayV (k n : Int) (t : ByteArray) : Bool :=
  (decide (k = 0) && decide (t.size = 0) && decide (n = 0)) || (decide (k = 1) && decide (t.size = 0) && mayD n) || (decide (k = 2) && decide (n = 0) && decide (t.size ≤ 256)) ||
  (decide (k = 3) && decide (t.size = 0) && (decide (n = 0) || decide (n = 1))) || (decide (k = 4) && decide (t.size = 0) && decide (1 ≤ n) && decide (n ≤ 7))
/-- a fault as text -/
def faultL (c : Int) : List UInt8 :=
  if c = 1 then [35, 68, 73, 86] else if c = 2 then [35, 86, 65, 76, 85, 69] else if c = 3 then [35, 82, 69, 70] else if c = 4 then [35, 78, 85, 77] else if c = 5 then [35, 78, 65] else
  if c = 6 then [35, 65, 85, 84, 72] else if c = 7 then [35, 67, 89, 67, 76, 69] else []
/-- the fault of a code -/
def badV (c : Int) : Int := if 1 ≤ c ∧ c ≤ 7 then c else 2
/-- the number of a decimal: its kind, and its number -/
def numV (x : Int) : Int × Int := if mayD x then (1, x) else (4, 4)
/-- the text: its kind, its number, and its text -/
def strV (t : ByteArray) : Int × Int × ByteArray := if t.size ≤ 256 then (2, 0, t) else (4, 2, ⟨#[]⟩)
theorem bad_in {c : Int} (h1 : 1 ≤ c) (h2 : c ≤ 7) : badV c = c := if_pos ⟨h1, h2⟩
theorem bad_out {c : Int} (h : c < 1 ∨ 7 < c) : badV c = 2 := if_neg (by omega)
theorem fault_out {c : Int} (h : c < 1 ∨ 7 < c) : faultL c = [] := by
  unfold faultL
  rw [if_neg (by omega), if_neg (by omega), if_neg (by omega), if_neg (by omega), if_neg (by omega), if_neg (by omega), if_neg (by omega)]
theorem num_in {x : Int} (h : mayD x = true) : numV x = (1, x) := if_pos h
theorem num_out {x : Int} (h : mayD x = false) : numV x = (4, 4) := if_neg (by simp [h])
theorem str_in {t : ByteArray} (h : t.size ≤ 256) : strV t = (2, 0, t) := if_pos h
theorem str_out {t : ByteArray} (h : 256 < t.size) : strV t = (4, 2, ⟨#[]⟩) := if_neg (by omega)
theorem size_none : decide ((⟨#[]⟩ : ByteArray).size = 0) = true := rfl
end Go.Proofs.YtebjedbppiphgaaGreatDoor.Val
namespace Go.Proofs.YtebjedbppiphgaaGreatDoor.Kit
open Go.RowKit Reg
theorem CellsAt.set {w : World} {b : Nat} {cs : List Value} (h : CellsAt w b cs) {i : Nat} (hi : i < cs.length) (x : Value) : CellsAt (w.setCell ⟨b, i, none⟩ x) b (cs.set i x) := by
  refine ⟨by simpa using h.1, fun j y hj => ?_⟩
  rw [World.frozen?_setCell]
  by_cases hij : i = j
  · subst hij
    rw [List.getElem?_set_self hi] at hj
    simp only [Option.some.injEq] at hj
    subst hj
    obtain ⟨c, f⟩ := h.2 i cs[i] (List.getElem?_eq_getElem hi)
    exact ⟨World.cell?_setCell_same' _ _ _ (by rw [c]; rfl), f⟩
  · rw [List.getElem?_set_ne hij] at hj
    obtain ⟨c, f⟩ := h.2 j y hj
    refine ⟨?_, f⟩
    rw [World.cell?_setCell_other (h := by intro e; simp at e)]
    exact c
/-- a store into another block -/
theorem CellsAt.far {w : World} {b : Nat} {cs : List Value} (h : CellsAt w b cs) {p : Addr} (hp : p.block ≠ b) (x : Value) : CellsAt (w.setCell p x) b cs := by
  refine ⟨by simpa using h.1, fun i y hi => ?_⟩
  rw [World.cell?_setCell_other (h := by intro e; rw [e] at hp; exact hp rfl), World.frozen?_setCell]
  exact h.2 i y hi
abbrev put2 (w : World) (b : Nat) (x y : Value) : World := (w.setCell ⟨b, 0, none⟩ x).setCell ⟨b, 1, none⟩ y
theorem CellsAt.put2 {w : World} {b : Nat} {a c : Value} (h : CellsAt w b [a, c]) (x y : Value) : CellsAt (put2 w b x y) b [x, y] := (h.set (i := 0) (by simp) x).set (i := 1) (by simp) y
theorem CellsAt.put2_far {w : World} {b : Nat} {cs : List Value} (h : CellsAt w b cs) {c : Nat} (hp : c ≠ b) (x y : Value) : CellsAt (Kit.put2 w c x y) b cs :=
  (h.far (p := ⟨c, 0, none⟩) hp x).far (p := ⟨c, 1, none⟩) hp y
abbrev put3 (w : World) (b : Nat) (x y z : Value) : World := ((w.setCell ⟨b, 0, none⟩ x).setCell ⟨b, 1, none⟩ y).setCell ⟨b, 2, none⟩ z
theorem CellsAt.put3 {w : World} {b : Nat} {a c d : Value} (h : CellsAt w b [a, c, d]) (x y z : Value) : CellsAt (Kit.put3 w b x y z) b [x, y, z] := ((h.set (i := 0) (by simp) x).set (i := 1) (by simp) y).set (i := 2) (by simp) z
theorem CellsAt.put3_far {w : World} {b : Nat} {cs : List Value} (h : CellsAt w b cs) {c : Nat} (hp : c ≠ b) (x y z : Value) : CellsAt (Kit.put3 w c x y z) b cs :=
  ((h.far (p := ⟨c, 0, none⟩) hp x).far (p := ⟨c, 1, none⟩) hp y).far (p := ⟨c, 2, none⟩) hp z
/-- new memory of a region, by its name -/
theorem NewCells.at {B b : Nat} {cs : List Value} {w : World} (h : Up (NewCells B cs (.pointer (some ⟨b, 0, none⟩))) w) : B ≤ b ∧ CellsAt w b cs := by
  obtain ⟨c, e, h1, h2⟩ := NewCells.up h
  simp only [Value.pointer.injEq, Option.some.injEq, Addr.mk.injEq, and_true] at e
  subst e
  exact ⟨h1, h2⟩
end Go.Proofs.YtebjedbppiphgaaGreatDoor.Kit

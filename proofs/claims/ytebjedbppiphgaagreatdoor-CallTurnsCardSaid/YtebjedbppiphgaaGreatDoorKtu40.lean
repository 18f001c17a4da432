/- The program's functions of lists: ofAll, ofMany, ofOrder, ranked. Written by wip/gen21h.py.
   How any two values that are no faults stand: what the program's Compare and the reference's answer is one number.
   What the reference's Binary answers. Written by wip/gen20g.py. -/
import Derived.Test.YtebjedbppiphgaaGreatDoorKtu39
import Derived.Test.YtebjedbppiphgaaGreatDoorKtu34
import Derived.Test.YtebjedbppiphgaaGreatDoorKtu32
import Derived.Test.YtebjedbppiphgaaGreatDoorKtu22
import Derived.Test.YtebjedbppiphgaaGreatDoorKtu14
import Derived.Test.YtebjedbppiphgaaGreatDoorKtu11
import Derived.Test.YtebjedbppiphgaaGreatDoorKtu23
import Derived.Test.YtebjedbppiphgaaGreatDoorKtu20
import Derived.Test.YtebjedbppiphgaaGreatDoorKtu36
import Derived.Test.YtebjedbppiphgaaGreatDoorKtu38
import Derived.BigQuiet
import Derived.Lib.SlBytesConst
namespace Go.Proofs.YtebjedbppiphgaaGreatDoor.Cal
open Go.RowKit Kit Reg Dec Dig Val Fld
/-- what a cell already holds, stored there once more, changes no cell -/
theorem cell_same {w : World} {p q : Addr} {v x : Value} (hp : w.cell? p = some v) (hq : w.cell? q = some x) : (w.setCell p v).cell? q = some x := by
  by_cases h : q = p
  · subst h
    rw [hp] at hq
    rw [← hq]
    simp [go_sem, hp]
  · rw [World.cell?_setCell_other (h := by intro e; exact h e.symm)]
    exact hq
theorem cell_same3 {w : World} {b : Nat} {u v r x : Value} {q : Addr} (m0 : w.cell? ⟨b, 0, none⟩ = some u) (m1 : w.cell? ⟨b, 1, none⟩ = some v) (m2 : w.cell? ⟨b, 2, none⟩ = some r) (hq : w.cell? q = some x) : (((w.setCell ⟨b, 0, none⟩ u).setCell ⟨b, 1, none⟩ v).setCell ⟨b, 2, none⟩ r).cell? q = some x :=
  cell_same (cell_same (cell_same m0 m1 |> fun h => h) (cell_same m0 m2)) (cell_same (cell_same m0 m1) (cell_same m0 hq))
set_option maxRecDepth 100000 in
set_option maxHeartbeats 2000000 in
theorem por_LARGE (A B : Option Addr) (n cap capb : Nat) (xs : List Int) (q : Nat) (hq : q ≤ 1000) (p : Int) (q1 : -9223372036854775807 ≤ p) (q2 : p ≤ 9223372036854775807) (w : World) (HN0 : ∀ w1, Below w.heap.size w w1 → Calls Tryz.prog 128 #[.slice A n cap] w1 fun e w' => ∃ A2 c2, e = .returned (.tuple #[.slice A2 q c2, .agg #[.int .i64 0, .int .i64 0, .string ⟨#[]⟩]]) ∧ Odr.NumsR w' A2 q c2 xs ∧ Below w1.heap.size w1 w')
    (HM0 : ∀ w1, Below w.heap.size w w1 → Calls Tryz.prog 77 #[.slice B 1 capb] w1 fun e w' => ∃ A2 c2, e = .returned (.tuple #[.slice A2 1 c2, .agg #[.int .i64 0, .int .i64 0, .string ⟨#[]⟩]]) ∧ IntsR w' A2 [p] ∧ Below w1.heap.size w1 w') :
    Calls Tryz.prog 57 #[.int .i64 34, .slice A n cap, .slice B 1 capb] w (IsV (gV (Odr.largeD xs (unI p))) w) := by
  obtain ⟨h2, hb2⟩ := first w [.int .i64 0, .int .i64 0, .string ⟨#[]⟩] 23
  have HN := Lib.hid HN0
  have HM := Lib.hid HM0
  have HI : Hid (∀ w1, Calls Tryz.prog 42 #[.agg #[.int .i64 0, .int .i64 0, .string ⟨#[]⟩]] w1 fun e w' => e = .returned (.bool false) ∧ Below w1.heap.size w1 w') := Lib.hid (fun w1 => isfault_v _ _ _ false rfl w1)
  have HU := Lib.hid (fun w1 => units_v p q1 q2 w1)
  obtain ⟨⟨r, k⟩, hd⟩ : ∃ y, Odr.largeD xs (unI p) = y := ⟨_, rfl⟩
  rw [hd]
  generalize unI p = u at *
  have HA : Hid (∀ A2 c2 w1, Odr.NumsR w1 A2 q c2 xs → Calls Tryz.prog 131 #[.slice A2 q c2, .int .i64 u] w1 fun e w' => e = .returned (.tuple #[.int .i64 r, .bool k]) ∧ Below w1.heap.size w1 w') := Lib.hid (fun A2 c2 w1 hr => Odr.large_c A2 q c2 xs hq u r k hd w1 hr)
  have HZ : Hid (∀ w1, Calls Tryz.prog 43 #[.int .i64 r, .bool k] w1 (IsV (gV (r, k)) w1)) := Lib.hid (fun w1 => got_v r k w1)
  obtain ⟨⟨a, b, c⟩, hz9⟩ : ∃ v, (gV (r, k)) = v := ⟨_, rfl⟩
  rw [hz9] at HZ ⊢
  clear hz9
  have HZ2 : Hid (∀ w1, Calls Tryz.prog 43 #[.int .i64 r, .bool k] w1 (ValIs a b c w1)) := HZ
  clear HZ
  show Calls Tryz.prog 57 _ w (ValIs a b c w)
  clear HN0 HM0 hd
  go_enter Tryz.func57, Tryz.ntmps57
  go_wp2_with fail
  generalize w.alloc (.cells #[.int .i64 0, .int .i64 0, .string ⟨#[]⟩] 23) = W at *
  refine (HN.out _ hb2).mono ?_
  rintro e w1 ⟨A2, c2, rfl, hnr, hb1⟩
  replace h2 := h2.on hb1
  replace hb2 := on hb2 hb1
  clear hb1
  replace hnr := Lib.hid hnr
  have hbn := below1 w1 (.cells #[.int .i64 0, .int .i64 0, .string ⟨#[]⟩] 23)
  have hgb := h2.1
  replace h2 := h2.on_alloc (.cells #[.int .i64 0, .int .i64 0, .string ⟨#[]⟩] 23)
  replace hb2 := on_alloc hb2 (.cells #[.int .i64 0, .int .i64 0, .string ⟨#[]⟩] 23)
  have hx := CellsAt.new w1 [.int .i64 0, .int .i64 0, .string ⟨#[]⟩] 23
  obtain ⟨x0, x1, x2, -⟩ := hx.three
  go_wp2_with fail
  generalize w1.alloc (.cells #[.int .i64 0, .int .i64 0, .string ⟨#[]⟩] 23) = X1 at *
  clear x0 x1 x2
  generalize hgb2 : w1.heap.size = gb at hx hgb ⊢
  refine (HI.out _).mono ?_
  rintro e w2 ⟨rfl, hb1⟩
  replace h2 := h2.on hb1
  replace hx := hx.on hb1
  replace hb2 := on hb2 hb1
  replace hbn := on hbn hb1
  clear hb1
  clear HN
  go_wp2_with fail
  refine (HM.out _ hb2).mono ?_
  rintro e w3 ⟨A3, c3, rfl, hr, hb1⟩
  replace h2 := h2.on hb1
  replace hx := hx.on hb1
  replace hb2 := on hb2 hb1
  replace hbn := on hbn hb1
  clear hb1
  obtain ⟨g3, o3, rfl, hg3, c0⟩ := hr.at (k := 0) rfl
  rw [Nat.add_zero] at c0
  clear hr
  have hne : w.heap.size ≠ gb := by have := hgb; omega
  obtain ⟨m0, m1, m2, f0, f1, f2⟩ := hx.three
  have hl9 := hx.1
  replace c0 := cell_same3 m0 m1 m2 c0
  replace hbn := set3 hbn (b := gb) (by rw [hgb2]; exact Nat.le_refl _) (.int .i64 0) (.int .i64 0) (.string ⟨#[]⟩)
  replace h2 := h2.put3_far (c := gb) (by omega) (.int .i64 0) (.int .i64 0) (.string ⟨#[]⟩)
  replace hb2 := set3 hb2 (b := gb) (by omega) (.int .i64 0) (.int .i64 0) (.string ⟨#[]⟩)
  replace hx := hx.put3 (.int .i64 0) (.int .i64 0) (.string ⟨#[]⟩)
  simp only [put3] at h2 hx
  go_wp2_with fail
  generalize (((w3.setCell ⟨gb, 0, none⟩ (.int .i64 0)).setCell ⟨gb, 1, none⟩ (.int .i64 0)).setCell ⟨gb, 2, none⟩ (.string ⟨#[]⟩)) = X5 at *
  clear m0 m1 m2 f0 f1 f2 hl9
  refine (HI.out _).mono ?_
  rintro e w4 ⟨rfl, hb1⟩
  replace h2 := h2.on hb1
  replace hb2 := on hb2 hb1
  replace hbn := on hbn hb1
  replace c0 := kept hb1 c0
  clear hb1 HI HM hne hx
  have hnr2 := Lib.hid (hnr.out.on hbn)
  clear hnr hbn hgb2 hgb
  go_wp2_with fail
  refine (HU.out _).mono ?_
  rintro e w5 ⟨rfl, hb1⟩
  replace h2 := h2.on hb1
  replace hnr2 := Lib.hid (hnr2.out.on hb1)
  replace hb2 := on hb2 hb1
  clear hb1
  clear c0 HU
  go_wp2_with fail
  refine (HA.out _ _ _ hnr2.out).mono ?_
  rintro e w6 ⟨rfl, hb1⟩
  replace h2 := h2.on hb1
  replace hb2 := on hb2 hb1
  clear hb1
  clear hnr2 HA
  go_wp2_with fail
  refine (HZ2.out _).mono ?_
  rintro e w7 ⟨rfl, hb1⟩
  replace h2 := h2.on hb1
  replace hb2 := on hb2 hb1
  clear hb1
  obtain ⟨⟨g0, p0, p1, p2, q0, q1, q2⟩, ⟨z0, z1, z2⟩, hb3⟩ := val_ends h2 hb2 (Nat.le_refl _) (.int .i64 a) (.int .i64 b) (.string c)
  clear h2 hb2
  go_wp2
  exact bodyPost_ret (v := .agg #[.int .i64 a, .int .i64 b, .string c]) (by simp [results, Tryz.results57, go_sem, z0, z1, z2]) rfl ⟨rfl, hb3⟩
end Go.Proofs.YtebjedbppiphgaaGreatDoor.Cal
namespace Go.Proofs.YtebjedbppiphgaaGreatDoor.Cal
open Go.RowKit Kit Reg Dec Dig Val Fld Lok
open Crt (wayI way_zero lessL cmp_less)
def cmpV (a b : Vl) : Int := if aheadV a b = true then -1 else if aheadV b a = true then 1 else 0
theorem cmp_ways3 (a b : Vl) : cmpV a b = -1 ∨ cmpV a b = 0 ∨ cmpV a b = 1 := by
  unfold cmpV
  split
  · exact .inl rfl
  · split
    · exact .inr (.inr rfl)
    · exact .inr (.inl rfl)
/-- values whose numbers differ, of kinds that go together, have no texts -/
theorem no_texts {a b : Vl} (ha : a.may) (hb : b.may) (h : a.k = 0 ∨ b.k = 0 ∨ a.k = b.k) (hn : ¬ a.n = b.n) : a.t = ⟨#[]⟩ ∧ b.t = ⟨#[]⟩ := by
  rcases may_ways ha with rfl | ⟨n, rfl, _⟩ | ⟨t, rfl, _⟩ | rfl | rfl | ⟨n, rfl, _⟩ <;> rcases may_ways hb with rfl | ⟨m, rfl, _⟩ | ⟨s, rfl, _⟩ | rfl | rfl | ⟨m, rfl, _⟩
  all_goals first | exact ⟨rfl, rfl⟩ | (exact absurd rfl hn) | (exfalso; rcases h with h | h | h <;> revert h <;> simp)
theorem cmp_prog {a b : Vl} (ha : a.may) (hb : b.may) : (¬ wayI (effK a.k b.k) (effK b.k a.k) = 0 ∧ cmpV a b = wayI (effK a.k b.k) (effK b.k a.k)) ∨
    (wayI (effK a.k b.k) (effK b.k a.k) = 0 ∧ ((¬ wayI a.n b.n = 0 ∧ cmpV a b = wayI a.n b.n) ∨ (wayI a.n b.n = 0 ∧ cmpV a b = Lib.compareBytes a.t.data.toList b.t.data.toList))) := by
  by_cases h : a.k = 0 ∨ b.k = 0 ∨ a.k = b.k
  · have h' : b.k = 0 ∨ a.k = 0 ∨ b.k = a.k := by rcases h with h | h | h; exact .inr (.inl h); exact .inl h; exact .inr (.inr h.symm)
    have e0 : wayI (effK a.k b.k) (effK b.k a.k) = 0 := way_zero.2 ((eff_same _ _).2 h)
    have e1 : aheadV a b = (decide (a.n < b.n) || lessL a.t.data.toList b.t.data.toList) := if_pos h
    have e2 : aheadV b a = (decide (b.n < a.n) || lessL b.t.data.toList a.t.data.toList) := if_pos h'
    refine .inr ⟨e0, ?_⟩
    unfold cmpV
    rw [e1, e2]
    by_cases hn : a.n = b.n
    · refine .inr ⟨way_zero.2 hn, ?_⟩
      rw [cmp_less, decide_eq_false (show ¬ a.n < b.n by omega), decide_eq_false (show ¬ b.n < a.n by omega), Bool.false_or, Bool.false_or]
    · refine .inl ⟨fun e => hn (way_zero.1 e), ?_⟩
      obtain ⟨t1, t2⟩ := no_texts ha hb h hn
      rw [t1, t2, less_self, Bool.or_false, Bool.or_false]
      unfold wayI
      simp only [decide_eq_true_eq]
  · have h' : ¬ (b.k = 0 ∨ a.k = 0 ∨ b.k = a.k) := by rintro (e | e | e); exact h (.inr (.inl e)); exact h (.inl e); exact h (.inr (.inr e.symm))
    have e1 : aheadV a b = decide (a.k < b.k) := if_neg h
    have e2 : aheadV b a = decide (b.k < a.k) := if_neg h'
    have k1 : effK a.k b.k = a.k := if_neg fun e => h (.inl e)
    have k2 : effK b.k a.k = b.k := if_neg fun e => h (.inr (.inl e))
    have hk : ¬ a.k = b.k := fun e => h (.inr (.inr e))
    rw [k1, k2]
    refine .inl ⟨fun e => hk (way_zero.1 e), ?_⟩
    unfold cmpV wayI
    rw [e1, e2]
    simp only [decide_eq_true_eq]
theorem compare_w (a b : Vl) (ha : a.may) (hb : b.may) (a4 : ¬ a.k = 4) (b4 : ¬ b.k = 4) (w : World) : Calls Tryz.prog 87 #[.agg #[.int .i64 a.k, .int .i64 a.n, .string a.t], .agg #[.int .i64 b.k, .int .i64 b.n, .string b.t]] w fun e w' => e = .returned (.int .i64 (cmpV a b)) ∧ Below w.heap.size w w' :=
  compare_any a.k b.k _ _ a.n b.n a.n b.n a.t b.t a.t b.t (k4_no a4) (k4_no b4) (fun w1 => beside_v a ha b.k w1) (fun w1 => beside_v b hb a.k w1) _ _ _ _ rfl rfl rfl (cmp_prog ha hb) w
end Go.Proofs.YtebjedbppiphgaaGreatDoor.Cal
namespace Go.Proofs.YtebjedbppiphgaaGreatDoor.Cal
open Go.RowKit Kit Reg Dec Dig Val Fld
open Txt (StrsO)
/-- how an operator takes both: by its number, counted from 0 on -/
def kinds12 : List Nat := [110, 110, 110, 110, 110, 115, 120, 120, 120, 120, 120, 120]
def kdN (k : Nat) : Nat := kinds12.getD k 0
/-- what an operator makes of two values that are taken, and are no faults -/
def truthC (k : Nat) (r : Int) : Bool := if k = 6 then decide (r = 0) else if k = 7 then decide (r ≠ 0) else if k = 8 then decide (r < 0) else if k = 9 then decide (r ≤ 0) else if k = 10 then decide (0 < r) else decide (0 ≤ r)
def takenV (k : Nat) (x y : Vl) : Vl := if k ≤ 4 then opV ((k : Int) + 1) x.n y.n else if k = 5 then tV (Txt.roomD (x.t.data.toList ++ y.t.data.toList)) else bV (truthC k (cmpV x y))
def binV (op : Int) (a b : Vl) : Vl := if op < 1 ∨ 12 < op then fV 2 else
  if (takeV (kdN (op.toNat - 1)) a).k = 4 then takeV (kdN (op.toNat - 1)) a else if (takeV (kdN (op.toNat - 1)) b).k = 4 then takeV (kdN (op.toNat - 1)) b else takenV (op.toNat - 1) (takeV (kdN (op.toNat - 1)) a) (takeV (kdN (op.toNat - 1)) b)
theorem binV_at {k : Nat} (hk : k < 12) (a b : Vl) : binV ((k : Int) + 1) a b = if (takeV (kdN k) a).k = 4 then takeV (kdN k) a else if (takeV (kdN k) b).k = 4 then takeV (kdN k) b else takenV k (takeV (kdN k) a) (takeV (kdN k) b) := by
  unfold binV
  rw [if_neg (by omega), show ((k : Int) + 1).toNat - 1 = k by omega]
end Go.Proofs.YtebjedbppiphgaaGreatDoor.Cal

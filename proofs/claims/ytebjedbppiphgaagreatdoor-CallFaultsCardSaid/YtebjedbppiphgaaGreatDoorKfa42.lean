/- How any two values that are no faults stand: what the program's Compare and the reference's answer is one number.
   What the reference's Binary answers. Written by wip/gen20g.py. -/
import Derived.Test.YtebjedbppiphgaaGreatDoorKfa19
import Derived.Test.YtebjedbppiphgaaGreatDoorKfa34
import Derived.Test.YtebjedbppiphgaaGreatDoorKfa36
import Derived.Test.YtebjedbppiphgaaGreatDoorKfa21
import Derived.BigQuiet
import Derived.Lib.SlBytesConst
namespace Go.Proofs.YtebjedbppiphgaaGreatDoor.Cal
open Go.RowKit Kit Reg Dec Dig Val Fld Lok
open Crt (wayI way_zero lessL cmp_less)
def cmpV (a b : Vl) : Int := if aheadV a b = true then -1 else if aheadV b a = true then 1 else 0
theorem cmp_ways3 (a b : Vl) : cmpV a b = -1 ∨ cmpV a b = 0 ∨ cmpV a b = 1 := by
  unfold cmpV
  split
  · exact .inl rfl
  · split
    · exact .inr (.inr rfl)
    · exact .inr (.inl rfl)
/-- values whose numbers differ, of kinds that go together, have no texts -/
theorem no_texts {a b : Vl} (ha : a.may) (hb : b.may) (h : a.k = 0 ∨ b.k = 0 ∨ a.k = b.k) (hn : ¬ a.n = b.n) : a.t = ⟨#[]⟩ ∧ b.t = ⟨#[]⟩ := by
  rcases may_ways ha with rfl | ⟨n, rfl, _⟩ | ⟨t, rfl, _⟩ | rfl | rfl | ⟨n, rfl, _⟩ <;> rcases may_ways hb with rfl | ⟨m, rfl, _⟩ | ⟨s, rfl, _⟩ | rfl | rfl | ⟨m, rfl, _⟩
  all_goals first | exact ⟨rfl, rfl⟩ | (exact absurd rfl hn) | (exfalso; rcases h with h | h | h <;> revert h <;> simp)
theorem cmp_prog {a b : Vl} (ha : a.may) (hb : b.may) : (¬ wayI (effK a.k b.k) (effK b.k a.k) = 0 ∧ cmpV a b = wayI (effK a.k b.k) (effK b.k a.k)) ∨
    (wayI (effK a.k b.k) (effK b.k a.k) = 0 ∧ ((¬ wayI a.n b.n = 0 ∧ cmpV a b = wayI a.n b.n) ∨ (wayI a.n b.n = 0 ∧ cmpV a b = Lib.compareBytes a.t.data.toList b.t.data.toList))) := by
  by_cases h : a.k = 0 ∨ b.k = 0 ∨ a.k = b.k
  · have h' : b.k = 0 ∨ a.k = 0 ∨ b.k = a.k := by rcases h with h | h | h; exact .inr (.inl h); exact .inl h; exact .inr (.inr h.symm)
    have e0 : wayI (effK a.k b.k) (effK b.k a.k) = 0 := way_zero.2 ((eff_same _ _).2 h)
    have e1 : aheadV a b = (decide (a.n < b.n) || lessL a.t.data.toList b.t.data.toList) := if_pos h
    have e2 : aheadV b a = (decide (b.n < a.n) || lessL b.t.data.toList a.t.data.toList) := if_pos h'
    refine .inr ⟨e0, ?_⟩
    unfold cmpV
    rw [e1, e2]
    by_cases hn : a.n = b.n
    · refine .inr ⟨way_zero.2 hn, ?_⟩
      rw [cmp_less, decide_eq_false (show ¬ a.n < b.n by omega), decide_eq_false (show ¬ b.n < a.n by omega), Bool.false_or, Bool.false_or]
    · refine .inl ⟨fun e => hn (way_zero.1 e), ?_⟩
      obtain ⟨t1, t2⟩ := no_texts ha hb h hn
      rw [t1, t2, less_self, Bool.or_false, Bool.or_false]
      unfold wayI
      simp only [decide_eq_true_eq]
  · have h' : ¬ (b.k = 0 ∨ a.k = 0 ∨ b.k = a.k) := by rintro (e | e | e); exact h (.inr (.inl e)); exact h (.inl e); exact h (.inr (.inr e.symm))
    have e1 : aheadV a b = decide (a.k < b.k) := if_neg h
    have e2 : aheadV b a = decide (b.k < a.k) := if_neg h'
    have k1 : effK a.k b.k = a.k := if_neg fun e => h (.inl e)
    have k2 : effK b.k a.k = b.k := if_neg fun e => h (.inr (.inl e))
    have hk : ¬ a.k = b.k := fun e => h (.inr (.inr e))
    rw [k1, k2]
    refine .inl ⟨fun e => hk (way_zero.1 e), ?_⟩
    unfold cmpV wayI
    rw [e1, e2]
    simp only [decide_eq_true_eq]
theorem compare_w (a b : Vl) (ha : a.may) (hb : b.may) (a4 : ¬ a.k = 4) (b4 : ¬ b.k = 4) (w : World) : Calls Tryz.prog 87 #[.agg #[.int .i64 a.k, .int .i64 a.n, .string a.t], .agg #[.int .i64 b.k, .int .i64 b.n, .string b.t]] w fun e w' => e = .returned (.int .i64 (cmpV a b)) ∧ Below w.heap.size w w' :=
  compare_any a.k b.k _ _ a.n b.n a.n b.n a.t b.t a.t b.t (k4_no a4) (k4_no b4) (fun w1 => beside_v a ha b.k w1) (fun w1 => beside_v b hb a.k w1) _ _ _ _ rfl rfl rfl (cmp_prog ha hb) w
end Go.Proofs.YtebjedbppiphgaaGreatDoor.Cal
namespace Go.Proofs.YtebjedbppiphgaaGreatDoor.Cal
open Go.RowKit Kit Reg Dec Dig Val Fld
open Txt (StrsO)
/-- how an operator takes both: by its number, counted from 0 on -/
def kinds12 : List Nat := [110, 110, 110, 110, 110, 115, 120, 120, 120, 120, 120, 120]
def kdN (k : Nat) : Nat := kinds12.getD k 0
/-- what an operator makes of two values that are taken, and are no faults -/
def truthC (k : Nat) (r : Int) : Bool := if k = 6 then decide (r = 0) else if k = 7 then decide (r ≠ 0) else if k = 8 then decide (r < 0) else if k = 9 then decide (r ≤ 0) else if k = 10 then decide (0 < r) else decide (0 ≤ r)
def takenV (k : Nat) (x y : Vl) : Vl := if k ≤ 4 then opV ((k : Int) + 1) x.n y.n else if k = 5 then tV (Txt.roomD (x.t.data.toList ++ y.t.data.toList)) else bV (truthC k (cmpV x y))
def binV (op : Int) (a b : Vl) : Vl := if op < 1 ∨ 12 < op then fV 2 else
  if (takeV (kdN (op.toNat - 1)) a).k = 4 then takeV (kdN (op.toNat - 1)) a else if (takeV (kdN (op.toNat - 1)) b).k = 4 then takeV (kdN (op.toNat - 1)) b else takenV (op.toNat - 1) (takeV (kdN (op.toNat - 1)) a) (takeV (kdN (op.toNat - 1)) b)
theorem binV_at {k : Nat} (hk : k < 12) (a b : Vl) : binV ((k : Int) + 1) a b = if (takeV (kdN k) a).k = 4 then takeV (kdN k) a else if (takeV (kdN k) b).k = 4 then takeV (kdN k) b else takenV k (takeV (kdN k) a) (takeV (kdN k) b) := by
  unfold binV
  rw [if_neg (by omega), show ((k : Int) + 1).toNat - 1 = k by omega]
end Go.Proofs.YtebjedbppiphgaaGreatDoor.Cal

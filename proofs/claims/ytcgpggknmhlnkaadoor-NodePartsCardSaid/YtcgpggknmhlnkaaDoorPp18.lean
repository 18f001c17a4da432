/- What the reference's small functions on labels answer: for every two labels.
   What the reference's Text of a label answers: for every label.
   What the reference's Parse of a label answers: for every text of at most 2^63 - 3 bytes.
   What the reference's ref and arg answer. Written by wip/gen22arg.py. -/
import Derived.Test.YtcgpggknmhlnkaaDoorPp16
import Derived.Test.YtcgpggknmhlnkaaDoorPp17
import Derived.Deep.RegionHeld3
import Derived.Test.YtcgpggknmhlnkaaDoorPp06
import Derived.Test.YtcgpggknmhlnkaaDoorPp08
namespace Go.Proofs.YtcgpggknmhlnkaaDoor.Cats
open Go.RowKit
theorem below1 (w : World) (a : Obj) : Below w.heap.size w (w.alloc a) := (Below.refl _ _).alloc (Nat.le_refl _) a
theorem below2 (w : World) (a b : Obj) : Below w.heap.size w ((w.alloc a).alloc b) := (below1 w a).alloc (by simp) b
theorem below3 (w : World) (a b c : Obj) : Below w.heap.size w (((w.alloc a).alloc b).alloc c) := (below2 w a b).alloc (by simp; omega) c
def EvAt (k q : Nat) : Prop := q + 1 = 2 ^ k
theorem EvAt.U {k q : Nat} (h : EvAt k q) (hk : k ≤ 64) : U q := by
  have : 2 ^ k ≤ 2 ^ 64 := Nat.pow_le_pow_right (by decide) hk
  unfold EvAt at h
  exact U.of (by omega)
theorem EvAt.next {k q : Nat} (h : EvAt k q) : EvAt (k + 1) (q * 2 + 1) := by
  unfold EvAt at *
  rw [Nat.pow_succ]
  omega
theorem EvAt.done {q : Nat} (h : EvAt 64 q) : q = allN := by unfold EvAt at h; unfold allN; omega
end Go.Proofs.YtcgpggknmhlnkaaDoor.Cats
namespace Go.Proofs.YtcgpggknmhlnkaaDoor.Cats
open Go.RowKit
theorem mk_two (a b : List UInt8) : (⟨a.toArray⟩ : ByteArray) ++ ⟨b.toArray⟩ = ⟨(a ++ b).toArray⟩ := by
  apply ByteArray.ext
  simp
theorem mk_three (a b c : List UInt8) : (⟨a.toArray⟩ : ByteArray) ++ ⟨b.toArray⟩ ++ ⟨c.toArray⟩ = ⟨(a ++ (b ++ c)).toArray⟩ := by rw [mk_two, mk_two, List.append_assoc]
end Go.Proofs.YtcgpggknmhlnkaaDoor.Cats
namespace Go.Proofs.YtcgpggknmhlnkaaDoor.Cats
open Go.RowKit
theorem three_set {w2 : World} {b : Nat} {x y z u v r : Value} (c0 : w2.cell? ⟨b, 0, none⟩ = some x) (c1 : w2.cell? ⟨b, 1, none⟩ = some y) (c2 : w2.cell? ⟨b, 2, none⟩ = some z) :
    (((w2.setCell ⟨b, 0, none⟩ u).setCell ⟨b, 1, none⟩ v).setCell ⟨b, 2, none⟩ r).cell? ⟨b, 0, none⟩ = some u ∧ (((w2.setCell ⟨b, 0, none⟩ u).setCell ⟨b, 1, none⟩ v).setCell ⟨b, 2, none⟩ r).cell? ⟨b, 1, none⟩ = some v ∧
      (((w2.setCell ⟨b, 0, none⟩ u).setCell ⟨b, 1, none⟩ v).setCell ⟨b, 2, none⟩ r).cell? ⟨b, 2, none⟩ = some r := by
  have h0 : (w2.setCell ⟨b, 0, none⟩ u).cell? ⟨b, 0, none⟩ = some u := by simp [go_sem, c0]
  have h1 : (w2.setCell ⟨b, 0, none⟩ u).cell? ⟨b, 1, none⟩ = some y := by simp [go_sem, c1]
  have h2 : (w2.setCell ⟨b, 0, none⟩ u).cell? ⟨b, 2, none⟩ = some z := by simp [go_sem, c2]
  have h3 : ((w2.setCell ⟨b, 0, none⟩ u).setCell ⟨b, 1, none⟩ v).cell? ⟨b, 0, none⟩ = some u := by simp [go_sem, h0]
  have h4 : ((w2.setCell ⟨b, 0, none⟩ u).setCell ⟨b, 1, none⟩ v).cell? ⟨b, 1, none⟩ = some v := by simp [go_sem, h1]
  have h5 : ((w2.setCell ⟨b, 0, none⟩ u).setCell ⟨b, 1, none⟩ v).cell? ⟨b, 2, none⟩ = some z := by simp [go_sem, h2]
  exact ⟨by simp [go_sem, h3], by simp [go_sem, h4], by simp [go_sem, h5]⟩
end Go.Proofs.YtcgpggknmhlnkaaDoor.Cats
namespace Go.Proofs.YtcgpggknmhlnkaaDoor.Nod
open Go.RowKit Kit Reg
open Go.Proofs.YtcgpggknmhlnkaaDoor.Cats (LabIs LabIs.unique)
open Classical in
/-- is a text a label's? -/
noncomputable def labB (t : List UInt8) : Bool := decide (∃ l s, LabIs t l s true)
theorem labB_is {t : List UInt8} {l : Int} {s : Nat} {b : Bool} (h : LabIs t l s b) : labB t = b := by
  classical
  unfold labB
  cases b with
  | true => simp only [decide_eq_true_eq]; exact ⟨l, s, h⟩
  | false => simp only [decide_eq_false_iff_not]; exact fun ⟨l', s', h'⟩ => by have := (h.unique h').2.2; cases this
/-- may a node be an argument of a kind? -/
noncomputable def argV (kd : UInt8) (h : Hd) : Bool :=
  if kd = 118 ∨ kd = 101 then !(h.k == 4) else if kd = 114 ∨ kd = 110 then decide (2 ≤ h.k) && decide (h.k ≤ 4)
  else if kd = 116 then (h.k == 1) && ((h.vk == 2) && labB h.vt.data.toList) else kd == 108
theorem kd_no {kd : UInt8} {m : Nat} (hm : m < 256) (h : ¬ kd = UInt8.ofNat m) : ((kd.toNat : Int) == (m : Int)) = false := beq_eq_false_iff_ne.2 fun e => h (UInt8.toNat_inj.1 (by rw [UInt8.toNat_ofNat_of_lt' (by show m < 256; exact hm)]; omega))
end Go.Proofs.YtcgpggknmhlnkaaDoor.Nod

/- What the reference's read and Of answer: for every value that may be. Written by wip/gen17b.py.
   What the reference's Like answers: its table, row by row: for every pattern and every text of at most a thousand bytes.
   What the program's and the reference's Hits answer, put together: one function of what is looked for and of the value; the laws' check of life. Written by wip/gen17e.py.
   The sum of the products of two tables' values, in plain lists: as the program has it (all products, then their sum) and as the reference has it (one behind the other). No function of the program is named here.
   The sum of the products: package look's number and Products. Written by wip/gen18i.py.
   The hits of any values; and the laws' check of life. Written by wip/gen18l.py.
   The laws' one: a table of one value.
   What operators answer: it may be; what turns: integers and lists alone.
   CallOperates, from what the program's Binary and Minus and alive answer. Written by wip/gen20s.py. -/
import Derived.Test.YtebjedbppiphgaaGreatDoorKtu15
import Derived.Test.YtebjedbppiphgaaGreatDoorKtu14
import Derived.Test.YtebjedbppiphgaaGreatDoorKtu11
import Derived.Test.YtebjedbppiphgaaGreatDoorKtu23
import Derived.Test.YtebjedbppiphgaaGreatDoorKtu29
import Derived.Test.YtebjedbppiphgaaGreatDoorKtu09
import Derived.Laws.MakeOwn
import Derived.Test.YtebjedbppiphgaaGreatDoorKtu36
import Derived.Test.YtebjedbppiphgaaGreatDoorKtu17
import Derived.Test.YtebjedbppiphgaaGreatDoorKtu10
import Derived.Test.YtebjedbppiphgaaGreatDoorKtu30
import Derived.Test.YtebjedbppiphgaaGreatDoorKtu27
import Derived.Test.YtebjedbppiphgaaGreatDoorKtu26
import Derived.Test.YtebjedbppiphgaaGreatDoorKtu37
import Derived.Test.YtebjedbppiphgaaGreatDoorKtu25
import Derived.Test.YtebjedbppiphgaaGreatDoorKtu32
import Derived.Test.YtebjedbppiphgaaGreatDoorKtu24
import Derived.Test.YtebjedbppiphgaaGreatDoorKtu40
import Derived.BigQuiet
namespace Go.Proofs.YtebjedbppiphgaaGreatDoor.Crt
open Go.RowKit Kit Reg Dec Dig Val
/-- the memory that Of has made, ahead of its loop -/
structure OfMem (w w4 : World) : Prop where
  res : CellsAt w4 (w.heap.size + 1) [.int .i64 0, .int .i64 0, .int .i64 0, .string ⟨#[]⟩]
  words : CellsAt w4 (w.heap.size + 2) [.string ⟨#[60, 62]⟩, .string ⟨#[60, 61]⟩, .string ⟨#[62, 61]⟩, .string ⟨#[60]⟩, .string ⟨#[62]⟩, .string ⟨#[61]⟩]
  ops : CellsAt w4 (w.heap.size + 3) [.int .i64 8, .int .i64 10, .int .i64 12, .int .i64 9, .int .i64 11, .int .i64 7]
  below : Below w.heap.size w w4

theorem OfMem.start (w : World) (k : Int) (t : ByteArray) : OfMem w ((((w.alloc (.cells #[.int .i64 k, .int .i64 0, .string t] 23)).alloc (.cells #[.int .i64 0, .int .i64 0, .int .i64 0, .string ⟨#[]⟩] 233)).alloc (.cells #[.string ⟨#[60, 62]⟩, .string ⟨#[60, 61]⟩, .string ⟨#[62, 61]⟩, .string ⟨#[60]⟩, .string ⟨#[62]⟩, .string ⟨#[61]⟩] 9)).alloc (.cells #[.int .i64 8, .int .i64 10, .int .i64 12, .int .i64 9, .int .i64 11, .int .i64 7] 3)) := by
  refine ⟨(((cells_new (g := w.heap.size + 1) (by simp) [.int .i64 0, .int .i64 0, .int .i64 0, .string ⟨#[]⟩] _).on_alloc _).on_alloc _), ((cells_new (g := w.heap.size + 2) (by simp) [.string ⟨#[60, 62]⟩, .string ⟨#[60, 61]⟩, .string ⟨#[62, 61]⟩, .string ⟨#[60]⟩, .string ⟨#[62]⟩, .string ⟨#[61]⟩] _).on_alloc _), cells_new (g := w.heap.size + 3) (by simp) [.int .i64 8, .int .i64 10, .int .i64 12, .int .i64 9, .int .i64 11, .int .i64 7] _, below4 _ _ _ _ _⟩
end Go.Proofs.YtebjedbppiphgaaGreatDoor.Crt
namespace Go.Proofs.YtebjedbppiphgaaGreatDoor.Crt
open Go.RowKit Kit Reg Dec Dig
theorem infoT : (Tryz.prog.info? 4).map (fun i => (i.zero, i.size, i.bytes)) = some (some (.bool false), 1, 1) := by kernel_rfl
end Go.Proofs.YtebjedbppiphgaaGreatDoor.Crt
namespace Go.Proofs.YtebjedbppiphgaaGreatDoor.Crt
open Go.RowKit Kit Reg Dec Dig Val
/-- what a law's call answers -/
def LawEnd (w : World) : Ending → World → Prop := fun e w' => e = .returned (.bool true) ∧ Below w.heap.size w w'
theorem none_of {t : ByteArray} (h : decide (t.size = 0) = true) : t = ⟨#[]⟩ := by
  rcases empty_or t with rfl | ⟨_, hz⟩
  · rfl
  · rw [hz] at h; cases h
theorem may_ways {k n : Int} {t : ByteArray} (h : mayV k n t = true) :
    (k = 0 ∧ n = 0 ∧ t = ⟨#[]⟩) ∨ (k = 1 ∧ t = ⟨#[]⟩ ∧ mayD n = true) ∨ (k = 2 ∧ n = 0 ∧ t.size ≤ 256) ∨ (k = 3 ∧ t = ⟨#[]⟩ ∧ (n = 0 ∨ n = 1)) ∨ (k = 4 ∧ t = ⟨#[]⟩) := by
  unfold mayV at h
  simp only [Bool.or_eq_true, Bool.and_eq_true] at h
  rcases h with (((⟨⟨h1, h2⟩, h3⟩ | ⟨⟨h1, h2⟩, h3⟩) | ⟨⟨h1, h2⟩, h3⟩) | ⟨⟨h1, h2⟩, h3⟩) | ⟨⟨⟨h1, h2⟩, h3⟩, h4⟩
  · exact .inl ⟨of_decide_eq_true h1, of_decide_eq_true h3, none_of h2⟩
  · exact .inr (.inl ⟨of_decide_eq_true h1, none_of h2, h3⟩)
  · exact .inr (.inr (.inl ⟨of_decide_eq_true h1, of_decide_eq_true h2, of_decide_eq_true h3⟩))
  · exact .inr (.inr (.inr (.inl ⟨of_decide_eq_true h1, none_of h2, h3.imp of_decide_eq_true of_decide_eq_true⟩)))
  · exact .inr (.inr (.inr (.inr ⟨of_decide_eq_true h1, none_of h2⟩)))
end Go.Proofs.YtebjedbppiphgaaGreatDoor.Crt
namespace Go.Proofs.YtebjedbppiphgaaGreatDoor.Lok
open Dec Dig Val Fld
/-- the number as which a value counts, and the product of two -/
def numN (v : Vl) : Int := if v.k = 1 then v.n else 0
theorem scaled_zero {a : Int} (h : -9223372036854775807 ≤ a) : scaledD a 0 10000 = (0, true) := by
  have hr : roundN (a.natAbs * (0 : Int).natAbs) (10000 : Int).natAbs = 0 := by
    show roundN (a.natAbs * 0) 10000 = 0
    rw [Nat.mul_zero]
    rfl
  rw [scaledD_in h (by omega) (by omega) (by omega) hr (by omega)]
  unfold signed
  split <;> rfl
end Go.Proofs.YtebjedbppiphgaaGreatDoor.Lok
namespace Go.Proofs.YtebjedbppiphgaaGreatDoor.Lok
open Go.RowKit Kit Reg Dec Dig Val Fld
/-- a new slice of one value -/
def NewV (cs : List Value) (v : Value) (w : World) : Prop := ∃ b, v = .slice (some ⟨b, 0, none⟩) 1 1 ∧ CellsAt w b cs
theorem NewV.up {cs : List Value} {v : Value} {w : World} (h : Up (NewV cs v) w) : NewV cs v w := by
  obtain ⟨w1, ⟨b, e, h1⟩, hb⟩ := h
  exact ⟨b, e, h1.on hb⟩
end Go.Proofs.YtebjedbppiphgaaGreatDoor.Lok
namespace Go.Proofs.YtebjedbppiphgaaGreatDoor.Lok
open Go.RowKit Kit Reg Dec Dig Val Fld
open Crt (CLibs LawEnd)
/-- a block that holds the cells of values reads as them -/
theorem vals_of_cells {w : World} {b n : Nat} {L : List Vl} (h : CellsAt w b (flatV L)) (hl : L.length = n) (hn : n ≤ 1000) (hf : ∀ v ∈ L, v.fits) : ValsR w (some ⟨b, 0, none⟩) n L :=
  ⟨hl, hn, hf, fun _ => ⟨b, 0, rfl, h.1, fun k v hk j x hj => by
    rw [Nat.zero_add]
    exact (h.2 _ x (flatV_at L k v hk j x hj)).1⟩⟩
end Go.Proofs.YtebjedbppiphgaaGreatDoor.Lok
namespace Go.Proofs.YtebjedbppiphgaaGreatDoor.Cal
open Go.RowKit Kit Reg Dec Dig Val Fld
set_option maxRecDepth 100000 in
set_option maxHeartbeats 2000000 in
theorem one_c (xk xn : Int) (xt : ByteArray) (hx : (⟨xk, xn, xt⟩ : Vl).fits) (w : World) :
    Calls Tryz.prog 25 #[.agg #[.int .i64 xk, .int .i64 xn, .string xt]] w fun e w' => ∃ g, w.heap.size ≤ g ∧ e = .returned (.agg #[.int .i64 1, .int .i64 1, .slice (some ⟨g, 0, none⟩) 1 1]) ∧ ValsR w' (some ⟨g, 0, none⟩) 1 [⟨xk, xn, xt⟩] ∧ Below w.heap.size w w' := by
  go_enter Tryz.func25, Tryz.ntmps25
  go_wp2_with fail
  have hb := on_alloc (below2 w (.cells #[.int .i64 xk, .int .i64 xn, .string xt] 23) (.cells #[.int .i64 1, .int .i64 1, .slice (some ⟨w.heap.size + 1 + 1, 0, none⟩) 1 1] 33)) (.cells #[.int .i64 xk, .int .i64 xn, .string xt] 23)
  have h2 := (CellsAt.new (w.alloc (.cells #[.int .i64 xk, .int .i64 xn, .string xt] 23)) [.int .i64 1, .int .i64 1, .slice (some ⟨w.heap.size + 1 + 1, 0, none⟩) 1 1] 33).on_alloc (.cells #[.int .i64 xk, .int .i64 xn, .string xt] 23)
  have h3 := CellsAt.new ((w.alloc (.cells #[.int .i64 xk, .int .i64 xn, .string xt] 23)).alloc (.cells #[.int .i64 1, .int .i64 1, .slice (some ⟨w.heap.size + 1 + 1, 0, none⟩) 1 1] 33)) [.int .i64 xk, .int .i64 xn, .string xt] 23
  rw [show (w.alloc (.cells #[.int .i64 xk, .int .i64 xn, .string xt] 23)).heap.size = w.heap.size + 1 by simp] at h2
  rw [show ((w.alloc (.cells #[.int .i64 xk, .int .i64 xn, .string xt] 23)).alloc (.cells #[.int .i64 1, .int .i64 1, .slice (some ⟨w.heap.size + 1 + 1, 0, none⟩) 1 1] 33)).heap.size = w.heap.size + 1 + 1 by simp] at h3
  generalize (((w.alloc (.cells #[.int .i64 xk, .int .i64 xn, .string xt] 23)).alloc (.cells #[.int .i64 1, .int .i64 1, .slice (some ⟨w.heap.size + 1 + 1, 0, none⟩) 1 1] 33)).alloc (.cells #[.int .i64 xk, .int .i64 xn, .string xt] 23)) = W at *
  obtain ⟨z0, z1, z2, -⟩ := h2.three
  have hv : ValsR W (some ⟨w.heap.size + 1 + 1, 0, none⟩) 1 [⟨xk, xn, xt⟩] := Lok.vals_of_cells (L := [⟨xk, xn, xt⟩]) h3 rfl (by decide) (fun v hv => by rw [List.mem_singleton.1 hv]; exact hx)
  exact bodyPost_ret (v := .agg #[.int .i64 1, .int .i64 1, .slice (some ⟨w.heap.size + 1 + 1, 0, none⟩) 1 1]) (by simp [results, Tryz.results25, go_sem, z0, z1, z2]) rfl ⟨_, by omega, rfl, hv, hb⟩
end Go.Proofs.YtebjedbppiphgaaGreatDoor.Cal
namespace Go.Proofs.YtebjedbppiphgaaGreatDoor.Cal
open Go.RowKit Kit Dec Dig Val Fld
/-- an operator of numbers: both are numbers, or a fault is the answer -/
theorem bin_nums {k : Nat} (hk : k ≤ 4) {a b : Vl} (ha : Ok a) (hb : Ok b) :
    (∃ x y, numT a = nV x ∧ numT b = nV y ∧ (-9223372036854775807 ≤ x ∧ x ≤ 9223372036854775807) ∧ (-9223372036854775807 ≤ y ∧ y ≤ 9223372036854775807) ∧ binV ((k : Int) + 1) a b = opV ((k : Int) + 1) x y) ∨
      ((∃ c, numT a = fV c ∨ numT b = fV c) ∧ (binV ((k : Int) + 1) a b).k = 4) := by
  have e : ∀ v, takeV (kdN k) v = numT v := fun v => by
    have : kdN k = 110 := by
      have : k = 0 ∨ k = 1 ∨ k = 2 ∨ k = 3 ∨ k = 4 := by omega
      rcases this with rfl | rfl | rfl | rfl | rfl <;> rfl
    rw [this]
    exact if_pos rfl
  rw [binV_at (by omega), e, e]
  rcases num_ways ha with ⟨x, h, h1, h2⟩ | ⟨c, h, _⟩
  · rcases num_ways hb with ⟨y, g, g1, g2⟩ | ⟨c, g, _⟩
    · refine .inl ⟨x, y, h, g, ⟨h1, h2⟩, ⟨g1, g2⟩, ?_⟩
      rw [h, g, if_neg (by simp [nV]), if_neg (by simp [nV])]
      exact if_pos hk
    · refine .inr ⟨⟨c, .inr g⟩, ?_⟩
      rw [h, g, if_neg (by simp [nV]), if_pos (show (fV c).k = 4 from rfl)]
      rfl
  · refine .inr ⟨⟨c, .inl h⟩, ?_⟩
    rw [h, if_pos (show (fV c).k = 4 from rfl)]
    rfl
theorem addD_comm (a b : Int) : addD a b = addD b a := by unfold addD; rw [Bool.and_comm, Int.add_comm]
theorem negs_comm (a b c : Int) : negs a b c = negs b a c := by
  unfold negs
  cases decide (a < 0) <;> cases decide (b < 0) <;> cases decide (c < 0) <;> rfl
theorem scaledD_comm (a b c : Int) : scaledD a b c = scaledD b a c := by
  unfold scaledD
  rw [Bool.and_comm (mayD a), Nat.mul_comm, negs_comm]
/-- a sum the other way round -/
theorem turn_sum {a b : Vl} (ha : Ok a) (hb : Ok b) (h : (binV 1 a b).k = 1) : binV 1 b a = binV 1 a b := by
  rcases bin_nums (k := 0) (by decide) ha hb with ⟨x, y, h1, h2, _, _, e⟩ | ⟨_, e⟩
  · rcases bin_nums (k := 0) (by decide) hb ha with ⟨x', y', g1, g2, _, _, e'⟩ | ⟨⟨c, g | g⟩, _⟩
    · rw [h2] at g1
      rw [h1] at g2
      obtain rfl : y = x' := by simpa [nV] using g1
      obtain rfl : x = y' := by simpa [nV] using g2
      refine e'.trans (Eq.trans ?_ e.symm)
      show gV (addD y x) = gV (addD x y)
      rw [addD_comm]
    · rw [h2] at g; simp [nV, fV] at g
    · rw [h1] at g; simp [nV, fV] at g
  · have e' : (binV 1 a b).k = 4 := e
    rw [e'] at h
    cases h
theorem turn_product {a b : Vl} (ha : Ok a) (hb : Ok b) (h : (binV 3 a b).k = 1) : binV 3 b a = binV 3 a b := by
  rcases bin_nums (k := 2) (by decide) ha hb with ⟨x, y, h1, h2, _, _, e⟩ | ⟨_, e⟩
  · rcases bin_nums (k := 2) (by decide) hb ha with ⟨x', y', g1, g2, _, _, e'⟩ | ⟨⟨c, g | g⟩, _⟩
    · rw [h2] at g1
      rw [h1] at g2
      obtain rfl : y = x' := by simpa [nV] using g1
      obtain rfl : x = y' := by simpa [nV] using g2
      refine e'.trans (Eq.trans ?_ e.symm)
      show gV (scaledD y x 10000) = gV (scaledD x y 10000)
      rw [scaledD_comm]
    · rw [h2] at g; simp [nV, fV] at g
    · rw [h1] at g; simp [nV, fV] at g
  · have e' : (binV 3 a b).k = 4 := e
    rw [e'] at h
    cases h
/-- a - b is the other sign of b - a -/
theorem turn_sign {a b : Vl} (ha : Ok a) (hb : Ok b) (h : (binV 2 b a).k = 1) : minV (binV 2 b a) = binV 2 a b := by
  rcases bin_nums (k := 1) (by decide) hb ha with ⟨x, y, h1, h2, hx, hy, e⟩ | ⟨_, e⟩
  · rcases bin_nums (k := 1) (by decide) ha hb with ⟨x', y', g1, g2, _, _, e'⟩ | ⟨⟨c, g | g⟩, _⟩
    · rw [h2] at g1
      rw [h1] at g2
      obtain rfl : y = x' := by simpa [nV] using g1
      obtain rfl : x = y' := by simpa [nV] using g2
      have e2 : binV 2 b a = gV (subD x y) := e
      have e3 : binV 2 a b = gV (subD y x) := e'
      rw [e2] at h
      rw [e2, e3]
      by_cases hr : -9223372036854775807 ≤ x - y ∧ x - y ≤ 9223372036854775807
      · have s1 : subD x y = (x - y, true) := by unfold subD; rw [mayD_yes hx.1, mayD_yes hy.1]; exact giveD_in hr.1 hr.2
        have s2 : subD y x = (y - x, true) := by unfold subD; rw [mayD_yes hx.1, mayD_yes hy.1]; exact giveD_in (by omega) (by omega)
        rw [s1, s2, gV_in (mayD_yes hr.1), gV_in (mayD_yes (by omega)), min_x (x := x - y) (by rfl), show -(x - y) = y - x by omega]
      · have s1 : subD x y = (0, false) := by unfold subD; exact giveD_out (.inr (by omega))
        rw [s1, gV_out] at h
        cases h
    · rw [h2] at g; simp [nV, fV] at g
    · rw [h1] at g; simp [nV, fV] at g
  · have e' : (binV 2 b a).k = 4 := e
    rw [e'] at h
    cases h
/-- of two that are no faults: what is compared is a truth -/
theorem bin_truth {k : Nat} (h6 : 6 ≤ k) (hk : k < 12) {a b : Vl} (ha : ¬ a.k = 4) (hb : ¬ b.k = 4) : binV ((k : Int) + 1) a b = bV (truthC k (cmpV a b)) := by
  have e : ∀ v, takeV (kdN k) v = v := fun v => by
    have : kdN k = 120 := by
      have : k = 6 ∨ k = 7 ∨ k = 8 ∨ k = 9 ∨ k = 10 ∨ k = 11 := by omega
      rcases this with rfl | rfl | rfl | rfl | rfl | rfl <;> rfl
    rw [this]
    rfl
  rw [binV_at hk, e, e, if_neg ha, if_neg hb]
  unfold takenV
  rw [if_neg (by omega), if_neg (by omega)]
/-- of both just one is true -/
theorem truth_one (r : Int) : ((bV (truthC 6 r)).n + (bV (truthC 7 r)).n = 1) ∧ ((bV (truthC 8 r)).n + (bV (truthC 11 r)).n = 1) ∧ ((bV (truthC 10 r)).n + (bV (truthC 9 r)).n = 1) := by
  refine ⟨?_, ?_, ?_⟩
  · by_cases h : r = 0 <;> simp [truthC, bV, h]
  · by_cases h : r < 0
    · simp [truthC, bV, h, show ¬ 0 ≤ r by omega]
    · simp [truthC, bV, h, show 0 ≤ r by omega]
  · by_cases h : 0 < r
    · simp [truthC, bV, h, show ¬ r ≤ 0 by omega]
    · simp [truthC, bV, h, show r ≤ 0 by omega]
end Go.Proofs.YtebjedbppiphgaaGreatDoor.Cal
namespace Go.Proofs.YtebjedbppiphgaaGreatDoor.Cal
open Go.RowKit Kit Reg Dec Dig Val Fld
open Crt (CLibs)
def LawEnd (w : World) : Ending → World → Prop := fun e w' => e = .returned (.bool true) ∧ Below w.heap.size w w'

end Go.Proofs.YtebjedbppiphgaaGreatDoor.Cal

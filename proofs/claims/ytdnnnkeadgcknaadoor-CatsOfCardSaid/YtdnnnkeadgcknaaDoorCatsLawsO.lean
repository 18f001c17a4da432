/- What the statement CatsOf answers: yes, for every slice of numbers. -/
import Derived.Test.YtdnnnkeadgcknaaDoorCatsAlive
import Derived.Deep.RegionHeld3
import Derived.Deep.AppendLies
import Derived.ProofKit
import Derived.OpenShut
namespace Go.Proofs.YtdnnnkeadgcknaaDoor.Cats
open Go.RowKit

/-- what stands in 'back' when the places from j on have been gone through -/
def backOf (xs : List Int) (j : Nat) : List Int := (xs.drop j).reverse.flatMap fun x => [x, x]
theorem backOf_step {xs : List Int} {j : Nat} (hj : j < xs.length) : backOf xs j = backOf xs (j + 1) ++ [xs.getD j 0, xs.getD j 0] := by
  unfold backOf
  rw [drop_at hj, List.reverse_cons, List.flatMap_append]
  rfl
theorem backOf_end (xs : List Int) : backOf xs xs.length = [] := by simp [backOf]
theorem backOf_length (xs : List Int) (j : Nat) : (backOf xs j).length = 2 * (xs.length - j) := by
  unfold backOf
  have : ∀ l : List Int, (l.flatMap fun x => [x, x]).length = 2 * l.length := by
    intro l
    induction l with
    | nil => rfl
    | cons x r ih => rw [List.flatMap_cons, List.length_append, ih]; simp; omega
  rw [this, List.length_reverse, List.length_drop]

theorem ofFrom_eq (xs : List Int) (s : Nat) : ofFrom s xs = if xs.all mayB then (xs.foldl withN s, true) else (0, false) := by
  induction xs generalizing s with
  | nil => rfl
  | cons x r ih =>
    unfold ofFrom
    cases hm : mayB x
    · simp [hm]
    · simp only [if_true, List.all_cons, hm, Bool.true_and, List.foldl_cons]
      exact ih _
theorem testBit_fold (xs : List Int) (s i : Nat) (h : xs.all mayB = true) : (xs.foldl withN s).testBit i = (s.testBit i || decide ((i : Int) ∈ xs)) := by
  induction xs generalizing s with
  | nil => simp
  | cons x r ih =>
    simp only [List.all_cons, Bool.and_eq_true] at h
    rw [List.foldl_cons, ih _ h.2]
    obtain ⟨h0, h1⟩ := of_mayB h.1
    obtain ⟨k, rfl⟩ := Int.eq_ofNat_of_zero_le h0
    rw [withN_nat s k (by omega), Nat.testBit_or, Nat.testBit_two_pow]
    by_cases hk : k = i
    · subst hk; simp
    · have h' : ¬ (i : Int) = (k : Int) := by omega
      simp [hk, h']
theorem mem_back (xs : List Int) (x : Int) : x ∈ backOf xs 0 ↔ x ∈ xs := by
  unfold backOf
  rw [List.drop_zero, List.mem_flatMap]
  constructor
  · rintro ⟨y, hy, hx⟩
    rw [List.mem_reverse] at hy
    have : x = y := by simpa using hx
    rw [this]; exact hy
  · intro hx
    exact ⟨x, by rw [List.mem_reverse]; exact hx, by simp⟩
theorem back_set {xs : List Int} {S : Nat} {b : Bool} (h : SetIs xs S b) : SetIs (backOf xs 0) S b := by
  unfold SetIs at *
  rw [ofFrom_eq] at h ⊢
  have ha : (backOf xs 0).all mayB = xs.all mayB := by
    rw [Bool.eq_iff_iff, List.all_eq_true, List.all_eq_true]
    exact ⟨fun h x hx => h x ((mem_back xs x).2 hx), fun h x hx => h x ((mem_back xs x).1 hx)⟩
  rw [ha]
  cases hx : xs.all mayB
  · rw [hx] at h; exact h
  · rw [hx] at h
    rw [← h]
    simp only [if_true, Prod.mk.injEq, and_true]
    apply Nat.eq_of_testBit_eq
    intro i
    rw [testBit_fold _ _ _ (ha.trans hx), testBit_fold _ _ _ hx]
    congr 1
    rw [decide_eq_decide]
    exact mem_back xs i

def valsOf (xs : List Int) : List Value := xs.map (Value.int .i64)
theorem valsOf_append (a b : List Int) : valsOf (a ++ b) = valsOf a ++ valsOf b := by simp [valsOf]
/-- the row 'back', and what is kept beside it -/
def Bk (W wr : World) (A : Option Addr) (n : Nat) (xs : List Int) (p S : Nat) (b : Bool) (v : Value) (j : Nat) : Prop :=
  wr.ownsRow W.heap.size 3 1 v (2 * (n - j)) (valsOf (backOf xs j)) ∧ Below W.heap.size W wr ∧ Ints W A n xs ∧ p < W.heap.size ∧
    W.cell? ⟨p, 0, none⟩ = some (.int .u64 S) ∧ W.cell? ⟨p, 1, none⟩ = some (.bool b)

theorem ints_of_own {w : World} {base n : Nat} {v : Value} {xs : List Int} (h : w.ownsRow base 3 1 v n (valsOf xs)) (hl : xs.length = n) (hm : n ≤ maxLen) : ∃ A cap, v = .slice A n cap ∧ Ints w A n xs := by
  rcases h.2 with ⟨rfl, h0⟩ | ⟨g, cap, cur, rfl, hbg, hg, hnc, hcm, hcs, htake⟩
  · exact ⟨none, 0, by rw [h0], hl, hm, fun hn => by omega⟩
  · refine ⟨_, cap, rfl, hl, hm, fun _ => ⟨g, 0, rfl, ?_, fun k' hk' => ?_⟩⟩
    · rcases Nat.lt_or_ge g w.heap.size with hlt | hge
      · exact hlt
      · rw [Array.getElem?_eq_none hge] at hg; cases hg
    · rw [Nat.zero_add, World.ownsRow.cellAt h k' (by omega)]
      have : k' < xs.length := by omega
      simp [valsOf, this]
theorem row_ne {w : World} {base : Nat} {e : TypeId} {size : Nat} {v : Value} {n : Nat} {xs : List Value} (h : w.ownsRow base e size v n xs) {g : Nat} (hg : g < base) : some g ≠ v.ownBlock := by
  intro he
  have := (h.lt g he.symm).1
  omega
set_option maxHeartbeats 2000000 in
theorem of_core (A : Option Addr) (n c : Nat) (xs : List Int) (S : Nat) (b : Bool) (w : World) (hx : Ints w A n xs) (hn : n ≤ 200)
    (hof : Hid (SetIs xs S b)) : Calls Tryd.prog 5 #[.slice A n c] w fun e w' => e = .returned (.bool true) ∧ Below w.heap.size w w' := by
  obtain ⟨i0, hi, hz0, hz1, hz2⟩ := info_parts int_info
  have HX := Lib.hid hx
  clear hx
  have hd200 : decide (200 < (n : Int)) = false := by simp; omega
  go_enter Tryd.func5, Tryd.ntmps5
  go_wp2_with fail
  refine (of_c A n c xs S b _ HX.out hof.out).mono ?_
  rintro e w1 ⟨rfl, rfl⟩
  go_wp2_with fail
  refine (rof_c A n c xs S b _ HX.out hof.out).mono ?_
  rintro e w1 ⟨rfl, hb1⟩
  go_wp2
  have hp := Lib.hid (show Bk (w1.alloc (.cells #[.int .u64 S, .bool b] 38)) (w1.alloc (.cells #[.int .u64 S, .bool b] 38)) A n xs w1.heap.size S b (.slice none 0 0) n from by
    refine ⟨?_, Below.refl _ _, (HX.out.keep hb1).keep ((Below.refl _ _).alloc (Nat.le_refl _) _), by simp, ?_, ?_⟩
    · have e : backOf xs n = [] := by rw [← HX.out.1]; exact backOf_end xs
      rw [e, Nat.sub_self]
      exact World.ownsRow_nil _ _ _ _
    · rw [World.cell?_alloc_at _ _ _ _ rfl]; rfl
    · rw [World.cell?_alloc_at _ _ _ _ rfl]; rfl)
  have hbW : Below w.heap.size w (w1.alloc (.cells #[.int .u64 S, .bool b] 38)) := hb1.alloc hb1.size _
  generalize w1.alloc (.cells #[.int .u64 S, .bool b] 38) = W at *
  generalize w1.heap.size = p at *
  clear hb1 HX
  go_loopw [6, 7] (fun v i wr => ∃ m : Int, -1 ≤ m ∧ m < n ∧ i = .int .i64 m ∧ Bk W wr A n xs p S b v (m + 1).toNat) (fun _ i _ => (intOf i + 1).toNat)
  case atStart => exact ⟨(n : Int) - 1, by omega, by omega, rfl, by rw [show ((n : Int) - 1 + 1).toNat = n by omega]; exact hp.out⟩
  case round =>
    clear hp
    obtain ⟨m, hm1, hm2, rfl, hr⟩ := hrel
    by_cases hm0 : 0 ≤ m
    · obtain ⟨k, rfl⟩ := Int.eq_ofNat_of_zero_le hm0
      rw [show ((k : Int) + 1).toNat = k + 1 by omega] at hr
      obtain ⟨hown, hbl, hxW, hpW, hc0, hc1⟩ := hr
      have hkn : k < n := by omega
      obtain ⟨bk, off, rfl, hbk, hcW⟩ := hxW.2.2 (by omega)
      have hcell : wr.cell? ⟨bk, off + k, none⟩ = some (.int .i64 (xs.getD k 0)) := (hbl.cell (p := ⟨bk, off + k, none⟩) hbk).trans (hcW k hkn)
      have hst := Lib.hid (backOf_step (xs := xs) (j := k) (by rw [hxW.1]; exact hkn))
      have HXW := Lib.hid hxW
      clear hxW hcW
      generalize xs.getD k 0 = x at *
      have hrow := row_ne hown hbk
      have hsz := hbl.size
      go_wp2_with fail
      go_region_held3 (fun w' => w'.cell? ⟨bk, off + k, none⟩ = some (.int .i64 x))
        (first | go_keep | (rw [hgrow.cell_far _ (by simp; omega) hrow]; assumption))
        ((refine step_append_lies _ (by rfl) _ _ _ (by rfl) W.heap.size 3 i0 _ 1 8 Tryd.underlying27 hi hz0 hz1 hz2 rfl (by omega) _ (2 * (n - (k + 1))) (valsOf (backOf xs (k + 1))) (by rfl) ((hown.alloc _).drew)
            ⟨_, 0, none⟩ 2 2 [.int .i64 x, .int .i64 x] (by rfl) (by rfl) (World.news_of_block (cs := #[.int .i64 x, .int .i64 x]) (t := 3) (fr := (0, 0)) (heap_alloc_new wr _)) (by simp [Value.oneCell'])
            (by omega) (by unfold maxLen; omega) (by omega) (by have := hbl.size; simp; omega) (wr.heap.size + 1) (by simp) ?_; intro gg cap w3 hown3 hgrow hat hlt))
      have hnext : Bk W w3 (some ⟨bk, off, none⟩) n xs p S b (.slice (some ⟨gg, 0, none⟩) (2 * (n - (k + 1)) + 2) cap) k := by
        refine ⟨?_, ?_, HXW.out, hpW, hc0, hc1⟩
        · rw [show 2 * (n - k) = 2 * (n - (k + 1)) + 2 by omega, hst.out, valsOf_append]
          exact hown3
        · exact ((hbl.alloc hsz _).drew).grown hgrow (by simp; omega) (fun g hg => (hown.lt g hg).1)
      clear hown3 hgrow hat hlt hown hbl hcell hrow hc0 hc1
      go_wp2
      go_roundw
      case rel => exact ⟨(k : Int) - 1, by omega, by omega, rfl, by rw [show ((k : Int) - 1 + 1).toNat = k by omega]; exact hnext⟩
      case measure => simp [intOf]
    · obtain rfl : m = -1 := by omega
      obtain ⟨hown, hbl, hxW, hpW, hc0, hc1⟩ := hr
      have hlen : (backOf xs 0).length = 2 * n := by rw [backOf_length, hxW.1]; omega
      have hback : ∃ B cap, _ = Value.slice B (2 * n) cap ∧ Ints _ B (2 * n) (backOf xs 0) := ints_of_own hown hlen (by unfold maxLen; omega)
      obtain ⟨B, cap, rfl, hxB⟩ := hback
      have e0 := (hbl.cell (p := ⟨p, 0, none⟩) hpW).trans hc0
      have e1 := (hbl.cell (p := ⟨p, 1, none⟩) hpW).trans hc1
      have hbw := hbW.trans (hbl.mono hbW.size)
      have HB := Lib.hid hxB
      have hs2 := Lib.hid (back_set hof.out)
      clear hown hbl hxW hpW hc0 hc1 hlen hxB hbW
      go_wp2_with fail
      refine (of_c B (2 * n) cap (backOf xs 0) S b _ HB.out hs2.out).mono ?_
      rintro e w4 ⟨rfl, rfl⟩
      have hSS : ((S : Int) == (S : Int)) = true := by simp
      have hbb : (b == b) = true := by simp
      go_wp2_with fail
      refine (alive_c _).mono ?_
      rintro e w5 ⟨rfl, hb5⟩
      go_wp2
      go_ret
      exact ⟨rfl, hbw.trans (hb5.mono hbw.size)⟩
theorem of_big (A : Option Addr) (n c : Nat) (w : World) (hn : 200 < n) : Calls Tryd.prog 5 #[.slice A n c] w fun e w' => e = .returned (.bool true) ∧ Below w.heap.size w w' := by
  have hd200 : decide (200 < (n : Int)) = true := by simp; omega
  go_enter Tryd.func5, Tryd.ntmps5
  go_wp2_with fail
  refine (alive_c _).mono ?_
  rintro e w5 ⟨rfl, hb5⟩
  go_wp2
  go_ret
  exact ⟨rfl, hb5⟩
theorem of_law (A : Option Addr) (n c : Nat) (xs : List Int) (w : World) (hx : Ints w A n xs) : Calls Tryd.prog 5 #[.slice A n c] w fun e w' => e = .returned (.bool true) ∧ Below w.heap.size w w' := by
  by_cases hn : 200 < n
  · exact of_big A n c w hn
  · exact of_core A n c xs (ofFrom 0 xs).1 (ofFrom 0 xs).2 w hx (by omega) (Lib.hid rfl)

/-- a slice of numbers that reads as data reads as a list -/
theorem ints_of_trod {H : Type} {enc : TypeId × Value → H} {W : World} {fuel : Nat} {A : Option Addr} {n c : Nat} {x : DataW H × List MemPlace}
    (h : DataW.trod enc Tryd.prog W 0 (fun _ => true) true fuel 27 [.slice A n c] = some x) : ∃ xs : List Int, Ints W A n xs := by
  rcases ChangeShapes.open_ints Tryd.underlying27 Tryd.underlying3 (by kernel_rfl) h with ⟨hcs, _⟩ | ⟨a, len, cap, zs, hcs, _, hl, hm, hz, _, hcell, _⟩
  · simp only [List.cons.injEq, and_true, Value.slice.injEq] at hcs
    obtain ⟨rfl, rfl, rfl⟩ := hcs
    exact ⟨[], rfl, by unfold maxLen; omega, fun h => by omega⟩
  · simp only [List.cons.injEq, and_true, Value.slice.injEq] at hcs
    obtain ⟨rfl, rfl, rfl⟩ := hcs
    simp only [if_true] at hz
    refine ⟨zs.take n, by simp; omega, Nat.le_trans hl hm, fun hn => ?_⟩
    obtain ⟨b, off, rfl, hc⟩ := ints_at hcell (by omega)
    have h0 := World.block_lt_of_cell? W _ (hc 0 (by omega))
    refine ⟨b, off, rfl, h0, fun k hk => ?_⟩
    rw [hc k (by omega)]
    simp [hk]
end Go.Proofs.YtdnnnkeadgcknaaDoor.Cats

/- What List of package cats and the reference's List make, and what Same answers: for every set, and for any two slices of numbers. -/
import Derived.Test.YtcgpggknmhlnkaaDoorPs10
namespace Go.Proofs.YtcgpggknmhlnkaaDoor.Cats
open Go.RowKit
def intsV (l : List Nat) : List Value := l.map fun (c : Nat) => Value.int .i64 (c : Int)
theorem intsV_snoc (l : List Nat) (k : Nat) : intsV (l ++ [k]) = intsV l ++ [.int .i64 (k : Int)] := by simp [intsV]

/-- a list of the call's own, of the categories below k -/
def Rl (s : Nat) (w wr : World) (v : Value) (k : Nat) : Prop := wr.ownsRow w.heap.size 3 1 v (bitsTo s k).length (intsV (bitsTo s k)) ∧ Below w.heap.size w wr
theorem Rl.nil (s : Nat) (w : World) : Rl s w w (.slice none 0 0) 0 := ⟨World.ownsRow_nil _ _ _ _, Below.refl _ _⟩
theorem Rl.no {s k : Nat} {w wr : World} {v : Value} (h : Rl s w wr v k) (hb : s.testBit k = false) : Rl s w wr v (k + 1) := by
  unfold Rl at *
  rw [bitsTo_no hb]
  exact h
theorem Rl.yes {s k : Nat} {w wr w1 : World} {v v' : Value} {o : Obj} (h : Rl s w wr v k) (hb : s.testBit k = true)
    (hown : w1.ownsRow w.heap.size 3 1 v' ((bitsTo s k).length + 1) (intsV (bitsTo s k) ++ [.int .i64 (k : Int)])) (hg : (wr.alloc o).grownBy w1 v.ownBlock) : Rl s w w1 v' (k + 1) := by
  obtain ⟨h1, h2⟩ := h
  refine ⟨?_, ?_⟩
  · rw [bitsTo_yes hb, intsV_snoc]
    simpa using hown
  · exact (h2.alloc h2.size o).grown hg (by have := h2.size; simp; omega) (fun g hk => (h1.lt g hk).1)

theorem int_info : (Tryd.prog.info? 3).map (fun i => (i.zero, i.size, i.bytes)) = some (some (.int .i64 0), 1, 8) := by kernel_rfl

set_option maxRecDepth 100000 in
set_option maxHeartbeats 400000 in
theorem count_c (s : Nat) (hs : U s) (w : World) : Calls Tryd.prog 65 #[.int .u64 s] w fun e w' => e = .returned (.int .i64 (pop s : Nat)) ∧ w = w' := by
  have HS := Lib.hid hs
  clear hs
  go_enter Tryd.func65, Tryd.ntmps65
  go_wp2_with (go_at_call 76; refine (ones_c s HS.out _).mono ?_; rintro e w' ⟨rfl, rfl⟩)
  go_ret
  exact ⟨rfl, rfl⟩
theorem pop_le (s : Nat) : pop s ≤ 64 := bitsTo_le s 64
theorem Rl.made {s : Nat} {w w1 : World} {v : Value} (h : w1.ownsRow w.heap.size 3 1 v 0 []) (hg : w.grownBy w1 none) : Rl s w w1 v 0 :=
  ⟨h, (Below.refl _ _).grown hg (Nat.le_refl _) (fun _ hk => by cases hk)⟩

set_option maxRecDepth 100000 in
set_option maxHeartbeats 1000000 in
theorem list_c (s : Nat) (hs : U s) (w : World) : Calls Tryd.prog 66 #[.int .u64 s] w fun e w' => ∃ v, e = .returned v ∧ Rl s w w' v 64 := by
  have HS := Lib.hid hs
  clear hs
  have hpop := pop_le s
  obtain ⟨i0, hi, hz0, hz1, hz2⟩ := info_parts int_info
  go_enter Tryd.func66, Tryd.ntmps66
  go_wp2_with (first
    | (go_at_call 65; refine (count_c s HS.out _).mono ?_; rintro e w' ⟨rfl, rfl⟩)
    | (at_make; refine wpList_make_own _ rfl _ _ 90 rfl w.heap.size 3 i0 (.int .i64 0) 1 Tryd.underlying90 hi hz0 hz1 .i64 .i64 _ (pop s) rfl rfl rfl ?m1 ?m2 ?m3 ?_))
  case m1 => rw [hz2]; omega
  case m2 => unfold maxLen; omega
  case m3 => exact Nat.le_refl _
  intro w1 hown hg
  have h0 := Rl.made (s := s) hown hg
  clear hown hg
  generalize (Value.slice (some ⟨w.heap.size, 0, none⟩) 0 (pop s)) = v0 at *
  go_wp2
  go_loopw [3, 8] (fun v i wr => ∃ k : Nat, k ≤ 64 ∧ i = .int .i64 k ∧ Rl s w wr v k) (fun _ i _ => 64 - (intOf i).toNat)
  case atStart => exact ⟨0, by omega, rfl, h0⟩
  case round =>
    clear h0
    obtain ⟨k, hk, rfl, hr⟩ := hrel
    by_cases hlt : k < 64
    · have hle := bitsTo_le s k
      cases hb : s.testBit k
      · have h3 := hr.no hb
        have HB := Lib.hid ((hasB_nat hlt).trans hb)
        clear hb
        go_wp2_with (go_at_call 77; refine (has_c s _ false HS.out HB.out _).mono ?_; rintro e w' ⟨rfl, rfl⟩)
        go_roundw
        case rel => exact ⟨k + 1, by omega, by go_num, h3⟩
        case measure => simp [intOf]; omega
      · have HB := Lib.hid ((hasB_nat hlt).trans hb)
        have hb' := Lib.hid hb
        clear hb
        go_wp2_with (first
          | (go_at_call 77; refine (has_c s _ true HS.out HB.out _).mono ?_; rintro e w' ⟨rfl, rfl⟩)
          | (at_builtin; refine wpList_append_own _ rfl _ _ 90 rfl w.heap.size 3 i0 (.int .i64 0) 1 8 Tryd.underlying90 hi hz0 hz1 hz2 rfl (by decide) _ _ _ rfl (hr.1.alloc _) ⟨_, 0, none⟩ 1 1 [.int .i64 (k : Int)] rfl rfl ?c1 ?c2 ?c3 ?c4 ?c5 ?_))
        case c1 => exact cell_one_new _ _ _
        case c2 => intro u hu; simp at hu; subst hu; rfl
        case c3 => unfold maxLen; omega
        case c4 => omega
        case c5 => have := hr.2.size; simp; omega
        intro v' w1 hown' hgrow _
        have h3 := hr.yes hb'.out hown' hgrow
        clear hown' hgrow
        go_wp2
        go_roundw
        case rel => exact ⟨k + 1, by omega, by go_num, h3⟩
        case measure => simp [intOf]; omega
    · obtain rfl : k = 64 := by omega
      go_wp2
      go_ret
      exact ⟨_, rfl, hr⟩

/-- a slice (nil too) that reads as a list of numbers -/
def Ints (w : World) (A : Option Addr) (n : Nat) (xs : List Int) : Prop :=
  xs.length = n ∧ n ≤ maxLen ∧ (0 < n → ∃ b off, A = some ⟨b, off, none⟩ ∧ b < w.heap.size ∧ ∀ k, k < n → w.cell? ⟨b, off + k, none⟩ = some (.int .i64 (xs.getD k 0)))
theorem Ints.at_ {w : World} {A : Option Addr} {n k : Nat} {xs : List Int} (h : Ints w A n xs) (hk : k < n) : ∃ b off, A = some ⟨b, off, none⟩ ∧ w.cell? ⟨b, off + k, none⟩ = some (.int .i64 (xs.getD k 0)) := by
  obtain ⟨b, off, e, _, hc⟩ := h.2.2 (by omega)
  exact ⟨b, off, e, hc k hk⟩
theorem Ints.keep {w w' : World} {A : Option Addr} {n : Nat} {xs : List Int} (h : Ints w A n xs) (hb : Below w.heap.size w w') : Ints w' A n xs :=
  ⟨h.1, h.2.1, fun hn => by
    obtain ⟨b, off, e, hlt, hc⟩ := h.2.2 hn
    exact ⟨b, off, e, Nat.lt_of_lt_of_le hlt hb.size, fun k hk => (hb.cell (p := ⟨b, off + k, none⟩) hlt).trans (hc k hk)⟩⟩
theorem Ints.drewN {w : World} {A : Option Addr} {n : Nat} {xs : List Int} (h : Ints w A n xs) (q : Nat) : Ints (w.drewN q) A n xs := h
def intsOf (l : List Nat) : List Int := l.map fun (c : Nat) => (c : Int)
theorem intsV_get (l : List Nat) (k : Nat) (hk : k < l.length) : (intsV l)[k]? = some (.int .i64 ((intsOf l).getD k 0)) := by
  simp [intsV, intsOf, hk]
theorem Rl.ints {s k : Nat} {w wr : World} {v : Value} (h : Rl s w wr v k) (hk : k ≤ 64) : ∃ A cap, v = .slice A (bitsTo s k).length cap ∧ Ints wr A (bitsTo s k).length (intsOf (bitsTo s k)) := by
  have hle := bitsTo_le s k
  have hl : (intsOf (bitsTo s k)).length = (bitsTo s k).length := by simp [intsOf]
  have hm : (bitsTo s k).length ≤ maxLen := by unfold maxLen; omega
  obtain ⟨ho, _⟩ := h
  rcases ho.2 with ⟨rfl, h0⟩ | ⟨g, cap, cur, rfl, hbg, hg, hnc, hcm, hcs, htake⟩
  · exact ⟨none, 0, by rw [h0], hl, hm, fun hn => by omega⟩
  · refine ⟨_, cap, rfl, hl, hm, fun _ => ⟨g, 0, rfl, ?_, fun k' hk' => ?_⟩⟩
    · rcases Nat.lt_or_ge g wr.heap.size with hlt | hge
      · exact hlt
      · rw [Array.getElem?_eq_none hge] at hg; cases hg
    · rw [Nat.zero_add, World.ownsRow.cellAt ho k' (by omega)]
      exact intsV_get _ _ hk'
/-- a world that has drawn a few times -/
def Drawn (w wr : World) : Prop := ∃ q, wr = w.drewN q
theorem Drawn.trans {a b c : World} (h : Drawn a b) (k : Drawn b c) : Drawn a c := by
  obtain ⟨q, rfl⟩ := h
  obtain ⟨p, rfl⟩ := k
  exact ⟨q + p, World.drewN_drewN _ _ _⟩
theorem Drawn.refl (w : World) : Drawn w w := ⟨0, rfl⟩
theorem Drawn.below {a b : World} (h : Drawn a b) : Below a.heap.size a b := by
  obtain ⟨q, rfl⟩ := h
  exact ⟨rfl, rfl, rfl, Nat.le_refl _, fun _ _ => rfl⟩
end Go.Proofs.YtcgpggknmhlnkaaDoor.Cats

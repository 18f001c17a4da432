/- What the program's small functions on labels answer: for every label, whatever its level. -/
import Derived.Test.YtobjmldfnnhofaaDoorLabLat
namespace Go.Proofs.YtobjmldfnnhofaaDoor.Cats
open Go.RowKit

theorem mayL_yes {l : Int} (h0 : 0 ≤ l) (h1 : l ≤ 15) : mayL l = true := by simp [mayL, h0, h1]
theorem mayL_neg {l : Int} (h : l < 0) : mayL l = false := by simp [mayL]; omega
theorem mayL_big {l : Int} (h : 15 < l) : mayL l = false := by simp [mayL]; omega
set_option maxRecDepth 100000 in
set_option maxHeartbeats 1000000 in
theorem lmay_c (l : Int) (s : Nat) (b : Bool) (hb : mayL l = b) (w : World) : Calls Tryd.prog 7 #[.agg #[.int .i64 l, .int .u64 s]] w fun e w' => e = .returned (.bool b) ∧ Below w.heap.size w w' := by
  have HB := Lib.hid hb
  clear hb
  by_cases h0 : 0 ≤ l
  · by_cases h1 : l ≤ 15
    · go_enter Tryd.func7, Tryd.ntmps7
      go_wp2
      go_ret
      exact ⟨ret_bool (by rw [← HB.out, mayL_yes h0 h1]), below1 _ _⟩
    · go_enter Tryd.func7, Tryd.ntmps7
      go_wp2
      go_ret
      exact ⟨ret_bool (by rw [← HB.out, mayL_big (by omega)]), below1 _ _⟩
  · have hd : decide (0 ≤ l) = false := by simpa using h0
    go_enter Tryd.func7, Tryd.ntmps7
    go_wp2
    go_ret
    exact ⟨ret_bool (by rw [← HB.out, mayL_neg (by omega)]), below1 _ _⟩

set_option maxRecDepth 100000 in
set_option maxHeartbeats 1000000 in
theorem lbelow_c (l1 l2 : Int) (s1 s2 : Nat) (b : Bool) (h1 : U s1) (h2 : U s2) (hb : belowL l1 s1 l2 s2 = b) (w : World) :
    Calls Tryd.prog 8 #[.agg #[.int .i64 l1, .int .u64 s1], .agg #[.int .i64 l2, .int .u64 s2]] w fun e w' => e = .returned (.bool b) ∧ Below w.heap.size w w' := by
  have HB := Lib.hid hb
  have Hw := Lib.hid (fun w1 => within_c s1 s2 _ h1 h2 rfl w1)
  clear hb h1 h2
  by_cases hl : l1 ≤ l2
  · go_enter Tryd.func8, Tryd.ntmps8
    go_wp2_with (go_at_call 23; refine (Hw.out _).mono ?_; rintro e w' ⟨rfl, rfl⟩)
    go_ret
    exact ⟨ret_bool (by rw [← HB.out, belowL]; simp [hl]), below2 _ _ _⟩
  · have hd : decide (l1 ≤ l2) = false := by simpa using hl
    go_enter Tryd.func8, Tryd.ntmps8
    go_wp2
    go_ret
    exact ⟨ret_bool (by rw [← HB.out, belowL, hd]; rfl), below2 _ _ _⟩

theorem joinI_max (a b : Int) : max a b = joinI a b := by unfold joinI; split <;> omega
theorem meetI_min (a b : Int) : min a b = meetI a b := by unfold meetI; split <;> omega
theorem or_int (a b : Nat) (ha : U a) (hb : U b) : bits .or .u64 (a : Int) (b : Int) = ((a ||| b : Nat) : Int) := u64_or_nat a b ha hb
theorem and_int (a b : Nat) (ha : U a) (hb : U b) : bits .and .u64 (a : Int) (b : Int) = ((a &&& b : Nat) : Int) := u64_and_nat a b ha hb
theorem pair_eq {a b c d : Int} (h : a = c) (k : b = d) : Value.agg #[.int .i64 a, .int .u64 b] = Value.agg #[.int .i64 c, .int .u64 d] := by rw [h, k]
theorem ret_pair {a b c d : Int} (h : a = c) (k : b = d) : Ending.returned (.agg #[.int .i64 a, .int .u64 b]) = .returned (.agg #[.int .i64 c, .int .u64 d]) := by rw [h, k]
set_option maxRecDepth 100000 in
set_option maxHeartbeats 1000000 in
theorem ljoin_c (l1 l2 : Int) (s1 s2 : Nat) (h1 : U s1) (h2 : U s2) (w : World) :
    Calls Tryd.prog 10 #[.agg #[.int .i64 l1, .int .u64 s1], .agg #[.int .i64 l2, .int .u64 s2]] w fun e w' => e = .returned (.agg #[.int .i64 (joinI l1 l2), .int .u64 (s1 ||| s2 : Nat)]) ∧ Below w.heap.size w w' := by
  have Hj := Lib.hid (or_int s1 s2 h1 h2)
  clear h1 h2
  go_enter Tryd.func10, Tryd.ntmps10
  go_wp2
  refine bodyPost_ret (v := .agg #[.int .i64 (max l1 l2), .int .u64 (bits .or .u64 s1 s2)]) (by simp [results, Tryd.results10, go_sem]) rfl ⟨ret_pair (joinI_max l1 l2) Hj.out, below3 _ _ _ _⟩
set_option maxRecDepth 100000 in
set_option maxHeartbeats 1000000 in
theorem lmeet_c (l1 l2 : Int) (s1 s2 : Nat) (h1 : U s1) (h2 : U s2) (w : World) :
    Calls Tryd.prog 11 #[.agg #[.int .i64 l1, .int .u64 s1], .agg #[.int .i64 l2, .int .u64 s2]] w fun e w' => e = .returned (.agg #[.int .i64 (meetI l1 l2), .int .u64 (s1 &&& s2 : Nat)]) ∧ Below w.heap.size w w' := by
  have Hj := Lib.hid (and_int s1 s2 h1 h2)
  clear h1 h2
  go_enter Tryd.func11, Tryd.ntmps11
  go_wp2
  refine bodyPost_ret (v := .agg #[.int .i64 (min l1 l2), .int .u64 (bits .and .u64 s1 s2)]) (by simp [results, Tryd.results11, go_sem]) rfl ⟨ret_pair (meetI_min l1 l2) Hj.out, below3 _ _ _ _⟩
set_option maxRecDepth 100000 in
set_option maxHeartbeats 1000000 in
theorem lbottom_c (w : World) : Calls Tryd.prog 14 #[] w fun e w' => e = .returned (.agg #[.int .i64 0, .int .u64 0]) ∧ Below w.heap.size w w' := by
  go_enter Tryd.func14, Tryd.ntmps14
  go_wp2
  exact bodyPost_ret (v := .agg #[.int .i64 0, .int .u64 0]) (by simp [results, Tryd.results14, go_sem]) rfl ⟨rfl, below1 _ _⟩
set_option maxRecDepth 100000 in
set_option maxHeartbeats 1000000 in
theorem ltop_c (w : World) : Calls Tryd.prog 15 #[] w fun e w' => e = .returned (.agg #[.int .i64 15, .int .u64 (allN : Nat)]) ∧ Below w.heap.size w w' := by
  go_enter Tryd.func15, Tryd.ntmps15
  go_wp2
  exact bodyPost_ret (v := .agg #[.int .i64 15, .int .u64 (allN : Nat)]) (by simp [results, Tryd.results15, go_sem, allN]) rfl ⟨rfl, below1 _ _⟩

/-- a slice, nil too, that reads as a list of labels -/
def LabsR (w : World) (A : Option Addr) (n : Nat) (ls : List (Int × Nat)) : Prop :=
  ls.length = n ∧ n ≤ 140737488355328 ∧ (∀ x ∈ ls, U x.2) ∧ (n ≠ 0 → ∃ b o, A = some ⟨b, o, none⟩ ∧ b < w.heap.size ∧ ∀ k x, ls[k]? = some x → w.cell? ⟨b, o + k * 2, none⟩ = some (.int .i64 x.1) ∧ w.cell? ⟨b, o + k * 2 + 1, none⟩ = some (.int .u64 x.2))
theorem LabsR.grown {w w' : World} {A : Option Addr} {n : Nat} {ls : List (Int × Nat)} {B : Nat} (h : LabsR w A n ls) (hb : Below B w w') (hB : w.heap.size ≤ B) : LabsR w' A n ls := by
  obtain ⟨h1, h2, hu, h3⟩ := h
  refine ⟨h1, h2, hu, fun hn => ?_⟩
  obtain ⟨b, o, rfl, hlt, hc⟩ := h3 hn
  refine ⟨b, o, rfl, Nat.lt_of_lt_of_le hlt hb.size, fun k x hk => ?_⟩
  rw [hb.cell (p := ⟨b, o + k * 2, none⟩) (by simp; omega), hb.cell (p := ⟨b, o + k * 2 + 1, none⟩) (by simp; omega)]
  exact hc k x hk
/-- the join of the bottom and some labels -/
def allF (ls : List (Int × Nat)) : Int × Nat := ls.foldl (fun a x => (joinI a.1 x.1, a.2 ||| x.2)) (0, 0)
theorem allF_snoc (ls : List (Int × Nat)) (x : Int × Nat) : allF (ls ++ [x]) = (joinI (allF ls).1 x.1, (allF ls).2 ||| x.2) := by simp [allF, List.foldl_append]
theorem allF_U : ∀ (ls : List (Int × Nat)) (a : Int × Nat), U a.2 → (∀ x ∈ ls, U x.2) → U (ls.foldl (fun a x => (joinI a.1 x.1, a.2 ||| x.2)) a).2
  | [], _, ha, _ => ha
  | x :: r, a, ha, h => allF_U r _ (U_or ha (h x (by simp))) fun y hy => h y (by simp [hy])
/-- what the loop keeps: after k labels the variable holds their join -/
def AllAt (J : Nat) (w1 wr : World) (r : Int × Nat) : Prop :=
  Below J w1 wr ∧ J < wr.heap.size ∧ wr.cell? ⟨J, 0, none⟩ = some (.int .i64 r.1) ∧ wr.cell? ⟨J, 1, none⟩ = some (.int .u64 r.2) ∧ wr.frozen? ⟨J, 0, none⟩ = false ∧ wr.frozen? ⟨J, 1, none⟩ = false
theorem slot_kept2 {w w2 : World} {x y : Value} {ty : TypeId} (hb : Below (w.heap.size + 1) (w.alloc (.cells #[x, y] ty)) w2) :
    w2.cell? ⟨w.heap.size, 0, none⟩ = some x ∧ w2.cell? ⟨w.heap.size, 1, none⟩ = some y ∧ w2.frozen? ⟨w.heap.size, 0, none⟩ = false ∧ w2.frozen? ⟨w.heap.size, 1, none⟩ = false ∧ w.heap.size < w2.heap.size := by
  refine ⟨?_, ?_, ?_, ?_, ?_⟩
  · rw [hb.cell (p := ⟨w.heap.size, 0, none⟩) (by simp), World.cell?_alloc_at _ _ _ _ rfl]; rfl
  · rw [hb.cell (p := ⟨w.heap.size, 1, none⟩) (by simp), World.cell?_alloc_at _ _ _ _ rfl]; rfl
  · rw [hb.frozen (p := ⟨w.heap.size, 0, none⟩) (by simp)]; exact World.frozen?_alloc_at _ _ _ _ rfl
  · rw [hb.frozen (p := ⟨w.heap.size, 1, none⟩) (by simp)]; exact World.frozen?_alloc_at _ _ _ _ rfl
  · have := hb.size; simp at this; omega
theorem below_set2 {w w2 : World} {o : Obj} (hb : Below (w.heap.size + 1) (w.alloc o) w2) (u v : Value) : Below w.heap.size w ((w2.setCell ⟨w.heap.size, 0, none⟩ u).setCell ⟨w.heap.size, 1, none⟩ v) :=
  (((below1 w o).trans (Below.mono (B' := w.heap.size) hb (by omega))).setCell (p := ⟨w.heap.size, 0, none⟩) (Nat.le_refl _) u).setCell (p := ⟨w.heap.size, 1, none⟩) (Nat.le_refl _) v
theorem AllAt.start {w1 : World} {x y : Int} {s : Nat} {ty : TypeId} (_h : x = y) : AllAt w1.heap.size w1 (w1.alloc (.cells #[.int .i64 y, .int .u64 s] ty)) (y, s) := by
  refine ⟨below1 _ _, by simp, ?_, ?_, World.frozen?_alloc_at _ _ _ _ rfl, World.frozen?_alloc_at _ _ _ _ rfl⟩
  · rw [World.cell?_alloc_at _ _ _ _ rfl]; rfl
  · rw [World.cell?_alloc_at _ _ _ _ rfl]; rfl
theorem AllAt.put {J : Nat} {w1 w3 : World} {x : Int} {s : Nat} {u v : Value} (hB : Below J w1 w3) (hz : J < w3.heap.size) (t0 : ((w3.setCell ⟨J, 0, none⟩ u).setCell ⟨J, 1, none⟩ v).cell? ⟨J, 0, none⟩ = some (.int .i64 x))
    (t1 : ((w3.setCell ⟨J, 0, none⟩ u).setCell ⟨J, 1, none⟩ v).cell? ⟨J, 1, none⟩ = some (.int .u64 s)) (g0 : w3.frozen? ⟨J, 0, none⟩ = false) (g1 : w3.frozen? ⟨J, 1, none⟩ = false) : AllAt J w1 ((w3.setCell ⟨J, 0, none⟩ u).setCell ⟨J, 1, none⟩ v) (x, s) :=
  ⟨(hB.setCell (p := ⟨J, 0, none⟩) (Nat.le_refl _) u).setCell (p := ⟨J, 1, none⟩) (Nat.le_refl _) v, by simpa [World.setCell] using hz, t0, t1, by simpa [go_sem] using g0, by simpa [go_sem] using g1⟩
set_option maxRecDepth 100000 in
set_option maxHeartbeats 1000000 in
theorem lall_c (A : Option Addr) (n c : Nat) (ls : List (Int × Nat)) (w : World) (hp : LabsR w A n ls) :
    Calls Tryd.prog 13 #[.slice A n c] w fun e w' => e = .returned (.agg #[.int .i64 (allF ls).1, .int .u64 ((allF ls).2 : Nat)]) ∧ Below w.heap.size w w' := by
  obtain ⟨hlen, hmax, hu, _⟩ := id hp
  have HP := Lib.hid hp
  have HL := Lib.hid hlen
  clear hp hlen
  go_enter Tryd.func13, Tryd.ntmps13
  go_wp2_with fail
  refine (lbottom_c _).mono ?_
  rintro e w1 ⟨rfl, hb1⟩
  have hs1 : w.heap.size + 1 ≤ w1.heap.size := by have := hb1.size; simpa using this
  have hJ : ∃ J, J = w1.heap.size := ⟨_, rfl⟩
  obtain ⟨J, hJ⟩ := hJ
  have HJ := Lib.hid hJ
  clear hJ
  go_wp2
  rw [← HJ.out]
  go_loopw [9] (fun i wr => ∃ k : Nat, k ≤ n ∧ i = .int .i64 k ∧ AllAt J w1 wr (allF (ls.take k))) (fun i _ => n - (intOf i).toNat)
  case atStart => exact ⟨0, Nat.zero_le _, rfl, by rw [HJ.out]; exact AllAt.start (x := 0) rfl⟩
  case round =>
    obtain ⟨k, hk, rfl, hr⟩ := hrel
    by_cases hlt : k < n
    · obtain ⟨x, hx⟩ : ∃ x, ls[k]? = some x := ⟨_, List.getElem?_eq_getElem (by rw [HL.out]; exact hlt)⟩
      obtain ⟨r0, r1, c0, c1, f0, f1⟩ := hr
      have hpr := (HP.out.grown (below1 w _) (Nat.le_refl _)).grown hb1 (by simp)
      have hpr2 := hpr.grown r0 (by have := HJ.out; omega)
      obtain ⟨_, _, _, h4⟩ := hpr2
      obtain ⟨b, o, rfl, hblt, hcell⟩ := h4 (by omega)
      obtain ⟨d0, d1⟩ := hcell k x hx
      have hnext : allF (ls.take (k + 1)) = (joinI (allF (ls.take k)).1 x.1, (allF (ls.take k)).2 ||| x.2) := by
        rw [List.take_add_one, hx]; exact allF_snoc _ _
      have HN := Lib.hid hnext
      have hux : U x.2 := hu x (List.mem_of_getElem? hx)
      have hur : U (allF (ls.take k)).2 := allF_U _ _ U_zero fun y hy => hu y (List.mem_of_mem_take hy)
      clear h4 hcell hpr hb1 hnext hx
      generalize allF (ls.take k) = r at *
      have Hj := Lib.hid (fun w1 => ljoin_c r.1 x.1 r.2 x.2 hur hux w1)
      have hwr : J + 1 ≤ wr.heap.size := r1
      clear hu hux hur
      go_wp2_with fail
      refine (Hj.out _).mono ?_
      rintro e w3 ⟨rfl, hb3⟩
      have hs3 := hb3.size
      simp at hs3
      have hb4 : Below wr.heap.size wr w3 := (below1 wr _).trans (hb3.mono (by simp))
      have e0 := (hb4.cell (p := ⟨J, 0, none⟩) (by simp; omega)).trans c0
      have e1 := (hb4.cell (p := ⟨J, 1, none⟩) (by simp; omega)).trans c1
      have g0 := (hb4.frozen (p := ⟨J, 0, none⟩) (by simp; omega)).trans f0
      have g1 := (hb4.frozen (p := ⟨J, 1, none⟩) (by simp; omega)).trans f1
      have hB : Below J w1 w3 := r0.trans (Below.mono hb4 (by omega))
      have hz3 : J < w3.heap.size := by omega
      obtain ⟨t0, t1⟩ := two_set (u := .int .i64 (joinI r.1 x.1)) (v := .int .u64 (r.2 ||| x.2 : Nat)) e0 e1
      clear hb3 hb4 r0 hs3
      go_wp2
      go_roundw
      case rel => exact ⟨k + 1, by omega, by go_num, by rw [HN.out]; exact AllAt.put hB hz3 t0 t1 g0 g1⟩
      case measure => simp [intOf]; omega
    · obtain rfl : k = n := by omega
      obtain ⟨r0, r1, c0, c1, f0, f1⟩ := hr
      have HE : Hid (ls.take k = ls) := List.take_of_length_le (by have := HL.out; omega)
      have hz : w.heap.size + 1 ≤ J := by have := HJ.out; omega
      obtain ⟨d0, d1, g0, g1, _⟩ := slot_kept2 (w := w) (hb1.mono (by simp))
      have q0 : wr.cell? ⟨w.heap.size, 0, none⟩ = _ := (r0.cell (p := ⟨w.heap.size, 0, none⟩) (by simp; omega)).trans d0
      have q1 : wr.cell? ⟨w.heap.size, 1, none⟩ = _ := (r0.cell (p := ⟨w.heap.size, 1, none⟩) (by simp; omega)).trans d1
      have p0 : wr.frozen? ⟨w.heap.size, 0, none⟩ = false := (r0.frozen (p := ⟨w.heap.size, 0, none⟩) (by simp; omega)).trans g0
      have p1 : wr.frozen? ⟨w.heap.size, 1, none⟩ = false := (r0.frozen (p := ⟨w.heap.size, 1, none⟩) (by simp; omega)).trans g1
      have hB : Below (w.heap.size + 1) (w.alloc (.cells #[.int .i64 0, .int .u64 0] 24)) wr := (hb1.mono (by simp)).trans (r0.mono hz)
      clear d0 d1 g0 g1 hb1 r0
      rw [HE.out] at c0 c1
      generalize hR : allF ls = r at *
      have HR := Lib.hid hR
      clear hR
      obtain ⟨t0, t1⟩ := two_set (u := .int .i64 r.1) (v := .int .u64 (r.2 : Nat)) q0 q1
      go_wp2
      exact bodyPost_ret (v := .agg #[.int .i64 r.1, .int .u64 (r.2 : Nat)]) (by simp [results, Tryd.results13, go_sem, t0, t1]) rfl ⟨ret_pair (by rw [HR.out]) (by rw [HR.out]), below_set2 hB _ _⟩
end Go.Proofs.YtobjmldfnnhofaaDoor.Cats

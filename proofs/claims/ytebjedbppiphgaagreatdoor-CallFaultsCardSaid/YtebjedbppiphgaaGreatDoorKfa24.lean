/- Any value that may be, taken as a number, a text, a truth: the program's and the reference's.
   The reference's small functions: how a value is taken, what is told, counted, the units, the other sign.
   A slice that reads as tables. No function of the program is named here.
   What the reference's May answers: for every value. Written by wip/genval2.py. -/
import Derived.Test.YtebjedbppiphgaaGreatDoorKfa19
import Derived.Test.YtebjedbppiphgaaGreatDoorKfa22
import Derived.Test.YtebjedbppiphgaaGreatDoorKfa23
import Derived.Test.YtebjedbppiphgaaGreatDoorKfa20
import Derived.Test.YtebjedbppiphgaaGreatDoorKfa21
import Derived.Test.YtebjedbppiphgaaGreatDoorKfa09
namespace Go.Proofs.YtebjedbppiphgaaGreatDoor.Cal
open Go.RowKit Kit Reg Dec Dig Val Fld
/-- a call answers a value -/
def IsV (v : Vl) (w : World) : Ending → World → Prop := ValIs v.k v.n v.t w
theorem num_c (v : Vl) (hv : Ok v) (w : World) (hL : Dig.Libs w) : Calls Tryz.prog 19 #[.agg #[.int .i64 v.k, .int .i64 v.n, .string v.t]] w (IsV (numT v) w) := by
  rcases may_ways hv.1 with rfl | ⟨n, rfl, h⟩ | ⟨t, rfl, h⟩ | rfl | rfl | ⟨n, rfl, h1, h2⟩
  · exact asnum_e w
  · exact asnum_n n w
  · obtain ⟨x, b, e⟩ : ∃ x b, readD t.data.toList = (x, b) := ⟨_, _, rfl⟩
    cases b
    · rw [show numT ⟨2, 0, t⟩ = fV 2 by show (if (readD t.data.toList).2 = true then _ else _) = _; rw [e]; rfl]
      exact asnum_tno t (by omega) x e w hL
    · rw [show numT ⟨2, 0, t⟩ = nV x by show (if (readD t.data.toList).2 = true then _ else _) = _; rw [e]; rfl]
      exact asnum_tyes t (by omega) x e w hL
  · exact asnum_b0 w
  · exact asnum_b1 w
  · exact asnum_f n w
theorem txt_c (v : Vl) (hv : Ok v) (w : World) (hL : Dig.Libs w) : Calls Tryz.prog 112 #[.agg #[.int .i64 v.k, .int .i64 v.n, .string v.t]] w (IsV (txtT v) w) := by
  by_cases h : v.k = 4
  · rw [show txtT v = fV v.n from if_pos h]
    exact text_bad v hv.1 h w
  · rw [show txtT v = sV (wordsF v) from if_neg h]
    exact text_c v hv.1 hv.2 h w hL
theorem tru_c (v : Vl) (hv : Ok v) (w : World) : Calls Tryz.prog 118 #[.agg #[.int .i64 v.k, .int .i64 v.n, .string v.t]] w (IsV (truT v) w) := truth_c v hv.1 _ _ rfl w
end Go.Proofs.YtebjedbppiphgaaGreatDoor.Cal
namespace Go.Proofs.YtebjedbppiphgaaGreatDoor.Cal
open Go.RowKit Kit Reg Dec Dig Val Fld
/-- a value stored as the result, in memory of the call's own -/
theorem val_ends {w w1 : World} {g : Nat} {a b c : Value} (hA : CellsAt w1 g [a, b, c]) (hb : Below w.heap.size w w1) (hg : w.heap.size ≤ g) (x y z : Value) :
    (g < w1.heap.size ∧ w1.cell? ⟨g, 0, none⟩ = some a ∧ w1.cell? ⟨g, 1, none⟩ = some b ∧ w1.cell? ⟨g, 2, none⟩ = some c ∧ w1.frozen? ⟨g, 0, none⟩ = false ∧ w1.frozen? ⟨g, 1, none⟩ = false ∧ w1.frozen? ⟨g, 2, none⟩ = false) ∧
    ((((w1.setCell ⟨g, 0, none⟩ x).setCell ⟨g, 1, none⟩ y).setCell ⟨g, 2, none⟩ z).cell? ⟨g, 0, none⟩ = some x ∧ (((w1.setCell ⟨g, 0, none⟩ x).setCell ⟨g, 1, none⟩ y).setCell ⟨g, 2, none⟩ z).cell? ⟨g, 1, none⟩ = some y ∧
      (((w1.setCell ⟨g, 0, none⟩ x).setCell ⟨g, 1, none⟩ y).setCell ⟨g, 2, none⟩ z).cell? ⟨g, 2, none⟩ = some z) ∧
    Below w.heap.size w (((w1.setCell ⟨g, 0, none⟩ x).setCell ⟨g, 1, none⟩ y).setCell ⟨g, 2, none⟩ z) := by
  obtain ⟨p0, p1, p2, q0, q1, q2⟩ := hA.three
  exact ⟨⟨hA.1, p0, p1, p2, q0, q1, q2⟩, three_set p0 p1 p2, set3 hb hg x y z⟩
theorem second (w : World) (o : Obj) (cs : List Value) (ty : TypeId) : CellsAt ((w.alloc o).alloc (.cells cs.toArray ty)) (w.heap.size + 1) cs ∧ Below w.heap.size w ((w.alloc o).alloc (.cells cs.toArray ty)) := by
  have h := CellsAt.new (w.alloc o) cs ty
  rw [show (w.alloc o).heap.size = w.heap.size + 1 by simp] at h
  exact ⟨h, below2 w o _⟩
theorem first (w : World) (cs : List Value) (ty : TypeId) : CellsAt (w.alloc (.cells cs.toArray ty)) w.heap.size cs ∧ Below w.heap.size w (w.alloc (.cells cs.toArray ty)) := ⟨CellsAt.new w cs ty, below1 w _⟩

def minV (v : Vl) : Vl := if (numT v).k = 4 then numT v else nV (-(numT v).n)
theorem min_x {v : Vl} {x : Int} (h : numT v = nV x) : minV v = nV (-x) := by unfold minV; rw [h]; exact if_neg (by simp [nV])
theorem min_f {v : Vl} {c : Int} (h : numT v = fV c) : minV v = fV c := by unfold minV; rw [h]; exact if_pos rfl
end Go.Proofs.YtebjedbppiphgaaGreatDoor.Cal
namespace Go.Proofs.YtebjedbppiphgaaGreatDoor.Cal
open Go.RowKit Kit Fld
/-- a table: its rows and columns, where its values lie, and these -/
structure Tb where
  r : Int
  c : Int
  A : Option Addr
  n : Nat
  d : Nat
  L : List Vl
def Tb.cells (t : Tb) : List Value := [.int .i64 t.r, .int .i64 t.c, .slice t.A t.n t.d]
/-- its values read as they are told, unless they are too many; there are at least none -/
def Tb.Reads (w : World) (t : Tb) : Prop := t.n ≤ 1000 → ValsR w t.A t.n t.L
theorem Tb.Reads.on {w w' : World} {t : Tb} (h : t.Reads w) (hb : Below w.heap.size w w') : t.Reads w' := fun hn => (h hn).on hb
/-- a slice, nil too, that reads as a list of tables -/
def TabsR (w : World) (A : Option Addr) (n : Nat) (T : List Tb) : Prop :=
  T.length = n ∧ (∀ t ∈ T, t.Reads w) ∧ (n ≠ 0 → ∃ b o, A = some ⟨b, o, none⟩ ∧ b < w.heap.size ∧ ∀ k t, T[k]? = some t → ∀ j x, t.cells[j]? = some x → w.cell? ⟨b, o + k * 3 + j, none⟩ = some x)
theorem TabsR.on {w w' : World} {A : Option Addr} {n : Nat} {T : List Tb} (h : TabsR w A n T) (hb : Below w.heap.size w w') : TabsR w' A n T := by
  obtain ⟨h1, hu, h3⟩ := h
  refine ⟨h1, fun t ht => (hu t ht).on hb, fun hn => ?_⟩
  obtain ⟨b, o, rfl, hlt, hc⟩ := h3 hn
  exact ⟨b, o, rfl, Nat.lt_of_lt_of_le hlt hb.size, fun k v hk j x hj => (hb.cell (p := ⟨b, o + k * 3 + j, none⟩) hlt).trans (hc k v hk j x hj)⟩
/-- the table at a place: its three cells -/
theorem TabsR.at {w : World} {A : Option Addr} {n : Nat} {T : List Tb} (h : TabsR w A n T) {k : Nat} {t : Tb} (hk : T[k]? = some t) : ∃ b o, A = some ⟨b, o, none⟩ ∧ b < w.heap.size ∧
    w.cell? ⟨b, o + k * 3, none⟩ = some (.int .i64 t.r) ∧ w.cell? ⟨b, o + k * 3 + 1, none⟩ = some (.int .i64 t.c) ∧ w.cell? ⟨b, o + k * 3 + 2, none⟩ = some (.slice t.A t.n t.d) := by
  obtain ⟨h1, _, h3⟩ := h
  have hlt := (List.getElem?_eq_some_iff.1 hk).1
  obtain ⟨b, o, e, hb, hc⟩ := h3 (by omega)
  exact ⟨b, o, e, hb, hc k t hk 0 _ rfl, hc k t hk 1 _ rfl, hc k t hk 2 _ rfl⟩
theorem TabsR.get {w : World} {A : Option Addr} {n : Nat} {T : List Tb} (h : TabsR w A n T) {k : Nat} (hk : k < n) : ∃ t, T[k]? = some t := ⟨_, List.getElem?_eq_getElem (by rw [h.1]; exact hk)⟩
theorem TabsR.reads {w : World} {A : Option Addr} {n : Nat} {T : List Tb} (h : TabsR w A n T) {k : Nat} {t : Tb} (hk : T[k]? = some t) : t.Reads w := h.2.1 t (List.mem_of_getElem? hk)
end Go.Proofs.YtebjedbppiphgaaGreatDoor.Cal
namespace Go.Proofs.YtebjedbppiphgaaGreatDoor.Val
open Go.RowKit Kit Dec Dig
theorem eq_none {t : ByteArray} (h : ¬ t.toList = []) : (t.toList == []) = false := by
  rw [beq_eq_false_iff_ne]
  exact h

set_option maxRecDepth 100000 in
set_option maxHeartbeats 4000000 in
theorem rmayv_0 (n : Int) (t : ByteArray) (w : World) : Calls Tryz.prog 7 #[.agg #[.int .i64 0, .int .i64 n, .string t]] w (Bit (mayV 0 n t) w) := by
  by_cases hn : n = 0
  · subst hn
    rcases empty_or t with rfl | ⟨ht, hz⟩
    · skip
      generalize hM : mayV _ _ _ = M
      replace hM := Lib.hid hM
      go_enter Tryz.func7, Tryz.ntmps7
      simp only [List.append]
      go_wp2
      go_ret
      exact ⟨ret_bool (by rw [← hM.out]; exact (by first | rfl | (simp [mayV, *]; done) | (unfold mayV; rw [size_none]; simp [*]; done) | (unfold mayV; rw [hz]; simp; done) | (unfold mayV; rw [hz]; simp [*]; done))), below1 _ _⟩
    · have hq := eq_none ht
      generalize hM : mayV _ _ _ = M
      replace hM := Lib.hid hM
      go_enter Tryz.func7, Tryz.ntmps7
      simp only [List.append]
      go_wp2
      go_ret
      exact ⟨ret_bool (by rw [← hM.out]; exact (by first | rfl | (simp [mayV, *]; done) | (unfold mayV; rw [size_none]; simp [*]; done) | (unfold mayV; rw [hz]; simp; done) | (unfold mayV; rw [hz]; simp [*]; done))), below1 _ _⟩
  · have hb : (n == 0) = false := by simpa using hn
    rcases empty_or t with rfl | ⟨ht, hz⟩
    · skip
      generalize hM : mayV _ _ _ = M
      replace hM := Lib.hid hM
      go_enter Tryz.func7, Tryz.ntmps7
      simp only [List.append]
      go_wp2
      go_ret
      exact ⟨ret_bool (by rw [← hM.out]; exact (by first | rfl | (simp [mayV, *]; done) | (unfold mayV; rw [size_none]; simp [*]; done) | (unfold mayV; rw [hz]; simp; done) | (unfold mayV; rw [hz]; simp [*]; done))), below1 _ _⟩
    · have hq := eq_none ht
      generalize hM : mayV _ _ _ = M
      replace hM := Lib.hid hM
      go_enter Tryz.func7, Tryz.ntmps7
      simp only [List.append]
      go_wp2
      go_ret
      exact ⟨ret_bool (by rw [← hM.out]; exact (by first | rfl | (simp [mayV, *]; done) | (unfold mayV; rw [size_none]; simp [*]; done) | (unfold mayV; rw [hz]; simp; done) | (unfold mayV; rw [hz]; simp [*]; done))), below1 _ _⟩
set_option maxRecDepth 100000 in
set_option maxHeartbeats 4000000 in
theorem rmayv_1 (n : Int) (t : ByteArray) (w : World) : Calls Tryz.prog 7 #[.agg #[.int .i64 1, .int .i64 n, .string t]] w (Bit (mayV 1 n t) w) := by
  cases hm : mayD n
  · have HN := Lib.hid (fun w1 => rmay_c n false hm w1)
    rcases empty_or t with rfl | ⟨ht, hz⟩
    · skip
      generalize hM : mayV _ _ _ = M
      replace hM := Lib.hid hM
      go_enter Tryz.func7, Tryz.ntmps7
      simp only [List.append]
      go_wp2_with (go_at_call 22; refine (HN.out _).mono ?_; rintro e w' ⟨rfl, rfl⟩)
      go_ret
      exact ⟨ret_bool (by rw [← hM.out]; exact (by first | rfl | (simp [mayV, *]; done) | (unfold mayV; rw [size_none]; simp [*]; done) | (unfold mayV; rw [hz]; simp; done) | (unfold mayV; rw [hz]; simp [*]; done))), below1 _ _⟩
    · have hq := eq_none ht
      generalize hM : mayV _ _ _ = M
      replace hM := Lib.hid hM
      go_enter Tryz.func7, Tryz.ntmps7
      simp only [List.append]
      go_wp2
      go_ret
      exact ⟨ret_bool (by rw [← hM.out]; exact (by first | rfl | (simp [mayV, *]; done) | (unfold mayV; rw [size_none]; simp [*]; done) | (unfold mayV; rw [hz]; simp; done) | (unfold mayV; rw [hz]; simp [*]; done))), below1 _ _⟩
  · have HN := Lib.hid (fun w1 => rmay_c n true hm w1)
    rcases empty_or t with rfl | ⟨ht, hz⟩
    · skip
      generalize hM : mayV _ _ _ = M
      replace hM := Lib.hid hM
      go_enter Tryz.func7, Tryz.ntmps7
      simp only [List.append]
      go_wp2_with (go_at_call 22; refine (HN.out _).mono ?_; rintro e w' ⟨rfl, rfl⟩)
      go_ret
      exact ⟨ret_bool (by rw [← hM.out]; exact (by first | rfl | (simp [mayV, *]; done) | (unfold mayV; rw [size_none]; simp [*]; done) | (unfold mayV; rw [hz]; simp; done) | (unfold mayV; rw [hz]; simp [*]; done))), below1 _ _⟩
    · have hq := eq_none ht
      generalize hM : mayV _ _ _ = M
      replace hM := Lib.hid hM
      go_enter Tryz.func7, Tryz.ntmps7
      simp only [List.append]
      go_wp2
      go_ret
      exact ⟨ret_bool (by rw [← hM.out]; exact (by first | rfl | (simp [mayV, *]; done) | (unfold mayV; rw [size_none]; simp [*]; done) | (unfold mayV; rw [hz]; simp; done) | (unfold mayV; rw [hz]; simp [*]; done))), below1 _ _⟩
set_option maxRecDepth 100000 in
set_option maxHeartbeats 4000000 in
theorem rmayv_2 (n : Int) (t : ByteArray) (w : World) : Calls Tryz.prog 7 #[.agg #[.int .i64 2, .int .i64 n, .string t]] w (Bit (mayV 2 n t) w) := by
  by_cases hn : n = 0
  · subst hn
    by_cases hs : t.size ≤ 256
    · have d0 : decide (t.size ≤ 256) = true := decide_eq_true hs
      rcases empty_or t with rfl | ⟨ht, hz⟩
      · skip
        generalize hM : mayV _ _ _ = M
        replace hM := Lib.hid hM
        go_enter Tryz.func7, Tryz.ntmps7
        simp only [List.append]
        go_wp2
        go_ret
        exact ⟨ret_bool (by rw [← hM.out]; exact (by first | rfl | (simp [mayV, *]; done) | (unfold mayV; rw [size_none]; simp [*]; done) | (unfold mayV; rw [hz]; simp; done) | (unfold mayV; rw [hz]; simp [*]; done))), below1 _ _⟩
      · have hq := eq_none ht
        generalize hM : mayV _ _ _ = M
        replace hM := Lib.hid hM
        go_enter Tryz.func7, Tryz.ntmps7
        simp only [List.append]
        go_wp2
        go_ret
        exact ⟨ret_bool (by rw [← hM.out]; exact (by first | rfl | (simp [mayV, *]; done) | (unfold mayV; rw [size_none]; simp [*]; done) | (unfold mayV; rw [hz]; simp; done) | (unfold mayV; rw [hz]; simp [*]; done))), below1 _ _⟩
    · have d0 : decide (t.size ≤ 256) = false := decide_eq_false hs
      rcases empty_or t with rfl | ⟨ht, hz⟩
      · skip
        generalize hM : mayV _ _ _ = M
        replace hM := Lib.hid hM
        go_enter Tryz.func7, Tryz.ntmps7
        simp only [List.append]
        go_wp2
        go_ret
        exact ⟨ret_bool (by rw [← hM.out]; exact (by first | rfl | (simp [mayV, *]; done) | (unfold mayV; rw [size_none]; simp [*]; done) | (unfold mayV; rw [hz]; simp; done) | (unfold mayV; rw [hz]; simp [*]; done))), below1 _ _⟩
      · have hq := eq_none ht
        generalize hM : mayV _ _ _ = M
        replace hM := Lib.hid hM
        go_enter Tryz.func7, Tryz.ntmps7
        simp only [List.append]
        go_wp2
        go_ret
        exact ⟨ret_bool (by rw [← hM.out]; exact (by first | rfl | (simp [mayV, *]; done) | (unfold mayV; rw [size_none]; simp [*]; done) | (unfold mayV; rw [hz]; simp; done) | (unfold mayV; rw [hz]; simp [*]; done))), below1 _ _⟩
  · have hb : (n == 0) = false := by simpa using hn
    rcases empty_or t with rfl | ⟨ht, hz⟩
    · skip
      generalize hM : mayV _ _ _ = M
      replace hM := Lib.hid hM
      go_enter Tryz.func7, Tryz.ntmps7
      simp only [List.append]
      go_wp2
      go_ret
      exact ⟨ret_bool (by rw [← hM.out]; exact (by first | rfl | (simp [mayV, *]; done) | (unfold mayV; rw [size_none]; simp [*]; done) | (unfold mayV; rw [hz]; simp; done) | (unfold mayV; rw [hz]; simp [*]; done))), below1 _ _⟩
    · have hq := eq_none ht
      generalize hM : mayV _ _ _ = M
      replace hM := Lib.hid hM
      go_enter Tryz.func7, Tryz.ntmps7
      simp only [List.append]
      go_wp2
      go_ret
      exact ⟨ret_bool (by rw [← hM.out]; exact (by first | rfl | (simp [mayV, *]; done) | (unfold mayV; rw [size_none]; simp [*]; done) | (unfold mayV; rw [hz]; simp; done) | (unfold mayV; rw [hz]; simp [*]; done))), below1 _ _⟩
set_option maxRecDepth 100000 in
set_option maxHeartbeats 4000000 in
theorem rmayv_3 (n : Int) (t : ByteArray) (w : World) : Calls Tryz.prog 7 #[.agg #[.int .i64 3, .int .i64 n, .string t]] w (Bit (mayV 3 n t) w) := by
  by_cases hn : n = 0
  · subst hn
    rcases empty_or t with rfl | ⟨ht, hz⟩
    · skip
      generalize hM : mayV _ _ _ = M
      replace hM := Lib.hid hM
      go_enter Tryz.func7, Tryz.ntmps7
      simp only [List.append]
      go_wp2
      go_ret
      exact ⟨ret_bool (by rw [← hM.out]; exact (by first | rfl | (simp [mayV, *]; done) | (unfold mayV; rw [size_none]; simp [*]; done) | (unfold mayV; rw [hz]; simp; done) | (unfold mayV; rw [hz]; simp [*]; done))), below1 _ _⟩
    · have hq := eq_none ht
      generalize hM : mayV _ _ _ = M
      replace hM := Lib.hid hM
      go_enter Tryz.func7, Tryz.ntmps7
      simp only [List.append]
      go_wp2
      go_ret
      exact ⟨ret_bool (by rw [← hM.out]; exact (by first | rfl | (simp [mayV, *]; done) | (unfold mayV; rw [size_none]; simp [*]; done) | (unfold mayV; rw [hz]; simp; done) | (unfold mayV; rw [hz]; simp [*]; done))), below1 _ _⟩
  · have hb : (n == 0) = false := by simpa using hn
    by_cases hm : n = 1
    · subst hm
      rcases empty_or t with rfl | ⟨ht, hz⟩
      · skip
        generalize hM : mayV _ _ _ = M
        replace hM := Lib.hid hM
        go_enter Tryz.func7, Tryz.ntmps7
        simp only [List.append]
        go_wp2
        go_ret
        exact ⟨ret_bool (by rw [← hM.out]; exact (by first | rfl | (simp [mayV, *]; done) | (unfold mayV; rw [size_none]; simp [*]; done) | (unfold mayV; rw [hz]; simp; done) | (unfold mayV; rw [hz]; simp [*]; done))), below1 _ _⟩
      · have hq := eq_none ht
        generalize hM : mayV _ _ _ = M
        replace hM := Lib.hid hM
        go_enter Tryz.func7, Tryz.ntmps7
        simp only [List.append]
        go_wp2
        go_ret
        exact ⟨ret_bool (by rw [← hM.out]; exact (by first | rfl | (simp [mayV, *]; done) | (unfold mayV; rw [size_none]; simp [*]; done) | (unfold mayV; rw [hz]; simp; done) | (unfold mayV; rw [hz]; simp [*]; done))), below1 _ _⟩
    · have hb1 : (n == 1) = false := by simpa using hm
      rcases empty_or t with rfl | ⟨ht, hz⟩
      · skip
        generalize hM : mayV _ _ _ = M
        replace hM := Lib.hid hM
        go_enter Tryz.func7, Tryz.ntmps7
        simp only [List.append]
        go_wp2
        go_ret
        exact ⟨ret_bool (by rw [← hM.out]; exact (by first | rfl | (simp [mayV, *]; done) | (unfold mayV; rw [size_none]; simp [*]; done) | (unfold mayV; rw [hz]; simp; done) | (unfold mayV; rw [hz]; simp [*]; done))), below1 _ _⟩
      · have hq := eq_none ht
        generalize hM : mayV _ _ _ = M
        replace hM := Lib.hid hM
        go_enter Tryz.func7, Tryz.ntmps7
        simp only [List.append]
        go_wp2
        go_ret
        exact ⟨ret_bool (by rw [← hM.out]; exact (by first | rfl | (simp [mayV, *]; done) | (unfold mayV; rw [size_none]; simp [*]; done) | (unfold mayV; rw [hz]; simp; done) | (unfold mayV; rw [hz]; simp [*]; done))), below1 _ _⟩
set_option maxRecDepth 100000 in
set_option maxHeartbeats 4000000 in
theorem rmayv_4 (n : Int) (t : ByteArray) (w : World) : Calls Tryz.prog 7 #[.agg #[.int .i64 4, .int .i64 n, .string t]] w (Bit (mayV 4 n t) w) := by
  by_cases h1 : 1 ≤ n
  · have d1 : decide (1 ≤ n) = true := decide_eq_true h1
    by_cases h7 : n ≤ 7
    · have d7 : decide (n ≤ 7) = true := decide_eq_true h7
      rcases empty_or t with rfl | ⟨ht, hz⟩
      · skip
        generalize hM : mayV _ _ _ = M
        replace hM := Lib.hid hM
        go_enter Tryz.func7, Tryz.ntmps7
        simp only [List.append]
        go_wp2
        go_ret
        exact ⟨ret_bool (by rw [← hM.out]; exact (by first | rfl | (simp [mayV, *]; done) | (unfold mayV; rw [size_none]; simp [*]; done) | (unfold mayV; rw [hz]; simp; done) | (unfold mayV; rw [hz]; simp [*]; done))), below1 _ _⟩
      · have hq := eq_none ht
        generalize hM : mayV _ _ _ = M
        replace hM := Lib.hid hM
        go_enter Tryz.func7, Tryz.ntmps7
        simp only [List.append]
        go_wp2
        go_ret
        exact ⟨ret_bool (by rw [← hM.out]; exact (by first | rfl | (simp [mayV, *]; done) | (unfold mayV; rw [size_none]; simp [*]; done) | (unfold mayV; rw [hz]; simp; done) | (unfold mayV; rw [hz]; simp [*]; done))), below1 _ _⟩
    · have d7 : decide (n ≤ 7) = false := decide_eq_false h7
      rcases empty_or t with rfl | ⟨ht, hz⟩
      · skip
        generalize hM : mayV _ _ _ = M
        replace hM := Lib.hid hM
        go_enter Tryz.func7, Tryz.ntmps7
        simp only [List.append]
        go_wp2
        go_ret
        exact ⟨ret_bool (by rw [← hM.out]; exact (by first | rfl | (simp [mayV, *]; done) | (unfold mayV; rw [size_none]; simp [*]; done) | (unfold mayV; rw [hz]; simp; done) | (unfold mayV; rw [hz]; simp [*]; done))), below1 _ _⟩
      · have hq := eq_none ht
        generalize hM : mayV _ _ _ = M
        replace hM := Lib.hid hM
        go_enter Tryz.func7, Tryz.ntmps7
        simp only [List.append]
        go_wp2
        go_ret
        exact ⟨ret_bool (by rw [← hM.out]; exact (by first | rfl | (simp [mayV, *]; done) | (unfold mayV; rw [size_none]; simp [*]; done) | (unfold mayV; rw [hz]; simp; done) | (unfold mayV; rw [hz]; simp [*]; done))), below1 _ _⟩
  · have d1 : decide (1 ≤ n) = false := decide_eq_false h1
    rcases empty_or t with rfl | ⟨ht, hz⟩
    · skip
      generalize hM : mayV _ _ _ = M
      replace hM := Lib.hid hM
      go_enter Tryz.func7, Tryz.ntmps7
      simp only [List.append]
      go_wp2
      go_ret
      exact ⟨ret_bool (by rw [← hM.out]; exact (by first | rfl | (simp [mayV, *]; done) | (unfold mayV; rw [size_none]; simp [*]; done) | (unfold mayV; rw [hz]; simp; done) | (unfold mayV; rw [hz]; simp [*]; done))), below1 _ _⟩
    · have hq := eq_none ht
      generalize hM : mayV _ _ _ = M
      replace hM := Lib.hid hM
      go_enter Tryz.func7, Tryz.ntmps7
      simp only [List.append]
      go_wp2
      go_ret
      exact ⟨ret_bool (by rw [← hM.out]; exact (by first | rfl | (simp [mayV, *]; done) | (unfold mayV; rw [size_none]; simp [*]; done) | (unfold mayV; rw [hz]; simp; done) | (unfold mayV; rw [hz]; simp [*]; done))), below1 _ _⟩
set_option maxRecDepth 100000 in
set_option maxHeartbeats 4000000 in
theorem rmayv_5 (k : Int) (h0 : ¬ k = 0) (h1 : ¬ k = 1) (h2 : ¬ k = 2) (h3 : ¬ k = 3) (h4 : ¬ k = 4) (n : Int) (t : ByteArray) (w : World) : Calls Tryz.prog 7 #[.agg #[.int .i64 k, .int .i64 n, .string t]] w (Bit (mayV k n t) w) := by
  have e0 : (k == 0) = false := by simpa using h0
  have e1 : (k == 1) = false := by simpa using h1
  have e2 : (k == 2) = false := by simpa using h2
  have e3 : (k == 3) = false := by simpa using h3
  have e4 : (k == 4) = false := by simpa using h4
  rcases empty_or t with rfl | ⟨ht, hz⟩
  · skip
    generalize hM : mayV _ _ _ = M
    replace hM := Lib.hid hM
    go_enter Tryz.func7, Tryz.ntmps7
    simp only [List.append]
    go_wp2
    go_ret
    exact ⟨ret_bool (by rw [← hM.out]; exact (by first | rfl | (simp [mayV, *]; done) | (unfold mayV; rw [size_none]; simp [*]; done) | (unfold mayV; rw [hz]; simp; done) | (unfold mayV; rw [hz]; simp [*]; done))), below1 _ _⟩
  · have hq := eq_none ht
    generalize hM : mayV _ _ _ = M
    replace hM := Lib.hid hM
    go_enter Tryz.func7, Tryz.ntmps7
    simp only [List.append]
    go_wp2
    go_ret
    exact ⟨ret_bool (by rw [← hM.out]; exact (by first | rfl | (simp [mayV, *]; done) | (unfold mayV; rw [size_none]; simp [*]; done) | (unfold mayV; rw [hz]; simp; done) | (unfold mayV; rw [hz]; simp [*]; done))), below1 _ _⟩
theorem rmayv_c (k n : Int) (t : ByteArray) (b : Bool) (h : mayV k n t = b) (w : World) : Calls Tryz.prog 7 #[.agg #[.int .i64 k, .int .i64 n, .string t]] w (Bit b w) := by
  subst h
  by_cases h0 : k = 0
  · subst h0; exact rmayv_0 n t w
  by_cases h1 : k = 1
  · subst h1; exact rmayv_1 n t w
  by_cases h2 : k = 2
  · subst h2; exact rmayv_2 n t w
  by_cases h3 : k = 3
  · subst h3; exact rmayv_3 n t w
  by_cases h4 : k = 4
  · subst h4; exact rmayv_4 n t w
  · exact rmayv_5 k h0 h1 h2 h3 h4 n t w
end Go.Proofs.YtebjedbppiphgaaGreatDoor.Val

/- What stands at a place of a table: package look's At, the reference's In and At. Written by wip/gen18b.py.
   The values of a column and of a row: package look's column and line, as rows of one's own. Written by wip/gen18e.py.
   Two lists of values, one behind the other: slices.Concat at two slices of values.
   What the reference's Call answers, where a function is of lists or tables, is none, or its arguments do not fit. Written by wip/gen20i.py.
   What the reference's Call answers where a function's values are taken one by one: as a value, at any tables. -/
import Derived.Test.YtebjedbppiphgaaGreatDoorKtu29
import Derived.Test.YtebjedbppiphgaaGreatDoorKtu24
import Derived.Shelf.Spec.SlicesGrow
import Derived.Test.YtebjedbppiphgaaGreatDoorProg
import Derived.BigQuiet
import Derived.OneCell
namespace Go.Proofs.YtebjedbppiphgaaGreatDoor.Lok
open Go.RowKit Kit Reg Dec Dig Val Fld
theorem newAt {w0 : World} {g : Nat} (hg : w0.heap.size = g) (cs : List Value) (ty : TypeId) : CellsAt (w0.alloc (.cells cs.toArray ty)) g cs := hg ▸ CellsAt.new w0 cs ty
/-- a value that stands there, and true; or the empty one and false -/
def AtIs (v : Vl) (ok : Bool) (w : World) : Ending → World → Prop := fun e w' => e = .returned (.tuple #[.agg #[.int .i64 v.k, .int .i64 v.n, .string v.t], .bool ok]) ∧ Below w.heap.size w w'
def Inn (r c row col : Int) : Prop := 1 ≤ row ∧ row ≤ r ∧ 1 ≤ col ∧ col ≤ c
/-- the numbers that lead to a place -/
structure Way (r c row col : Int) (n i m s k : Nat) : Prop where
  inn : Inn r c row col
  ei : row - 1 = i
  em : (i : Int) * c = m
  es : (m : Int) + col = s
  ek : (s : Int) - 1 = k
  bound : r ≤ 1000 ∧ m ≤ 1000 ∧ s ≤ 1000 ∧ k < n
theorem Way.of {r c row col : Int} {n : Nat} (h : Good r c n) (hi : Inn r c row col) : ∃ i m s k, Way r c row col n i m s k := by
  obtain ⟨R, C, rfl, rfl, h1, h2, h3, h4, h5, h6⟩ := h.nat
  obtain ⟨i, hi1⟩ := Int.eq_ofNat_of_zero_le (show 0 ≤ row - 1 by have := hi.1; omega)
  obtain ⟨j, hj1⟩ := Int.eq_ofNat_of_zero_le (show 0 ≤ col - 1 by have := hi.2.2.1; omega)
  have hij := place_lt h4 (i := i) (j := j) (by have := hi.2.1; omega) (by have := hi.2.2.2; omega)
  exact ⟨i, i * C, i * C + j + 1, i * C + j, hi, hi1, by rw [Int.natCast_mul], by omega, by omega, by omega, by omega, by omega, hij⟩
theorem Way.at {R C n i j : Nat} {row col : Int} (h1 : 1 ≤ R) (h2 : 1 ≤ C) (h3 : n ≤ 1000) (h4 : R * C = n) (hi : i < R) (hj : j < C) (hr : row = (i : Int) + 1) (hc : col = (j : Int) + 1) : Way R C row col n i (i * C) (i * C + j + 1) (i * C + j) := by
  have hij := place_lt h4 hi hj
  obtain ⟨R', C', e1, e2, _, _, _, _, h5, _⟩ := (good_of h1 h2 h3 h4).nat
  exact ⟨⟨by omega, by omega, by omega, by omega⟩, by omega, by rw [Int.natCast_mul], by omega, by omega, by omega, by omega, by omega, hij⟩

set_option maxRecDepth 100000 in
set_option maxHeartbeats 2000000 in
theorem at_yes (r c row col : Int) (A : Option Addr) (n cap : Nat) (L : List Vl) (hG : Good r c n) (i m s k : Nat) (hw : Way r c row col n i m s k) (v : Vl) (hv : L[k]? = some v) (w : World) (hz : ValsR w A n L) :
    Calls Tryz.prog 98 #[.agg #[.int .i64 r, .int .i64 c, .slice A n cap], .int .i64 row, .int .i64 col] w (AtIs v true w) := by
  obtain ⟨⟨h1, h2, h3, h4⟩, ei, em, es, ek, b1, b2, b3, b4⟩ := hw
  have d1 : decide (row < 1) = false := decide_eq_false (by omega)
  have d2 : decide (r < row) = false := decide_eq_false (by omega)
  have d3 : decide (col < 1) = false := decide_eq_false (by omega)
  have d4 : decide (c < col) = false := decide_eq_false (by omega)
  have HS := Lib.hid (fun w1 => shaped_yes r c A n cap hG w1)
  have HZ := Lib.hid (hz.on (below2 w (.cells #[.int .i64 r, .int .i64 c, .slice A n cap] 33) (.cells #[.int .i64 0, .int .i64 0, .string ⟨#[]⟩] 23)))
  have HV := Lib.hid hv
  have hn9 := hz.2.1
  obtain ⟨vk, vn, vt⟩ := v
  clear hG hz hv
  have ht0 := (CellsAt.new w [.int .i64 r, .int .i64 c, .slice A n cap] 33).on_alloc (.cells #[.int .i64 0, .int .i64 0, .string ⟨#[]⟩] 23)
  have hx0 := newAt (w0 := w.alloc (.cells #[.int .i64 r, .int .i64 c, .slice A n cap] 33)) (g := w.heap.size + 1) (by simp) [.int .i64 0, .int .i64 0, .string ⟨#[]⟩] 23
  have hb0 := below2 w (.cells #[.int .i64 r, .int .i64 c, .slice A n cap] 33) (.cells #[.int .i64 0, .int .i64 0, .string ⟨#[]⟩] 23)
  go_enter Tryz.func98, Tryz.ntmps98
  go_wp2_with fail
  generalize (w.alloc (.cells #[.int .i64 r, .int .i64 c, .slice A n cap] 33)).alloc (.cells #[.int .i64 0, .int .i64 0, .string ⟨#[]⟩] 23) = W at *
  refine (HS.out _).mono ?_
  rintro e w1 ⟨rfl, hb1⟩
  replace ht0 := ht0.on hb1
  replace hx0 := hx0.on hb1
  replace hb0 := on hb0 hb1
  clear HS
  obtain ⟨t0, t1, t2, _⟩ := ht0.three
  obtain ⟨p0, p1, p2, f0, f1, f2⟩ := hx0.three
  have hl := hx0.1
  obtain ⟨z0, z1, z2⟩ := three_set (u := .int .i64 vk) (v := .int .i64 vn) (r := .string vt) p0 p1 p2
  have hb5 := set3 hb0 (b := w.heap.size + 1) (by omega) (.int .i64 vk) (.int .i64 vn) (.string vt)
  obtain ⟨b, o, rfl, hb, c0, c1, c2⟩ := (HZ.out.on hb1).at HV.out
  dsimp only at c0 c1 c2
  clear hb1 ht0 hx0 hb0
  go_wp2_with fail
  exact bodyPost_ret (v := .tuple #[.agg #[.int .i64 vk, .int .i64 vn, .string vt], .bool true]) (by simp [results, Tryz.results98, go_sem, z0, z1, z2]) rfl ⟨rfl, hb5⟩
end Go.Proofs.YtebjedbppiphgaaGreatDoor.Lok
namespace Go.Proofs.YtebjedbppiphgaaGreatDoor.Lok
open Go.RowKit Kit Reg Dec Dig Val Fld
theorem infoV : (Tryz.prog.info? 23).map (fun i => (i.zero, i.size, i.bytes)) = some (some (.agg #[.int .i64 0, .int .i64 0, .string ⟨#[]⟩]), 3, 32) := by kernel_rfl
end Go.Proofs.YtebjedbppiphgaaGreatDoor.Lok
namespace Go.Proofs.YtebjedbppiphgaaGreatDoor.Lok
open Go.RowKit Kit Reg Dec Dig Val Fld
theorem flatV_append : ∀ L M : List Vl, flatV (L ++ M) = flatV L ++ flatV M
  | [], M => rfl
  | v :: r, M => by rw [List.cons_append, flatV, flatV, flatV_append r M, List.append_assoc]
theorem own_more {B : Nat} {w : World} {v : Value} {L M : List Vl} (h : w.ownsRow B 23 3 v (L.length + M.length) (flatV L ++ flatV M)) : OwnV B v (L ++ M) w := by
  unfold OwnV
  rw [flatV_append, List.length_append]
  exact h
theorem flatV_one : ∀ (L : List Vl), ∀ u ∈ flatV L, u.oneCell' = true
  | [], u, h => by cases h
  | v :: r, u, h => by
    rw [flatV] at h
    rcases List.mem_append.1 h with h | h
    · simp only [Vl.cells, List.mem_cons, List.not_mem_nil, or_false] at h
      rcases h with rfl | rfl | rfl <;> rfl
    · exact flatV_one r u h
/-- the cells of a slice that reads as values -/
theorem flatV_parts : ∀ (L : List Vl) (q : Nat) (u : Value), (flatV L)[q]? = some u → ∃ k j v, q = k * 3 + j ∧ L[k]? = some v ∧ v.cells[j]? = some u
  | [], q, u, h => by simp [flatV] at h
  | v :: r, q, u, h => by
    rw [flatV] at h
    by_cases hq : q < 3
    · rw [List.getElem?_append_left (by show q < 3; exact hq)] at h
      exact ⟨0, q, v, by omega, rfl, h⟩
    · rw [List.getElem?_append_right (by show 3 ≤ q; omega)] at h
      obtain ⟨k, j, x, h1, h2, h3⟩ := flatV_parts r (q - 3) u h
      exact ⟨k + 1, j, x, by omega, by simpa using h2, h3⟩
theorem vals_cells {w : World} {b o n : Nat} {L : List Vl} (h : ValsR w (some ⟨b, o, none⟩) n L) : ∀ j u, (flatV L)[j]? = some u → w.cell? ((⟨b, o, none⟩ : Addr).add j) = some u := by
  intro q u hq
  obtain ⟨k, j, v, rfl, hk, hj⟩ := flatV_parts L q u hq
  obtain ⟨h1, _, _, h3⟩ := h
  have hlt := (List.getElem?_eq_some_iff.1 hk).1
  obtain ⟨b', o', e, hb, hc⟩ := h3 (by omega)
  simp only [Option.some.injEq, Addr.mk.injEq, and_true] at e
  obtain ⟨rfl, rfl⟩ := e
  have := hc k v hk j u hj
  rw [show ((⟨b, o, none⟩ : Addr).add (k * 3 + j)) = ⟨b, o + k * 3 + j, none⟩ by unfold Addr.add; split <;> simp_all [Nat.add_assoc]]
  exact this
theorem vals_addr {w : World} {A : Option Addr} {n : Nat} {L : List Vl} (h : ValsR w A n L) (hn : 1 ≤ n) : ∃ b o, A = some ⟨b, o, none⟩ := by
  obtain ⟨b, o, e, _⟩ := h.2.2.2 (by omega)
  exact ⟨b, o, e⟩
end Go.Proofs.YtebjedbppiphgaaGreatDoor.Lok
namespace Go.Proofs.YtebjedbppiphgaaGreatDoor.Cal
open Go.RowKit Kit Reg Dec Dig Val Fld
open Lok (own_more flatV_one vals_cells vals_addr infoV flatV_append)
/-- all values of tables, one behind the other -/
def allL : List Tb → List Vl
  | [] => []
  | t :: r => t.L ++ allL r
theorem allL_snoc : ∀ (T : List Tb) (t : Tb), allL (T ++ [t]) = allL T ++ t.L
  | [], t => by simp [allL]
  | u :: r, t => by rw [List.cons_append, allL, allL, allL_snoc r t, List.append_assoc]
theorem allL_at {T : List Tb} {k : Nat} {t : Tb} (h : T[k]? = some t) : allL (T.take (k + 1)) = allL (T.take k) ++ t.L := by
  rw [List.take_add_one, h, Option.toList_some, allL_snoc]
theorem allL_mem : ∀ {T : List Tb} {v : Vl}, v ∈ allL T → ∃ t ∈ T, v ∈ t.L
  | [], v, h => by cases h
  | t :: r, v, h => by
    rcases List.mem_append.1 h with h | h
    · exact ⟨t, by simp, h⟩
    · obtain ⟨u, hu, hv⟩ := allL_mem h
      exact ⟨u, by simp [hu], hv⟩
theorem allL_len : ∀ {T : List Tb}, (∀ t ∈ T, t.L.length ≤ 60) → (allL T).length ≤ T.length * 60
  | [], _ => Nat.le_refl _
  | t :: r, h => by
    have h1 := h t (by simp)
    have h2 := allL_len (T := r) fun u hu => h u (by simp [hu])
    rw [allL, List.length_append, List.length_cons]
    omega
theorem allL_take {w : World} {T : List Tb} {n : Nat} (h6 : ∀ t ∈ T, t.n ≤ 60) (hx : ∀ (k : Nat) (t : Tb), T[k]? = some t → ValsR w t.A t.n t.L) (_hl : T.length = n) (k : Nat) : (allL (T.take k)).length ≤ k * 60 ∧ ∀ v ∈ allL (T.take k), v.fits := by
  constructor
  · refine Nat.le_trans (allL_len fun t ht => ?_) (Nat.mul_le_mul_right _ (by rw [List.length_take]; exact Nat.min_le_left _ _))
    have hm := List.mem_of_mem_take ht
    obtain ⟨i, hi⟩ := List.mem_iff_getElem?.1 hm
    rw [(hx i t hi).1]
    exact h6 t hm
  · intro v hv
    obtain ⟨t, ht, hvt⟩ := allL_mem hv
    have hm := List.mem_of_mem_take ht
    obtain ⟨i, hi⟩ := List.mem_iff_getElem?.1 hm
    exact (hx i t hi).2.2.1 v hvt
/-- the kind of an argument, as a number -/
def kdF (fn : Int) (i : Nat) : Nat := (Fnm.kindF fn (i : Int)).toNat
/-- a table may be an argument -/
def AccT (fn : Int) (i : Nat) (t : Tb) : Prop := ¬ kdF fn i = 110 ∧ ¬ kdF fn i = 101 ∧ ¬ kdF fn i = 116 ∧ Lok.Good t.r t.c t.n ∧ (kdF fn i = 118 → t.n = 1)
end Go.Proofs.YtebjedbppiphgaaGreatDoor.Cal
namespace Go.Proofs.YtebjedbppiphgaaGreatDoor.Cal
open Go.RowKit Kit Reg Dec Dig Val Fld
/-- the values as they are taken -/
def takenL (kt : ByteArray) (L : List Vl) : List Vl := List.zipWith (fun c v => takeV (UInt8.toNat c) v) kt.data.toList L
/-- the first fault, or what is made of them all -/
def pickV (b : Bool) (X : List Vl) (fin : List Vl → Vl) : Vl := if b = true then (match X.find? (fun x => decide (x.k = 4)) with | some x => x | none => fin X) else fin X
noncomputable def callV (fn : Int) (kt : ByteArray) (fin : List Vl → Vl) (n : Nat) (T : List Tb) : Vl :=
  open Classical in
  if Fnm.fitsF fn (n : Int) = false then fV 2 else if ∀ (i : Nat) (t : Tb), T[i]? = some t → AccT fn i t then pickV (kt.toList != [97]) (takenL kt (allL T)) fin else fV 2
theorem first_bad (fn : Int) (T : List Tb) : ∀ k : Nat, k ≤ T.length → (∀ (i : Nat) (t : Tb), i < k → T[i]? = some t → AccT fn i t) ∨ ∃ lim, lim < k ∧ (∀ (i : Nat) (t : Tb), i < lim → T[i]? = some t → AccT fn i t) ∧ ∃ t, T[lim]? = some t ∧ ¬ AccT fn lim t
  | 0, _ => .inl fun i t hi => by omega
  | k + 1, hk => by
    rcases first_bad fn T k (by omega) with h | ⟨lim, hl, h1, h2⟩
    · have ht : T[k]? = some (T[k]'(by omega)) := List.getElem?_eq_getElem (by omega)
      rcases Classical.em (AccT fn k (T[k]'(by omega))) with ha | ha
      · refine .inl fun i t hi hx => ?_
        by_cases e : i = k
        · subst e
          rw [ht] at hx
          rw [← Option.some.inj hx]
          exact ha
        · exact h i t (by omega) hx
      · exact .inr ⟨k, by omega, h, _, ht, ha⟩
    · exact .inr ⟨lim, by omega, h1, h2⟩
theorem allL_ones : ∀ {T : List Tb}, (∀ t ∈ T, t.L.length = 1) → (allL T).length = T.length
  | [], _ => rfl
  | t :: r, h => by
    have h1 := h t (by simp)
    have h2 := allL_ones (T := r) fun u hu => h u (by simp [hu])
    rw [allL, List.length_append, List.length_cons]
    omega
end Go.Proofs.YtebjedbppiphgaaGreatDoor.Cal

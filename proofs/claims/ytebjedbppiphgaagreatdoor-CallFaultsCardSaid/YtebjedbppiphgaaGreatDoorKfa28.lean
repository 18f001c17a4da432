/- What the reference's Less answers, and what a byte of a text is.
   What package crit's fits and Like answer: for every pattern and every text of at most a thousand bytes.
   Whether a table may be: package look's shaped and May, the reference's Right and May, at every table of at most 1200 values. Written by wip/gen18a.py.
   What stands at a place of a table: package look's At, the reference's In and At. Written by wip/gen18b.py.
   The values of a column and of a row: package look's column and line, as rows of one's own. Written by wip/gen18e.py.
   DERIVED: THE SHELF's CONTRACTS AT THIS DUMP, IN PLAIN WORDS (tools/lay-plain.mjs out of 'TryzGrow.lean', which tools/lay-shelf.mjs wrote): THE SAME DECLARATIONS UNDER THE SAME NAMES: 'import', 'namespace', 'open', 'def', 'theorem' AND NOTHING ELSE: no command of the shelf's: FOR A HAND-IN. Each laying: the table of numbers ('.._ren') and one theorem, a field a fact of the dump's own or the kernel's comparison; each contract: ONE APPLICATION.
   Two lists of values, one behind the other: slices.Concat at two slices of values.
   What the reference's Call answers, where a function is of lists or tables, is none, or its arguments do not fit. Written by wip/gen20i.py.
   What the reference's Call answers where a function's values are taken one by one: as a value, at any tables. -/
import Derived.Test.YtebjedbppiphgaaGreatDoorKfa27
import Derived.BigQuiet
import Derived.Lib.IndexBytes
import Derived.Test.YtebjedbppiphgaaGreatDoorKfa03
import Derived.Test.YtebjedbppiphgaaGreatDoorKfa09
import Derived.Test.YtebjedbppiphgaaGreatDoorKfa14
import Derived.Test.YtebjedbppiphgaaGreatDoorKfa25
import Derived.Test.YtebjedbppiphgaaGreatDoorKfa22
import Derived.Shelf.Spec.SlicesGrow
import Derived.Test.YtebjedbppiphgaaGreatDoorProg
import Derived.Test.YtebjedbppiphgaaGreatDoorKfa24
import Derived.OneCell
namespace Go.Proofs.YtebjedbppiphgaaGreatDoor.Fnm
open Go.RowKit Kit Reg
theorem len (t : ByteArray) : t.data.toList.length = t.size := (Lib.size_eq t).symm
theorem bytes_eq {a b : ByteArray} (h : a.data.toList = b.data.toList) : a = b := ByteArray.ext (Array.toList_inj.1 h)
theorem lt_at {α : Type} {l : List α} {k : Nat} {x : α} (h : l[k]? = some x) : k < l.length := (List.getElem?_eq_some_iff.1 h).1
theorem like_at (p : ByteArray) (k : Nat) (x : UInt8) (h : p.data.toList[k]? = some x) : ∃ hk : k < p.size, p[k] = x := by
  have h1 := lt_at h
  rw [len] at h1
  refine ⟨h1, ?_⟩
  have h2 := Lib.data_getElem? p k h1
  rw [h] at h2
  exact (Option.some.inj h2).symm
theorem drop_at {α : Type} {l : List α} {k : Nat} {x : α} (h : l[k]? = some x) : l.drop k = x :: l.drop (k + 1) := by
  obtain ⟨hk, rfl⟩ := List.getElem?_eq_some_iff.1 h
  rw [List.drop_eq_getElem_cons hk]
end Go.Proofs.YtebjedbppiphgaaGreatDoor.Fnm
namespace Go.Proofs.YtebjedbppiphgaaGreatDoor.Crt
open Go.RowKit Kit Reg Dec Dig
theorem byte_eq {c : UInt8} {n : Nat} (hn : n < 256) : (c.toNat : Int) = n ↔ c = UInt8.ofNat n := by
  have h1 : (UInt8.ofNat n).toNat = n := by rw [UInt8.toNat_ofNat']; omega
  constructor
  · intro h; exact UInt8.toNat_inj.1 (by omega)
  · rintro rfl; omega
set_option maxRecDepth 100000 in
set_option maxHeartbeats 1000000 in
theorem fits_c (c b : UInt8) (r : Bool) (h : hitB c b = r) (w : World) : Calls Tryz.prog 360 #[.int .u8 (c.toNat : Int), .int .u8 (b.toNat : Int)] w fun e w' => e = .returned (.bool r) ∧ w = w' := by
  by_cases h1 : c = 63
  · subst h1
    obtain rfl : r = true := by rw [← h]; simp [hitB]
    have q1 : (((63 : UInt8).toNat : Int) == 63) = true := rfl
    clear h
    go_enter Tryz.func360, Tryz.ntmps360
    go_wp2
    go_ret
    exact ⟨rfl, rfl⟩
  · have q1 : ((c.toNat : Int) == 63) = false := by
      rw [beq_eq_false_iff_ne]
      intro e
      exact h1 ((byte_eq (n := 63) (by omega)).1 e)
    have q2 : (c.toNat == b.toNat) = r := by
      rw [← h, Bool.eq_iff_iff]
      simp [hitB, h1, UInt8.toNat_inj]
    have q3 : ((c.toNat : Int) == (b.toNat : Int)) = r := by
      rw [← q2, Bool.eq_iff_iff, beq_iff_eq, beq_iff_eq]
      constructor <;> intro e <;> omega
    clear h
    go_enter Tryz.func360, Tryz.ntmps360
    go_wp2
    go_ret
    exact ⟨by first | rfl | rw [q3] | rw [q2] | simp [q3], rfl⟩
theorem like_at (p : ByteArray) (k : Nat) (x : UInt8) (h : p.data.toList[k]? = some x) : ∃ hk : k < p.size, p[k] = x := by
  have h1 := lt_at h
  rw [len] at h1
  refine ⟨h1, ?_⟩
  have h2 := Lib.data_getElem? p k h1
  rw [h] at h2
  exact (Option.some.inj h2).symm
end Go.Proofs.YtebjedbppiphgaaGreatDoor.Crt
namespace Go.Proofs.YtebjedbppiphgaaGreatDoor.Lok
open Go.RowKit Kit Reg Dec Dig Val Fld
set_option maxRecDepth 100000 in
set_option maxHeartbeats 2000000 in
theorem shaped_r (r c : Int) (A : Option Addr) (n cap : Nat) (h1 : r < 1) (w : World) :
    Calls Tryz.prog 200 #[.agg #[.int .i64 r, .int .i64 c, .slice A n cap]] w (Bit false w) := by
  have d1 : decide (r < 1) = true := decide_eq_true (by omega)
  go_enter Tryz.func200, Tryz.ntmps200
  go_wp2
  go_ret
  exact ⟨rfl, below1 _ _⟩
set_option maxRecDepth 100000 in
set_option maxHeartbeats 2000000 in
theorem shaped_c (r c : Int) (A : Option Addr) (n cap : Nat) (h1 : 1 ≤ r) (h2 : c < 1) (w : World) :
    Calls Tryz.prog 200 #[.agg #[.int .i64 r, .int .i64 c, .slice A n cap]] w (Bit false w) := by
  have d1 : decide (r < 1) = false := decide_eq_false (by omega)
  have d2 : decide (c < 1) = true := decide_eq_true (by omega)
  go_enter Tryz.func200, Tryz.ntmps200
  go_wp2
  go_ret
  exact ⟨rfl, below1 _ _⟩
set_option maxRecDepth 100000 in
set_option maxHeartbeats 2000000 in
theorem shaped_n (r c : Int) (A : Option Addr) (n cap : Nat) (h1 : 1 ≤ r) (h2 : 1 ≤ c) (h3 : 1000 < n) (w : World) :
    Calls Tryz.prog 200 #[.agg #[.int .i64 r, .int .i64 c, .slice A n cap]] w (Bit false w) := by
  have d1 : decide (r < 1) = false := decide_eq_false (by omega)
  have d2 : decide (c < 1) = false := decide_eq_false (by omega)
  have d3 : decide ((1000 : Int) < (n : Int)) = true := decide_eq_true (by omega)
  have d4 : decide (1000 < n) = true := decide_eq_true (by omega)
  go_enter Tryz.func200, Tryz.ntmps200
  go_wp2
  go_ret
  exact ⟨rfl, below1 _ _⟩
set_option maxRecDepth 100000 in
set_option maxHeartbeats 2000000 in
theorem shaped_m (r c : Int) (A : Option Addr) (n cap : Nat) (h1 : 1 ≤ r) (h2 : 1 ≤ c) (h3 : n ≤ 1000) (m : Int) (hm : (n : Int).tmod c = m) (hm0 : ¬ m = 0) (w : World) :
    Calls Tryz.prog 200 #[.agg #[.int .i64 r, .int .i64 c, .slice A n cap]] w (Bit false w) := by
  have d1 : decide (r < 1) = false := decide_eq_false (by omega)
  have d2 : decide (c < 1) = false := decide_eq_false (by omega)
  have d3 : decide ((1000 : Int) < (n : Int)) = false := decide_eq_false (by omega)
  have d4 : decide (1000 < n) = false := decide_eq_false (by omega)
  have q0 : (c == 0) = false := by rw [beq_eq_false_iff_ne]; omega
  have q1 : ¬ c = 0 := by omega
  have q2 : (m == 0) = false := by rw [beq_eq_false_iff_ne]; exact hm0
  go_enter Tryz.func200, Tryz.ntmps200
  go_wp2_with fail
  go_quiet (fail)
  go_wp2
  go_ret
  exact ⟨rfl, on (below1 _ _) (drew_below rfl)⟩
set_option maxRecDepth 100000 in
set_option maxHeartbeats 2000000 in
theorem shaped_q (r c : Int) (A : Option Addr) (n cap : Nat) (h1 : 1 ≤ r) (h2 : 1 ≤ c) (h3 : n ≤ 1000) (hm : (n : Int).tmod c = 0) (q : Int) (hq : (n : Int).tdiv c = q) (hqr : ¬ q = r) (w : World) :
    Calls Tryz.prog 200 #[.agg #[.int .i64 r, .int .i64 c, .slice A n cap]] w (Bit false w) := by
  have d1 : decide (r < 1) = false := decide_eq_false (by omega)
  have d2 : decide (c < 1) = false := decide_eq_false (by omega)
  have d3 : decide ((1000 : Int) < (n : Int)) = false := decide_eq_false (by omega)
  have d4 : decide (1000 < n) = false := decide_eq_false (by omega)
  have q0 : (c == 0) = false := by rw [beq_eq_false_iff_ne]; omega
  have q1 : ¬ c = 0 := by omega
  have q3 : 0 ≤ q := hq ▸ Int.tdiv_nonneg (by omega) (by omega)
  have q4 : q ≤ 1000 := hq ▸ Int.le_trans (Int.tdiv_le_self _ (by omega)) (by omega)
  have q2 : (q == r) = false := by rw [beq_eq_false_iff_ne]; exact hqr
  go_enter Tryz.func200, Tryz.ntmps200
  go_wp2_with fail
  go_quiet (fail)
  go_wp2
  go_ret
  exact ⟨rfl, on (below1 _ _) (drew_below rfl)⟩
set_option maxRecDepth 100000 in
set_option maxHeartbeats 2000000 in
theorem shaped_y (r c : Int) (A : Option Addr) (n cap : Nat) (h1 : 1 ≤ r) (h2 : 1 ≤ c) (h3 : n ≤ 1000) (hm : (n : Int).tmod c = 0) (hq : (n : Int).tdiv c = r) (w : World) :
    Calls Tryz.prog 200 #[.agg #[.int .i64 r, .int .i64 c, .slice A n cap]] w (Bit true w) := by
  have d1 : decide (r < 1) = false := decide_eq_false (by omega)
  have d2 : decide (c < 1) = false := decide_eq_false (by omega)
  have d3 : decide ((1000 : Int) < (n : Int)) = false := decide_eq_false (by omega)
  have d4 : decide (1000 < n) = false := decide_eq_false (by omega)
  have q0 : (c == 0) = false := by rw [beq_eq_false_iff_ne]; omega
  have q1 : ¬ c = 0 := by omega
  have q4 : r ≤ 1000 := hq ▸ Int.le_trans (Int.tdiv_le_self _ (by omega)) (by omega)
  go_enter Tryz.func200, Tryz.ntmps200
  go_wp2_with fail
  go_quiet (fail)
  go_wp2
  go_ret
  exact ⟨rfl, on (below1 _ _) (drew_below rfl)⟩
theorem shaped_no (r c : Int) (A : Option Addr) (n cap : Nat) (h : ¬ Good r c n) (w : World) :
    Calls Tryz.prog 200 #[.agg #[.int .i64 r, .int .i64 c, .slice A n cap]] w (Bit false w) := by
  rcases bad_ways h with h1 | ⟨h1, h2⟩ | ⟨h1, h2, h3⟩ | ⟨h1, h2, h3, h4⟩ | ⟨h1, h2, h3, h4, h5⟩
  · exact shaped_r r c A n cap h1 w
  · exact shaped_c r c A n cap h1 h2 w
  · exact shaped_n r c A n cap h1 h2 h3 w
  · exact shaped_m r c A n cap h1 h2 h3 _ rfl h4 w
  · exact shaped_q r c A n cap h1 h2 h3 h4 _ rfl h5 w
theorem shaped_yes (r c : Int) (A : Option Addr) (n cap : Nat) (h : Good r c n) (w : World) :
    Calls Tryz.prog 200 #[.agg #[.int .i64 r, .int .i64 c, .slice A n cap]] w (Bit true w) := by
  obtain ⟨R, C, rfl, rfl, h1, h2, h3, h4, _, _⟩ := h.nat
  exact shaped_y R C A n cap (by omega) (by omega) h3 (good_div h2 h4).1 (good_div h2 h4).2 w
end Go.Proofs.YtebjedbppiphgaaGreatDoor.Lok
namespace Go.Proofs.YtebjedbppiphgaaGreatDoor.Lok
open Go.RowKit Kit Reg Dec Dig Val Fld
theorem newAt {w0 : World} {g : Nat} (hg : w0.heap.size = g) (cs : List Value) (ty : TypeId) : CellsAt (w0.alloc (.cells cs.toArray ty)) g cs := hg ▸ CellsAt.new w0 cs ty
/-- a value that stands there, and true; or the empty one and false -/
def AtIs (v : Vl) (ok : Bool) (w : World) : Ending → World → Prop := fun e w' => e = .returned (.tuple #[.agg #[.int .i64 v.k, .int .i64 v.n, .string v.t], .bool ok]) ∧ Below w.heap.size w w'
def Inn (r c row col : Int) : Prop := 1 ≤ row ∧ row ≤ r ∧ 1 ≤ col ∧ col ≤ c
/-- the numbers that lead to a place -/
structure Way (r c row col : Int) (n i m s k : Nat) : Prop where
  inn : Inn r c row col
  ei : row - 1 = i
  em : (i : Int) * c = m
  es : (m : Int) + col = s
  ek : (s : Int) - 1 = k
  bound : r ≤ 1000 ∧ m ≤ 1000 ∧ s ≤ 1000 ∧ k < n
theorem Way.of {r c row col : Int} {n : Nat} (h : Good r c n) (hi : Inn r c row col) : ∃ i m s k, Way r c row col n i m s k := by
  obtain ⟨R, C, rfl, rfl, h1, h2, h3, h4, h5, h6⟩ := h.nat
  obtain ⟨i, hi1⟩ := Int.eq_ofNat_of_zero_le (show 0 ≤ row - 1 by have := hi.1; omega)
  obtain ⟨j, hj1⟩ := Int.eq_ofNat_of_zero_le (show 0 ≤ col - 1 by have := hi.2.2.1; omega)
  have hij := place_lt h4 (i := i) (j := j) (by have := hi.2.1; omega) (by have := hi.2.2.2; omega)
  exact ⟨i, i * C, i * C + j + 1, i * C + j, hi, hi1, by rw [Int.natCast_mul], by omega, by omega, by omega, by omega, by omega, hij⟩
theorem Way.at {R C n i j : Nat} {row col : Int} (h1 : 1 ≤ R) (h2 : 1 ≤ C) (h3 : n ≤ 1000) (h4 : R * C = n) (hi : i < R) (hj : j < C) (hr : row = (i : Int) + 1) (hc : col = (j : Int) + 1) : Way R C row col n i (i * C) (i * C + j + 1) (i * C + j) := by
  have hij := place_lt h4 hi hj
  obtain ⟨R', C', e1, e2, _, _, _, _, h5, _⟩ := (good_of h1 h2 h3 h4).nat
  exact ⟨⟨by omega, by omega, by omega, by omega⟩, by omega, by rw [Int.natCast_mul], by omega, by omega, by omega, by omega, by omega, hij⟩

set_option maxRecDepth 100000 in
set_option maxHeartbeats 2000000 in
theorem at_yes (r c row col : Int) (A : Option Addr) (n cap : Nat) (L : List Vl) (hG : Good r c n) (i m s k : Nat) (hw : Way r c row col n i m s k) (v : Vl) (hv : L[k]? = some v) (w : World) (hz : ValsR w A n L) :
    Calls Tryz.prog 98 #[.agg #[.int .i64 r, .int .i64 c, .slice A n cap], .int .i64 row, .int .i64 col] w (AtIs v true w) := by
  obtain ⟨⟨h1, h2, h3, h4⟩, ei, em, es, ek, b1, b2, b3, b4⟩ := hw
  have d1 : decide (row < 1) = false := decide_eq_false (by omega)
  have d2 : decide (r < row) = false := decide_eq_false (by omega)
  have d3 : decide (col < 1) = false := decide_eq_false (by omega)
  have d4 : decide (c < col) = false := decide_eq_false (by omega)
  have HS := Lib.hid (fun w1 => shaped_yes r c A n cap hG w1)
  have HZ := Lib.hid (hz.on (below2 w (.cells #[.int .i64 r, .int .i64 c, .slice A n cap] 33) (.cells #[.int .i64 0, .int .i64 0, .string ⟨#[]⟩] 23)))
  have HV := Lib.hid hv
  have hn9 := hz.2.1
  obtain ⟨vk, vn, vt⟩ := v
  clear hG hz hv
  have ht0 := (CellsAt.new w [.int .i64 r, .int .i64 c, .slice A n cap] 33).on_alloc (.cells #[.int .i64 0, .int .i64 0, .string ⟨#[]⟩] 23)
  have hx0 := newAt (w0 := w.alloc (.cells #[.int .i64 r, .int .i64 c, .slice A n cap] 33)) (g := w.heap.size + 1) (by simp) [.int .i64 0, .int .i64 0, .string ⟨#[]⟩] 23
  have hb0 := below2 w (.cells #[.int .i64 r, .int .i64 c, .slice A n cap] 33) (.cells #[.int .i64 0, .int .i64 0, .string ⟨#[]⟩] 23)
  go_enter Tryz.func98, Tryz.ntmps98
  go_wp2_with fail
  generalize (w.alloc (.cells #[.int .i64 r, .int .i64 c, .slice A n cap] 33)).alloc (.cells #[.int .i64 0, .int .i64 0, .string ⟨#[]⟩] 23) = W at *
  refine (HS.out _).mono ?_
  rintro e w1 ⟨rfl, hb1⟩
  replace ht0 := ht0.on hb1
  replace hx0 := hx0.on hb1
  replace hb0 := on hb0 hb1
  clear HS
  obtain ⟨t0, t1, t2, _⟩ := ht0.three
  obtain ⟨p0, p1, p2, f0, f1, f2⟩ := hx0.three
  have hl := hx0.1
  obtain ⟨z0, z1, z2⟩ := three_set (u := .int .i64 vk) (v := .int .i64 vn) (r := .string vt) p0 p1 p2
  have hb5 := set3 hb0 (b := w.heap.size + 1) (by omega) (.int .i64 vk) (.int .i64 vn) (.string vt)
  obtain ⟨b, o, rfl, hb, c0, c1, c2⟩ := (HZ.out.on hb1).at HV.out
  dsimp only at c0 c1 c2
  clear hb1 ht0 hx0 hb0
  go_wp2_with fail
  exact bodyPost_ret (v := .tuple #[.agg #[.int .i64 vk, .int .i64 vn, .string vt], .bool true]) (by simp [results, Tryz.results98, go_sem, z0, z1, z2]) rfl ⟨rfl, hb5⟩
end Go.Proofs.YtebjedbppiphgaaGreatDoor.Lok
namespace Go.Proofs.YtebjedbppiphgaaGreatDoor.Lok
open Go.RowKit Kit Reg Dec Dig Val Fld
theorem infoV : (Tryz.prog.info? 23).map (fun i => (i.zero, i.size, i.bytes)) = some (some (.agg #[.int .i64 0, .int .i64 0, .string ⟨#[]⟩]), 3, 32) := by kernel_rfl
/-- a row of one's own, of such values -/
def RowIs (K : List Vl) (m : Nat) (w : World) : Ending → World → Prop := fun e w' => ∃ A2 c2, e = .returned (.slice A2 m c2) ∧ ValsR w' A2 m K ∧ Below w.heap.size w w'
end Go.Proofs.YtebjedbppiphgaaGreatDoor.Lok
namespace Go.Proofs
open Go.Shelf
def Tryz.growV_ren : Go.Shelf.Ren := ⟨fun | 4 => 296 | n => n, fun | 22 => 31 | 25 => 23 | 3 => 3 | 4 => 4 | 9 => 9 | 20 => 20 | 0 => 0 | n => n, fun | n => n⟩
theorem Tryz.growV : Go.Proofs.Lays8.n4 Tryz.prog Tryz.growV_ren := {
  mixed := by kernel_rfl
  f4 := ⟨Tryz.f296.name, by decide, Tryz.func296.trans (congrArg some (by kernel_rfl))⟩
  t0 := Tryz.underlying0
  a0 := Tryz.isAgg0
  z0 := Tryz.sizeOf0
  v0 := Tryz.zeroValue0
  t3 := Tryz.underlying3
  a3 := Tryz.isAgg3
  z3 := Tryz.sizeOf3
  v3 := Tryz.zeroValue3
  t4 := Tryz.underlying4
  a4 := Tryz.isAgg4
  z4 := Tryz.sizeOf4
  v4 := Tryz.zeroValue4
  t9 := Tryz.underlying9
  a9 := Tryz.isAgg9
  z9 := Tryz.sizeOf9
  v9 := Tryz.zeroValue9
  t20 := Tryz.underlying20
  a20 := Tryz.isAgg20
  z20 := Tryz.sizeOf20
  v20 := Tryz.zeroValue20
  t22 := Tryz.underlying31
  a22 := Tryz.isAgg31
  z22 := Tryz.sizeOf31
  v22 := Tryz.zeroValue31 }
end Go.Proofs
namespace Go.Proofs.YtebjedbppiphgaaGreatDoor.Lok
open Go.RowKit Kit Reg Dec Dig Val Fld
theorem last_new (w : World) (o : Obj) : (w.alloc o).heap[w.heap.size]? = some o := by
  show (w.heap.push o)[w.heap.size]? = some o
  simp
theorem own_empty {B cap : Nat} {cur : Array Value} (w : World) (hB : B ≤ w.heap.size) (hc : cap ≤ maxLen) (hs : cur.size = cap * 3) : OwnV B (.slice (some ⟨w.heap.size, 0, none⟩) 0 cap) [] (w.drew.alloc (.cells cur 23)) :=
  ⟨rfl, .inr ⟨w.heap.size, cap, cur, rfl, hB, last_new w.drew _, Nat.zero_le _, hc, hs, by simp [flatV]⟩⟩
theorem grow_c (m : Nat) (h1 : 1 ≤ m) (h9 : m ≤ 1000) (B : Nat) (w : World) (hB : B ≤ w.heap.size) :
    Calls Tryz.prog 296 #[.slice none 0 0, .int .i64 m] w fun e w' => ∃ v, e = .returned v ∧ OwnV B v [] w' ∧ Below w.heap.size w w' := by
  obtain ⟨i0, hi, hz0, hz1, hz2⟩ := info_parts infoV
  refine (Any8.slices_Grow_grow Tryz.growV i0 _ hi hz0 (by rw [hz1]; decide) none 0 0 m [] w (Nat.le_refl _) (by omega) (by rw [hz2]; omega) (by omega) (by simp) (fun _ => rfl) (fun a h => by cases h)).mono ?_
  rintro e w' ⟨rfl, rfl⟩
  refine ⟨_, rfl, own_empty w hB ?_ ?_, on_alloc (drewB w) _⟩
  · exact grownCap_le_maxLen _ _ _ _ (by unfold maxLen; omega)
  · have h := grownCap_ge w (0 + m) 0 23
    have hz : (Value.agg #[Value.int IntKind.i64 0, Value.int IntKind.i64 0, Value.string ⟨#[]⟩]).cells.size = 3 := rfl
    have hs : (([] : List Value).toArray).size = 0 := rfl
    have ht : Tryz.growV_ren.t 25 = 23 := rfl
    rw [Array.size_append, Array.size_append, size_zeroCells, size_zeroCells, hz, hs, ht]
    generalize grownCap w (0 + m) 0 23 = q at *
    omega
theorem flatV_append : ∀ L M : List Vl, flatV (L ++ M) = flatV L ++ flatV M
  | [], M => rfl
  | v :: r, M => by rw [List.cons_append, flatV, flatV, flatV_append r M, List.append_assoc]
theorem own_more {B : Nat} {w : World} {v : Value} {L M : List Vl} (h : w.ownsRow B 23 3 v (L.length + M.length) (flatV L ++ flatV M)) : OwnV B v (L ++ M) w := by
  unfold OwnV
  rw [flatV_append, List.length_append]
  exact h
theorem flatV_one : ∀ (L : List Vl), ∀ u ∈ flatV L, u.oneCell' = true
  | [], u, h => by cases h
  | v :: r, u, h => by
    rw [flatV] at h
    rcases List.mem_append.1 h with h | h
    · simp only [Vl.cells, List.mem_cons, List.not_mem_nil, or_false] at h
      rcases h with rfl | rfl | rfl <;> rfl
    · exact flatV_one r u h
/-- the cells of a slice that reads as values -/
theorem flatV_parts : ∀ (L : List Vl) (q : Nat) (u : Value), (flatV L)[q]? = some u → ∃ k j v, q = k * 3 + j ∧ L[k]? = some v ∧ v.cells[j]? = some u
  | [], q, u, h => by simp [flatV] at h
  | v :: r, q, u, h => by
    rw [flatV] at h
    by_cases hq : q < 3
    · rw [List.getElem?_append_left (by show q < 3; exact hq)] at h
      exact ⟨0, q, v, by omega, rfl, h⟩
    · rw [List.getElem?_append_right (by show 3 ≤ q; omega)] at h
      obtain ⟨k, j, x, h1, h2, h3⟩ := flatV_parts r (q - 3) u h
      exact ⟨k + 1, j, x, by omega, by simpa using h2, h3⟩
theorem vals_cells {w : World} {b o n : Nat} {L : List Vl} (h : ValsR w (some ⟨b, o, none⟩) n L) : ∀ j u, (flatV L)[j]? = some u → w.cell? ((⟨b, o, none⟩ : Addr).add j) = some u := by
  intro q u hq
  obtain ⟨k, j, v, rfl, hk, hj⟩ := flatV_parts L q u hq
  obtain ⟨h1, _, _, h3⟩ := h
  have hlt := (List.getElem?_eq_some_iff.1 hk).1
  obtain ⟨b', o', e, hb, hc⟩ := h3 (by omega)
  simp only [Option.some.injEq, Addr.mk.injEq, and_true] at e
  obtain ⟨rfl, rfl⟩ := e
  have := hc k v hk j u hj
  rw [show ((⟨b, o, none⟩ : Addr).add (k * 3 + j)) = ⟨b, o + k * 3 + j, none⟩ by unfold Addr.add; split <;> simp_all [Nat.add_assoc]]
  exact this
theorem vals_addr {w : World} {A : Option Addr} {n : Nat} {L : List Vl} (h : ValsR w A n L) (hn : 1 ≤ n) : ∃ b o, A = some ⟨b, o, none⟩ := by
  obtain ⟨b, o, e, _⟩ := h.2.2.2 (by omega)
  exact ⟨b, o, e⟩
set_option maxRecDepth 100000 in
set_option maxHeartbeats 4000000 in
theorem concat_c (g : Nat) (A1 A2 : Option Addr) (n1 d1 n2 d2 : Nat) (L1 L2 : List Vl) (h1 : 1 ≤ n1) (h2 : 1 ≤ n2) (h9 : n1 + n2 ≤ 1000) (w : World) (hc0 : w.cell? ⟨g, 0, none⟩ = some (.slice A1 n1 d1)) (hc1 : w.cell? ⟨g, 1, none⟩ = some (.slice A2 n2 d2))
    (hz1 : ValsR w A1 n1 L1) (hz2 : ValsR w A2 n2 L2) : Calls Tryz.prog 236 #[.slice (some ⟨g, 0, none⟩) 2 2] w (RowIs (L1 ++ L2) (n1 + n2) w) := by
  obtain ⟨i0, hi, hi0, hi1, hi2⟩ := info_parts infoV
  have HG := Lib.hid (fun w1 hB => grow_c (n1 + n2) (by omega) h9 w.heap.size w1 hB)
  obtain ⟨b1, o1, rfl⟩ := vals_addr hz1 h1
  obtain ⟨b2, o2, rfl⟩ := vals_addr hz2 h2
  have H1 := Lib.hid hz1
  have H2 := Lib.hid hz2
  have e1 : decide ((n1 : Int) < 0) = false := decide_eq_false (by omega)
  have e2 : decide ((n1 : Int) + (n2 : Int) < 0) = false := decide_eq_false (by omega)
  have C0 := Lib.hid hc0
  have C1 := Lib.hid hc1
  have hg := block_lt_of_cell hc0
  have HL1 := Lib.hid hz1.1
  have HL2 := Lib.hid hz2.1
  have HF := Lib.hid (show ∀ x ∈ L1 ++ L2, x.fits from fun x hx => (List.mem_append.1 hx).elim (hz1.2.2.1 x) (hz2.2.2.1 x))
  dsimp only at hg
  clear hz1 hz2
  go_enter Tryz.func236, Tryz.ntmps236
  go_wp2
  go_loopw [3, 11] (fun s i wr => ∃ k m : Nat, ((k = 0 ∧ m = 0) ∨ (k = 1 ∧ m = n1) ∨ (k = 2 ∧ m = n1 + n2)) ∧ s = .int .i64 m ∧ i = .int .i64 k ∧ w = wr) (fun _ i _ => 2 - (intOf i).toNat)
  case atStart => exact ⟨0, 0, .inl ⟨rfl, rfl⟩, rfl, rfl, rfl⟩
  case round =>
    obtain ⟨k, m, hkm, rfl, rfl, rfl⟩ := hrel
    rcases hkm with ⟨rfl, rfl⟩ | ⟨rfl, rfl⟩ | ⟨rfl, rfl⟩
    · clear HG H1 H2
      go_wp2
      go_roundw
      case rel => exact ⟨1, n1, .inr (.inl ⟨rfl, rfl⟩), by go_num, by go_num, by first | rfl | trivial⟩
      case measure => simp [intOf]
    · clear HG H1 H2
      go_wp2
      go_roundw
      case rel => exact ⟨2, m + n2, .inr (.inr ⟨rfl, rfl⟩), by go_num, by go_num, by first | rfl | trivial⟩
      case measure => simp [intOf]
    · clear e1 e2
      go_wp2_with fail
      have hcast : (n1 : Int) + (n2 : Int) = ((n1 + n2 : Nat) : Int) := by omega
      refine (HG.out _ (Nat.le_refl _)).mono ?_
      rintro e w1 ⟨v0, rfl, hrow, hb1⟩
      clear HG hcast
      replace C0 := Lib.hid (kept hb1 C0.out)
      replace C1 := Lib.hid (kept hb1 C1.out)
      go_wp2_with fail
      go_loopw [6, 27] (fun s i wr => ∃ (k : Nat) (M : List Vl), ((k = 0 ∧ M = []) ∨ (k = 1 ∧ M = L1) ∨ (k = 2 ∧ M = L1 ++ L2)) ∧ OwnV w.heap.size s M wr ∧ i = .int .i64 k ∧ Below w.heap.size w wr) (fun _ i _ => 2 - (intOf i).toNat)
      case atStart => exact ⟨0, [], .inl ⟨rfl, rfl⟩, hrow, rfl, hb1⟩
      case round =>
        clear hrow
        obtain ⟨k, M, hkm, hrow, rfl, hb0⟩ := hrel
        have hs0 := hb0.size
        have x0 := kept hb0 hc0
        have x1 := kept hb0 hc1
        rcases hkm with ⟨rfl, rfl⟩ | ⟨rfl, rfl⟩ | ⟨rfl, rfl⟩
        · have hcells := vals_cells (H1.out.on hb0)
          have hlen : (flatV L1).length = n1 * 3 := by rw [flatV_length, HL1.out]
          unfold OwnV at hrow
          go_wp2_with (at_builtin; refine wpList_append_own _ rfl _ _ 31 rfl w.heap.size 23 i0 _ 3 32 Tryz.underlying31 hi hi0 hi1 hi2 rfl (by decide) _ _ _ rfl hrow ⟨b1, o1, none⟩ n1 d1 (flatV L1) rfl hlen hcells (flatV_one L1) (by unfold maxLen; simp; omega) (by simp; omega) hs0 ?_)
          intro v1 w3 hown1 hg1 _
          have hb3 : Below w.heap.size w w3 := hb0.grown hg1 hs0 (fun b e => (World.ownsRow.lt hrow b e).1)
          have hrow1 : OwnV w.heap.size v1 L1 w3 := by
            have h := own_more (L := []) (M := L1) (by rw [HL1.out]; show w3.ownsRow _ _ 3 v1 (0 + n1) _; rw [Nat.zero_add]; exact hown1)
            simpa using h
          clear hown1 hg1 hrow hb0 hcells hlen
          go_wp2
          go_roundw
          case rel => exact ⟨1, L1, .inr (.inl ⟨rfl, rfl⟩), hrow1, by go_num, hb3⟩
          case measure => simp [intOf]
        · have hcells := vals_cells (H2.out.on hb0)
          have hlen : (flatV L2).length = n2 * 3 := by rw [flatV_length, HL2.out]
          have hl1 := HL1.out
          unfold OwnV at hrow
          go_wp2_with (at_builtin; refine wpList_append_own _ rfl _ _ 31 rfl w.heap.size 23 i0 _ 3 32 Tryz.underlying31 hi hi0 hi1 hi2 rfl (by decide) _ _ _ rfl hrow ⟨b2, o2, none⟩ n2 d2 (flatV L2) rfl hlen hcells (flatV_one L2) (by unfold maxLen; omega) (by omega) hs0 ?_)
          intro v1 w3 hown1 hg1 _
          have hb3 : Below w.heap.size w w3 := hb0.grown hg1 hs0 (fun b e => (World.ownsRow.lt hrow b e).1)
          have hrow1 : OwnV w.heap.size v1 (M ++ L2) w3 := own_more (by rw [HL2.out]; first | exact hown1 | (rw [hl1]; exact hown1))
          clear hown1 hg1 hrow hb0 hcells hlen
          go_wp2
          go_roundw
          case rel => exact ⟨2, M ++ L2, .inr (.inr ⟨rfl, rfl⟩), hrow1, by go_num, hb3⟩
          case measure => simp [intOf]
        · obtain ⟨A3, c3, rfl, hZ⟩ := hrow.reads (n := n1 + n2) (by rw [List.length_append, HL1.out, HL2.out]) h9 HF.out
          have HZ := Lib.hid hZ
          clear hrow hZ
          go_wp2_with fail
          go_ret
          exact ⟨A3, c3, rfl, HZ.out, hb0⟩
end Go.Proofs.YtebjedbppiphgaaGreatDoor.Lok
namespace Go.Proofs.YtebjedbppiphgaaGreatDoor.Cal
open Go.RowKit Kit Reg Dec Dig Val Fld
open Lok (own_more flatV_one vals_cells vals_addr infoV flatV_append)
/-- all values of tables, one behind the other -/
def allL : List Tb → List Vl
  | [] => []
  | t :: r => t.L ++ allL r
theorem allL_snoc : ∀ (T : List Tb) (t : Tb), allL (T ++ [t]) = allL T ++ t.L
  | [], t => by simp [allL]
  | u :: r, t => by rw [List.cons_append, allL, allL, allL_snoc r t, List.append_assoc]
theorem allL_at {T : List Tb} {k : Nat} {t : Tb} (h : T[k]? = some t) : allL (T.take (k + 1)) = allL (T.take k) ++ t.L := by
  rw [List.take_add_one, h, Option.toList_some, allL_snoc]
theorem allL_mem : ∀ {T : List Tb} {v : Vl}, v ∈ allL T → ∃ t ∈ T, v ∈ t.L
  | [], v, h => by cases h
  | t :: r, v, h => by
    rcases List.mem_append.1 h with h | h
    · exact ⟨t, by simp, h⟩
    · obtain ⟨u, hu, hv⟩ := allL_mem h
      exact ⟨u, by simp [hu], hv⟩
theorem allL_len : ∀ {T : List Tb}, (∀ t ∈ T, t.L.length ≤ 60) → (allL T).length ≤ T.length * 60
  | [], _ => Nat.le_refl _
  | t :: r, h => by
    have h1 := h t (by simp)
    have h2 := allL_len (T := r) fun u hu => h u (by simp [hu])
    rw [allL, List.length_append, List.length_cons]
    omega
theorem allL_take {w : World} {T : List Tb} {n : Nat} (h6 : ∀ t ∈ T, t.n ≤ 60) (hx : ∀ (k : Nat) (t : Tb), T[k]? = some t → ValsR w t.A t.n t.L) (_hl : T.length = n) (k : Nat) : (allL (T.take k)).length ≤ k * 60 ∧ ∀ v ∈ allL (T.take k), v.fits := by
  constructor
  · refine Nat.le_trans (allL_len fun t ht => ?_) (Nat.mul_le_mul_right _ (by rw [List.length_take]; exact Nat.min_le_left _ _))
    have hm := List.mem_of_mem_take ht
    obtain ⟨i, hi⟩ := List.mem_iff_getElem?.1 hm
    rw [(hx i t hi).1]
    exact h6 t hm
  · intro v hv
    obtain ⟨t, ht, hvt⟩ := allL_mem hv
    have hm := List.mem_of_mem_take ht
    obtain ⟨i, hi⟩ := List.mem_iff_getElem?.1 hm
    exact (hx i t hi).2.2.1 v hvt
/-- the kind of an argument, as a number -/
def kdF (fn : Int) (i : Nat) : Nat := (Fnm.kindF fn (i : Int)).toNat
/-- a table may be an argument -/
def AccT (fn : Int) (i : Nat) (t : Tb) : Prop := ¬ kdF fn i = 110 ∧ ¬ kdF fn i = 101 ∧ ¬ kdF fn i = 116 ∧ Lok.Good t.r t.c t.n ∧ (kdF fn i = 118 → t.n = 1)
end Go.Proofs.YtebjedbppiphgaaGreatDoor.Cal
namespace Go.Proofs.YtebjedbppiphgaaGreatDoor.Cal
open Go.RowKit Kit Reg Dec Dig Val Fld
/-- the values as they are taken -/
def takenL (kt : ByteArray) (L : List Vl) : List Vl := List.zipWith (fun c v => takeV (UInt8.toNat c) v) kt.data.toList L
/-- the first fault, or what is made of them all -/
def pickV (b : Bool) (X : List Vl) (fin : List Vl → Vl) : Vl := if b = true then (match X.find? (fun x => decide (x.k = 4)) with | some x => x | none => fin X) else fin X
noncomputable def callV (fn : Int) (kt : ByteArray) (fin : List Vl → Vl) (n : Nat) (T : List Tb) : Vl :=
  open Classical in
  if Fnm.fitsF fn (n : Int) = false then fV 2 else if ∀ (i : Nat) (t : Tb), T[i]? = some t → AccT fn i t then pickV (kt.toList != [97]) (takenL kt (allL T)) fin else fV 2
theorem first_bad (fn : Int) (T : List Tb) : ∀ k : Nat, k ≤ T.length → (∀ (i : Nat) (t : Tb), i < k → T[i]? = some t → AccT fn i t) ∨ ∃ lim, lim < k ∧ (∀ (i : Nat) (t : Tb), i < lim → T[i]? = some t → AccT fn i t) ∧ ∃ t, T[lim]? = some t ∧ ¬ AccT fn lim t
  | 0, _ => .inl fun i t hi => by omega
  | k + 1, hk => by
    rcases first_bad fn T k (by omega) with h | ⟨lim, hl, h1, h2⟩
    · have ht : T[k]? = some (T[k]'(by omega)) := List.getElem?_eq_getElem (by omega)
      rcases Classical.em (AccT fn k (T[k]'(by omega))) with ha | ha
      · refine .inl fun i t hi hx => ?_
        by_cases e : i = k
        · subst e
          rw [ht] at hx
          rw [← Option.some.inj hx]
          exact ha
        · exact h i t (by omega) hx
      · exact .inr ⟨k, by omega, h, _, ht, ha⟩
    · exact .inr ⟨lim, by omega, h1, h2⟩
theorem allL_ones : ∀ {T : List Tb}, (∀ t ∈ T, t.L.length = 1) → (allL T).length = T.length
  | [], _ => rfl
  | t :: r, h => by
    have h1 := h t (by simp)
    have h2 := allL_ones (T := r) fun u hu => h u (by simp [hu])
    rw [allL, List.length_append, List.length_cons]
    omega
end Go.Proofs.YtebjedbppiphgaaGreatDoor.Cal
